/- The library's sort of the program's windows: a row of one's own that has the store's windows, in whatever order, has them in their row behind it. Condition: fewer than 2^62 windows. -/
import Derived.Test.YtmgmkdkdpeljmaaCmp
import Derived.Test.YtmgmkdkdpeljmaaRowG
import Derived.Sort.OwnSorted
namespace Go.Proofs.Ytmgmkdkdpeljmaa
open Go.RowKit Go.Sort

theorem flat_cells (d : Array (Win AggV)) : (flatK outV 10 d).toList = OutK.cells d.toList := by
  have hl : (OutK.cells d.toList).length = d.size * 10 := by rw [cells_length outK_law]; simp [OutK]
  apply List.ext_getElem?
  intro t
  by_cases ht : t < d.size * 10
  · have h1 : t / 10 < d.size := by omega
    have h2 : t % 10 < OutK.sz := Nat.mod_lt _ (by decide)
    have hd : d.toList[t / 10]? = some d[t / 10]! := by simp [h1]
    have e := cells_at outK_law hd h2
    have e2 : t / 10 * OutK.sz + t % 10 = t := by show t / 10 * 10 + t % 10 = t; omega
    rw [e2] at e
    rw [e]
    have h3 : t < (flatK outV 10 d).size := by rw [size_flatK]; exact ht
    have h4 := get_flatK outV 10 d t ht
    rw [getElem!_pos _ t h3] at h4
    rw [Array.getElem?_toList, Array.getElem?_eq_getElem h3, h4]
    have hlen : t % 10 < (outV d[t / 10]!).length := by rw [show (outV d[t / 10]!).length = 10 from rfl]; exact h2
    rw [getElem!_pos (outV d[t / 10]!) (t % 10) hlen]
    exact (List.getElem?_eq_getElem hlen).symm
  · rw [List.getElem?_eq_none (by simp; omega), List.getElem?_eq_none (by rw [hl]; omega)]
theorem heap_sortedK {w : World} {g n : Nat} {os : Array Obj} {cur : Array Value} {e : TypeId} {fr : Nat × Nat} (d : Array Value) (hb : w.heap[g]? = some (.cells cur e fr)) :
    (grow (putRow id (Sort.ahead w n) g 0 d) os).heap[g]? = some (.cells (putCells id 0 d cur) e fr) := by
  have hg : g < w.heap.size := (Array.getElem?_eq_some_iff.1 hb).1
  rw [heap_grow_old _ _ (by simpa using hg)]
  simp [putRow, mapBlock, Sort.ahead, Array.getElem?_modify, hb, onCells]
theorem moved_sortedK {w : World} {g n : Nat} {os : Array Obj} (d : Array Value) : Moved (fun i => i = g) w (grow (putRow id (Sort.ahead w n) g 0 d) os) := by
  refine ⟨rfl, rfl, rfl, by simp, fun k hk hne => ?_⟩
  rw [heap_grow_old _ _ (by simpa using hk)]
  have : g ≠ k := fun e => hne e.symm
  simp [putRow, mapBlock, Sort.ahead, Array.getElem?_modify, this]
theorem take_putCellsK (cur ts : Array Value) (h : ts.size ≤ cur.size) : (putCells id 0 ts cur).toList.take ts.size = ts.toList := by
  apply List.ext_getElem?
  intro j
  by_cases hj : j < ts.size
  · rw [List.getElem?_take_of_lt hj, Array.getElem?_toList]
    simp [putCells, hj, show j < cur.size by omega]
  · rw [List.getElem?_take_eq_none (by omega), List.getElem?_eq_none (by simp; omega)]
theorem holds_row {w : World} {g : Nat} {cur : Array Value} {e : TypeId} {c : List (Win AggV)} (hb : w.heap[g]? = some (.cells cur e (0, 0))) (ht : cur.toList.take (c.length * 10) = OutK.cells c) : HoldsK outV 10 w g 0 c.toArray := by
  intro j hj
  have hf : (flatK outV 10 c.toArray).toList = OutK.cells c := flat_cells _
  have hj2 : j < (flatK outV 10 c.toArray).size := hj
  have hj' : j < c.length * 10 := by rw [size_flatK] at hj2; simpa using hj2
  refine ⟨?_, by simp [World.frozen?, hb]⟩
  have h1 : (cur.toList.take (c.length * 10))[j]? = (OutK.cells c)[j]? := by rw [ht]
  rw [List.getElem?_take_of_lt hj', ← hf, Array.getElem?_toList, Array.getElem?_toList, Array.getElem?_eq_getElem hj2] at h1
  simp only [World.cell?, hb, Nat.zero_add, Option.isSome_none, Bool.false_eq_true, if_false]
  rw [h1, getElem!_pos _ j hj2]
  rfl
/-- The sort. -/
theorem sort_any {w : World} {base : Nat} {a : Option Addr} {cp : Nat} {c l : List (Win AggV)} (hR : OutK.Row w base a cp c) (hr : Rise l) (hp : c.Perm l) (hn : c.length ≤ 1000000) :
    Calls Try.prog 39 #[.slice a c.length cp, .func (.func 40) #[] #[]] w fun e w' => e = .returned (.tuple #[]) ∧ OutK.Row w' base a cp l ∧ Below base w w' := by
  rcases hR.2 with ⟨hv, h0⟩ | ⟨g, cap, cur, hv, hbase, hb, h1, h2, h3, h4⟩
  · simp only [Value.slice.injEq] at hv
    obtain ⟨rfl, hz, rfl⟩ := hv
    have hc : c = [] := List.length_eq_zero_iff.1 hz
    subst hc
    have hl : l = [] := List.Perm.nil_eq hp |>.symm
    subst hl
    have hcon := AnyF.slices_SortFunc_none (P := Try.prog) (ρ := sortOut_ren) sortOut none 0 (.func (.func 40) #[] #[]) w
    change Calls Try.prog 39 _ _ _ at hcon
    refine hcon.mono ?_
    rintro e w' ⟨rfl, rfl⟩
    exact ⟨rfl, hR, Below.refl _ _⟩
  · simp only [Value.slice.injEq] at hv
    obtain ⟨rfl, _, rfl⟩ := hv
    have h4' : cur.toList.take (c.length * 10) = OutK.cells c := h4
    have hg : g < w.heap.size := (Array.getElem?_eq_some_iff.1 hb).1
    have eg : ∀ args w, (callFunc 40 args).run Try.prog w = .ok (.enter 40 args) w := enters_of Try.func40 (by kernel_rfl) rfl
    have hcon := AnyQ.slices_SortFunc (P := Try.prog) (ρ := sortOut_ren) sortOut 10 Try.isAgg38 Try.sizeOf38 outV (fun _ => rfl) (fun x v hv => outK_law.one x v hv) cmpW ahead_swo 40 #[] g 0 cp c.toArray w eg
      (fun m os dk _ x y => cmp_any x y _) (holds_row hb h4') hg (by simp; omega)
    change Calls Try.prog 39 _ _ _ at hcon
    rw [show c.toArray.size = c.length by simp] at hcon
    refine hcon.mono ?_
    rintro e w' ⟨rfl, d', n, os, hpm, hs, hw⟩
    have hd : d'.toList = l := sorted_rise hr ((perm_in hpm).trans (by simpa using hp)) (by
      have : d'.size = c.toArray.size := hpm.1
      rw [this]; exact hs)
    have hlen : c.length = l.length := hp.length_eq
    have hw' : w' = grow (putRow id (Sort.ahead w n) g 0 (flatK outV 10 d')) os := hw
    have hsz : (flatK outV 10 d').size = l.length * 10 := by rw [size_flatK, ← hd]; simp
    refine ⟨rfl, ⟨?_, .inr ⟨g, cp, putCells id 0 (flatK outV 10 d') cur, rfl, hbase, ?_, by omega, h2, ?_, ?_⟩⟩, ?_⟩
    · exact cells_length outK_law l
    · rw [hw']; exact heap_sortedK _ hb
    · simpa [putCells] using h3
    · show (putCells id 0 (flatK outV 10 d') cur).toList.take (l.length * 10) = _
      rw [← hsz, take_putCellsK _ _ (by rw [hsz, h3, ← hlen]; exact Nat.mul_le_mul_right _ h1), flat_cells, hd]
    · rw [hw']; exact (moved_sortedK _).below (fun i e => by rw [e]; exact hbase) (by omega)
end Go.Proofs.Ytmgmkdkdpeljmaa

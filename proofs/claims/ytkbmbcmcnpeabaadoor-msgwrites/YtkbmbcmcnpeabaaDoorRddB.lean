/- The program's Read: what any bytes are read as. Condition: no more than 2^40 bytes. -/
import Derived.Test.YtkbmbcmcnpeabaaDoorRdd
namespace Go.Proofs.YtkbmbcmcnpeabaaDoor
open Pk Go.RowKit

theorem kept_of_r {w w' : World} {p B : Nat} (m : Moved (fun i => i = p ∨ i = B) (w.alloc (.cells #[.int .i64 0] 32)) w') (hp : p < w.heap.size) (hB : B < w.heap.size) : Kept w w' := by
  have hs : w.heap.size < (w.alloc (.cells #[.int .i64 0] 32)).heap.size := by simp
  have hF : ¬ (w.heap.size = p ∨ w.heap.size = B) := by omega
  refine ⟨(m.cell (p := ⟨w.heap.size, 0, none⟩) hs hF).trans (by simp), (m.frozen (p := ⟨w.heap.size, 0, none⟩) hs hF).trans (by simp), Nat.lt_of_lt_of_le hs m.size⟩
/-- The world in which Read makes its attempt. -/
theorem read_laid {w w1 W : World} {A x : Nat} {s : ByteArray} (hA : A = w.heap.size) (hx : x = w.heap.size + 2)
    (hi : InAt w1 x s 0 0) (hm : Moved (fun _ => False) ((w.alloc (.cells (msgCells MsgV.zero none 0 none 0).toArray 29)).alloc (.cells (msgCells MsgV.zero none 0 none 0).toArray 29)) w1)
    (hW : W = (w1.alloc (.cells #[.pointer (some ⟨x, 0, none⟩)] 76)).alloc (.cells #[.pointer (some ⟨w1.heap.size, 0, none⟩)] 72)) :
    Moved (fun _ => False) w W ∧ RowAt W A (msgCells MsgV.zero none 0 none 0) ∧ RSt W W w1.heap.size x (A + 1) (msgCells MsgV.zero none 0 none 0) s 0 ∧ W.cell? ⟨w1.heap.size + 1, 0, none⟩ = some (.pointer (some ⟨w1.heap.size, 0, none⟩)) ∧ x < w1.heap.size ∧ W.heap.size = w1.heap.size + 2 := by
  have hxl := hi.lt
  have m1 : Moved (fun _ => False) w1 W := by rw [hW]; exact ((Moved.refl _ w1).alloc _).alloc _
  have r1 : RowAt W A (msgCells MsgV.zero none 0 none 0) := ((row_old (row_new w (msgCells MsgV.zero none 0 none 0) 29) _).keep hm id |>.keep m1 id) |> fun h => by rw [hA]; exact h
  have r2 : RowAt W (A + 1) (msgCells MsgV.zero none 0 none 0) := ((row_new2 w (msgCells MsgV.zero none 0 none 0) (msgCells MsgV.zero none 0 none 0) 29 29).keep hm id |>.keep m1 id) |> fun h => by rw [hA]; exact h
  have hc : W.cell? ⟨w1.heap.size + 1, 0, none⟩ = some (.pointer (some ⟨w1.heap.size, 0, none⟩)) := by rw [hW]; exact (row_new2 w1 [.pointer (some ⟨w1.heap.size, 0, none⟩)] [.pointer (some ⟨x, 0, none⟩)] 72 76).cell 0 (Nat.zero_lt_one)
  have hr : W.cell? ⟨w1.heap.size, 0, none⟩ = some (.pointer (some ⟨x, 0, none⟩)) := by rw [hW]; exact (row_old (row_new w1 [.pointer (some ⟨x, 0, none⟩)] 76) _).cell 0 (Nat.zero_lt_one)
  refine ⟨(((Moved.refl _ w).alloc _).alloc _).trans hm (fun _ f => f.elim) |>.trans m1 fun _ f => f.elim, r1, ⟨Moved.refl _ _, r2, hr, hi.keep m1 id, by omega, by omega, by omega⟩, hc, hxl, by rw [hW]; simp⟩
theorem results_cell_tmp {P : Program} {fn : Func} {p t : Tmp} {ty : TypeId} (h : fn.results = #[.cell p ty, .tmp t]) (tmps : Array Value) (w : World) (g : Nat) (cs : List Value) (d : TypeDesc)
    (hp : tmps.getD p undef = .pointer (some ⟨g, 0, none⟩)) (hc : w.rangeAt g 0 cs) (hu : P.underlying ty = some d) (hd : d.isRow = true) (hi : (P.info? ty).map (·.size) = some cs.length) :
    (results fn tmps).run P w = .ok (.tuple #[.agg cs.toArray, tmps.getD t undef]) w := by
  have hp' : tmps[p]?.getD undef = .pointer (some ⟨g, 0, none⟩) := by simpa using hp
  simp [results, h, hp', asAddr, run_loadVar_mid w g 0 ty cs d hc hu hd hi]
theorem ints_beside {F : Nat → Prop} {w w' : World} {a : Option Addr} {xs : List Int} (h : Ints w a xs) (m : Moved F w w') (hF : ∀ y, a = some y → ¬ F y.block) : Ints w' a xs := fun i hi => by
  obtain ⟨x, hx, hc⟩ := h i hi
  have hb : (x.add i).block = x.block := by unfold Addr.add; split <;> rfl
  exact ⟨x, hx, (m.cell (World.block_lt_of_cell? _ _ hc) (by rw [hb]; exact hF x hx)).trans hc⟩
set_option maxHeartbeats 4000000 in
set_option maxRecDepth 100000 in
theorem read_any (s : ByteArray) (hs : s.size ≤ 1099511627776) (w : World) :
    Calls Tryd.prog 13 #[.string s] w fun e w' => Moved (fun _ => False) w w' ∧ ∃ a c a2 c2, e = .returned (.tuple #[.agg (msgCells (readMsg s.data.toList).1 a c a2 c2).toArray, .int .i64 (((readMsg s.data.toList).2 : Nat) : Int)]) ∧ Ints w' a (readMsg s.data.toList).1.owner ∧ Ints w' a2 (readMsg s.data.toList).1.set ∧ ∀ y, a = some y ∨ a2 = some y → w.heap.size ≤ y.block := by
  obtain ⟨A, hA⟩ : ∃ A, A = w.heap.size := ⟨_, rfl⟩
  obtain ⟨U, hU⟩ : ∃ U, U = (w.alloc (.cells (msgCells MsgV.zero none 0 none 0).toArray 29)).alloc (.cells (msgCells MsgV.zero none 0 none 0).toArray 29) := ⟨_, rfl⟩
  have hUs : U.heap.size = w.heap.size + 2 := by rw [hU]; simp
  have HU := hide hU
  have HUs := hide hUs
  have HA := hide hA
  have hof := of_any s hs U
  have HOF := hide hof
  clear hU hUs hA hof hs
  go_enter Tryd.func13, Tryd.ntmps13
  go_wp2_with fail
  rw [← unhide HA]
  change Calls Tryd.prog 35 _ ((w.alloc (.cells (msgCells MsgV.zero none 0 none 0).toArray 29)).alloc (.cells (msgCells MsgV.zero none 0 none 0).toArray 29)) _
  rw [← unhide HU]
  refine (unhide HOF).mono ?_
  rintro e w1 ⟨rfl, hi, hm⟩
  rw [unhide HUs] at hi ⊢
  rw [unhide HU] at hm
  obtain ⟨W, hW⟩ : ∃ W, W = (w1.alloc (.cells #[.pointer (some ⟨w.heap.size + 2, 0, none⟩)] 76)).alloc (.cells #[.pointer (some ⟨w1.heap.size, 0, none⟩)] 72) := ⟨_, rfl⟩
  obtain ⟨hmw, hra, hst, hrc, hxl, hWs⟩ := read_laid (unhide HA) rfl hi hm hW
  have hBl : A + 1 < W.heap.size := hst.row.lt
  have hV : RSt (W.alloc (.cells #[.int .i64 0] 32)) (W.alloc (.cells #[.int .i64 0] 32)) w1.heap.size (w.heap.size + 2) (A + 1) (msgCells MsgV.zero none 0 none 0) s 0 := by
    have mV : Moved (fun _ => False) W (W.alloc (.cells #[.int .i64 0] 32)) := (Moved.refl _ W).alloc _
    have := hst.still mV
    exact ⟨Moved.refl _ _, this.row, this.rd, this.inn, this.rB, this.xB, this.rx⟩
  have hcl := read1_any hV (((Moved.refl (fun _ => False) W).alloc (.cells #[.int .i64 0] 32)).cell (p := ⟨w1.heap.size + 1, 0, none⟩) (World.block_lt_of_cell? _ _ hrc) id |>.trans hrc) (by omega) (by have := unhide HA; omega)
  have hat := attempt_22 (w := W) (c := (((readMsg s.data.toList).2 : Nat) : Int)) (Q := fun w' => Moved (fun i => i = w.heap.size + 2 ∨ i = A + 1) W w' ∧ ∃ m a c a2 c2, readMsg s.data.toList = (m, 0) ∧ RowAt w' (A + 1) (msgCells m a c a2 c2) ∧ Ints w' a m.owner ∧ Ints w' a2 m.set ∧ (∀ y, a = some y → W.heap.size + 1 ≤ y.block) ∧ (∀ y, a2 = some y → W.heap.size + 1 ≤ y.block)) (R := fun w' => (readMsg s.data.toList).2 ≠ 0 ∧ Moved (fun i => i = w.heap.size + 2 ∨ i = A + 1) W w') (hcl.mono (by
    rintro e w' ⟨hm, hh⟩
    have hm' : Moved (fun i => i = w.heap.size + 2 ∨ i = A + 1) W w' := ((Moved.refl _ W).alloc _).trans hm fun _ h => .inl h
    refine ⟨kept_of_r hm (by omega) hBl, ?_⟩
    rcases hh with ⟨rfl, m, k, hr, a, c, a2, c2, hs, h1, h2, h3, h4⟩ | ⟨rfl, hr⟩
    · exact .inl ⟨rfl, hm', m, a, c, a2, c2, hr, hs.row, h1, h2, fun y hy => by have := h3 y hy; simpa using this, fun y hy => by have := h4 y hy; simpa using this⟩
    · exact .inr ⟨rfl, hr, hm'⟩))
  have HAT := hide hat
  have HW := hide hW
  have HMW := hide hmw
  have HRA := hide hra
  have HX := hide (And.intro hxl (And.intro hWs hBl))
  have HFa := hide (msg_fault s.data.toList)
  clear hi hm hW hat hcl hV hmw hra hst hrc hxl hWs hBl
  go_wp2_with fail
  rw [← unhide HW]
  refine (unhide HAT).mono ?_
  rintro e w' ⟨w2, hm, hh⟩
  have HM := hide hm
  clear hm
  rcases hh with ⟨rfl, ⟨hmv, m, a, c, a2, c2, hr, hrow, hi1, hi2, hn1, hn2⟩, -⟩ | ⟨rfl, hr, hmv⟩
  · have hX := unhide HX
    have hA' := unhide HA
    have row2 := hrow.keep (unhide HM) (by omega)
    have rowA := ((unhide HRA).keep hmv (by omega)).keep (unhide HM) (by omega)
    have mset := (unhide HM).mono (G := fun i => i = W.heap.size ∨ i = A) (fun i hi => .inl (.inl hi)) |>.trans (setCells_moved w' A 0 (msgCells m a c a2 c2)) fun i hi => .inl (.inr hi)
    have hj1 := ints_beside hi1 mset fun y hy f => by have := hn1 y hy; omega
    have hj2 := ints_beside hi2 mset fun y hy f => by have := hn2 y hy; omega
    have mall : Moved (fun _ => False) w (w'.setCells A 0 (msgCells m a c a2 c2)) := (((unhide HMW).trans hmv fun i hi => .inr (by omega)).trans mset fun i hi => .inr (by omega))
    have RF := (rowA.put (msgCells m a c a2 c2) rfl).range
    have HJ := hide (And.intro hj1 hj2)
    have hsW := (unhide HMW).size
    have HNF : Hid (∀ y, a = some y ∨ a2 = some y → w.heap.size ≤ y.block) := hide fun y hy => hy.elim (fun h => by have := hn1 y h; omega) (fun h => by have := hn2 y h; omega)
    have HMA := hide mall
    have HRF := hide RF
    have HR := hide hr
    have hrg := row2.range
    have hth := rowA.there
    clear row2 rowA hrow hmv hi1 hi2 hX hA' hr hn1 hn2 mset hj1 hj2 mall RF hsW
    go_upto_region 6 with fail
    go_step
    refine wpList_load_mid rfl 29 (.tmp 4) rfl (A + 1) 0 rfl (msgCells m a c a2 c2) _ hrg Tryd.underlying29 rfl (by kernel_rfl) ?_
    refine wpList_store_mid rfl 29 (.tmp 2) (.tmp 17) rfl A 0 (msgCells m a c a2 c2).toArray rfl rfl hth (by kernel_rfl) (by simp [msgCells, Value.oneCell']) ?_
    clear hrg hth
    change wpList _ _ _ _ _ (w'.setCells A 0 (msgCells m a c a2 c2))
    generalize w'.setCells A 0 (msgCells m a c a2 c2) = wf at *
    go_wp2_with fail
    refine bodyPost_ret (v := .tuple #[.agg (msgCells m a c a2 c2).toArray, .int .i64 0]) ?_ rfl ?_
    · exact results_cell_tmp Tryd.results13 _ wf A _ _ rfl (unhide HRF) Tryd.underlying29 rfl (by kernel_rfl)
    · rw [unhide HR]
      exact ⟨unhide HMA, a, c, a2, c2, rfl, (unhide HJ).1, (unhide HJ).2, unhide HNF⟩
  · have hX := unhide HX
    have hA' := unhide HA
    have rowA := ((unhide HRA).keep hmv (by omega)).keep (unhide HM) (by omega)
    have mset := (unhide HM).mono (G := fun i => i = W.heap.size ∨ i = A) (fun i hi => .inl (.inl hi)) |>.trans (setCells_moved w' A 0 (msgCells MsgV.zero none 0 none 0)) fun i hi => .inl (.inr hi)
    have mall : Moved (fun _ => False) w (w'.setCells A 0 (msgCells MsgV.zero none 0 none 0)) := (((unhide HMW).trans hmv fun i hi => .inr (by omega)).trans mset fun i hi => .inr (by omega))
    have RF := (rowA.put (msgCells MsgV.zero none 0 none 0) rfl).range
    have hz : (readMsg s.data.toList).1 = MsgV.zero := (unhide HFa).resolve_left hr
    have hc : ¬ ((((readMsg s.data.toList).2 : Nat) : Int) = 0) := by omega
    have HMA := hide mall
    have HRF := hide RF
    have HZ := hide hz
    have hth := rowA.there
    clear rowA hmv hX hA' mset mall RF hz hr
    obtain ⟨E, hE⟩ : ∃ E, (readMsg s.data.toList).2 = E := ⟨_, rfl⟩
    have HE := hide hE
    rw [hE] at hc ⊢
    clear hE
    go_wp2_with (refine wpList_store_mid rfl 29 (.tmp 2) (.tmp 15) rfl A 0 #[.int .u8 0, .int .i64 0, .int .i64 0, .int .i64 0, .int .i64 0, .int .i64 0, .int .i64 0, .int .u64 0, .int .i64 0, .int .i64 0, .int .i64 0, .int .i64 0, .int .u8 0, .string ⟨#[]⟩, .int .i64 0, .int .i64 0, .int .i64 0, .int .i64 0, .int .i64 0, .slice none 0 0, .slice none 0 0, .string ⟨#[]⟩] rfl rfl hth (by kernel_rfl) (by simp [Value.oneCell']) ?_; change wpList _ _ _ _ _ (w'.setCells A 0 (msgCells MsgV.zero none 0 none 0)); generalize w'.setCells A 0 (msgCells MsgV.zero none 0 none 0) = wf at *; clear hth)
    refine bodyPost_ret (v := .tuple #[.agg (msgCells MsgV.zero none 0 none 0).toArray, .int .i64 (E : Int)]) ?_ rfl ?_
    · exact results_cell_tmp Tryd.results13 _ wf A _ _ rfl (unhide HRF) Tryd.underlying29 rfl (by kernel_rfl)
    · rw [unhide HZ, unhide HE]
      exact ⟨unhide HMA, none, 0, none, 0, rfl, ints_nil _ _, ints_nil _ _, fun y hy => by rcases hy with h | h <;> cases h⟩
end Go.Proofs.YtkbmbcmcnpeabaaDoor

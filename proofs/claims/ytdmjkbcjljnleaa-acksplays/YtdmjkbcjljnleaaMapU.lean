/- Sets of numbers as maps to nothing, in memory, beside their rising row: asking, storing, deleting. Conditions: the numbers are a machine's. -/
import Derived.Test.YtdmjkbcjljnleaaMem
import Derived.Maps.RangeWalk
import Derived.Maps.OwnSet
import Derived.Lib.SlKeysI
namespace Go.Proofs.Ytdmjkbcjljnleaa
open Go.RowKit Go.Maps Go.WideShapes Go.ChangeMaps Go.MapKept

def kz (q : Int) : Lit := .int .i64 q
def dz (q : Int) : Lit × DataW Unit := (kz q, .agg [])
/-- A datum that is these numbers. -/
def DIs (D : DataW Unit) (l : List Int) : Prop := ∃ E, D = .map E ∧ E.Perm (l.map dz)
theorem kz_inj {q q' : Int} (h : kz q = kz q') : q = q' := by unfold kz at h; simpa using h
theorem same_kz (q q' : Int) : (kz q).sameKey (kz q') = decide (q = q') := by simp [kz, Lit.sameKey]
theorem dis_has {D : DataW Unit} {l : List Int} (h : DIs D l) (q : Int) : Maps.has D (kz q) = l.contains q := by
  obtain ⟨E, rfl, hE⟩ := h
  rw [has_eq, hE.any_eq]
  clear hE
  induction l with
  | nil => rfl
  | cons a l ih =>
    rw [List.map_cons, List.any_cons, ih, List.contains_cons]
    have e : (dz a).1.sameKey (kz q) = decide (a = q) := same_kz _ _
    rw [e]
    by_cases ha : a = q
    · subst ha; simp
    · have : (q == a) = false := by simpa using fun e => ha e.symm
      rw [decide_eq_false ha, this]
theorem dis_size {D : DataW Unit} {l : List Int} (h : DIs D l) : Maps.size D = l.length := by
  obtain ⟨E, rfl, hE⟩ := h
  rw [size_eq, hE.length_eq, List.length_map]
theorem dis_empty : DIs (.map [] : DataW Unit) [] := ⟨[], rfl, List.Perm.refl _⟩
theorem dis_del {D : DataW Unit} {l : List Int} (h : DIs D l) (q : Int) : DIs (D.del (kz q)) (l.filter (fun a => !decide (a = q))) := by
  obtain ⟨E, rfl, hE⟩ := h
  refine ⟨E.filter (fun p => !p.1.sameKey (kz q)), rfl, (hE.filter _).trans ?_⟩
  rw [List.filter_map]
  refine List.Perm.of_eq (congrArg _ (List.filter_congr fun a _ => ?_))
  have e : (dz a).1.sameKey (kz q) = decide (a = q) := same_kz _ _
  show (!(dz a).1.sameKey (kz q)) = _
  rw [e]
theorem filter_ne {l : List Int} {q : Int} (h : q ∉ l) : l.filter (fun a => !decide (a = q)) = l :=
  List.filter_eq_self.2 fun a ha => by
    have : ¬ a = q := fun e => h (e ▸ ha)
    simp [this]
theorem dis_put {D : DataW Unit} {l : List Int} (h : DIs D l) {q : Int} (hq : q ∉ l) : DIs (D.put (kz q) (.agg [])) (insN q l) := by
  obtain ⟨E, hD, hE⟩ := dis_del h q
  obtain ⟨E0, rfl, _⟩ := h
  rw [filter_ne hq] at hE
  have hE' : E0.filter (fun p => !p.1.sameKey (kz q)) = E := by
    have : (DataW.map E0).del (kz q) = .map (E0.filter fun p => !p.1.sameKey (kz q)) := rfl
    rw [this] at hD
    exact DataW.map.inj hD
  refine ⟨DataW.insert (kz q, .agg []) E, ?_, (WideShapes.insert_perm _ _).trans (((hE.cons _).trans (List.Perm.of_eq rfl)).trans ((insN_perm hq).map dz).symm)⟩
  rw [← hE']; rfl
theorem dis_keys {D : DataW Unit} {l : List Int} (h : DIs D l) : (intKeys D).Perm l := by
  obtain ⟨E, rfl, hE⟩ := h
  refine (hE.map fun p => Go.intOf p.1).trans (List.Perm.of_eq ?_)
  rw [List.map_map]
  exact List.map_id' l
/-- A map's keys, sorted, are its row. -/
theorem dis_sorted {D : DataW Unit} {l : List Int} (h : DIs D l) (hr : Rise l) {ss : List Int} (hs : ss.Perm (intKeys D)) : ss.mergeSort (fun x y => decide (x ≤ y)) = l := by
  have hp : ss.Perm l := hs.trans (dis_keys h)
  rw [mergeSort_of_perm_i hp]
  refine List.mergeSort_of_pairwise ?_
  refine List.Pairwise.imp (R := fun a b : Int => a < b) (fun {a b} hab => ?_) hr
  simp only [leI, decide_eq_true_eq]; omega

theorem wf_i64 {q : Int} (h : -9223372036854775808 ≤ q ∧ q ≤ 9223372036854775807) : (Lit.int .i64 q).wf = true := WalkArith.wf_i64 h
theorem key3 : Keyed Try.prog 3 := int_keyed Try.underlying3
theorem zero50 (w : World) : (zeroValue 50).run Try.prog w = .ok (.agg #[]) w := by
  have h : (Try.prog.info? 50).map (fun i => (i.zero, i.size)) = some (some (.agg #[]), 0) := by kernel_rfl
  obtain ⟨i, hi, he⟩ := Option.map_eq_some_iff.1 h
  simp only [Prod.mk.injEq] at he
  simp [zeroValue, typeInfo, hi, he.1]
/-- Block b is a map that has these numbers. -/
def MIs (w : World) (b : Nat) (l : List Int) : Prop := ∃ D : DataW Unit, w.ownsMap Try.prog 3 unitElem b l.length D ∧ DIs D l
theorem owns_n {w : World} {b n : Nat} {D : DataW Unit} (h : w.ownsMap Try.prog 3 unitElem b n D) : w.ownsMap Try.prog 3 unitElem b (Maps.size D) D := by
  obtain ⟨es, clock, hb, F, _, rfl⟩ := h
  exact ⟨es, clock, hb, F, by simp [Maps.size, length_sorted], rfl⟩
theorem MIs.of {w : World} {b n : Nat} {D : DataW Unit} {l : List Int} (h : w.ownsMap Try.prog 3 unitElem b n D) (hD : DIs D l) : MIs w b l := ⟨D, by rw [← dis_size hD]; exact owns_n h, hD⟩
theorem MIs.lt {w : World} {b : Nat} {l : List Int} (h : MIs w b l) : b < w.heap.size := by obtain ⟨D, h, _⟩ := h; exact h.lt
theorem MIs.keep {w w' : World} {b : Nat} {l : List Int} (h : MIs w b l) (hb : w'.heap[b]? = w.heap[b]?) : MIs w' b l := by
  obtain ⟨D, ⟨es, clock, h1, h2⟩, hD⟩ := h
  exact ⟨D, ⟨es, clock, hb.trans h1, h2⟩, hD⟩
theorem MIs.made (w : World) : MIs (w.alloc (.map #[] 0)) w.heap.size [] := .of (World.ownsMap_made w Try.prog 3 unitElem) dis_empty
/-- Two blocks of unlike kinds are two. -/
theorem MIs.not_cells {w : World} {b : Nat} {l : List Int} (h : MIs w b l) {o : Nat} {v : Value} (hc : w.cell? ⟨b, o, none⟩ = some v) : False := by
  obtain ⟨D, ⟨es, clock, h1, _⟩, _⟩ := h
  simp [World.cell?, h1] at hc
theorem key_of {q : Int} (hq : -9223372036854775808 ≤ q ∧ q ≤ 9223372036854775807) : keyOf Try.prog 3 (.int .i64 q) = some (kz q) := keyOf_int_mk Try.underlying3 (wf_i64 hq)
section
variable {w : World} {b : Nat} {l : List Int} {q : Int}
theorem MIs.get_ok (h : MIs w b l) (hq : -9223372036854775808 ≤ q ∧ q ≤ 9223372036854775807) :
    (Instr.lookup 47 (.map (some b)) (.int .i64 q) true).run Try.prog w = .ok (.tuple #[.agg #[], .bool (decide (q ∈ l))]) w := by
  obtain ⟨D, h, hD⟩ := h
  obtain ⟨v, ps, hrun, hv⟩ := h.look_ok key3 Try.underlying47 (zero50 w) unitElem_mk (key_of hq)
  rw [hrun, dis_has hD, List.contains_eq_mem]
  obtain ⟨rfl, _⟩ := unitElem_inv hv
  rfl
theorem MIs.put (h : MIs w b l) (hn : l.length < 1000000000000) (hq : -9223372036854775808 ≤ q ∧ q ≤ 9223372036854775807) (hl : q ∉ l) :
    ∃ w', (Instr.mapUpdate 47 (.map (some b)) (.int .i64 q) (.agg #[])).run Try.prog w = .ok () w' ∧ MIs w' b (insN q l) ∧ w.mapTurned w' b := by
  obtain ⟨D, h, hD⟩ := h
  obtain ⟨w', hrun, h', ht⟩ := h.store key3 Try.underlying47 (by unfold maxLen; omega) (key_of hq) unitElem_mk
  exact ⟨w', hrun, .of h' (dis_put hD hl), ht⟩
theorem MIs.drop (h : MIs w b l) (hq : -9223372036854775808 ≤ q ∧ q ≤ 9223372036854775807) (ty : TypeId) :
    ∃ w', (Builtin.delete_ #[47, 3] ty #[.map (some b), .int .i64 q]).run Try.prog w = .ok (.tuple #[]) w' ∧ MIs w' b (l.filter (fun a => !decide (a = q))) ∧ w.mapTurned w' b := by
  obtain ⟨D, h, hD⟩ := h
  obtain ⟨w', hrun, h', ht⟩ := h.drop key3 Try.underlying47 (key_of hq) ty
  exact ⟨w', hrun, .of h' (dis_del hD q), ht⟩
theorem MIs.len (h : MIs w b l) (ty : TypeId) : (Builtin.len_ #[47] ty #[.map (some b)]).run Try.prog w = .ok (.int .i64 l.length) w := by
  obtain ⟨D, h, hD⟩ := h
  rw [h.len Try.underlying47 ty, dis_size hD]
end
theorem look_nil47 {w : World} {q : Int} (hq : -9223372036854775808 ≤ q ∧ q ≤ 9223372036854775807) :
    (Instr.lookup 47 (.map none) (.int .i64 q) true).run Try.prog w = .ok (.tuple #[.agg #[], .bool false]) w := Maps.look_nil true key3 Try.underlying47 (zero50 w) (key_of hq)
theorem turned_moved {w w' : World} {b : Nat} (h : w.mapTurned w' b) : Moved (fun j => j = b) w w' := by
  obtain ⟨es, clock, es', clock', hb, rfl⟩ := h
  refine ⟨rfl, rfl, rfl, by simp [setBlock], fun i _ hi => ?_⟩
  show (w.heap.setIfInBounds b _)[i]? = w.heap[i]?
  rw [Array.getElem?_setIfInBounds_ne (fun e => hi e.symm)]

/-- A map that may be nil. -/
def MO (w : World) (m : Option Nat) (l : List Int) : Prop := (m = none ∧ l = []) ∨ ∃ b, m = some b ∧ MIs w b l
theorem MO.get_ok {w : World} {m : Option Nat} {l : List Int} {q : Int} (h : MO w m l) (hq : -9223372036854775808 ≤ q ∧ q ≤ 9223372036854775807) :
    (Instr.lookup 47 (.map m) (.int .i64 q) true).run Try.prog w = .ok (.tuple #[.agg #[], .bool (decide (q ∈ l))]) w := by
  rcases h with ⟨rfl, rfl⟩ | ⟨b, rfl, h⟩
  · simpa using look_nil47 hq
  · exact h.get_ok hq
theorem MO.len {w : World} {m : Option Nat} {l : List Int} (h : MO w m l) (ty : TypeId) : (Builtin.len_ #[47] ty #[.map m]).run Try.prog w = .ok (.int .i64 l.length) w := by
  rcases h with ⟨rfl, rfl⟩ | ⟨b, rfl, h⟩
  · exact run_len_nilMap w 47 ty Try.underlying47
  · exact h.len ty
theorem MO.keep {w w' : World} {m : Option Nat} {l : List Int} (h : MO w m l) (hb : ∀ b, m = some b → w'.heap[b]? = w.heap[b]?) : MO w' m l := by
  rcases h with h | ⟨b, e, h⟩
  · exact .inl h
  · exact .inr ⟨b, e, h.keep (hb b e)⟩
theorem MO.lt {w : World} {m : Option Nat} {l : List Int} (h : MO w m l) : ∀ b, m = some b → b < w.heap.size := fun b e => by
  rcases h with ⟨h, _⟩ | ⟨b', e', h⟩
  · rw [h] at e; cases e
  · rw [e'] at e; cases e; exact h.lt
theorem MO.made (w : World) : MO (w.alloc (.map #[] 0)) (some w.heap.size) [] := .inr ⟨_, rfl, MIs.made w⟩
end Go.Proofs.Ytdmjkbcjljnleaa

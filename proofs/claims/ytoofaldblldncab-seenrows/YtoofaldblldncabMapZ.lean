/- Maps from numbers to numbers, in memory, beside codes in their row: looking up, storing, deleting, copying, ranging. Conditions: the numbers are a machine's. -/
import Derived.Test.YtoofaldblldncabMem
import Derived.Maps.RangeWalk
import Derived.Maps.OwnSet
import Derived.Lib.SlKeysI
namespace Go.Proofs.Ytoofaldblldncab
open Go.RowKit Go.Maps Go.WideShapes Go.ChangeMaps Go.MapKept

def kz (q : Int) : Lit := .int .i64 q
def dz (a : Int × Int) : Lit × DataW Unit := (kz a.1, .lit (.int .i64 a.2))
/-- A datum that is these codes. -/
def DIs (D : DataW Unit) (l : Codes) : Prop := ∃ E, D = .map E ∧ E.Perm (l.map dz)
theorem kz_inj {q q' : Int} (h : kz q = kz q') : q = q' := by unfold kz at h; simpa using h
theorem kz_key (q : Int) : WideAt.IsKeyLit (kz q) := trivial
theorem same_kz (q q' : Int) : (kz q).sameKey (kz q') = decide (q = q') := by simp [kz, Lit.sameKey]
theorem dis_apart {l : Codes} (h : Rise l) {E : List (Lit × DataW Unit)} (hE : E.Perm (l.map dz)) : E.Pairwise (fun p q => p.1 ≠ q.1) := by
  refine (hE.symm.pairwise_iff (fun {a b} (h : a.1 ≠ b.1) => h.symm)).1 ?_
  rw [List.pairwise_map]
  refine List.Pairwise.imp (R := fun a b : Int × Int => a.1 < b.1) (fun {a b} hab e => ?_) h
  have := kz_inj e
  omega
theorem dis_has {D : DataW Unit} {l : Codes} (h : DIs D l) (q : Int) : has D (kz q) = (look l q).isSome := by
  obtain ⟨E, rfl, hE⟩ := h
  rw [has_eq, hE.any_eq]
  clear hE
  induction l with
  | nil => rfl
  | cons a l ih =>
    rw [List.map_cons, List.any_cons, ih, look]
    have e : (dz a).1.sameKey (kz q) = decide (a.1 = q) := same_kz _ _
    rw [e]
    by_cases ha : a.1 = q <;> simp [ha]
theorem dis_some {D : DataW Unit} {l : Codes} (h : DIs D l) (hr : Rise l) {q c : Int} (hl : look l q = some c) (z : DataW Unit) : D.atKey (kz q) z = .lit (.int .i64 c) := by
  obtain ⟨E, rfl, hE⟩ := h
  have hp : (kz q, (.lit (.int .i64 c) : DataW Unit)) ∈ E := hE.mem_iff.2 (List.mem_map.2 ⟨_, look_some hl, rfl⟩)
  exact WideAt.atKey_mem z (kz_key q) (dis_apart hr hE) hp
theorem dis_none {D : DataW Unit} {l : Codes} (h : DIs D l) {q : Int} (hl : look l q = none) (z : DataW Unit) : D.atKey (kz q) z = z :=
  atKey_of_not_has (by rw [dis_has h, hl]; rfl) z
theorem dis_size {D : DataW Unit} {l : Codes} (h : DIs D l) : size D = l.length := by
  obtain ⟨E, rfl, hE⟩ := h
  rw [size_eq, hE.length_eq, List.length_map]
theorem dis_empty : DIs (.map [] : DataW Unit) [] := ⟨[], rfl, List.Perm.refl _⟩
theorem dis_del {D : DataW Unit} {l : Codes} (h : DIs D l) (q : Int) : DIs (D.del (kz q)) (l.filter (fun a => !decide (a.1 = q))) := by
  obtain ⟨E, rfl, hE⟩ := h
  refine ⟨E.filter (fun p => !p.1.sameKey (kz q)), rfl, (hE.filter _).trans ?_⟩
  rw [List.filter_map]
  refine List.Perm.of_eq (congrArg _ (List.filter_congr fun a ha => ?_))
  have e : (dz a).1.sameKey (kz q) = decide (a.1 = q) := same_kz _ _
  show (!(dz a).1.sameKey (kz q)) = _
  rw [e]
theorem dis_put {D : DataW Unit} {l : Codes} (h : DIs D l) (hr : Rise l) (q c : Int) : DIs (D.put (kz q) (.lit (.int .i64 c))) (ins q c l) := by
  obtain ⟨E, hD, hE⟩ := dis_del h q
  obtain ⟨E0, rfl, _⟩ := h
  have hE' : E0.filter (fun p => !p.1.sameKey (kz q)) = E := by
    have : (DataW.map E0).del (kz q) = .map (E0.filter fun p => !p.1.sameKey (kz q)) := rfl
    rw [this] at hD
    exact DataW.map.inj hD
  refine ⟨DataW.insert (kz q, .lit (.int .i64 c)) E, ?_, (WideShapes.insert_perm _ _).trans (((hE.cons _).trans (List.Perm.of_eq rfl)).trans ((ins_perm (c := c) hr).map dz).symm)⟩
  rw [← hE']; rfl
theorem dis_entry {D : DataW Unit} {l : Codes} (h : DIs D l) (hr : Rise l) {q : Int} {y : DataW Unit} (hat : ∀ z, D.atKey (kz q) z = y) : ∃ c, look l q = some c ∧ y = .lit (.int .i64 c) := by
  have hh := has_true_of_atKey hat
  rw [dis_has h] at hh
  obtain ⟨c, hc⟩ := Option.isSome_iff_exists.1 hh
  exact ⟨c, hc, (hat .nil).symm.trans (dis_some h hr hc .nil)⟩
theorem dis_keys {D : DataW Unit} {l : Codes} (h : DIs D l) : (intKeys D).Perm (l.map (·.1)) := by
  obtain ⟨E, rfl, hE⟩ := h
  refine (hE.map fun p => Go.intOf p.1).trans (List.Perm.of_eq ?_)
  rw [List.map_map]; rfl
/-- A map's keys, sorted, are its codes' numbers in their row. -/
theorem dis_sorted {D : DataW Unit} {l : Codes} (h : DIs D l) (hr : Rise l) {ss : List Int} (hs : ss.Perm (intKeys D)) : ss.mergeSort (fun x y => decide (x ≤ y)) = l.map (·.1) := by
  have hp : ss.Perm (l.map (·.1)) := hs.trans (dis_keys h)
  rw [mergeSort_of_perm_i hp]
  refine List.mergeSort_of_pairwise ?_
  rw [List.pairwise_map]
  refine List.Pairwise.imp (R := fun a b : Int × Int => a.1 < b.1) (fun {a b} hab => ?_) hr
  simp only [leI, decide_eq_true_eq]; omega

theorem wf_i64 {q : Int} (h : -9223372036854775808 ≤ q ∧ q ≤ 9223372036854775807) : (Lit.int .i64 q).wf = true := WalkArith.wf_i64 h
theorem key3 : Keyed Try.prog 3 := int_keyed Try.underlying3
theorem zero3 (w : World) : (zeroValue 3).run Try.prog w = .ok (.int .i64 0) w := by
  have h : (Try.prog.info? 3).map (fun i => (i.zero, i.size)) = some (some (.int .i64 0), 1) := by kernel_rfl
  obtain ⟨i, hi, he⟩ := Option.map_eq_some_iff.1 h
  simp only [Prod.mk.injEq] at he
  simp [zeroValue, typeInfo, hi, he.1]
/-- Block b is a map that has these codes. -/
def MIs (w : World) (b : Nat) (l : Codes) : Prop := ∃ D : DataW Unit, w.ownsMap Try.prog 3 (plainElem Try.prog 3) b l.length D ∧ DIs D l
theorem owns_n {w : World} {b n : Nat} {D : DataW Unit} (h : w.ownsMap Try.prog 3 (plainElem Try.prog 3) b n D) : w.ownsMap Try.prog 3 (plainElem Try.prog 3) b (size D) D := by
  obtain ⟨es, clock, hb, F, _, rfl⟩ := h
  exact ⟨es, clock, hb, F, by simp [size, length_sorted], rfl⟩
theorem MIs.of {w : World} {b n : Nat} {D : DataW Unit} {l : Codes} (h : w.ownsMap Try.prog 3 (plainElem Try.prog 3) b n D) (hD : DIs D l) : MIs w b l := ⟨D, by rw [← dis_size hD]; exact owns_n h, hD⟩
theorem MIs.lt {w : World} {b : Nat} {l : Codes} (h : MIs w b l) : b < w.heap.size := by obtain ⟨D, h, _⟩ := h; exact h.lt
theorem MIs.keep {w w' : World} {b : Nat} {l : Codes} (h : MIs w b l) (hb : w'.heap[b]? = w.heap[b]?) : MIs w' b l := by
  obtain ⟨D, ⟨es, clock, h1, h2⟩, hD⟩ := h
  exact ⟨D, ⟨es, clock, hb.trans h1, h2⟩, hD⟩
theorem MIs.made (w : World) : MIs (w.alloc (.map #[] 0)) w.heap.size [] := .of (World.ownsMap_made w Try.prog 3 (plainElem Try.prog 3)) dis_empty
/-- Two blocks of unlike kinds are two. -/
theorem MIs.not_cells {w : World} {b : Nat} {l : Codes} (h : MIs w b l) {o : Nat} {v : Value} (hc : w.cell? ⟨b, o, none⟩ = some v) : False := by
  obtain ⟨D, ⟨es, clock, h1, _⟩, _⟩ := h
  simp [World.cell?, h1] at hc
theorem key_of {q : Int} (hq : -9223372036854775808 ≤ q ∧ q ≤ 9223372036854775807) : keyOf Try.prog 3 (.int .i64 q) = some (kz q) := keyOf_int_mk Try.underlying3 (wf_i64 hq)
section
variable {w : World} {b : Nat} {l : Codes} {q : Int}
theorem MIs.get (h : MIs w b l) (hr : Rise l) (hq : -9223372036854775808 ≤ q ∧ q ≤ 9223372036854775807) :
    (Instr.lookup 37 (.map (some b)) (.int .i64 q) false).run Try.prog w = .ok (.int .i64 ((look l q).getD 0)) w := by
  obtain ⟨D, h, hD⟩ := h
  obtain ⟨c, hrun, hat, _⟩ := h.lookup_int key3 Try.underlying37 Try.underlying3 (zero3 w) (key_of hq)
  rw [hrun]
  cases hx : Ytoofaldblldncab.look l q with
  | none =>
    rw [dis_none hD hx] at hat
    simp only [DataW.lit.injEq, Lit.int.injEq, true_and] at hat
    rw [← hat]; rfl
  | some d =>
    rw [dis_some hD hr hx] at hat
    simp only [DataW.lit.injEq, Lit.int.injEq, true_and] at hat
    rw [← hat]; rfl
theorem MIs.get_ok (h : MIs w b l) (hr : Rise l) (hq : -9223372036854775808 ≤ q ∧ q ≤ 9223372036854775807) :
    (Instr.lookup 37 (.map (some b)) (.int .i64 q) true).run Try.prog w = .ok (.tuple #[.int .i64 ((look l q).getD 0), .bool (look l q).isSome]) w := by
  obtain ⟨D, h, hD⟩ := h
  have hz : plainElem (H := Unit) Try.prog 3 (.int .i64 0) = some (.lit (.int .i64 0), []) := plainElem_int Try.underlying3 (by decide)
  obtain ⟨v, ps, hrun, hv⟩ := h.look_ok key3 Try.underlying37 (zero3 w) hz (key_of hq)
  rw [hrun, dis_has hD]
  obtain ⟨c, rfl, hc, _⟩ := plainElem_int_inv Try.underlying3 hv
  have hat := congrArg Prod.fst hc
  simp only at hat
  cases hx : Ytoofaldblldncab.look l q with
  | none =>
    rw [dis_none hD hx] at hat
    simp only [DataW.lit.injEq, Lit.int.injEq, true_and] at hat
    rw [← hat]; rfl
  | some d =>
    rw [dis_some hD hr hx] at hat
    simp only [DataW.lit.injEq, Lit.int.injEq, true_and] at hat
    rw [← hat]; rfl
theorem MIs.put (h : MIs w b l) (hr : Rise l) (hn : l.length < 1000) (hq : -9223372036854775808 ≤ q ∧ q ≤ 9223372036854775807) {c : Int} (hc : -9223372036854775808 ≤ c ∧ c ≤ 9223372036854775807) :
    ∃ w', (Instr.mapUpdate 37 (.map (some b)) (.int .i64 q) (.int .i64 c)).run Try.prog w = .ok () w' ∧ MIs w' b (ins q c l) ∧ w.mapTurned w' b := by
  obtain ⟨D, h, hD⟩ := h
  obtain ⟨w', hrun, h', ht⟩ := h.store key3 Try.underlying37 (by unfold maxLen; omega) (key_of hq) (plainElem_int Try.underlying3 (wf_i64 hc))
  exact ⟨w', hrun, .of h' (dis_put hD hr q c), ht⟩
end
theorem look_nil51 {w : World} {q : Int} (hq : -9223372036854775808 ≤ q ∧ q ≤ 9223372036854775807) (c : Bool) :
    (Instr.lookup 37 (.map none) (.int .i64 q) c).run Try.prog w = .ok (if c then .tuple #[.int .i64 0, .bool false] else .int .i64 0) w := Maps.look_nil c key3 Try.underlying37 (zero3 w) (key_of hq)
theorem turned_moved {w w' : World} {b : Nat} (h : w.mapTurned w' b) : Moved (fun j => j = b) w w' := by
  obtain ⟨es, clock, es', clock', hb, rfl⟩ := h
  refine ⟨rfl, rfl, rfl, by simp [setBlock], fun i _ hi => ?_⟩
  show (w.heap.setIfInBounds b _)[i]? = w.heap[i]?
  rw [Array.getElem?_setIfInBounds_ne (fun e => hi e.symm)]

/-- A map that may be nil. -/
def MO (w : World) (m : Option Nat) (l : Codes) : Prop := (m = none ∧ l = []) ∨ ∃ b, m = some b ∧ MIs w b l
theorem MO.get {w : World} {m : Option Nat} {l : Codes} {q : Int} (h : MO w m l) (hr : Rise l) (hq : -9223372036854775808 ≤ q ∧ q ≤ 9223372036854775807) :
    (Instr.lookup 37 (.map m) (.int .i64 q) false).run Try.prog w = .ok (.int .i64 ((look l q).getD 0)) w := by
  rcases h with ⟨rfl, rfl⟩ | ⟨b, rfl, h⟩
  · exact look_nil51 hq false
  · exact h.get hr hq
theorem MO.get_ok {w : World} {m : Option Nat} {l : Codes} {q : Int} (h : MO w m l) (hr : Rise l) (hq : -9223372036854775808 ≤ q ∧ q ≤ 9223372036854775807) :
    (Instr.lookup 37 (.map m) (.int .i64 q) true).run Try.prog w = .ok (.tuple #[.int .i64 ((look l q).getD 0), .bool (look l q).isSome]) w := by
  rcases h with ⟨rfl, rfl⟩ | ⟨b, rfl, h⟩
  · exact look_nil51 hq true
  · exact h.get_ok hr hq
theorem MO.keep {w w' : World} {m : Option Nat} {l : Codes} (h : MO w m l) (hb : ∀ b, m = some b → w'.heap[b]? = w.heap[b]?) : MO w' m l := by
  rcases h with h | ⟨b, e, h⟩
  · exact .inl h
  · exact .inr ⟨b, e, h.keep (hb b e)⟩
theorem MO.lt {w : World} {m : Option Nat} {l : Codes} (h : MO w m l) : ∀ b, m = some b → b < w.heap.size := fun b e => by
  rcases h with ⟨h, _⟩ | ⟨b', e', h⟩
  · rw [h] at e; cases e
  · rw [e'] at e; cases e; exact h.lt
end Go.Proofs.Ytoofaldblldncab

/- Of what was there nothing but some blocks has turned; a row of cells in a block. No conditions. -/
import Derived.Test.YtigmhljaoicdbaaGreatMath
import Derived.Test.YtigmhljaoicdbaaGreatChecked
import Derived.WalkKit
import Derived.WalkSpells
import Derived.Outline
import Derived.Below
import Derived.Deep.MidRow
import Derived.Lib.Builder
import Derived.Laws.IdiomStrings
namespace Go.Proofs.YtigmhljaoicdbaaGreat
open Go.RowKit

/-- Of what was there nothing but blocks of F has turned. -/
structure Moved (F : Nat → Prop) (w w' : World) : Prop where
  os : w'.os = w.os
  tape : w'.tape = w.tape
  output : w'.output = w.output
  size : w.heap.size ≤ w'.heap.size
  block : ∀ k, k < w.heap.size → ¬ F k → w'.heap[k]? = w.heap[k]?

theorem Moved.refl (F : Nat → Prop) (w : World) : Moved F w w := ⟨rfl, rfl, rfl, Nat.le_refl _, fun _ _ _ => rfl⟩
theorem Moved.trans {F G : Nat → Prop} {a b c : World} (h : Moved F a b) (k : Moved G b c) (hG : ∀ i, G i → F i ∨ a.heap.size ≤ i) : Moved F a c :=
  ⟨k.os.trans h.os, k.tape.trans h.tape, k.output.trans h.output, Nat.le_trans h.size k.size, fun i hi hF =>
    (k.block i (Nat.lt_of_lt_of_le hi h.size) (fun g => (hG i g).elim hF (fun h' => by omega))).trans (h.block i hi hF)⟩
theorem Moved.mono {F G : Nat → Prop} {a b : World} (h : Moved F a b) (hG : ∀ i, F i → G i ∨ a.heap.size ≤ i) : Moved G a b :=
  ⟨h.os, h.tape, h.output, h.size, fun i hi hn => h.block i hi (fun f => (hG i f).elim hn (fun h' => by omega))⟩
theorem Moved.drew {F : Nat → Prop} {a b : World} (h : Moved F a b) : Moved F a b.drew := ⟨h.os, h.tape, h.output, h.size, h.block⟩
theorem Moved.alloc {F : Nat → Prop} {a b : World} (h : Moved F a b) (o : Obj) : Moved F a (b.alloc o) :=
  ⟨h.os, h.tape, h.output, by have := h.size; simp; omega, fun i hi hF => (Below.heap_alloc b o i (Nat.lt_of_lt_of_le hi h.size)).trans (h.block i hi hF)⟩
theorem Moved.setCell {F : Nat → Prop} {a b : World} (h : Moved F a b) {p : Addr} (hp : F p.block ∨ a.heap.size ≤ p.block) (u : Value) : Moved F a (b.setCell p u) :=
  ⟨h.os, h.tape, h.output, by simpa [World.setCell] using h.size, fun i hi hF => (Below.heap_setCell b p u i (fun e => by subst e; exact hp.elim hF (fun h' => by omega))).trans (h.block i hi hF)⟩
theorem Moved.grown {F : Nat → Prop} {a b c : World} {row : Option Nat} (h : Moved F a b) (hg : b.grownBy c row) (hr : ∀ k, row = some k → F k ∨ a.heap.size ≤ k) : Moved F a c :=
  ⟨hg.os.trans h.os, hg.tape.trans h.tape, hg.output.trans h.output, Nat.le_trans h.size hg.size, fun i hi hF =>
    (hg.block i (Nat.lt_of_lt_of_le hi h.size) (fun e => (hr i e.symm).elim hF (fun h' => by omega))).trans (h.block i hi hF)⟩
theorem Moved.below {F : Nat → Prop} {a b : World} {B : Nat} (h : Moved F a b) (hF : ∀ i, F i → B ≤ i) (hB : B ≤ a.heap.size) : Below B a b :=
  ⟨h.os, h.tape, h.output, h.size, fun k hk => h.block k (by omega) (fun f => by have := hF k f; omega)⟩
theorem Moved.of_below {F : Nat → Prop} {a b : World} (h : Below a.heap.size a b) : Moved F a b := ⟨h.os, h.tape, h.output, h.size, fun k hk _ => h.block k hk⟩
theorem Moved.cell {F : Nat → Prop} {a b : World} (h : Moved F a b) {p : Addr} (hp : p.block < a.heap.size) (hF : ¬ F p.block) : b.cell? p = a.cell? p := World.cell?_of_block (w := a) (h.block p.block hp hF)
theorem Moved.frozen {F : Nat → Prop} {a b : World} (h : Moved F a b) {p : Addr} (hp : p.block < a.heap.size) (hF : ¬ F p.block) : b.frozen? p = a.frozen? p := World.frozen?_of_block (w := a) (h.block p.block hp hF)

/-- Block B's first cells are these, and may be written. -/
structure RowAt (w : World) (B : Nat) (vs : List Value) : Prop where
  lt : B < w.heap.size
  cell : ∀ i, i < vs.length → w.cell? ⟨B, i, none⟩ = some (vs.getD i undef)
  free : ∀ i, i < vs.length → w.frozen? ⟨B, i, none⟩ = false
theorem RowAt.keep {F : Nat → Prop} {w w' : World} {B : Nat} {vs : List Value} (h : RowAt w B vs) (m : Moved F w w') (hF : ¬ F B) : RowAt w' B vs :=
  ⟨Nat.lt_of_lt_of_le h.lt m.size, fun i hi => (m.cell (p := ⟨B, i, none⟩) h.lt hF).trans (h.cell i hi), fun i hi => (m.frozen (p := ⟨B, i, none⟩) h.lt hF).trans (h.free i hi)⟩
theorem RowAt.set {w : World} {B : Nat} {vs : List Value} (h : RowAt w B vs) (i : Nat) (hi : i < vs.length) (v : Value) : RowAt (w.setCell ⟨B, i, none⟩ v) B (vs.set i v) := by
  refine ⟨by rw [World.size_setCell]; exact h.lt, fun j hj => ?_, fun j hj => ?_⟩
  · rw [List.length_set] at hj
    by_cases e : i = j
    · subst e
      rw [World.cell?_setCell_same (h := h.cell i hi), List.getD_eq_getElem?_getD, List.getElem?_set_self hi]
      rfl
    · rw [World.cell?_setCell_other (h := fun he => e (congrArg Addr.off he)), h.cell j hj, List.getD_eq_getElem?_getD (l := vs.set i v), List.getElem?_set_ne e, ← List.getD_eq_getElem?_getD]
  · rw [List.length_set] at hj
    rw [World.frozen?_setCell]; exact h.free j hj
theorem setCells_moved (w : World) (B i : Nat) (vs : List Value) : Moved (fun j => j = B) w (w.setCells B i vs) := by
  induction vs generalizing w i with
  | nil => exact Moved.refl _ _
  | cons v r ih => exact (((Moved.refl (fun j => j = B) w).setCell (p := ⟨B, i, none⟩) (.inl rfl) v)).trans (ih _ _) (fun _ h => .inl h)
theorem RowAt.range {w : World} {B : Nat} {vs : List Value} (h : RowAt w B vs) : w.rangeAt B 0 vs := fun j v hv => by
  obtain ⟨hj, e⟩ := List.getElem?_eq_some_iff.1 hv
  rw [Nat.zero_add, h.cell j hj, List.getD_eq_getElem?_getD, hv]; rfl
theorem RowAt.there {w : World} {B : Nat} {vs : List Value} (h : RowAt w B vs) : w.there B 0 vs.length := fun j hj => by
  rw [Nat.zero_add]
  exact ⟨by rw [h.cell j hj]; rfl, h.free j hj⟩
theorem RowAt.put {w : World} {B : Nat} {us : List Value} (h : RowAt w B us) (vs : List Value) (hl : us.length = vs.length) : RowAt (w.setCells B 0 vs) B vs := by
  have ht : w.there B 0 vs.length := by rw [← hl]; exact h.there
  refine ⟨Nat.lt_of_lt_of_le h.lt (setCells_moved w B 0 vs).size, fun i hi => ?_, fun i hi => ?_⟩
  · have := World.rangeAt_setCells_same w B 0 vs ht i _ (List.getElem?_eq_getElem hi)
    rw [Nat.zero_add] at this
    rw [this, List.getD_eq_getElem?_getD, List.getElem?_eq_getElem hi]; rfl
  · rw [World.frozen?_setCells]
    exact h.free i (by omega)
theorem results_cell_mid {P : Program} {fn : Func} {p : Tmp} {ty : TypeId} (h : fn.results = #[.cell p ty]) (tmps : Array Value) (w : World) (g : Nat) (cs : List Value) (d : TypeDesc)
    (hp : tmps.getD p undef = .pointer (some ⟨g, 0, none⟩)) (hc : w.rangeAt g 0 cs) (hu : P.underlying ty = some d) (hd : d.isRow = true) (hi : (P.info? ty).map (·.size) = some cs.length) :
    (results fn tmps).run P w = .ok (.agg cs.toArray) w := by
  have hp' : tmps[p]?.getD undef = .pointer (some ⟨g, 0, none⟩) := by simpa using hp
  simp [results, h, hp', asAddr, run_loadVar_mid w g 0 ty cs d hc hu hd hi]

theorem row_new (w : World) (vs : List Value) (t : TypeId) : RowAt (w.alloc (.cells vs.toArray t)) w.heap.size vs :=
  ⟨by simp, fun i hi => by rw [World.cell?_alloc_new]; simp [List.getD_eq_getElem?_getD, hi], fun i hi => World.frozen?_alloc_new w _ t i⟩
theorem row_old {w : World} {B : Nat} {vs : List Value} (h : RowAt w B vs) (o : Obj) : RowAt (w.alloc o) B vs := h.keep ((Moved.refl (fun _ => False) w).alloc o) id
theorem row_new2 (w : World) (vs us : List Value) (t u : TypeId) : RowAt ((w.alloc (.cells us.toArray u)).alloc (.cells vs.toArray t)) (w.heap.size + 1) vs := by
  have h := row_new (w.alloc (.cells us.toArray u)) vs t
  have e : (w.alloc (.cells us.toArray u)).heap.size = w.heap.size + 1 := by simp
  rw [e] at h
  exact h
end Go.Proofs.YtigmhljaoicdbaaGreat

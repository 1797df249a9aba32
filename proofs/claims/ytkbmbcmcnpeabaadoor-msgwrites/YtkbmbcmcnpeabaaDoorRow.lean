/- A row of cells in memory, and what may give up. No conditions. -/
import Derived.Test.YtkbmbcmcnpeabaaDoorInB
import Derived.Deep.MidRow
import Derived.Deep.Fields
import Derived.Recover
import Derived.WalkSmall
namespace Go.Proofs.YtkbmbcmcnpeabaaDoor
open Pk Go.RowKit

/-- Block B's first cells are these, and may be written. -/
structure RowAt (w : World) (B : Nat) (vs : List Value) : Prop where
  lt : B < w.heap.size
  cell : ∀ i, i < vs.length → w.cell? ⟨B, i, none⟩ = some (vs.getD i undef)
  free : ∀ i, i < vs.length → w.frozen? ⟨B, i, none⟩ = false
theorem RowAt.keep {F : Nat → Prop} {w w' : World} {B : Nat} {vs : List Value} (h : RowAt w B vs) (m : Moved F w w') (hF : ¬ F B) : RowAt w' B vs :=
  ⟨Nat.lt_of_lt_of_le h.lt m.size, fun i hi => (m.cell (p := ⟨B, i, none⟩) h.lt hF).trans (h.cell i hi), fun i hi => (m.frozen (p := ⟨B, i, none⟩) h.lt hF).trans (h.free i hi)⟩
theorem RowAt.set {w : World} {B : Nat} {vs : List Value} (h : RowAt w B vs) (i : Nat) (hi : i < vs.length) (v : Value) : RowAt (w.setCell ⟨B, i, none⟩ v) B (vs.set i v) := by
  refine ⟨by rw [World.size_setCell]; exact h.lt, fun j hj => ?_, fun j hj => ?_⟩
  · rw [List.length_set] at hj
    by_cases e : i = j
    · subst e
      rw [World.cell?_setCell_same (h := h.cell i hi), List.getD_eq_getElem?_getD, List.getElem?_set_self hi]
      rfl
    · rw [World.cell?_setCell_other (h := fun he => e (congrArg Addr.off he)), h.cell j hj, List.getD_eq_getElem?_getD (l := vs.set i v), List.getElem?_set_ne e, ← List.getD_eq_getElem?_getD]
  · rw [List.length_set] at hj
    rw [World.frozen?_setCell]; exact h.free j hj
theorem setCells_moved (w : World) (B i : Nat) (vs : List Value) : Moved (fun j => j = B) w (w.setCells B i vs) := by
  induction vs generalizing w i with
  | nil => exact Moved.refl _ _
  | cons v r ih => exact (((Moved.refl (fun j => j = B) w).setCell (p := ⟨B, i, none⟩) (.inl rfl) v)).trans (ih _ _) (fun _ h => .inl h)
theorem RowAt.range {w : World} {B : Nat} {vs : List Value} (h : RowAt w B vs) : w.rangeAt B 0 vs := fun j v hv => by
  obtain ⟨hj, e⟩ := List.getElem?_eq_some_iff.1 hv
  rw [Nat.zero_add, h.cell j hj, List.getD_eq_getElem?_getD, hv]; rfl
theorem RowAt.there {w : World} {B : Nat} {vs : List Value} (h : RowAt w B vs) : w.there B 0 vs.length := fun j hj => by
  rw [Nat.zero_add]
  exact ⟨by rw [h.cell j hj]; rfl, h.free j hj⟩
theorem RowAt.put {w : World} {B : Nat} {us : List Value} (h : RowAt w B us) (vs : List Value) (hl : us.length = vs.length) : RowAt (w.setCells B 0 vs) B vs := by
  have ht : w.there B 0 vs.length := by rw [← hl]; exact h.there
  refine ⟨Nat.lt_of_lt_of_le h.lt (setCells_moved w B 0 vs).size, fun i hi => ?_, fun i hi => ?_⟩
  · have := World.rangeAt_setCells_same w B 0 vs ht i _ (List.getElem?_eq_getElem hi)
    rw [Nat.zero_add] at this
    rw [this, List.getD_eq_getElem?_getD, List.getElem?_eq_getElem hi]; rfl
  · rw [World.frozen?_setCells]
    exact h.free i (by omega)
theorem results_cell_mid {P : Program} {fn : Func} {p : Tmp} {ty : TypeId} (h : fn.results = #[.cell p ty]) (tmps : Array Value) (w : World) (g : Nat) (cs : List Value) (d : TypeDesc)
    (hp : tmps.getD p undef = .pointer (some ⟨g, 0, none⟩)) (hc : w.rangeAt g 0 cs) (hu : P.underlying ty = some d) (hd : d.isRow = true) (hi : (P.info? ty).map (·.size) = some cs.length) :
    (results fn tmps).run P w = .ok (.agg cs.toArray) w := by
  have hp' : tmps[p]?.getD undef = .pointer (some ⟨g, 0, none⟩) := by simpa using hp
  simp [results, h, hp', asAddr, run_loadVar_mid w g 0 ty cs d hc hu hd hi]
theorem row_new (w : World) (vs : List Value) (t : TypeId) : RowAt (w.alloc (.cells vs.toArray t)) w.heap.size vs :=
  ⟨by simp, fun i hi => by rw [World.cell?_alloc_new]; simp [List.getD_eq_getElem?_getD, hi], fun i hi => World.frozen?_alloc_new w _ t i⟩
theorem row_old {w : World} {B : Nat} {vs : List Value} (h : RowAt w B vs) (o : Obj) : RowAt (w.alloc o) B vs := h.keep ((Moved.refl (fun _ => False) w).alloc o) id
theorem row_new2 (w : World) (vs us : List Value) (t u : TypeId) : RowAt ((w.alloc (.cells us.toArray u)).alloc (.cells vs.toArray t)) (w.heap.size + 1) vs := by
  have h := row_new (w.alloc (.cells us.toArray u)) vs t
  have e : (w.alloc (.cells us.toArray u)).heap.size = w.heap.size + 1 := by simp
  rw [e] at h
  exact h

/-- What is panicked with by who gives up with e. -/
def refused (e : Int) : List PanicEntry := [{ v := .iface 89 (.agg #[.int .i64 e]), recovered := false }]
theorem giveUp_any (e : Int) (w : World) : Calls Tryd.prog 23 #[.int .i64 e] w fun r w' => r = .panicked (refused e) ∧ w' = w := by
  go_enter Tryd.func23, Tryd.ntmps23
  go_wp2
  exact ⟨rfl, rfl, rfl⟩
end Go.Proofs.YtkbmbcmcnpeabaaDoor

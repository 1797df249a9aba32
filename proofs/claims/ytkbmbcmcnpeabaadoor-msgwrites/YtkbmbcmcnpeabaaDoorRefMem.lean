/- Pieces of a row of cells: written, read. No conditions. -/
import Derived.Test.YtkbmbcmcnpeabaaDoorRowMem
import Derived.Test.YtkbmbcmcnpeabaaDoorRddB
namespace Go.Proofs.YtkbmbcmcnpeabaaDoor
open Pk Go.RowKit

def setsL (vs : List Value) (o : Nat) : List Value → List Value
  | [] => vs
  | v :: r => setsL (vs.set o v) (o + 1) r
theorem RowAt.sets {B : Nat} (cs : List Value) : ∀ {w : World} {vs : List Value} (_ : RowAt w B vs) (o : Nat), o + cs.length ≤ vs.length → RowAt (w.setCells B o cs) B (setsL vs o cs) := by
  induction cs with
  | nil => intro w vs h o _; exact h
  | cons v r ih =>
    intro w vs h o hl
    simp only [List.length_cons] at hl
    exact ih (h.set o (by omega) v) (o + 1) (by rw [List.length_set]; omega)
theorem RowAt.rangeMid {w : World} {B : Nat} {vs : List Value} (h : RowAt w B vs) (o : Nat) (cs : List Value) (hc : ∀ j, j < cs.length → vs[o + j]? = cs[j]?) : w.rangeAt B o cs := fun j v hv => by
  have hj : j < cs.length := (List.getElem?_eq_some_iff.1 hv).1
  have e : vs[o + j]? = some v := (hc j hj).trans hv
  obtain ⟨hi, _⟩ := List.getElem?_eq_some_iff.1 e
  rw [h.cell _ hi, List.getD_eq_getElem?_getD, e]; rfl
theorem RowAt.thereMid {w : World} {B : Nat} {vs : List Value} (h : RowAt w B vs) (o n : Nat) (hl : o + n ≤ vs.length) : w.there B o n := fun j hj => ⟨by rw [h.cell _ (by omega)]; rfl, h.free _ (by omega)⟩
theorem range8 {w : World} {A : Nat} {m : MsgV} {a1 a2 : Option Addr} {c1 c2 : Nat} (h : RowAt w A (msgCells m a1 c1 a2 c2)) : w.rangeAt A 9 (itemCells m.item) := h.rangeMid 9 _ fun j hj => by
  have hj' : j < 8 := hj
  have : j = 0 ∨ j = 1 ∨ j = 2 ∨ j = 3 ∨ j = 4 ∨ j = 5 ∨ j = 6 ∨ j = 7 := by omega
  rcases this with rfl | rfl | rfl | rfl | rfl | rfl | rfl | rfl <;> rfl
theorem range3 {w : World} {A : Nat} {m : MsgV} {a1 a2 : Option Addr} {c1 c2 : Nat} (h : RowAt w A (msgCells m a1 c1 a2 c2)) : w.rangeAt A 17 [.int .i64 m.epoch, .int .i64 m.nodes, .slice a1 m.owner.length c1] := h.rangeMid 17 _ fun j hj => by
  have hj' : j < 3 := hj
  have : j = 0 ∨ j = 1 ∨ j = 2 := by omega
  rcases this with rfl | rfl | rfl <;> rfl

end Go.Proofs.YtkbmbcmcnpeabaaDoor

/- What the store's Set does. Conditions: the window's key is no longer than a machine's texts, its numbers are int64's; the store has at most 32 windows. -/
import Derived.Test.YtmgmkdkdpeljmabPutS
namespace Go.Proofs.Ytmgmkdkdpeljmab
open Go.RowKit

theorem StIs.below {w w' : World} {p : Nat} {F : Nat → Prop} {l : List (Win AggV)} (h : StIs w p F l) (hb : Below w.heap.size w w') : StIs w' p F l := h.keep (Moved.of_below (F := fun _ => False) hb) (fun _ f => f.elim)
theorem RowAt.below {w w' : World} {B : Nat} {vs : List Value} (h : RowAt w B vs) (hb : Below w.heap.size w w') : RowAt w' B vs := h.keep (Moved.of_below (F := fun _ => False) hb) id
theorem Did.below {w v w' : World} {p : Nat} {F : Nat → Prop} {l : List (Win AggV)} (hb : Below w.heap.size w v) (h : Did v w' p F l) : Did w w' p F l := Did.trans (F := F) (fun _ f => .inl f) ((Moved.of_below (F := fun _ => False) hb).mono fun _ f => f.elim) h
theorem outV_range {w : World} {H : Nat} {x : Win AggV} (h : RowAt w H (outV x)) : w.rangeAt H 2 (cellsA x.agg) := fun j u hu => by
  have := h.range (2 + j) u (by rw [Nat.add_comm]; exact hu)
  rwa [Nat.zero_add] at this
theorem outV_c0 {w : World} {H : Nat} {x : Win AggV} (h : RowAt w H (outV x)) : w.cell? ⟨H, 0, none⟩ = some (.string ⟨x.key.toArray⟩) := h.cell 0 (Nat.succ_pos _)
theorem outV_c1 {w : World} {H : Nat} {x : Win AggV} (h : RowAt w H (outV x)) : w.cell? ⟨H, 1, none⟩ = some (.int .i64 x.start) := h.cell 1 (Nat.lt_of_sub_pos (Nat.succ_pos _))
end Go.Proofs.Ytmgmkdkdpeljmab

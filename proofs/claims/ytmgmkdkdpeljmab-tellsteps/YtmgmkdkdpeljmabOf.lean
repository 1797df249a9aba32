/- What the program's Of answers: the plain one; nothing that was there has turned. Conditions: all numbers are int64's. -/
import Derived.Test.YtmgmkdkdpeljmabPut
namespace Go.Proofs.Ytmgmkdkdpeljmab
open Go.RowKit

/-- A row of numbers that lies from a on. -/
def Ints (w : World) (a : Option Addr) (xs : List Int) : Prop := ∀ i, i < xs.length → ∃ x, a = some x ∧ w.cell? (x.add i) = some (.int .i64 (xs.getD i 0))
theorem add_block (x : Addr) (i : Nat) : (x.add i).block = x.block := by unfold Addr.add; split <;> rfl
theorem Ints.keep {w w' : World} {a : Option Addr} {xs : List Int} (h : Ints w a xs) (hb : Below w.heap.size w w') : Ints w' a xs := fun i hi => by
  obtain ⟨x, rfl, hc⟩ := h i hi
  have hlt := World.block_lt_of_cell? _ _ hc
  exact ⟨x, rfl, (hb.cell hlt).trans hc⟩
theorem getD_mem {xs : List Int} {i : Nat} (h : i < xs.length) : xs.getD i 0 ∈ xs := by
  rw [List.getD_eq_getElem?_getD, List.getElem?_eq_getElem h]; exact List.getElem_mem h
theorem of_take {xs : List Int} {k : Nat} (h : k < xs.length) : of (xs.take (k + 1)) = put (of (xs.take k)) (xs.getD k 0) := by
  rw [List.take_succ_eq_append_getElem h, of_snoc, List.getD_eq_getElem?_getD, List.getElem?_eq_getElem h]; rfl

end Go.Proofs.Ytmgmkdkdpeljmab

/- What the document's own Num, Zig and Text, and write and bytes of the statements, answer. Condition: texts are no longer than a machine's. -/
import Derived.Test.YthjoojbdjinonabParts
namespace Go.Proofs.Ythjoojbdjinonab
open Pk Go.RowKit

/-- One byte as a text. -/
theorem conv_one (B : Nat) (b : UInt8) (W : World) (h : W.cell? ⟨B, 0, none⟩ = some (.int .u8 (b.toNat : Int))) : Sem.run Try.prog (convert 25 9 (.slice (some ⟨B, 0, none⟩) 1 1)) W = .ok (.string ⟨#[b]⟩) W := by
  refine run_convert_bytes_back W 25 9 5 ⟨B, 0, none⟩ 1 [b] Try.underlying25 Try.underlying5 Try.underlying9 fun j hj => ?_
  have : j = 0 := by simp at hj; omega
  subst this
  exact h

/-- .. in a later world. -/
theorem conv_after {w w' : World} {b : UInt8} (h : Below (w.alloc (.cells #[.int .u8 (b.toNat : Int)] 5)).drew.heap.size (w.alloc (.cells #[.int .u8 (b.toNat : Int)] 5)).drew w') :
    Sem.run Try.prog (convert 25 9 (.slice (some ⟨w.heap.size, 0, none⟩) 1 1)) w' = .ok (.string ⟨#[b]⟩) w' :=
  conv_one _ b _ ((h.cell (p := ⟨w.heap.size, 0, none⟩) (by simp)).trans (by simp))
end Go.Proofs.Ythjoojbdjinonab

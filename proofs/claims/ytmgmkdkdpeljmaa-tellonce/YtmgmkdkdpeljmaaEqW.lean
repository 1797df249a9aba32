/- Two windows held against each other. No conditions. -/
import Derived.Test.YtmgmkdkdpeljmaaEq
import Derived.Test.YtmgmkdkdpeljmaaFind
namespace Go.Proofs.Ytmgmkdkdpeljmaa
open Go.RowKit
deriving instance DecidableEq for Win
def sameW (x y : Win AggV) : Bool := decide (x = y)
set_option maxRecDepth 100000 in
theorem eq34l (xk yk : List UInt8) (xs ys a0 a1 a2 a3' a4 a5 a6 a7 b0 b1 b2 b3 b4 b5 b6 b7 : Int) (w : World) : (Op.equalIn 10000 38 (.agg #[.string ⟨xk.toArray⟩, .int .i64 xs, .int .i64 a0, .int .i64 a1, .int .i64 a2, .int .i64 a3', .int .i64 a4, .int .i64 a5, .int .i64 a6, .int .i64 a7]) (.agg #[.string ⟨yk.toArray⟩, .int .i64 ys, .int .i64 b0, .int .i64 b1, .int .i64 b2, .int .i64 b3, .int .i64 b4, .int .i64 b5, .int .i64 b6, .int .i64 b7])).run Try.prog w = .ok (sameW ⟨xk, xs, ⟨a0, a1, a2, a3', a4, a5, a6, a7⟩⟩ ⟨yk, ys, ⟨b0, b1, b2, b3, b4, b5, b6, b7⟩⟩) w := by
  have u2 := Try.underlying2
  have g2 := Try.isAgg2
  have z2 := Try.sizeOf2
  have u9 := Try.underlying9
  have g9 := Try.isAgg9
  have z9 := Try.sizeOf9
  have u32 := Try.underlying34
  have g32 := Try.isAgg34
  have z32 := Try.sizeOf34
  have hS : Try.prog.underlying 38 = some (.struct (Try.prog.fieldsOf 38)) := by kernel_rfl
  have hp : Try.prog.stoodInHeld 38 = false := by kernel_rfl
  rw [show (10000 : Nat) = 9999 + 1 from rfl, run_equalIn_agg w 9999 38 _ _ hS hp]
  simp only [Program.fieldsOf, Try.underlying38]
  go_simp
  rw [show (9998 : Nat) = 9996 + 2 from rfl, eq22]
  unfold sameW
  by_cases k0 : xk = yk <;> by_cases k1 : xs = ys <;> by_cases h0 : a0 = b0 <;> by_cases h1 : a1 = b1 <;> by_cases h2 : a2 = b2 <;> by_cases h3 : a3' = b3 <;> simp [k0, k1, h0, h1, h2, h3]
  by_cases h4 : a4 = b4 <;> by_cases h5 : a5 = b5 <;> by_cases h6 : a6 = b6 <;> by_cases h7 : a7 = b7 <;> simp [h4, h5, h6, h7]
@[go_sem high] theorem neq34 (xk yk : List UInt8) (xs ys a0 a1 a2 a3' a4 a5 a6 a7 b0 b1 b2 b3 b4 b5 b6 b7 : Int) (w : World) : (binOp .neq 38 (.agg #[.string ⟨xk.toArray⟩, .int .i64 xs, .int .i64 a0, .int .i64 a1, .int .i64 a2, .int .i64 a3', .int .i64 a4, .int .i64 a5, .int .i64 a6, .int .i64 a7]) (.agg #[.string ⟨yk.toArray⟩, .int .i64 ys, .int .i64 b0, .int .i64 b1, .int .i64 b2, .int .i64 b3, .int .i64 b4, .int .i64 b5, .int .i64 b6, .int .i64 b7])).run Try.prog w = .ok (.bool (!sameW ⟨xk, xs, ⟨a0, a1, a2, a3', a4, a5, a6, a7⟩⟩ ⟨yk, ys, ⟨b0, b1, b2, b3, b4, b5, b6, b7⟩⟩)) w := by
  rw [run_neq_struct, eq34l]; rfl
@[go_sem] theorem guard34 (op : BinOp) (x y : Operand) (xs ys : Array Value) (w : World) : (eqGuard op 38 x y (.agg xs) (.agg ys)).run Try.prog w = .ok () w := run_eqGuard_agg w op 38 x y _ _ (by kernel_rfl)
end Go.Proofs.Ytmgmkdkdpeljmaa

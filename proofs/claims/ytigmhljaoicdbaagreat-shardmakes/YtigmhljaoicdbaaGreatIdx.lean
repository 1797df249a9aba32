/- An array's value, read at a place. No conditions. -/
import Derived.Test.YtigmhljaoicdbaaGreatEq
namespace Go.Proofs.YtigmhljaoicdbaaGreat
open Go.RowKit
@[go_sem] theorem idx22_0 (a0 a1 a2 a3 : Int) (w : World) : (Instr.index 48 (.agg #[.int .i64 a0, .int .i64 a1, .int .i64 a2, .int .i64 a3]) (.int .i64 0)).run Tryz.prog w = .ok (.int .i64 a0) w := by
  have u2 := Tryz.underlying2
  have g2 := Tryz.isAgg2
  have z2 := Tryz.sizeOf2
  simp [Instr.index, run_underlying Tryz.underlying48, asIntOf, go_sem, part, g2, z2]
@[go_sem] theorem idx22_1 (a0 a1 a2 a3 : Int) (w : World) : (Instr.index 48 (.agg #[.int .i64 a0, .int .i64 a1, .int .i64 a2, .int .i64 a3]) (.int .i64 1)).run Tryz.prog w = .ok (.int .i64 a1) w := by
  have u2 := Tryz.underlying2
  have g2 := Tryz.isAgg2
  have z2 := Tryz.sizeOf2
  simp [Instr.index, run_underlying Tryz.underlying48, asIntOf, go_sem, part, g2, z2]
@[go_sem] theorem idx22_2 (a0 a1 a2 a3 : Int) (w : World) : (Instr.index 48 (.agg #[.int .i64 a0, .int .i64 a1, .int .i64 a2, .int .i64 a3]) (.int .i64 2)).run Tryz.prog w = .ok (.int .i64 a2) w := by
  have u2 := Tryz.underlying2
  have g2 := Tryz.isAgg2
  have z2 := Tryz.sizeOf2
  simp [Instr.index, run_underlying Tryz.underlying48, asIntOf, go_sem, part, g2, z2]
@[go_sem] theorem idx22_3 (a0 a1 a2 a3 : Int) (w : World) : (Instr.index 48 (.agg #[.int .i64 a0, .int .i64 a1, .int .i64 a2, .int .i64 a3]) (.int .i64 3)).run Tryz.prog w = .ok (.int .i64 a3) w := by
  have u2 := Tryz.underlying2
  have g2 := Tryz.isAgg2
  have z2 := Tryz.sizeOf2
  simp [Instr.index, run_underlying Tryz.underlying48, asIntOf, go_sem, part, g2, z2]
end Go.Proofs.YtigmhljaoicdbaaGreat

/- Two aggregates held against each other. No conditions. -/
import Derived.Test.YtigmhljaoicdbaaGreatCalls
import Derived.Laws.StructEq
import Derived.ChangeKeysEq
namespace Go.Proofs.YtigmhljaoicdbaaGreat
open Go.RowKit

def sameA (a b : AggV) : Bool := decide (a = b)
theorem sameA_self (a : AggV) : sameA a a = true := by unfold sameA; simp
theorem eq22 (d : Nat) (a4 a5 a6 a7 b4 b5 b6 b7 : Int) (w : World) : (Op.equalIn (d + 2) 48 (.agg #[.int .i64 a4, .int .i64 a5, .int .i64 a6, .int .i64 a7]) (.agg #[.int .i64 b4, .int .i64 b5, .int .i64 b6, .int .i64 b7])).run Tryz.prog w = .ok (decide (a4 = b4 ∧ a5 = b5 ∧ a6 = b6 ∧ a7 = b7)) w := by
  have u2 := Tryz.underlying2
  have a2 := Tryz.isAgg2
  have z2 := Tryz.sizeOf2
  have hc : Tryz.prog.cellsOf 2 = 1 := by kernel_rfl
  obtain ⟨i, hi⟩ : ∃ i, Tryz.prog.info? 2 = some i := by
    cases h : Tryz.prog.info? 2 with
    | none => exact absurd (show (Tryz.prog.info? 2).isSome = true by kernel_rfl) (by rw [h]; simp)
    | some i => exact ⟨i, rfl⟩
  rw [run_equalIn_array w (d + 1) _ _ Tryz.underlying48 hi, hc]
  simp only [show List.range 4 = [0, 1, 2, 3] from rfl]
  simp only [Op.eqItems]
  go_simp
  by_cases h1 : a4 = b4 <;> by_cases h2 : a5 = b5 <;> by_cases h3 : a6 = b6 <;> by_cases h4 : a7 = b7 <;> simp [h1, h2, h3, h4]
theorem eq24l (a0 a1 a2 a3' a4 a5 a6 a7 b0 b1 b2 b3 b4 b5 b6 b7 : Int) (w : World) : (Op.equalIn 10000 50 (.agg #[.int .i64 a0, .int .i64 a1, .int .i64 a2, .int .i64 a3', .int .i64 a4, .int .i64 a5, .int .i64 a6, .int .i64 a7]) (.agg #[.int .i64 b0, .int .i64 b1, .int .i64 b2, .int .i64 b3, .int .i64 b4, .int .i64 b5, .int .i64 b6, .int .i64 b7])).run Tryz.prog w = .ok (sameA ⟨a0, a1, a2, a3', a4, a5, a6, a7⟩ ⟨b0, b1, b2, b3, b4, b5, b6, b7⟩) w := by
  have u3 := Tryz.underlying2
  have a3 := Tryz.isAgg2
  have z3 := Tryz.sizeOf2
  have u9 := Tryz.underlying48
  have a9 := Tryz.isAgg48
  have z9 := Tryz.sizeOf48
  have hS : Tryz.prog.underlying 50 = some (.struct (Tryz.prog.fieldsOf 50)) := by kernel_rfl
  have hp : Tryz.prog.stoodInHeld 50 = false := by kernel_rfl
  rw [show (10000 : Nat) = 9999 + 1 from rfl, run_equalIn_agg w 9999 50 _ _ hS hp]
  simp only [Program.fieldsOf, Tryz.underlying50]
  go_simp
  rw [show (9999 : Nat) = 9997 + 2 from rfl, eq22]
  unfold sameA
  by_cases h0 : a0 = b0 <;> by_cases h1 : a1 = b1 <;> by_cases h2 : a2 = b2 <;> by_cases h3 : a3' = b3 <;> simp [h0, h1, h2, h3]
  by_cases h4 : a4 = b4 <;> by_cases h5 : a5 = b5 <;> by_cases h6 : a6 = b6 <;> by_cases h7 : a7 = b7 <;> simp [h4, h5, h6, h7]
@[go_sem] theorem eq22n (a4 a5 a6 a7 b4 b5 b6 b7 : Int) (w : World) : (Op.equalIn 9999 48 (.agg #[.int .i64 a4, .int .i64 a5, .int .i64 a6, .int .i64 a7]) (.agg #[.int .i64 b4, .int .i64 b5, .int .i64 b6, .int .i64 b7])).run Tryz.prog w = .ok (decide (a4 = b4 ∧ a5 = b5 ∧ a6 = b6 ∧ a7 = b7)) w := eq22 9997 _ _ _ _ _ _ _ _ w
theorem eq24 (a b : AggV) (w : World) : (Op.equalIn 10000 50 (aggV a) (aggV b)).run Tryz.prog w = .ok (sameA a b) w := eq24l _ _ _ _ _ _ _ _ _ _ _ _ _ _ _ _ w
@[go_sem] theorem eq24v (a b : AggV) (w : World) : (binOp .eql 50 (aggV a) (aggV b)).run Tryz.prog w = .ok (.bool (sameA a b)) w := by
  have h := eq24 a b w
  unfold aggV at h ⊢
  rw [run_eql_struct, h]; rfl
@[go_sem] theorem eq24w (a : AggV) (b0 b1 b2 b3 b4 b5 b6 b7 : Int) (w : World) : (binOp .eql 50 (aggV a) (.agg #[.int .i64 b0, .int .i64 b1, .int .i64 b2, .int .i64 b3, .int .i64 b4, .int .i64 b5, .int .i64 b6, .int .i64 b7])).run Tryz.prog w = .ok (.bool (sameA a ⟨b0, b1, b2, b3, b4, b5, b6, b7⟩)) w := eq24v a ⟨b0, b1, b2, b3, b4, b5, b6, b7⟩ w
@[go_sem] theorem guard24v (op : BinOp) (x y : Operand) (a b : AggV) (w : World) : (eqGuard op 50 x y (aggV a) (aggV b)).run Tryz.prog w = .ok () w := run_eqGuard_agg w op 50 x y _ _ (by kernel_rfl)
@[go_sem] theorem guard24w (op : BinOp) (x y : Operand) (a : AggV) (ys : Array Value) (w : World) : (eqGuard op 50 x y (aggV a) (.agg ys)).run Tryz.prog w = .ok () w := run_eqGuard_agg w op 50 x y _ _ (by kernel_rfl)
end Go.Proofs.YtigmhljaoicdbaaGreat

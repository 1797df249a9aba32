/- What the program's comparison of two messages needs of the model: fields' addresses, loads, equalities. No conditions. -/
import Derived.Test.YtkbmbcmcnpeabaaDoorChain
import Derived.Test.YtkbmbcmcnpeabaaDoorEq
namespace Go.Proofs.YtkbmbcmcnpeabaaDoor
open Pk Go.RowKit

theorem fld0 (A : Nat) : Fld Tryd.prog 29 (.pointer (some ⟨A, 0, none⟩)) 0 (.pointer (some ⟨A, 0, none⟩)) := fun w => by kernel_rfl
theorem fld1 (A : Nat) : Fld Tryd.prog 29 (.pointer (some ⟨A, 0, none⟩)) 1 (.pointer (some ⟨A, 1, none⟩)) := fun w => by kernel_rfl
theorem fld2 (A : Nat) : Fld Tryd.prog 29 (.pointer (some ⟨A, 0, none⟩)) 2 (.pointer (some ⟨A, 2, none⟩)) := fun w => by kernel_rfl
theorem fld3 (A : Nat) : Fld Tryd.prog 29 (.pointer (some ⟨A, 0, none⟩)) 3 (.pointer (some ⟨A, 3, none⟩)) := fun w => by kernel_rfl
theorem fld4 (A : Nat) : Fld Tryd.prog 29 (.pointer (some ⟨A, 0, none⟩)) 4 (.pointer (some ⟨A, 4, none⟩)) := fun w => by kernel_rfl
theorem fld5 (A : Nat) : Fld Tryd.prog 29 (.pointer (some ⟨A, 0, none⟩)) 5 (.pointer (some ⟨A, 5, none⟩)) := fun w => by kernel_rfl
theorem fld6 (A : Nat) : Fld Tryd.prog 29 (.pointer (some ⟨A, 0, none⟩)) 6 (.pointer (some ⟨A, 6, none⟩)) := fun w => by kernel_rfl
theorem fld7 (A : Nat) : Fld Tryd.prog 29 (.pointer (some ⟨A, 0, none⟩)) 7 (.pointer (some ⟨A, 7, none⟩)) := fun w => by kernel_rfl
theorem fld8 (A : Nat) : Fld Tryd.prog 29 (.pointer (some ⟨A, 0, none⟩)) 8 (.pointer (some ⟨A, 8, none⟩)) := fun w => by kernel_rfl
theorem fld9 (A : Nat) : Fld Tryd.prog 29 (.pointer (some ⟨A, 0, none⟩)) 9 (.pointer (some ⟨A, 9, none⟩)) := fun w => by kernel_rfl
theorem fld10 (A : Nat) : Fld Tryd.prog 29 (.pointer (some ⟨A, 0, none⟩)) 10 (.pointer (some ⟨A, 17, none⟩)) := fun w => by kernel_rfl
theorem fld11 (A : Nat) : Fld Tryd.prog 29 (.pointer (some ⟨A, 0, none⟩)) 11 (.pointer (some ⟨A, 20, none⟩)) := fun w => by kernel_rfl
theorem fld12 (A : Nat) : Fld Tryd.prog 29 (.pointer (some ⟨A, 0, none⟩)) 12 (.pointer (some ⟨A, 21, none⟩)) := fun w => by kernel_rfl
theorem fldT0 (A : Nat) : Fld Tryd.prog 27 (.pointer (some ⟨A, 17, none⟩)) 0 (.pointer (some ⟨A, 17, none⟩)) := fun w => by kernel_rfl
theorem fldT1 (A : Nat) : Fld Tryd.prog 27 (.pointer (some ⟨A, 17, none⟩)) 1 (.pointer (some ⟨A, 18, none⟩)) := fun w => by kernel_rfl
theorem fldT2 (A : Nat) : Fld Tryd.prog 27 (.pointer (some ⟨A, 17, none⟩)) 2 (.pointer (some ⟨A, 19, none⟩)) := fun w => by kernel_rfl
theorem ld_u8 {w : World} {p : Addr} {x : Int} (h : w.cell? p = some (.int .u8 x)) : (Instr.loadAt 5 (.pointer (some p))).run Tryd.prog w = .ok (.int .u8 x) w := by
  have := Tryd.underlying5
  simp [go_sem, Instr.loadAt, h]
theorem eqv_u8 (x y : Int) : Eqv Tryd.prog 5 (.int .u8 x) (.int .u8 y) (decide (x = y)) := fun w _ _ => by
  simp [go_sem]
  rfl
theorem ld_int {w : World} {p : Addr} {x : Int} (h : w.cell? p = some (.int .i64 x)) : (Instr.loadAt 3 (.pointer (some p))).run Tryd.prog w = .ok (.int .i64 x) w := by
  have := Tryd.underlying3
  simp [go_sem, Instr.loadAt, h]
theorem eqv_int (x y : Int) : Eqv Tryd.prog 3 (.int .i64 x) (.int .i64 y) (decide (x = y)) := fun w _ _ => by
  simp [go_sem]
  rfl
theorem ld_i64 {w : World} {p : Addr} {x : Int} (h : w.cell? p = some (.int .i64 x)) : (Instr.loadAt 2 (.pointer (some p))).run Tryd.prog w = .ok (.int .i64 x) w := by
  have := Tryd.underlying2
  simp [go_sem, Instr.loadAt, h]
theorem eqv_i64 (x y : Int) : Eqv Tryd.prog 2 (.int .i64 x) (.int .i64 y) (decide (x = y)) := fun w _ _ => by
  simp [go_sem]
  rfl
theorem ld_u64 {w : World} {p : Addr} {x : Int} (h : w.cell? p = some (.int .u64 x)) : (Instr.loadAt 22 (.pointer (some p))).run Tryd.prog w = .ok (.int .u64 x) w := by
  have := Tryd.underlying22
  simp [go_sem, Instr.loadAt, h]
theorem eqv_u64 (x y : Int) : Eqv Tryd.prog 22 (.int .u64 x) (.int .u64 y) (decide (x = y)) := fun w _ _ => by
  simp [go_sem]
  rfl
theorem ld_str {w : World} {p : Addr} {x : ByteArray} (h : w.cell? p = some (.string x)) : (Instr.loadAt 9 (.pointer (some p))).run Tryd.prog w = .ok (.string x) w := by
  have := Tryd.underlying9
  simp [go_sem, Instr.loadAt, h]
theorem ld_ints {w : World} {p : Addr} {x : Option Addr} {l c : Nat} (h : w.cell? p = some (.slice x l c)) : (Instr.loadAt 25 (.pointer (some p))).run Tryd.prog w = .ok (.slice x l c) w := by
  have := Tryd.underlying25
  simp [go_sem, Instr.loadAt, h]
theorem beq_dec {α : Type} [BEq α] [LawfulBEq α] [DecidableEq α] (x y : α) : (x == y) = decide (x = y) := by rw [Bool.eq_iff_iff]; simp
theorem eqv_str (x y : List UInt8) : Eqv Tryd.prog 9 (.string ⟨x.toArray⟩) (.string ⟨y.toArray⟩) (decide (x = y)) := fun w _ _ => by
  simp [go_sem]
  exact beq_dec _ _
/-- An item's cells. -/
def itemCells (x : ItemV) : List Value := [.int .i64 x.src, .int .i64 x.seq, .int .i64 x.low, .int .u8 (x.kind.toNat : Int), .string ⟨x.key.toArray⟩, .int .i64 x.part, .int .i64 x.at_, .int .i64 x.n]
theorem guard27 (op : BinOp) (x y : Operand) (xs ys : Array Value) (w : World) : (eqGuard op 24 x y (.agg xs) (.agg ys)).run Tryd.prog w = .ok () w := run_eqGuard_agg w op 24 x y xs ys (by kernel_rfl)
/-- Are two items the same? -/
def sameItem (x y : ItemV) : Bool := decide (x.src = y.src) && (decide (x.seq = y.seq) && (decide (x.low = y.low) && (decide (x.kind = y.kind) && (decide (x.key = y.key) && (decide (x.part = y.part) && (decide (x.at_ = y.at_) && decide (x.n = y.n)))))))
theorem sameItem_iff (x y : ItemV) : sameItem x y = true ↔ x = y := by
  unfold sameItem
  cases x; cases y
  simp
theorem kind_cast (a b : UInt8) : ((a.toNat : Int) = (b.toNat : Int)) = (a = b) := by
  apply propext
  constructor
  · intro h; exact UInt8.toNat_inj.1 (by omega)
  · rintro rfl; rfl
theorem eq27 (x y : ItemV) (w : World) : (Op.equalIn 10000 24 (.agg (itemCells x).toArray) (.agg (itemCells y).toArray)).run Tryd.prog w = .ok (sameItem x y) w := by
  have u3 := Tryd.underlying3
  have a3 := Tryd.isAgg3
  have z3 := Tryd.sizeOf3
  have u9 := Tryd.underlying9
  have a9 := Tryd.isAgg9
  have z9 := Tryd.sizeOf9
  have u5 := Tryd.underlying5
  have a5 := Tryd.isAgg5
  have z5 := Tryd.sizeOf5
  have u2 := Tryd.underlying2
  have a2 := Tryd.isAgg2
  have z2 := Tryd.sizeOf2
  have hS : Tryd.prog.underlying 24 = some (.struct (Tryd.prog.fieldsOf 24)) := by kernel_rfl
  have hp : Tryd.prog.stoodInHeld 24 = false := by kernel_rfl
  rw [show (10000 : Nat) = 9999 + 1 from rfl, run_equalIn_agg w 9999 24 _ _ hS hp]
  simp only [Program.fieldsOf, Tryd.underlying24, itemCells]
  go_simp
  simp only [kind_cast]
  unfold sameItem
  repeat' split
  all_goals simp_all
theorem eqv_item (x y : ItemV) : Eqv Tryd.prog 24 (.agg (itemCells x).toArray) (.agg (itemCells y).toArray) (sameItem x y) := fun w p q => by
  have h := eq27 x y w
  have hg := guard27 .eql p q (itemCells x).toArray (itemCells y).toArray w
  generalize (itemCells x).toArray = X at *
  generalize (itemCells y).toArray = Y at *
  generalize sameItem x y = r at *
  have e : binOp .eql 24 (.agg X) (.agg Y) = (do let b ← Op.equal 24 (.agg X) (.agg Y); pure (.bool b)) := rfl
  have e2 : (Op.equal 24 (.agg X) (.agg Y)).run Tryd.prog w = .ok r w := h
  have e3 : (binOp .eql 24 (.agg X) (.agg Y)).run Tryd.prog w = .ok (.bool r) w := by
    rw [e, Sem.run_bind, e2]
    rfl
  rw [Sem.run_bind, hg]
  simp only [Result.andThen]
  rw [e3]
theorem run_call2 {a : Act} {w : World} {x y : Nat} {u v : Value} (hx : a.tmps[x]? = some u) (hy : a.tmps[y]? = some v) (o : Oper)
    (hp : o.op = .call { callee := .value (.func 48), args := #[.tmp x, .tmp y], argTypes := #[25, 25] }) : (execOp a.eval o).run Tryd.prog w = .ok (.enter 48 #[u, v]) w := by
  simp [execOp, hp, resolve, hx, hy, go_sem]
end Go.Proofs.YtkbmbcmcnpeabaaDoor

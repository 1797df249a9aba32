/- What the program's Right, and the document's, answer: the plain one; nothing that was there has turned. Conditions: all numbers are int64's. -/
import Derived.Test.YtigmhljaoicdbabGreatHist
import Derived.Test.YtigmhljaoicdbabGreatRefA
namespace Go.Proofs.YtigmhljaoicdbabGreat
open Go.RowKit

theorem same_parts (ac aS amn amx a0 a1 a2 a3 : Int) : sameA ⟨ac, aS, amn, amx, a0, a1, a2, a3⟩ ⟨0, 0, 0, 0, 0, 0, 0, 0⟩ = (decide (ac = 0) && decide (aS = 0) && decide (amn = 0) && decide (amx = 0) && decide (a0 = 0 ∧ a1 = 0 ∧ a2 = 0 ∧ a3 = 0)) := by
  unfold sameA
  simp [Bool.and_assoc]
theorem zero_same (a : AggV) : sameA a ⟨0, 0, 0, 0, 0, 0, 0, 0⟩ = isZero a := by
  obtain ⟨ac, aS, amn, amx, a0, a1, a2, a3⟩ := a
  unfold sameA isZero
  simp [Bool.and_assoc]
theorem right_zero (a : AggV) (h : a.count = 0) : right a = sameA a ⟨0, 0, 0, 0, 0, 0, 0, 0⟩ := by unfold right; rw [if_pos h, zero_same]
theorem right_neg (a : AggV) (h : ¬ a.count = 0) (h1 : ¬ 0 < a.count) : right a = false := by unfold right; rw [if_neg h]; simp [h1]
theorem right_ord (a : AggV) (h : ¬ a.count = 0) (h1 : ¬ a.mn ≤ a.mx) : right a = false := by unfold right; rw [if_neg h]; simp [h1]
theorem right_hist (a : AggV) (h : 0 < a.count) (h1 : a.mn ≤ a.mx) : right a = rightHist a := by unfold right; rw [if_neg (by omega)]; simp [h, h1]
end Go.Proofs.YtigmhljaoicdbabGreat

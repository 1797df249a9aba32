/- What the program's rightHist answers: the plain one; nothing that was there has turned. Conditions: all numbers are int64's. -/
import Derived.Test.YtigmhljaoicdbabGreatIdx
namespace Go.Proofs.YtigmhljaoicdbabGreat
open Go.RowKit

def stF (l n i : Int) : Int := if 0 < n ∧ l < 0 then i else l
def stG (g n i : Int) : Int := if 0 < n then i else g
def stH (b : Bool) (n : Int) : Bool := b || decide (n = 9223372036854775807)
theorem stF_yes {l n i : Int} (h : 0 < n ∧ l < 0) : stF l n i = i := if_pos h
theorem stF_no {l n i : Int} (h : ¬ (0 < n ∧ l < 0)) : stF l n i = l := if_neg h
theorem stG_yes {g n i : Int} (h : 0 < n) : stG g n i = i := if_pos h
theorem stG_no {g n i : Int} (h : ¬ 0 < n) : stG g n i = g := if_neg h
theorem stH_f (n : Int) : Value.bool (n == 9223372036854775807) = .bool (stH false n) := rfl
theorem stH_t (n : Int) : Value.bool true = .bool (stH true n) := rfl
def fS (a : AggV) : Nat → Int
  | 0 => 0
  | 1 => plus 0 a.h0
  | 2 => plus (plus 0 a.h0) a.h1
  | 3 => plus (plus (plus 0 a.h0) a.h1) a.h2
  | _ => plus (plus (plus (plus 0 a.h0) a.h1) a.h2) a.h3
def fF (a : AggV) : Nat → Int
  | 0 => -1
  | 1 => stF (-1) a.h0 0
  | 2 => stF (stF (-1) a.h0 0) a.h1 1
  | 3 => stF (stF (stF (-1) a.h0 0) a.h1 1) a.h2 2
  | _ => stF (stF (stF (stF (-1) a.h0 0) a.h1 1) a.h2 2) a.h3 3
def fG (a : AggV) : Nat → Int
  | 0 => -1
  | 1 => stG (-1) a.h0 0
  | 2 => stG (stG (-1) a.h0 0) a.h1 1
  | 3 => stG (stG (stG (-1) a.h0 0) a.h1 1) a.h2 2
  | _ => stG (stG (stG (stG (-1) a.h0 0) a.h1 1) a.h2 2) a.h3 3
def fH (a : AggV) : Nat → Bool
  | 0 => false
  | 1 => stH false a.h0
  | 2 => stH (stH false a.h0) a.h1
  | 3 => stH (stH (stH false a.h0) a.h1) a.h2
  | _ => stH (stH (stH (stH false a.h0) a.h1) a.h2) a.h3
def fN (a : AggV) : Nat → Prop
  | 0 => True
  | 1 => 0 ≤ a.h0
  | 2 => 0 ≤ a.h0 ∧ 0 ≤ a.h1
  | 3 => 0 ≤ a.h0 ∧ 0 ≤ a.h1 ∧ 0 ≤ a.h2
  | _ => 0 ≤ a.h0 ∧ 0 ≤ a.h1 ∧ 0 ≤ a.h2 ∧ 0 ≤ a.h3
theorem fN0 (a : AggV) : fN a 0 := trivial
theorem fN_step0 {a : AggV} (_ : fN a 0) (h1 : 0 ≤ a.h0) : fN a 1 := h1
theorem fN_step1 {a : AggV} (h : fN a 1) (h1 : 0 ≤ a.h1) : fN a 2 := ⟨h, h1⟩
theorem fN_step2 {a : AggV} (h : fN a 2) (h1 : 0 ≤ a.h2) : fN a 3 := ⟨h.1, h.2, h1⟩
theorem fN_step3 {a : AggV} (h : fN a 3) (h1 : 0 ≤ a.h3) : fN a 4 := ⟨h.1, h.2.1, h.2.2, h1⟩
theorem fS_in (a : AggV) (k : Nat) : i64 (fS a k) := by
  match k with
  | 0 => exact ⟨by show (-9223372036854775808 : Int) ≤ 0; omega, by show (0 : Int) ≤ 9223372036854775807; omega⟩
  | 1 => exact plus_in _ _
  | 2 => exact plus_in _ _
  | 3 => exact plus_in _ _
  | _ + 4 => exact plus_in _ _
theorem neg4_of (a : AggV) (h : fN a 4) : neg4 a = false := by
  obtain ⟨h0, h1, h2, h3⟩ := h
  unfold neg4; simp; omega
theorem rh_neg (a : AggV) (h : neg4 a = true) : rightHist a = false := by unfold rightHist; rw [h]; rfl
theorem neg_right0 (a : AggV) (h : a.h0 < 0) : rightHist a = false := rh_neg a (by unfold neg4; simp [h])
theorem neg_right1 (a : AggV) (h : a.h1 < 0) : rightHist a = false := rh_neg a (by unfold neg4; simp [h])
theorem neg_right2 (a : AggV) (h : a.h2 < 0) : rightHist a = false := rh_neg a (by unfold neg4; simp [h])
theorem neg_right3 (a : AggV) (h : a.h3 < 0) : rightHist a = false := rh_neg a (by unfold neg4; simp [h])
theorem held_eq (a : AggV) : fH a 4 = held4 a := by unfold fH held4 stH; simp
theorem first_eq (a : AggV) : fF a 4 = first4 a := by
  unfold fF first4 stF
  repeat' split
  all_goals omega
theorem last_eq (a : AggV) : fG a 4 = last4 a := by
  unfold fG last4 stG
  repeat' split
  all_goals omega
theorem rh_held (a : AggV) (h : neg4 a = false) (h2 : held4 a = true) : rightHist a = true := by unfold rightHist; rw [h, h2]; rfl
theorem rh_all (a : AggV) (h : neg4 a = false) (h2 : held4 a = false) (h3 : ¬ all4 a = a.count) : rightHist a = false := by unfold rightHist; rw [h, h2]; simp [h3]
theorem rh_first (a : AggV) (h : neg4 a = false) (h2 : held4 a = false) (h4 : ¬ first4 a = bucket a.mn) : rightHist a = false := by unfold rightHist; rw [h, h2]; simp [h4]
theorem rh_last (a : AggV) (h : neg4 a = false) (h2 : held4 a = false) (h4 : ¬ last4 a = bucket a.mx) : rightHist a = false := by unfold rightHist; rw [h, h2]; simp [h4]
theorem rh_true (a : AggV) (h : neg4 a = false) (h3 : all4 a = a.count) (h4 : first4 a = bucket a.mn) (h5 : last4 a = bucket a.mx) : rightHist a = true := by unfold rightHist; rw [h, h3, h4, h5]; simp
theorem beq_eq_decide' (a b : Int) : (a == b) = decide (a = b) := rfl

end Go.Proofs.YtigmhljaoicdbabGreat

/- Plain facts: bits of a text turned one by one within 32 that follow one another; its sum is then another one. No conditions, no Go text. -/
import Derived.Test.YtkbmbcmcnpeabaaDoorFMath
namespace Go.Proofs.YtkbmbcmcnpeabaaDoor.Fm.Crc

def turnTo (a : List UInt8) (p : Nat) (x : BitVec 32) : Nat → List UInt8
  | 0 => a
  | k + 1 => if x.getLsbD k = true ∧ (p + k) / 8 < a.length then (turnTo a p x k).set ((p + k) / 8) ((turnTo a p x k).getD ((p + k) / 8) 0 ^^^ UInt8.ofNat (2 ^ ((p + k) % 8))) else turnTo a p x k
def turnedTo (a : List UInt8) (p : Nat) (x : BitVec 32) : Nat → Bool
  | 0 => false
  | k + 1 => turnedTo a p x k || (x.getLsbD k && decide ((p + k) / 8 < a.length))
theorem turnTo_length (a : List UInt8) (p : Nat) (x : BitVec 32) (k : Nat) : (turnTo a p x k).length = a.length := by
  induction k with
  | zero => rfl
  | succ k ih =>
    simp only [turnTo]
    split
    · rw [List.length_set, ih]
    · exact ih
theorem pow_bit (m : Nat) (h : m < 8) (i : Nat) : (UInt8.ofNat (2 ^ m)).toNat.testBit i = decide (m = i) := by
  have hm : 2 ^ m < 2 ^ 8 := Nat.pow_lt_pow_right (by decide) h
  rw [UInt8.toNat_ofNat', Nat.mod_eq_of_lt (by simpa using hm), Nat.testBit_two_pow]
theorem set_bit (l : List UInt8) (q j : Nat) (hq : q / 8 < l.length) : bitAt (l.set (q / 8) (l.getD (q / 8) 0 ^^^ UInt8.ofNat (2 ^ (q % 8)))) j = (bitAt l j ^^ decide (q = j)) := by
  unfold bitAt
  by_cases e : q / 8 = j / 8
  · rw [← e, List.getD_eq_getElem?_getD (l := l.set _ _), List.getElem?_set_self hq, Option.getD_some, UInt8.toNat_xor, Nat.testBit_xor, pow_bit _ (Nat.mod_lt _ (by decide))]
    congr 1
    by_cases e2 : q % 8 = j % 8
    · have : q = j := by omega
      simp [this]
    · have : ¬ q = j := by omega
      simp [this, e2]
  · have : ¬ q = j := by intro h; exact e (by rw [h])
    rw [List.getD_eq_getElem?_getD, List.getElem?_set_ne e, ← List.getD_eq_getElem?_getD]
    simp [this]
theorem turnTo_bit (a : List UInt8) (p : Nat) (x : BitVec 32) (k j : Nat) (hj : j < 8 * a.length) :
    bitAt (turnTo a p x k) j = (bitAt a j ^^ (decide (p ≤ j) && decide (j < p + k) && x.getLsbD (j - p))) := by
  induction k with
  | zero =>
    have : (decide (p ≤ j) && decide (j < p + 0)) = false := by
      by_cases h : p ≤ j
      · have h2 : ¬ j < p + 0 := by omega
        rw [decide_eq_false h2, Bool.and_false]
      · rw [decide_eq_false h, Bool.false_and]
    rw [this, Bool.false_and, Bool.xor_false]
    rfl
  | succ k ih =>
    simp only [turnTo]
    by_cases e : p + k = j
    · subst e
      have h0 : (p + k) / 8 < a.length := by omega
      have e1 : decide (p + k < p + k) = false := by simp
      have e2 : decide (p + k < p + (k + 1)) = true := by simp
      have e3 : decide (p ≤ p + k) = true := by simp
      rw [e1, Bool.and_false, Bool.false_and, Bool.xor_false] at ih
      rw [e2, e3, show p + k - p = k by omega]
      by_cases hx : x.getLsbD k = true
      · rw [if_pos ⟨hx, h0⟩, set_bit _ _ _ (by rw [turnTo_length]; exact h0), ih, hx]; simp
      · rw [if_neg (fun h => hx h.1), ih]
        have : x.getLsbD k = false := by simpa using hx
        simp [this]
    · have e1 : decide (j < p + (k + 1)) = decide (j < p + k) := by
        by_cases h : j < p + k
        · simp [h]; omega
        · simp [h]; omega
      rw [e1, ← ih]
      split
      · rename_i h
        rw [set_bit _ _ _ (by rw [turnTo_length]; exact h.2)]
        simp [e]
      · rfl
theorem turnedTo_some (a : List UInt8) (p : Nat) (x : BitVec 32) (k : Nat) (h : turnedTo a p x k = true) : ∃ i, i < k ∧ x.getLsbD i = true ∧ (p + i) / 8 < a.length := by
  induction k with
  | zero => simp [turnedTo] at h
  | succ k ih =>
    simp only [turnedTo, Bool.or_eq_true, Bool.and_eq_true, decide_eq_true_eq] at h
    rcases h with h | ⟨h1, h2⟩
    · obtain ⟨i, hi, hr⟩ := ih h
      exact ⟨i, by omega, hr⟩
    · exact ⟨k, by omega, h1, h2⟩
theorem turnTo_yes (a : List UInt8) (p : Nat) (x : BitVec 32) (k : Nat) (hx : x.getLsbD k = true) (hl : (p + k) / 8 < a.length) :
    turnTo a p x (k + 1) = (turnTo a p x k).set ((p + k) / 8) ((turnTo a p x k).getD ((p + k) / 8) 0 ^^^ UInt8.ofNat (2 ^ ((p + k) % 8))) := by
  simp only [turnTo]; rw [if_pos ⟨hx, hl⟩]
theorem turnTo_no (a : List UInt8) (p : Nat) (x : BitVec 32) (k : Nat) (h : ¬ (x.getLsbD k = true ∧ (p + k) / 8 < a.length)) : turnTo a p x (k + 1) = turnTo a p x k := by
  simp only [turnTo]; rw [if_neg h]
theorem turnedTo_yes (a : List UInt8) (p : Nat) (x : BitVec 32) (k : Nat) (hx : x.getLsbD k = true) (hl : (p + k) / 8 < a.length) : turnedTo a p x (k + 1) = true := by
  simp [turnedTo, hx, hl]
theorem turnedTo_no (a : List UInt8) (p : Nat) (x : BitVec 32) (k : Nat) (h : ¬ (x.getLsbD k = true ∧ (p + k) / 8 < a.length)) : turnedTo a p x (k + 1) = turnedTo a p x k := by
  have : (x.getLsbD k && decide ((p + k) / 8 < a.length)) = false := by
    rw [Bool.eq_false_iff]; intro e; simp only [Bool.and_eq_true, decide_eq_true_eq] at e; exact h e
  simp only [turnedTo, this, Bool.or_false]
theorem turned_differs (a : List UInt8) (p : Nat) (x : BitVec 32) (h : turnedTo a p x 32 = true) : crc (turnTo a p x 32) ≠ crc a := by
  obtain ⟨i, hi, hx, hl⟩ := turnedTo_some a p x 32 h
  refine crc_burst a (turnTo a p x 32) x p (min 32 (8 * a.length - p)) (turnTo_length _ _ _ _) (by omega) (by omega) (by omega) ?_ ?_
  · intro h0
    have := low_bit (min 32 (8 * a.length - p)) x i
    rw [h0, BitVec.getLsbD_zero, hx] at this
    simp at this
    omega
  · intro j hj
    rw [turnTo_bit _ _ _ _ _ hj]
    congr 1
    by_cases h1 : j < p + 32
    · simp [h1]
    · have : x.getLsbD (j - p) = false := BitVec.getLsbD_of_ge _ _ (by omega)
      simp [this]
theorem turned_nat (a : List UInt8) (p : Nat) (x : BitVec 32) (h : turnedTo a p x 32 = true) : ((((crc (turnTo a p x 32)).toNat : Nat) : Int) == (((crc a).toNat : Nat) : Int)) = false := by
  rw [beq_eq_false_iff_ne]
  intro e
  exact turned_differs a p x h (BitVec.eq_of_toNat_eq (by omega))
end Go.Proofs.YtkbmbcmcnpeabaaDoor.Fm.Crc

/- Moments, windows and what is over, as plain numbers; the row of windows that are over at a mark, from a Start on. No Go. -/
import Derived.Test.YtmgmkdkdpeljmaaChecked
namespace Go.Proofs.Ytmgmkdkdpeljmaa.Sp

structure Hid (p : Prop) : Prop where
  out : p
theorem hide {p : Prop} (h : p) : Hid p := ⟨h⟩
theorem unhide {p : Prop} (h : Hid p) : p := h.out

def i64 (x : Int) : Prop := -9223372036854775808 ≤ x ∧ x ≤ 9223372036854775807
def rightI (x : Int) : Bool := decide (0 ≤ x ∧ x ≤ 1099511627776)
def startI (x : Int) : Int := if 0 ≤ x ∧ x ≤ 1099511627776 then x - x % 10 else -1
def endI (x : Int) : Int := if 0 ≤ x ∧ x ≤ 1099511627776 ∧ x % 10 = 0 then x + 10 else -1
def isOver (s m : Int) : Prop := (0 ≤ s ∧ s ≤ 1099511627776 ∧ s % 10 = 0) ∧ (0 ≤ m ∧ m ≤ 1099511627776) ∧ s + 15 ≤ m
instance (s m : Int) : Decidable (isOver s m) := by unfold isOver; infer_instance
def overI (s m : Int) : Bool := decide (isOver s m)
def lateI (a m : Int) : Bool := overI (startI a) m
def firstI (m : Int) : Int := startI (max (m - 5) 0)

theorem rightI_iff {x : Int} : rightI x = true ↔ 0 ≤ x ∧ x ≤ 1099511627776 := by simp [rightI]
theorem startI_right {x : Int} (h : 0 ≤ x ∧ x ≤ 1099511627776) : startI x = x - x % 10 := if_pos h
theorem startI_wrong {x : Int} (h : ¬ (0 ≤ x ∧ x ≤ 1099511627776)) : startI x = -1 := if_neg h
theorem overI_iff {s m : Int} : overI s m = true ↔ isOver s m := by simp [overI]

/-- At most k windows that are over at m, from s on. -/
def upL (m : Int) : Nat → Int → List Int
  | 0, _ => []
  | k + 1, s => if isOver s m then s :: upL m k (s + 10) else []
def startsL (m since : Int) : List Int := if 0 ≤ since ∧ since ≤ 1099511627776 then upL m 1000 (firstI since) else []

theorem upL_len (m : Int) : ∀ k s, (upL m k s).length ≤ k
  | 0, _ => by simp [upL]
  | k + 1, s => by
    rw [upL]
    split
    · have := upL_len m k (s + 10); simp; omega
    · simp
theorem startsL_len (m since : Int) : (startsL m since).length ≤ 1000 := by
  unfold startsL; split
  · exact upL_len _ _ _
  · simp
theorem firstI_right {m : Int} (h : 0 ≤ m ∧ m ≤ 1099511627776) : 0 ≤ firstI m ∧ firstI m ≤ 1099511627776 ∧ firstI m % 10 = 0 := by
  unfold firstI startI; rw [if_pos (by omega)]; omega
end Go.Proofs.Ytmgmkdkdpeljmaa.Sp

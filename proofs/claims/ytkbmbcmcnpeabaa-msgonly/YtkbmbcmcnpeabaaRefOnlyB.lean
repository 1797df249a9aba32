/- The document's own Only: where the lists of what it tells lie. No conditions. -/
import Derived.Test.YtkbmbcmcnpeabaaRefOnly
namespace Go.Proofs.Ytkbmbcmcnpeabaa
open Pk Go.RowKit

/-- Where the lists of what Only tells lie. -/
def owA (m : MsgV) (a : Option Addr) : Option Addr := if m.kind.toNat = 3 ∨ m.kind.toNat = 11 ∨ m.kind.toNat = 14 then a else none
def owC (m : MsgV) (c : Nat) : Nat := if m.kind.toNat = 3 ∨ m.kind.toNat = 11 ∨ m.kind.toNat = 14 then c else 0
def seA (m : MsgV) (a : Option Addr) : Option Addr := if m.kind.toNat = 6 then a else none
def seC (m : MsgV) (c : Nat) : Nat := if m.kind.toNat = 6 then c else 0
theorem refonly_det (m : MsgV) (a1 a2 : Option Addr) (c1 c2 : Nat) (w : World) (hk : 1 ≤ m.kind.toNat ∧ m.kind.toNat ≤ 14) :
    Calls Try.prog 13 #[.agg (msgCells m a1 c1 a2 c2).toArray] w fun e w' => e = .returned (.agg (msgCells (only m) (owA m a1) (owC m c1) (seA m a2) (seC m c2)).toArray) ∧ Moved (fun _ => False) w w' := by
  unfold owA owC seA seC
  rcases kind_cases hk with h1 | h1 | h1 | h1 | h1 | h1 | h1 | h1 | h1 | h1 | h1 | h1 | h1 | h1
  · rw [h1]
    exact refonly_1 m a1 a2 c1 c2 w (UInt8.toNat_inj.1 h1)
  · rw [h1]
    exact refonly_2 m a1 a2 c1 c2 w (UInt8.toNat_inj.1 h1)
  · rw [h1]
    exact refonly_3 m a1 a2 c1 c2 w (UInt8.toNat_inj.1 h1)
  · rw [h1]
    exact refonly_4 m a1 a2 c1 c2 w (UInt8.toNat_inj.1 h1)
  · rw [h1]
    exact refonly_5 m a1 a2 c1 c2 w (UInt8.toNat_inj.1 h1)
  · rw [h1]
    exact refonly_6 m a1 a2 c1 c2 w (UInt8.toNat_inj.1 h1)
  · rw [h1]
    exact refonly_7 m a1 a2 c1 c2 w (UInt8.toNat_inj.1 h1)
  · rw [h1]
    exact refonly_8 m a1 a2 c1 c2 w (UInt8.toNat_inj.1 h1)
  · rw [h1]
    exact refonly_9 m a1 a2 c1 c2 w (UInt8.toNat_inj.1 h1)
  · rw [h1]
    exact refonly_10 m a1 a2 c1 c2 w (UInt8.toNat_inj.1 h1)
  · rw [h1]
    exact refonly_11 m a1 a2 c1 c2 w (UInt8.toNat_inj.1 h1)
  · rw [h1]
    exact refonly_12 m a1 a2 c1 c2 w (UInt8.toNat_inj.1 h1)
  · rw [h1]
    exact refonly_13 m a1 a2 c1 c2 w (UInt8.toNat_inj.1 h1)
  · rw [h1]
    exact refonly_14 m a1 a2 c1 c2 w (UInt8.toNat_inj.1 h1)
theorem det_ints (m : MsgV) {a1 a2 : Option Addr} {w : World} (hk : 1 ≤ m.kind.toNat ∧ m.kind.toNat ≤ 14) (hI1 : Ints w a1 m.owner) (hI2 : Ints w a2 m.set) : Ints w (owA m a1) (only m).owner ∧ Ints w (seA m a2) (only m).set := by
  unfold owA seA only
  rcases kind_cases hk with h1 | h1 | h1 | h1 | h1 | h1 | h1 | h1 | h1 | h1 | h1 | h1 | h1 | h1 <;> rw [h1] <;> exact ⟨by first | exact hI1 | exact ints_nil _ _, by first | exact hI2 | exact ints_nil _ _⟩
end Go.Proofs.Ytkbmbcmcnpeabaa

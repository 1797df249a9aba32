/- What PackWrites does, for any list of parts: it answers true, and of what was there nothing has turned. No conditions. -/
import Derived.Test.YthjoojbdjinonabWrite
namespace Go.Proofs.Ythjoojbdjinonab
open Pk Go.RowKit

/-- The first k parts' bytes, one behind the other. -/
def catTo (z : List PartV) : Nat → List UInt8
  | 0 => []
  | k + 1 => catTo z k ++ partBytes (z.getD k PartV.zero)
theorem great_false {z : List PartV} (h : great z = false) : z.length ≤ 500 ∧ bulk z z.length ≤ 60000 := by
  unfold great at h
  simp at h
  exact h
theorem part_small {z : List PartV} (h : great z = false) (k : Nat) (hk : k < z.length) : (z.getD k PartV.zero).s.size ≤ 60000 := by
  have h1 := (great_false h).2
  have h2 := bulk_mono z (k + 1) z.length hk
  simp only [bulk] at h2
  omega
theorem catTo_le {z : List PartV} (h : great z = false) (ok : ∀ k, k < z.length → (z.getD k PartV.zero).Ok) (k : Nat) (hk : k ≤ z.length) : (catTo z k).length ≤ 10 * k + bulk z k := by
  induction k with
  | zero => simp [catTo]
  | succ k ih =>
    have h1 := ih (by omega)
    have h2 := partBytes_le _ (ok k hk) (part_small h k hk)
    have h3 := part_small h k hk
    simp only [catTo, bulk, List.length_append]
    omega
theorem catTo_small {z : List PartV} (h : great z = false) (ok : ∀ k, k < z.length → (z.getD k PartV.zero).Ok) (k : Nat) (hk : k ≤ z.length) : (catTo z k).length ≤ 65000 := by
  have h1 := catTo_le h ok k hk
  have h2 := great_false h
  have h3 := bulk_mono z k z.length hk
  omega

end Go.Proofs.Ythjoojbdjinonab

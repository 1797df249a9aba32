/- What SumSums does, for every sum and every text: it answers true, and the world stays as it is. Condition: the table's sixteen cells hold its numbers. -/
import Derived.Test.YtgnodokjfaibbaaDoorMore
namespace Go.Proofs.YtgnodokjfaibbaaDoor
open Crc Go.RowKit

theorem sums_far (c : BitVec 32) (s : ByteArray) (w : World) (_hs : s.size ≤ maxLen) (hT : Tab w) (hl : (100000 : Int) < s.size) :
    Calls Tryd.prog 4 #[.int .u32 (c.toNat : Int), .string s] w fun e w' => e = .returned (.bool true) ∧ w' = w := by
  have HT : Hid (Tab w) := hide hT
  clear hT
  unfold maxLen at _hs
  go_enter Tryd.func4, Tryd.ntmps4
  go_wp2_with fail
  refine (awake_any _ (unhide HT)).mono ?_
  rintro e w' ⟨rfl, rfl⟩
  go_wp2_with fail
  go_ret
  exact ⟨rfl, rfl⟩
theorem sums_near (c : BitVec 32) (s : ByteArray) (w : World) (hs : s.size ≤ maxLen) (hT : Tab w) (hl : ¬ (100000 : Int) < s.size) :
    Calls Tryd.prog 4 #[.int .u32 (c.toNat : Int), .string s] w fun e w' => e = .returned (.bool true) ∧ w' = w := by
  have HT : Hid (Tab w) := hide hT
  clear hT
  have hs' := hs
  unfold maxLen at hs
  go_enter Tryd.func4, Tryd.ntmps4
  go_wp2_with fail
  refine (awake_any _ (unhide HT)).mono ?_
  rintro e w' ⟨rfl, rfl⟩
  go_wp2_with fail
  refine (crc_any _ _ hs' (unhide HT)).mono ?_
  rintro e w' ⟨rfl, rfl⟩
  go_wp2_with fail
  refine (ref_crc_any _ _ hs').mono ?_
  rintro e w' ⟨rfl, rfl⟩
  go_wp2_with fail
  refine (more_any c _ _ hs' (unhide HT)).mono ?_
  rintro e w' ⟨rfl, rfl⟩
  go_wp2_with fail
  refine (ref_more_any c _ _ hs').mono ?_
  rintro e w' ⟨rfl, rfl⟩
  go_wp2_with fail
  go_ret
  exact ⟨rfl, rfl⟩
theorem sums_any (c : BitVec 32) (s : ByteArray) (w : World) (hs : s.size ≤ maxLen) (hT : Tab w) :
    Calls Tryd.prog 4 #[.int .u32 (c.toNat : Int), .string s] w fun e w' => e = .returned (.bool true) ∧ Below w.heap.size w w' := by
  suffices h : Calls Tryd.prog 4 #[.int .u32 (c.toNat : Int), .string s] w fun e w' => e = .returned (.bool true) ∧ w' = w from
    h.mono fun e w' ⟨he, hw⟩ => ⟨he, by subst hw; exact Below.refl _ _⟩
  by_cases hl : (100000 : Int) < s.size
  · exact sums_far c s w hs hT hl
  · exact sums_near c s w hs hT hl
end Go.Proofs.YtgnodokjfaibbaaDoor

/- What the program's Print and Of, and the document's own, answer: the print by bit vectors; the world stays as it is. No conditions. -/
import Derived.Test.YtfleiephebkhlaaMath
import Derived.Test.YtfleiephebkhlaaChecked
import Derived.WalkSpells
namespace Go.Proofs.Ytfleiephebkhlaa
open Go.RowKit

theorem take_snoc (s : ByteArray) (k : Nat) (h : k < s.size) : s.data.toList.take (k + 1) = s.data.toList.take k ++ [s[k]] := by
  rw [List.take_succ_eq_append_getElem (by simpa using h)]; rfl
theorem ret_u64 {a b : Int} (h : a = b) : Ending.returned (.int .u64 a) = .returned (.int .u64 b) := by rw [h]
theorem val_u64 {a b : Int} (h : a = b) : Value.int .u64 a = .int .u64 b := by rw [h]

set_option maxHeartbeats 400000 in
theorem print_any (s : ByteArray) (w : World) (hs : s.size ≤ maxLen) :
    Calls Try.prog 10 #[.string s] w fun e w' => e = .returned (.int .u64 (((fnv s.data.toList).toNat : Nat) : Int)) ∧ w' = w := by
  unfold maxLen at hs
  go_enter Try.func10, Try.ntmps10
  go_wp2
  go_loop [3, 7] (fun r i => ∃ k : Nat, k ≤ s.size ∧ i = .int .i64 k ∧ r = .int .u64 (((fnv (s.data.toList.take k)).toNat : Nat) : Int)) (fun _ i => s.size - (intOf i).toNat)
  case atStart => exact ⟨0, Nat.zero_le _, rfl, rfl⟩
  case round =>
    obtain ⟨k, hk, rfl, rfl⟩ := hrel
    generalize hr : fnv (s.data.toList.take k) = r
    have Hr := hide hr
    clear hr
    by_cases hlt : k < s.size
    · have hx := step_bv r s[k]
      go_wp2
      go_round
      case rel =>
        refine ⟨k + 1, by omega, by go_num, val_u64 ?_⟩
        rw [take_snoc s k hlt, fnv_snoc, unhide Hr]
        first | exact hx | rfl
      case measure => simp [intOf]; omega
    · have hk2 : s.data.toList.take k = s.data.toList := List.take_of_length_le (by simp; omega)
      have Hk := hide hk2
      clear hk2
      go_wp2
      go_ret
      refine ⟨ret_u64 ?_, rfl⟩
      rw [← unhide Hr, unhide Hk]

set_option maxHeartbeats 400000 in
theorem ref_print_any (s : ByteArray) (w : World) (hs : s.size ≤ maxLen) :
    Calls Try.prog 11 #[.string s] w fun e w' => e = .returned (.int .u64 (((fnv s.data.toList).toNat : Nat) : Int)) ∧ w' = w := by
  unfold maxLen at hs
  go_enter Try.func11, Try.ntmps11
  go_wp2
  go_loop [3, 4] (fun r i => ∃ k : Nat, k ≤ s.size ∧ i = .int .i64 k ∧ r = .int .u64 (((fnv (s.data.toList.take k)).toNat : Nat) : Int)) (fun _ i => s.size - (intOf i).toNat)
  case atStart => exact ⟨0, Nat.zero_le _, rfl, rfl⟩
  case round =>
    obtain ⟨k, hk, rfl, rfl⟩ := hrel
    generalize hr : fnv (s.data.toList.take k) = r
    have Hr := hide hr
    clear hr
    by_cases hlt : k < s.size
    · have hx := step_bv r s[k]
      go_wp2
      go_round
      case rel =>
        refine ⟨k + 1, by omega, by go_num, val_u64 ?_⟩
        rw [take_snoc s k hlt, fnv_snoc, unhide Hr]
        first | exact hx | rfl
      case measure => simp [intOf]; omega
    · have hk2 : s.data.toList.take k = s.data.toList := List.take_of_length_le (by simp; omega)
      have Hk := hide hk2
      clear hk2
      go_wp2
      go_ret
      refine ⟨ret_u64 ?_, rfl⟩
      rw [← unhide Hr, unhide Hk]

set_option maxHeartbeats 400000 in
theorem of_any (s : ByteArray) (n : Int) (w : World) (hs : s.size ≤ maxLen) (hn : -9223372036854775808 ≤ n ∧ n ≤ 9223372036854775807) :
    Calls Try.prog 8 #[.string s, .int .i64 n] w fun e w' => e = .returned (.int .i64 (ofKey s.data.toList n)) ∧ w' = w := by
  by_cases h : n < 1
  · go_enter Try.func8, Try.ntmps8
    go_wp2
    go_ret
    refine ⟨?_, rfl⟩
    unfold ofKey; rw [if_pos h]; rfl
  · have hlo := ofKey_lo s.data.toList n
    have hhi := ofKey_hi s.data.toList n (by omega)
    have hof : ofKey s.data.toList n = ((fnv s.data.toList).toNat : Int) % n := by unfold ofKey; rw [if_neg h]
    have Hof := hide hof
    rw [hof] at hlo hhi
    clear hof
    have hu : n % 18446744073709551616 = n := by omega
    have hz : ¬ n = 0 := by omega
    go_enter Try.func8, Try.ntmps8
    go_wp2_with fail
    refine (print_any s _ hs).mono ?_
    rintro e w' ⟨rfl, rfl⟩
    go_wp2
    go_ret
    refine ⟨?_, rfl⟩
    rw [unhide Hof]
    rfl

set_option maxHeartbeats 400000 in
theorem ref_of_any (s : ByteArray) (n : Int) (w : World) (hs : s.size ≤ maxLen) (hn : -9223372036854775808 ≤ n ∧ n ≤ 9223372036854775807) :
    Calls Try.prog 12 #[.string s, .int .i64 n] w fun e w' => e = .returned (.int .i64 (ofKey s.data.toList n)) ∧ w' = w := by
  by_cases h : n < 1
  · go_enter Try.func12, Try.ntmps12
    go_wp2
    go_ret
    refine ⟨?_, rfl⟩
    unfold ofKey; rw [if_pos h]; rfl
  · have hlo := ofKey_lo s.data.toList n
    have hhi := ofKey_hi s.data.toList n (by omega)
    have hof : ofKey s.data.toList n = ((fnv s.data.toList).toNat : Int) % n := by unfold ofKey; rw [if_neg h]
    have Hof := hide hof
    rw [hof] at hlo hhi
    clear hof
    have hu : n % 18446744073709551616 = n := by omega
    have hz : ¬ n = 0 := by omega
    go_enter Try.func12, Try.ntmps12
    go_wp2_with fail
    refine (ref_print_any s _ hs).mono ?_
    rintro e w' ⟨rfl, rfl⟩
    go_wp2
    go_ret
    refine ⟨?_, rfl⟩
    rw [unhide Hof]
    rfl

theorem ex1 : (((fnv [97]).toNat : Nat) : Int) = 12638187200555641996 := by decide +kernel
theorem ex0 : (((fnv []).toNat : Nat) : Int) = 14695981039346656037 := by decide +kernel
theorem awake_any (w : World) :
    Calls Try.prog 9 #[] w fun e w' => e = .returned (.bool true) ∧ w' = w := by
  go_enter Try.func9, Try.ntmps9
  go_wp2_with fail
  refine (print_any _ _ (by decide +kernel)).mono ?_
  rintro e w' ⟨rfl, rfl⟩
  rw [show (((fnv (ByteArray.mk #[97]).data.toList).toNat : Nat) : Int) = 12638187200555641996 from ex1]
  go_wp2
  go_ret
  exact ⟨rfl, rfl⟩
end Go.Proofs.Ytfleiephebkhlaa

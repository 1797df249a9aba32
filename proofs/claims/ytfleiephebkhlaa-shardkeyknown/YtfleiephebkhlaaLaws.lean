/- What ShardkeyPrints, ShardkeyRange, ShardkeyGoes and ShardkeyByte do, for any input: each answers true, and nothing that was there has turned. No conditions. -/
import Derived.Test.YtfleiephebkhlaaPrint
import Derived.Laws.BytesArg
import Derived.Laws.IdiomStrings
namespace Go.Proofs.Ytfleiephebkhlaa
open Go.RowKit

theorem bytes_ext {s t : ByteArray} (h : s.data.toList = t.data.toList) : s = t := by
  cases s; cases t; simp only [ByteArray.mk.injEq]; exact Array.toList_inj.1 h

set_option maxHeartbeats 400000 in
theorem prints_any (s : ByteArray) (n : Int) (w : World) (hs : s.size ≤ maxLen) (hn : -9223372036854775808 ≤ n ∧ n ≤ 9223372036854775807) :
    Calls Try.prog 4 #[.string s, .int .i64 n] w fun e w' => e = .returned (.bool true) ∧ Below w.heap.size w w' := by
  have hs' : s.size ≤ 2 ^ 63 - 1 := hs
  by_cases hl : (100000 : Int) < s.size
  · go_enter Try.func4, Try.ntmps4
    go_wp2_with fail
    refine (awake_any _).mono ?_
    rintro e w' ⟨rfl, rfl⟩
    go_wp2_with fail
    go_ret
    exact ⟨rfl, Below.refl _ _⟩
  · go_enter Try.func4, Try.ntmps4
    go_wp2_with fail
    refine (awake_any _).mono ?_
    rintro e w' ⟨rfl, rfl⟩
    go_wp2_with fail
    refine (print_any _ _ hs).mono ?_
    rintro e w' ⟨rfl, rfl⟩
    go_wp2_with fail
    refine (ref_print_any _ _ hs).mono ?_
    rintro e w' ⟨rfl, rfl⟩
    go_wp2_with fail
    refine (of_any _ _ _ hs hn).mono ?_
    rintro e w' ⟨rfl, rfl⟩
    go_wp2_with fail
    refine (ref_of_any _ _ _ hs hn).mono ?_
    rintro e w' ⟨rfl, rfl⟩
    go_wp2_with fail
    go_ret
    exact ⟨rfl, Below.refl _ _⟩

theorem conv1 (w : World) (z : Int) :
    Sem.run Try.prog (convert 24 9 (.slice (some ⟨w.heap.size, 0, none⟩) 1 1)) (w.alloc (.cells #[.int .u8 z] 5)) =
      .ok (.string (strOfNums [z])) (w.alloc (.cells #[.int .u8 z] 5)) := by
  refine run_convert_bytes_arg _ 24 5 Try.underlying24 Try.underlying5 w.heap.size 0 1 1 [z] rfl ?_ 9 Try.underlying9
  intro i hi
  have : i = 0 := by omega
  subst this; simp
theorem size1 (z : Int) : (strOfNums [z]).size = 1 := by rw [strOfNums_size]; rfl
theorem snoc_bytes (s : ByteArray) (b : Nat) : (s ++ strOfNums [(b : Int)]).data.toList = s.data.toList ++ [UInt8.ofNat b] := by
  rw [ByteArray.data_append, Array.toList_append, strOfNums_data]
  rfl
theorem snoc_size (s : ByteArray) (z : Int) (h : ¬ (100000 : Int) < s.size) : (s ++ strOfNums [z]).size ≤ maxLen := by
  rw [ByteArray.size_append, size1]; unfold maxLen; omega
theorem print_snoc (s : ByteArray) (b : Nat) (w : World) (h : ¬ (100000 : Int) < s.size) :
    Calls Try.prog 10 #[.string (s ++ strOfNums [(b : Int)])] w fun e w' => e = .returned (.int .u64 (((step (fnv s.data.toList) (UInt8.ofNat b)).toNat : Nat) : Int)) ∧ w' = w := by
  refine (print_any _ _ (snoc_size _ _ h)).mono ?_
  rintro e w' ⟨rfl, rfl⟩
  rw [snoc_bytes, fnv_snoc]
  exact ⟨rfl, rfl⟩
theorem step_nat (n : BitVec 64) (b : Nat) (hb : b < 256) : IntKind.u64.wrap (bits .xor .u64 (n.toNat : Int) (b : Int) * 1099511628211) = (((step n (UInt8.ofNat b)).toNat : Nat) : Int) := by
  have h := step_bv n (UInt8.ofNat b)
  have e : ((UInt8.ofNat b).toNat : Int) = b := by simp [UInt8.toNat_ofNat']; omega
  rw [e, show (b : Int) % 18446744073709551616 = b by omega] at h
  exact h

set_option maxHeartbeats 400000 in
theorem goes_any (s : ByteArray) (b : Nat) (w : World) (hs : s.size ≤ maxLen) (hb : b < 256) :
    Calls Try.prog 6 #[.string s, .int .u8 (b : Int)] w fun e w' => e = .returned (.bool true) ∧ Below w.heap.size w w' := by
  have hs' : s.size ≤ 2 ^ 63 - 1 := hs
  by_cases hl : (100000 : Int) < s.size
  · go_enter Try.func6, Try.ntmps6
    go_wp2_with fail
    refine (awake_any _).mono ?_
    rintro e w' ⟨rfl, rfl⟩
    go_wp2_with fail
    go_ret
    exact ⟨rfl, Below.refl _ _⟩
  · have hcv := conv1
    have hsz := size1
    have hst := step_nat (fnv s.data.toList) b hb
    have hbb : (b : Int) % 18446744073709551616 = b := by omega
    go_enter Try.func6, Try.ntmps6
    go_wp2_with fail
    refine (awake_any _).mono ?_
    rintro e w' ⟨rfl, rfl⟩
    go_wp2_with fail
    refine (print_snoc s b _ (by omega)).mono ?_
    rintro e w1 ⟨rfl, rfl⟩
    go_wp2_with fail
    refine (print_any _ _ hs).mono ?_
    rintro e w2 ⟨rfl, rfl⟩
    go_wp2_with fail
    go_ret
    refine ⟨?_, (Below.refl _ _).alloc (Nat.le_refl _) _⟩
    rfl

theorem byte_same (n : BitVec 64) (a b : Nat) (ha : a < 256) (hb : b < 256) : (((((step n (UInt8.ofNat a)).toNat : Nat) : Int) == (((step n (UInt8.ofNat b)).toNat : Nat) : Int)) == ((a : Int) == (b : Int))) = true := by
  have h : (step n (UInt8.ofNat a) = step n (UInt8.ofNat b)) ↔ a = b := by
    rw [step_inj]
    constructor
    · intro h
      have := congrArg UInt8.toNat h
      simp only [UInt8.toNat_ofNat'] at this
      omega
    · rintro rfl; rfl
  by_cases e : a = b
  · subst e; simp
  · have e1 : ¬ ((a : Int) = b) := by omega
    have e2 : ¬ ((((step n (UInt8.ofNat a)).toNat : Nat) : Int) = (((step n (UInt8.ofNat b)).toNat : Nat) : Int)) := by
      intro h2
      exact e (h.1 (BitVec.eq_of_toNat_eq (by omega)))
    rw [beq_false_of_ne e1, beq_false_of_ne e2]
    rfl

set_option maxHeartbeats 400000 in
theorem byte_any (s : ByteArray) (a b : Nat) (w : World) (hs : s.size ≤ maxLen) (ha : a < 256) (hb : b < 256) :
    Calls Try.prog 7 #[.string s, .int .u8 (a : Int), .int .u8 (b : Int)] w fun e w' => e = .returned (.bool true) ∧ Below w.heap.size w w' := by
  have hs' : s.size ≤ 2 ^ 63 - 1 := hs
  by_cases hl : (100000 : Int) < s.size
  · go_enter Try.func7, Try.ntmps7
    go_wp2_with fail
    refine (awake_any _).mono ?_
    rintro e w' ⟨rfl, rfl⟩
    go_wp2_with fail
    go_ret
    exact ⟨rfl, Below.refl _ _⟩
  · have hcv := conv1
    have hsz := size1
    go_enter Try.func7, Try.ntmps7
    go_wp2_with fail
    refine (awake_any _).mono ?_
    rintro e w' ⟨rfl, rfl⟩
    go_wp2_with fail
    refine (print_snoc s a _ (by omega)).mono ?_
    rintro e w1 ⟨rfl, hw1⟩
    have B1 : Hid (Below w'.heap.size w' w1) := hide (by rw [hw1]; exact (Below.refl _ _).alloc (Nat.le_refl _) _)
    clear hw1
    go_wp2_with fail
    refine (print_snoc s b _ (by omega)).mono ?_
    rintro e w2 ⟨rfl, rfl⟩
    go_wp2_with fail
    go_ret
    refine ⟨?_, (unhide B1).trans (((Below.refl _ _).alloc (Nat.le_refl _) _).mono (unhide B1).size)⟩
    show Ending.returned (.bool (((_ : Int) == _) == ((_ : Int) == _))) = _
    rw [byte_same _ _ _ ha hb]

set_option maxHeartbeats 400000 in
theorem range_any (s : ByteArray) (n t : Int) (w : World) (hs : s.size ≤ maxLen) (hn : -9223372036854775808 ≤ n ∧ n ≤ 9223372036854775807) (ht : -9223372036854775808 ≤ t ∧ t ≤ 9223372036854775807) :
    Calls Try.prog 5 #[.string s, .int .i64 n, .int .i64 t] w fun e w' => e = .returned (.bool true) ∧ Below w.heap.size w w' := by
  have hs' : s.size ≤ 2 ^ 63 - 1 := hs
  by_cases hl : (100000 : Int) < s.size
  · go_enter Try.func5, Try.ntmps5
    go_wp2_with fail
    refine (awake_any _).mono ?_
    rintro e w' ⟨rfl, rfl⟩
    go_wp2_with fail
    go_ret
    exact ⟨rfl, Below.refl _ _⟩
  · have hlo := ofKey_lo s.data.toList n
    have hhi := ofKey_hi s.data.toList n
    have hz : n < 1 → ofKey s.data.toList n = 0 := fun h => by unfold ofKey; rw [if_pos h]
    have hp := ofKey_parts s.data.toList n t
    generalize hk : ofKey s.data.toList n = k at hlo hhi hz hp
    have Hk := hide hk
    clear hk
    by_cases h1 : n < 1
    · have hz := hz h1
      subst hz
      clear hhi hp
      go_enter Try.func5, Try.ntmps5
      go_wp2_with fail
      refine (awake_any _).mono ?_
      rintro e w' ⟨rfl, rfl⟩
      go_wp2_with fail
      refine (of_any _ _ _ hs hn).mono ?_
      rintro e w' ⟨rfl, rfl⟩
      rw [unhide Hk]
      go_wp2_with fail
      refine (of_any _ _ _ hs hn).mono ?_
      rintro e w' ⟨rfl, rfl⟩
      rw [unhide Hk]
      go_wp2_with fail
      go_ret
      exact ⟨rfl, Below.refl _ _⟩
    · have hhi := hhi (by omega)
      have h2 : 1 ≤ n := by omega
      clear hz
      by_cases h3 : n ≤ 1000 ∧ 1 ≤ t ∧ t ≤ 1000
      · obtain ⟨h4, h5, h6⟩ := h3
        have hp := hp h2 h5
        have hm : 1 ≤ n * t := Int.mul_pos (by omega) (by omega)
        have hm2 : n * t ≤ 1000 * 1000 := Int.mul_le_mul h4 h6 (by omega) (by omega)
        generalize hnt : n * t = m at hp hm hm2
        have Hk2 := ofKey_lo s.data.toList m
        have Hk3 := ofKey_hi s.data.toList m hm
        generalize hj : ofKey s.data.toList m = j at hp Hk2 Hk3
        have Hj := hide hj
        clear hj
        go_enter Try.func5, Try.ntmps5
        go_wp2_with fail
        refine (awake_any _).mono ?_
        rintro e w' ⟨rfl, rfl⟩
        go_wp2_with fail
        refine (of_any _ _ _ hs hn).mono ?_
        rintro e w' ⟨rfl, rfl⟩
        rw [unhide Hk]
        go_wp2_with fail
        refine (of_any _ _ _ hs hn).mono ?_
        rintro e w' ⟨rfl, rfl⟩
        rw [unhide Hk]
        go_wp2_with fail
        refine (of_any _ _ _ hs (by omega)).mono ?_
        rintro e w' ⟨rfl, rfl⟩
        rw [unhide Hj]
        go_wp2_with fail
        go_ret
        exact ⟨rfl, Below.refl _ _⟩
      · go_enter Try.func5, Try.ntmps5
        go_wp2_with fail
        refine (awake_any _).mono ?_
        rintro e w' ⟨rfl, rfl⟩
        go_wp2_with fail
        refine (of_any _ _ _ hs hn).mono ?_
        rintro e w' ⟨rfl, rfl⟩
        rw [unhide Hk]
        go_wp2_with fail
        refine (of_any _ _ _ hs hn).mono ?_
        rintro e w' ⟨rfl, rfl⟩
        rw [unhide Hk]
        go_wp2_with fail
        all_goals (go_ret; exact ⟨rfl, Below.refl _ _⟩)
end Go.Proofs.Ytfleiephebkhlaa

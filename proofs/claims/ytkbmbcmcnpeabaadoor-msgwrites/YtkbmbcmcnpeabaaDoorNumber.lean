/- What the program's number, numberTo, unfolded and Clone answer. Condition: texts are no longer than a machine's. -/
import Derived.Test.YtkbmbcmcnpeabaaDoorOut
import Derived.OwnWalk
import Derived.Shelf.LaysM
import Derived.Shelf.Strconv.Clone
namespace Go.Proofs.YtkbmbcmcnpeabaaDoor
open Pk Go.RowKit

theorem mayEnd_any (b : UInt8) (i : Nat) (hi : i < 10) (w : World) :
    Calls Tryd.prog 119 #[.int .u8 (b.toNat : Int), .int .i64 (i : Int)] w fun e w' => e = .returned (.bool (decide (i = 0 ∨ (i = 9 ∧ b.toNat = 1) ∨ (0 < i ∧ i < 9 ∧ b.toNat ≠ 0)))) ∧ w' = w := by
  go_enter Tryd.func119, Tryd.ntmps119
  go_wp2
  · go_ret
    refine ⟨congrArg (fun x => Ending.returned (.bool x)) ?_, rfl⟩
    have h0 : i = 0 := by have h : ((i : Int) == 0) = true := by assumption
                          simp at h; exact h
    simp [h0]
  · go_ret
    refine ⟨congrArg (fun x => Ending.returned (.bool x)) ?_, rfl⟩
    have h9 : i = 9 := by have h : ((i : Int) == 9) = true := by assumption
                          simp at h; omega
    subst h9
    rw [Bool.eq_iff_iff]; simp; omega
  · go_ret
    refine ⟨congrArg (fun x => Ending.returned (.bool x)) ?_, rfl⟩
    have h0 : i ≠ 0 := by have h : ((i : Int) == 0) = false := by assumption
                          simp at h; exact h
    have h9 : i ≠ 9 := by have h : ((i : Int) == 9) = false := by assumption
                          simp at h; omega
    rw [Bool.eq_iff_iff]; simp; omega

theorem wrap_u64 (n : Int) : IntKind.u64.wrap n = n % 18446744073709551616 := by simp [IntKind.wrap, IntKind.bits, IntKind.signed]
/-- Seven bits more. -/
theorem or_step (acc k : Nat) (b : UInt8) (hk : k < 10) (ha : acc < 2 ^ (7 * k)) :
    ∃ acc' : Nat, bits .or .u64 (acc : Int) (IntKind.u64.wrap (IntKind.u64.wrap (bits .andNot .u8 (b.toNat : Int) 128) * 2 ^ (7 * k))) = (acc' : Int) ∧ acc' < 2 ^ (7 * (k + 1)) ∧
      (k < 9 ∨ b.toNat % 128 ≤ 1 → acc' = acc + b.toNat % 128 * 2 ^ (7 * k)) := by
  have hb := b.toNat_lt
  have h1 : bits .andNot .u8 (b.toNat : Int) 128 = ((b.toNat % 128 : Nat) : Int) := by
    rw [show (128 : Int) = ((128 : Nat) : Int) from rfl, u8_andNot_nat _ _ hb (by decide)]
    exact congrArg (fun x : Nat => (x : Int)) (nat_mask7 _)
  have hX : b.toNat % 128 < 128 := Nat.mod_lt _ (by decide)
  rw [h1]
  generalize b.toNat % 128 = X at *
  have h2 : IntKind.u64.wrap ((X : Nat) : Int) = (X : Int) := by rw [wrap_u64]; omega
  rw [h2, wrap_u64]
  have hp : (2 : Nat) ^ (7 * k) ∣ 2 ^ 64 := Nat.pow_dvd_pow 2 (by omega)
  have h3 : ((X : Int) * 2 ^ (7 * k)) % 18446744073709551616 = ((X * 2 ^ (7 * k) % 2 ^ 64 : Nat) : Int) := by
    rw [Int.natCast_emod, Int.natCast_mul, Int.natCast_pow]; rfl
  rw [h3]
  have hY : X * 2 ^ (7 * k) % 2 ^ 64 % 2 ^ (7 * k) = 0 := by
    rw [Nat.mod_mod_of_dvd _ hp, Nat.mul_mod_left]
  have hYle : X * 2 ^ (7 * k) % 2 ^ 64 ≤ X * 2 ^ (7 * k) := Nat.mod_le _ _
  have hYlt : X * 2 ^ (7 * k) % 2 ^ 64 < 18446744073709551616 := Nat.mod_lt _ (by decide)
  have hsmall : k < 9 ∨ X ≤ 1 → X * 2 ^ (7 * k) % 2 ^ 64 = X * 2 ^ (7 * k) := by
    intro h
    apply Nat.mod_eq_of_lt
    rcases h with h | h
    · exact Nat.lt_of_le_of_lt (Nat.mul_le_mul (show X ≤ 127 by omega) (Nat.pow_le_pow_right (by decide) (show 7 * k ≤ 56 by omega))) (by decide)
    · exact Nat.lt_of_le_of_lt (Nat.mul_le_mul h (Nat.pow_le_pow_right (by decide) (show 7 * k ≤ 63 by omega))) (by decide)
  have ha64 : acc < 18446744073709551616 := Nat.lt_of_lt_of_le ha (Nat.le_trans (Nat.pow_le_pow_right (by decide) (show 7 * k ≤ 63 by omega)) (by decide))
  generalize X * 2 ^ (7 * k) % 2 ^ 64 = Y at *
  refine ⟨Y + acc, ?_, ?_, fun h => ?_⟩
  · rw [u64_or_nat _ _ ha64 hYlt, Nat.or_comm, nat_join (7 * k) Y acc hY ha]
  · have h4 : X * 2 ^ (7 * k) ≤ 127 * 2 ^ (7 * k) := Nat.mul_le_mul_right _ (by omega)
    rw [show 7 * (k + 1) = 7 * k + 7 by omega, Nat.pow_add]
    omega
  · rw [hsmall h]; omega

theorem rd_step (s : ByteArray) (k acc : Nat) (hk : k < 10) (h : k < s.size) : rd k acc (s.data.toList.drop k) =
    if s[k].toNat < 128 then (if (s[k].toNat = 0 ∧ 0 < k) ∨ (k = 9 ∧ 1 < s[k].toNat) then (0, 0, 8) else (acc + s[k].toNat * 2 ^ (7 * k), k + 1, 0))
    else rd (k + 1) (acc + (s[k].toNat - 128) * 2 ^ (7 * k)) (s.data.toList.drop (k + 1)) := by
  rw [List.drop_eq_getElem_cons (by simpa using h)]
  simp only [rd, if_neg (show ¬ 10 ≤ k by omega)]
  rfl
theorem ret_num {a b : Nat × Nat × Nat} (h : a = b) : Ending.returned (.tuple #[.int .u64 ((a.1 : Nat) : Int), .int .i64 ((a.2.1 : Nat) : Int), .int .i64 ((a.2.2 : Nat) : Int)]) = .returned (.tuple #[.int .u64 ((b.1 : Nat) : Int), .int .i64 ((b.2.1 : Nat) : Int), .int .i64 ((b.2.2 : Nat) : Int)]) := by rw [h]

set_option maxRecDepth 100000 in
theorem number_any (s : ByteArray) (hs : s.size ≤ maxLen) (w : World) :
    Calls Tryd.prog 117 #[.string s] w fun e w' => e = .returned (.tuple #[.int .u64 (((num s.data.toList).1 : Nat) : Int), .int .i64 (((num s.data.toList).2.1 : Nat) : Int), .int .i64 (((num s.data.toList).2.2 : Nat) : Int)]) ∧ w' = w := by
  unfold maxLen at hs
  go_enter Tryd.func117, Tryd.ntmps117
  go_wp2
  go_loop [2, 7] (fun n i => ∃ k acc : Nat, i = .int .i64 (k : Int) ∧ n = .int .u64 (acc : Int) ∧ k ≤ 10 ∧ k ≤ s.size ∧ acc < 2 ^ (7 * k) ∧ rd k acc (s.data.toList.drop k) = num s.data.toList) (fun _ i => 10 - (intOf i).toNat)
  case atStart => exact ⟨0, 0, rfl, rfl, by omega, by omega, by decide, rfl⟩
  case round =>
    obtain ⟨k, acc, rfl, rfl, hk, hks, hacc, hrd⟩ := hrel
    have Hrd := hide hrd
    by_cases h10 : k < 10
    · by_cases hlt : k < s.size
      · obtain ⟨acc', hor, hlt', hval⟩ := or_step acc k s[k] h10 hacc
        have hst := rd_step s k acc h10 hlt
        have Hlt := hide hlt'
        have Hval := hide hval
        have Hst := hide hst
        have hne : ((k : Int) == (s.size : Int)) = false := by simp; omega
        have hb := s[k].toNat_lt
        clear hrd hacc hlt' hval hst
        by_cases h128 : s[k].toNat < 128
        · have hmod : s[k].toNat % 128 = s[k].toNat := Nat.mod_eq_of_lt h128
          have Hmod := hide hmod
          clear hmod
          by_cases hend : (s[k].toNat = 0 ∧ 0 < k) ∨ (k = 9 ∧ 1 < s[k].toNat)
          · have hdec : decide (k = 0 ∨ (k = 9 ∧ s[k].toNat = 1) ∨ (0 < k ∧ k < 9 ∧ s[k].toNat ≠ 0)) = false := decide_eq_false (by omega)
            have hfin : num s.data.toList = (0, 0, 8) := by rw [← unhide Hrd, unhide Hst, if_pos h128, if_pos hend]
            have Hdec := hide hdec
            have Hfin := hide hfin
            clear hdec hfin hend
            go_wp2_with fail
            refine (mayEnd_any s[k] k h10 _).mono ?_
            rintro e w' ⟨rfl, rfl⟩
            rw [unhide Hdec]
            go_wp2_with fail
            go_ret3
            refine ⟨?_, rfl⟩
            rw [unhide Hfin]
            rfl
          · have hdec : decide (k = 0 ∨ (k = 9 ∧ s[k].toNat = 1) ∨ (0 < k ∧ k < 9 ∧ s[k].toNat ≠ 0)) = true := decide_eq_true (by omega)
            have hfin : num s.data.toList = (acc', k + 1, 0) := by rw [← unhide Hrd, unhide Hst, if_pos h128, if_neg hend, unhide Hval (by rw [unhide Hmod]; omega), unhide Hmod]
            have Hdec := hide hdec
            have Hfin := hide hfin
            clear hdec hfin hend
            go_wp2_with fail
            refine (mayEnd_any s[k] k h10 _).mono ?_
            rintro e w' ⟨rfl, rfl⟩
            rw [unhide Hdec]
            go_wp2_with fail
            go_ret3
            refine ⟨?_, rfl⟩
            rw [unhide Hfin]
            first | rfl | simp
        · go_wp2_with fail
          go_round
          case rel =>
            refine ⟨k + 1, acc', by go_num, rfl, by omega, by omega, unhide Hlt, ?_⟩
            rw [← unhide Hrd, unhide Hst, if_neg h128]
            by_cases h9 : k = 9
            · subst h9; rw [rd_ten _ _ _ (by omega), rd_ten _ _ _ (by omega)]
            · rw [unhide Hval (.inl (by omega)), show s[k].toNat % 128 = s[k].toNat - 128 by omega]
          case measure => simp [intOf]; omega
      · have hfin : num s.data.toList = (0, 0, 7) := by
          rw [← hrd, List.drop_of_length_le (by simp; omega)]
          simp only [rd, if_neg (show ¬ 10 ≤ k by omega)]
        have heq : ((k : Int) == (s.size : Int)) = true := by simp; omega
        have Hfin := hide hfin
        clear hrd hacc hfin
        go_wp2_with fail
        go_ret3
        refine ⟨?_, rfl⟩
        rw [unhide Hfin]
        rfl
    · have hfin : num s.data.toList = (0, 0, 8) := by rw [← hrd, rd_ten _ _ _ (by omega)]
      have Hfin := hide hfin
      clear hrd hacc hfin
      go_wp2_with fail
      go_ret3
      refine ⟨?_, rfl⟩
      rw [unhide Hfin]
      rfl

/-- A number of at most 'most'. -/
def numTo (most : Int) (l : List UInt8) : Nat × Nat × Nat :=
  if (num l).2.2 ≠ 0 then (0, 0, (num l).2.2) else if most < 0 ∨ most < ((num l).1 : Int) then (0, 0, 8) else num l
theorem num_lt {l : List UInt8} : (num l).1 < 2 ^ 64 := by
  rcases num_fault l with h | h | h
  · have hb := num_back (l := l) (m := (num l).1) (j := (num l).2.1) (by rw [← h])
    exact hb.1
  · rw [h]; decide
  · rw [h]; decide
theorem num_err {l : List UInt8} : (num l).2.2 = 0 ∨ (num l).2.2 = 7 ∨ (num l).2.2 = 8 := by
  rcases num_fault l with h | h | h
  · exact .inl h
  · rw [h]; simp
  · rw [h]; simp

set_option maxRecDepth 100000 in
theorem numberTo_any (s : ByteArray) (hs : s.size ≤ maxLen) (most : Int) (hm : -9223372036854775808 ≤ most ∧ most ≤ 9223372036854775807) (w : World) :
    Calls Tryd.prog 115 #[.string s, .int .i64 most] w fun e w' => e = .returned (.tuple #[.int .i64 (((numTo most s.data.toList).1 : Nat) : Int), .int .i64 (((numTo most s.data.toList).2.1 : Nat) : Int), .int .i64 (((numTo most s.data.toList).2.2 : Nat) : Int)]) ∧ w' = w := by
  have hlt := num_lt (l := s.data.toList)
  have herr := num_err (l := s.data.toList)
  have hto : numTo most s.data.toList = if (num s.data.toList).2.2 ≠ 0 then (0, 0, (num s.data.toList).2.2) else if most < 0 ∨ most < ((num s.data.toList).1 : Int) then (0, 0, 8) else num s.data.toList := rfl
  have hcall := number_any s hs
  generalize num s.data.toList = r at *
  obtain ⟨n, t, e⟩ := r
  generalize numTo most s.data.toList = q at *
  simp only at hlt herr hto hcall
  have Hto := hide hto
  have Hcall := hide hcall
  clear hto hcall
  by_cases he : e = 0
  · have he1 : (((e : Nat) : Int) != 0) = false := by simp; omega
    by_cases h1 : most < 0
    · have hq : q = (0, 0, 8) := by rw [unhide Hto, if_neg (by simpa using he), if_pos (.inl h1)]
      have Hq := hide hq
      have d1 : decide (most < 0) = true := decide_eq_true h1
      clear hq
      go_enter Tryd.func115, Tryd.ntmps115
      go_wp2_with fail
      refine (unhide Hcall _).mono ?_
      rintro e w' ⟨rfl, rfl⟩
      go_wp2_with fail
      go_ret3
      refine ⟨?_, rfl⟩
      rw [unhide Hq]
      rfl
    · have d1 : decide (most < 0) = false := decide_eq_false h1
      have hw : IntKind.u64.wrap most = most := by rw [wrap_u64]; omega
      by_cases h2 : most < (n : Int)
      · have hq : q = (0, 0, 8) := by rw [unhide Hto, if_neg (by simpa using he), if_pos (.inr h2)]
        have Hq := hide hq
        have d2 : decide (most < (n : Int)) = true := decide_eq_true h2
        clear hq
        go_enter Tryd.func115, Tryd.ntmps115
        go_wp2_with fail
        refine (unhide Hcall _).mono ?_
        rintro e w' ⟨rfl, rfl⟩
        go_wp2_with fail
        go_ret3
        refine ⟨?_, rfl⟩
        rw [unhide Hq]
        rfl
      · have hq : q = (n, t, e) := by rw [unhide Hto, if_neg (by simpa using he), if_neg (by omega)]
        have Hq := hide hq
        have d2 : decide (most < (n : Int)) = false := decide_eq_false h2
        clear hq
        go_enter Tryd.func115, Tryd.ntmps115
        go_wp2_with fail
        refine (unhide Hcall _).mono ?_
        rintro e w' ⟨rfl, rfl⟩
        go_wp2_with fail
        go_ret3
        refine ⟨?_, rfl⟩
        rw [unhide Hq]
        subst he
        first | rfl | simp
  · have he1 : (((e : Nat) : Int) != 0) = true := by simp; omega
    have hq : q = (0, 0, e) := by rw [unhide Hto, if_pos (by simpa using he)]
    have Hq := hide hq
    clear hq
    go_enter Tryd.func115, Tryd.ntmps115
    go_wp2_with fail
    refine (unhide Hcall _).mono ?_
    rintro e w' ⟨rfl, rfl⟩
    go_wp2_with fail
    go_ret3
    refine ⟨?_, rfl⟩
    rw [unhide Hq]
    first | rfl | simp

theorem ret_i64 {a b : Int} (h : a = b) : Ending.returned (.int .i64 a) = .returned (.int .i64 b) := by rw [h]
theorem unfolded_any (n : Nat) (hn : n < 2 ^ 64) (w : World) :
    Calls Tryd.prog 112 #[.int .u64 (n : Int)] w fun e w' => e = .returned (.int .i64 (zag n)) ∧ w' = w := by
  have hz : zag n = if n % 2 = 1 then -((n / 2 : Nat) : Int) - 1 else ((n / 2 : Nat) : Int) := rfl
  have hand : bits .and .u64 (n : Int) 1 = ((n % 2 : Nat) : Int) := by
    rw [show (1 : Int) = ((1 : Nat) : Int) from rfl, u64_and_nat _ _ (by omega) (by decide), nat_mask1]
  generalize zag n = z at *
  by_cases h : n % 2 = 1
  · rw [if_pos h] at hz
    have h1 : (((n % 2 : Nat) : Int) == 1) = true := by simp; omega
    have h3 : ((n : Int) % (2 : Int) == 1) = true := by simp; omega
    subst hz
    go_enter Tryd.func112, Tryd.ntmps112
    go_wp2
    go_ret
    refine ⟨ret_i64 ?_, rfl⟩
    first | omega | (simp [wrap64]; omega)
  · rw [if_neg h] at hz
    have h1 : (((n % 2 : Nat) : Int) == 1) = false := by simp; omega
    have h3 : ((n : Int) % (2 : Int) == 1) = false := by simp; omega
    subst hz
    go_enter Tryd.func112, Tryd.ntmps112
    go_wp2
    go_ret
    refine ⟨ret_i64 ?_, rfl⟩
    first | omega | (simp [wrap64]; omega)

/-- Where the library's contract of the inner Clone finds its functions and types in this program. -/
def cloneRen : Go.Shelf.Ren := ⟨fun | 316 => 77 | n => n, fun | 9 => 9 | 3 => 3 | 4 => 4 | 37 => 48 | 0 => 0 | 127 => 55 | 5 => 5 | n => n, fun | n => n⟩
theorem cloneLays : Go.Proofs.LaysM.n316 Tryd.prog cloneRen := {
  mixed := by kernel_rfl
  f316 := Tryd.func77.trans (congrArg some (by kernel_rfl))
  t0 := Tryd.underlying0
  a0 := Tryd.isAgg0
  z0 := Tryd.sizeOf0
  v0 := Tryd.zeroValue0
  t3 := Tryd.underlying3
  a3 := Tryd.isAgg3
  z3 := Tryd.sizeOf3
  v3 := Tryd.zeroValue3
  t4 := Tryd.underlying4
  a4 := Tryd.isAgg4
  z4 := Tryd.sizeOf4
  v4 := Tryd.zeroValue4
  t9 := Tryd.underlying9
  a9 := Tryd.isAgg9
  z9 := Tryd.sizeOf9
  v9 := Tryd.zeroValue9
  t37 := Tryd.underlying48
  a37 := Tryd.isAgg48
  z37 := Tryd.sizeOf48
  v37 := Tryd.zeroValue48
  t127 := Tryd.underlying55
  a127 := Tryd.isAgg55
  z127 := Tryd.sizeOf55
  v127 := Tryd.zeroValue55
  t5 := Tryd.underlying5
  a5 := Tryd.isAgg5
  z5 := Tryd.sizeOf5
  v5 := Tryd.zeroValue5
  i0 := by kernel_rfl
  i3 := by kernel_rfl
  i4 := by kernel_rfl
  i5 := by kernel_rfl
  i9 := by kernel_rfl
  i37 := by kernel_rfl
  i127 := by kernel_rfl }
theorem lite_clone (s : ByteArray) (w : World) (hlim : s.size ≤ 281474976710656) :
    Calls Tryd.prog 77 #[.string s] w fun e w' => e = .returned (.string s) ∧ Below w.heap.size w w' := Any.stringslite_Clone cloneLays s w hlim
theorem clone_any (s : ByteArray) (w : World) (hlim : s.size ≤ 281474976710656) :
    Calls Tryd.prog 76 #[.string s] w fun e w' => e = .returned (.string s) ∧ Below w.heap.size w w' := by
  go_enter Tryd.func76, Tryd.ntmps76
  go_wp2_with fail
  refine (lite_clone s _ hlim).mono ?_
  rintro e w' ⟨rfl, hb⟩
  have Hb := hide hb
  clear hb
  go_wp2_with fail
  go_ret
  exact ⟨rfl, unhide Hb⟩
end Go.Proofs.YtkbmbcmcnpeabaaDoor

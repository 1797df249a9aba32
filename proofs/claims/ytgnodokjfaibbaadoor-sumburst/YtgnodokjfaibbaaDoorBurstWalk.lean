/- What SumBurst does, for any two texts, any place and pattern: it answers true, and nothing that was there has turned. Condition: the table's sixteen cells hold its numbers. -/
import Derived.Test.YtgnodokjfaibbaaDoorRowMem
import Derived.Test.YtgnodokjfaibbaaDoorTurn
namespace Go.Proofs.YtgnodokjfaibbaaDoor
open Crc Go.RowKit

theorem bit_bv (x : BitVec 32) (k : Nat) (_h : k < 32) : bits .and .u32 ((x.toNat : Int) / 2 ^ k) 1 = if x.getLsbD k = true then 1 else 0 := by
  have hx := x.isLt
  have e : (x.toNat : Int) / 2 ^ k = ((x.toNat / 2 ^ k : Nat) : Int) := by
    rw [Int.natCast_ediv]; simp
  have hlt : x.toNat / 2 ^ k < 4294967296 := Nat.lt_of_le_of_lt (Nat.div_le_self _ _) hx
  rw [e, show (1 : Int) = ((1 : Nat) : Int) from rfl, u32_and_nat _ _ hlt (by decide), nat_mask1, ← BitVec.testBit_toNat, Nat.testBit_eq_decide_div_mod_eq]
  have : x.toNat / 2 ^ k % 2 = 0 ∨ x.toNat / 2 ^ k % 2 = 1 := by omega
  rcases this with h | h <;> simp [h]

theorem xor_u8 (v : UInt8) (m : Nat) (h : m < 8) : bits .xor .u8 (v.toNat : Int) ((2 : Int) ^ m % 256) = (((v ^^^ UInt8.ofNat (2 ^ m)).toNat : Nat) : Int) := by
  have hv := v.toNat_lt
  have hm : 2 ^ m < 256 := Nat.lt_of_lt_of_le (Nat.pow_lt_pow_right (by decide) h) (by decide)
  have e : (2 : Int) ^ m % 256 = ((2 ^ m : Nat) : Int) := by
    have e0 : (2 : Int) ^ m = ((2 ^ m : Nat) : Int) := by simp
    have key : ∀ q : Nat, q < 256 → (q : Int) % 256 = (q : Int) := by intro q hq; omega
    rw [e0]; exact key _ hm
  rw [e, u8_xor_nat _ _ hv hm, UInt8.toNat_xor, UInt8.toNat_ofNat', Nat.mod_eq_of_lt (by simpa using hm)]
theorem val_u8 {a b : Int} (h : a = b) : Value.int .u8 a = .int .u8 b := by rw [h]
theorem val_bool {a b : Bool} (h : a = b) : Value.bool a = .bool b := by rw [h]

set_option maxHeartbeats 1000000 in
theorem burst_near (a b : ByteArray) (at_ pat : BitVec 32) (w w1 : World) (cap : Nat) (ha : a.size ≤ 100000) (hb : b.size ≤ 100000) (hT : Tab w)
    (hconv : Sem.run Tryd.prog (convert 9 27 (.string a)) w = .ok (.slice (some ⟨w.heap.size, 0, none⟩) a.size cap) w1) (hB1 : Below w.heap.size w w1) (hR1 : RowIs w1 w.heap.size a.data.toList) :
    Calls Tryd.prog 5 #[.string a, .string b, .int .u32 (at_.toNat : Int), .int .u32 (pat.toNat : Int)] w fun e w' => e = .returned (.bool true) ∧ Below w.heap.size w w' := by
  have HT : Hid (Tab w) := hide hT
  clear hT
  have HB1 := hide hB1
  have HR1 := hide hR1
  clear hB1 hR1
  have ga : ¬ (100000 : Int) < a.size := by omega
  have gb : ¬ (100000 : Int) < b.size := by omega
  have ha' : a.size ≤ maxLen := by unfold maxLen; omega
  have hb' : b.size ≤ maxLen := by unfold maxLen; omega
  have hab : (a ++ b).size ≤ maxLen := by rw [ByteArray.size_append]; unfold maxLen; omega
  have da : decide ((100000 : Int) < a.size) = false := decide_eq_false ga
  have db : decide ((100000 : Int) < b.size) = false := decide_eq_false gb
  have hp : ((at_.toNat : Int) % (800000 : Int)) = ((at_.toNat % 800000 : Nat) : Int) := by omega
  generalize hp' : at_.toNat % 800000 = p at hp
  have hp2 : p < 800000 := by omega
  clear hp'
  have E1 : Hid ((more (crc a.data.toList) b.data.toList).toNat = (crc (a ++ b).data.toList).toNat) := by
    apply hide; rw [crc_append, ByteArray.data_append, Array.toList_append]
  have E2 : Hid ((more (crc a.data.toList) []).toNat = (crc a.data.toList).toNat) := by
    apply hide; rw [more_nil]
  go_enter Tryd.func5, Tryd.ntmps5
  go_wp2_with fail
  refine (awake_any _ (unhide HT)).mono ?_
  rintro e w' ⟨rfl, rfl⟩
  go_wp2_with fail
  refine (crc_any a _ ha' (unhide HT)).mono ?_
  rintro e w' ⟨rfl, rfl⟩
  go_wp2_with fail
  refine (more_any _ b _ hb' (unhide HT)).mono ?_
  rintro e w' ⟨rfl, rfl⟩
  rw [unhide E1]
  go_wp2_with fail
  refine (crc_any (a ++ b) _ hab (unhide HT)).mono ?_
  rintro e w' ⟨rfl, rfl⟩
  go_wp2_with fail
  refine (more_any _ _ _ (by decide +kernel) (unhide HT)).mono ?_
  rintro e w' ⟨rfl, rfl⟩
  rw [show (((more (crc a.data.toList) (ByteArray.mk #[]).data.toList).toNat : Nat) : Int) = (((crc a.data.toList).toNat : Nat) : Int) from congrArg _ (unhide E2)]
  go_wp2_with fail
  go_loopw [11, 12] (fun t i wr => ∃ k : Nat, k ≤ 32 ∧ i = .int .i64 k ∧ t = .bool (turnedTo a.data.toList p pat k) ∧ Below w'.heap.size w' wr ∧ RowIs wr w'.heap.size (turnTo a.data.toList p pat k)) (fun _ i _ => 32 - (intOf i).toNat)
  case atStart => exact ⟨0, by omega, rfl, rfl, unhide HB1, unhide HR1⟩
  case round =>
    obtain ⟨k, hk, rfl, rfl, hB, hR⟩ := hrel
    have HB := hide hB
    have HR := hide hR
    clear hB hR
    have hlen : (turnTo a.data.toList p pat k).length = a.size := by rw [turnTo_length]; simp
    generalize hu : turnedTo a.data.toList p pat k = u
    have HU := hide hu
    clear hu
    by_cases hlt : k < 32
    · have hbit := bit_bv pat k hlt
      by_cases hx : pat.getLsbD k = true
      · rw [if_pos hx] at hbit
        have HX := hide hx
        clear hx
        by_cases hin : (p + k) / 8 < a.size
        · have hin' : ((p : Int) + (k : Int)) / 8 < (a.size : Int) := by omega
          have hcell := (unhide HR).2.1 ((p + k) / 8) (by rw [hlen]; exact hin)
          have hfroz := (unhide HR).2.2 ((p + k) / 8) (by rw [hlen]; exact hin)
          generalize hv : (turnTo a.data.toList p pat k).getD ((p + k) / 8) 0 = v at hcell
          have HV := hide hv
          clear hv
          have HL := hide hlen
          clear hlen
          go_wp2_with fail
          go_roundw
          case rel =>
            have hl : (p + k) / 8 < a.data.toList.length := by simpa using hin
            refine ⟨k + 1, by omega, by go_num, val_bool (turnedTo_yes _ _ _ _ (unhide HX) hl).symm, (unhide HB).setCell (Nat.le_refl _) _, ?_⟩
            rw [xor_u8 v _ (Nat.mod_lt _ (by decide)), turnTo_yes _ _ _ _ (unhide HX) hl, unhide HV]
            exact (unhide HR).set _ (by rw [unhide HL]; exact hin) _
          case measure => simp [intOf]; omega
        · have hin' : ¬ ((p : Int) + (k : Int)) / 8 < (a.size : Int) := by omega
          have HL := hide hlen
          clear hlen
          go_wp2_with fail
          go_roundw
          case rel =>
            have hn : ¬ (pat.getLsbD k = true ∧ (p + k) / 8 < a.data.toList.length) := fun h => hin (by simpa using h.2)
            refine ⟨k + 1, by omega, by go_num, val_bool ?_, unhide HB, ?_⟩
            · rw [turnedTo_no _ _ _ _ hn, unhide HU]
            · rw [turnTo_no _ _ _ _ hn]; exact unhide HR
          case measure => simp [intOf]; omega
      · rw [if_neg hx] at hbit
        have HX := hide hx
        clear hx
        have HL := hide hlen
        clear hlen
        go_wp2_with fail
        go_roundw
        case rel =>
          have hn : ¬ (pat.getLsbD k = true ∧ (p + k) / 8 < a.data.toList.length) := fun h => unhide HX h.1
          refine ⟨k + 1, by omega, by go_num, val_bool ?_, unhide HB, ?_⟩
          · rw [turnedTo_no _ _ _ _ hn, unhide HU]
          · rw [turnTo_no _ _ _ _ hn]; exact unhide HR
        case measure => simp [intOf]; omega
    · have hk2 : k = 32 := by omega
      subst hk2
      cases u with
      | false =>
        go_wp2_with fail
        go_ret
        exact ⟨rfl, unhide HB⟩
      | true =>
        have hco := conv_out (unhide HR) a.size cap hlen
        have HL := hide hlen
        clear hlen
        go_wp2_with fail
        refine (crc_any _ _ (by show (turnTo a.data.toList p pat 32).toArray.size ≤ maxLen; rw [List.size_toArray, unhide HL]; exact ha') ((unhide HT).below (unhide HB))).mono ?_
        rintro e w2 ⟨rfl, rfl⟩
        have hne := turned_nat a.data.toList p pat (unhide HU)
        rw [show (((crc (ByteArray.mk (turnTo a.data.toList p pat 32).toArray).data.toList).toNat : Nat) : Int) = (((crc (turnTo a.data.toList p pat 32)).toNat : Nat) : Int) from rfl]
        generalize (((crc (turnTo a.data.toList p pat 32)).toNat : Nat) : Int) = c2 at hne
        have hne2 : (c2 != (((crc a.data.toList).toNat : Nat) : Int)) = true := by unfold bne; rw [hne]; rfl
        clear hne
        go_wp2_with fail
        go_ret
        exact ⟨rfl, unhide HB⟩

theorem burst_far1 (a b : ByteArray) (at_ pat : BitVec 32) (w : World) (_ha : a.size ≤ maxLen) (_hb : b.size ≤ maxLen) (hT : Tab w) (ga : (100000 : Int) < a.size) :
    Calls Tryd.prog 5 #[.string a, .string b, .int .u32 (at_.toNat : Int), .int .u32 (pat.toNat : Int)] w fun e w' => e = .returned (.bool true) ∧ Below w.heap.size w w' := by
  have HT : Hid (Tab w) := hide hT
  clear hT
  unfold maxLen at _ha _hb
  go_enter Tryd.func5, Tryd.ntmps5
  go_wp2_with fail
  refine (awake_any _ (unhide HT)).mono ?_
  rintro e w' ⟨rfl, rfl⟩
  go_wp2_with fail
  go_ret
  exact ⟨rfl, Below.refl _ _⟩
theorem burst_far2 (a b : ByteArray) (at_ pat : BitVec 32) (w : World) (_hb : b.size ≤ maxLen) (hT : Tab w) (ga : ¬ (100000 : Int) < a.size) (gb : (100000 : Int) < b.size) :
    Calls Tryd.prog 5 #[.string a, .string b, .int .u32 (at_.toNat : Int), .int .u32 (pat.toNat : Int)] w fun e w' => e = .returned (.bool true) ∧ Below w.heap.size w w' := by
  have HT : Hid (Tab w) := hide hT
  clear hT
  unfold maxLen at _hb
  go_enter Tryd.func5, Tryd.ntmps5
  go_wp2_with fail
  refine (awake_any _ (unhide HT)).mono ?_
  rintro e w' ⟨rfl, rfl⟩
  go_wp2_with fail
  go_ret
  exact ⟨rfl, Below.refl _ _⟩
theorem burst_any (a b : ByteArray) (at_ pat : BitVec 32) (w : World) (ha : a.size ≤ maxLen) (hb : b.size ≤ maxLen) (hT : Tab w) :
    Calls Tryd.prog 5 #[.string a, .string b, .int .u32 (at_.toNat : Int), .int .u32 (pat.toNat : Int)] w fun e w' => e = .returned (.bool true) ∧ Below w.heap.size w w' := by
  by_cases ga : (100000 : Int) < a.size
  · exact burst_far1 a b at_ pat w ha hb hT ga
  · by_cases gb : (100000 : Int) < b.size
    · exact burst_far2 a b at_ pat w hb hT ga gb
    · obtain ⟨w1, cap, hc, hB, hR⟩ := conv_in w a
      exact burst_near a b at_ pat w w1 cap (by omega) (by omega) hT hc hB hR
end Go.Proofs.YtgnodokjfaibbaaDoor

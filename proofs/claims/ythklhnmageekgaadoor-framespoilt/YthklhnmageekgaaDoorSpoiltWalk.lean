/- What FrameSpoilt does, for any text, any place and pattern: it answers true, and nothing that was there has turned. Condition: the table's sixteen cells hold its numbers. -/
import Derived.Test.YthklhnmageekgaaDoorApartWalk
namespace Go.Proofs.YthklhnmageekgaaDoor
open Crc Go.RowKit

theorem bit_bv (x : BitVec 32) (k : Nat) (_h : k < 32) : bits .and .u32 ((x.toNat : Int) / 2 ^ k) 1 = if x.getLsbD k = true then 1 else 0 := by
  have hx := x.isLt
  have e : (x.toNat : Int) / 2 ^ k = ((x.toNat / 2 ^ k : Nat) : Int) := by
    rw [Int.natCast_ediv]; simp
  have hlt : x.toNat / 2 ^ k < 4294967296 := Nat.lt_of_le_of_lt (Nat.div_le_self _ _) hx
  rw [e, show (1 : Int) = ((1 : Nat) : Int) from rfl, u32_and_nat _ _ hlt (by decide), nat_mask1, ← BitVec.testBit_toNat, Nat.testBit_eq_decide_div_mod_eq]
  have : x.toNat / 2 ^ k % 2 = 0 ∨ x.toNat / 2 ^ k % 2 = 1 := by omega
  rcases this with h | h <;> simp [h]
theorem xor_u8 (v : UInt8) (m : Nat) (h : m < 8) : bits .xor .u8 (v.toNat : Int) ((2 : Int) ^ m % 256) = (((v ^^^ UInt8.ofNat (2 ^ m)).toNat : Nat) : Int) := by
  have hv := v.toNat_lt
  have hm : 2 ^ m < 256 := Nat.lt_of_lt_of_le (Nat.pow_lt_pow_right (by decide) h) (by decide)
  have e : (2 : Int) ^ m % 256 = ((2 ^ m : Nat) : Int) := by
    have e0 : (2 : Int) ^ m = ((2 ^ m : Nat) : Int) := by simp
    have key : ∀ q : Nat, q < 256 → (q : Int) % 256 = (q : Int) := by intro q hq; omega
    rw [e0]; exact key _ hm
  rw [e, u8_xor_nat _ _ hv hm, UInt8.toNat_xor, UInt8.toNat_ofNat', Nat.mod_eq_of_lt (by simpa using hm)]
theorem val_bool {a b : Bool} (h : a = b) : Value.bool a = .bool b := by rw [h]
theorem body_text (s : ByteArray) : (⟨s.data.toList.toArray⟩ : ByteArray) = s := bytes_ext rfl
/-- A frame in which bits are turned is refused as a whole. -/
theorem spoilt_whole (b : List UInt8) (hb : b.length ≤ 16384) (p : Nat) (x : BitVec 32) (h : turnedTo (frameOf b) p x 32 = true) : ∃ f : Nat, f ≠ 0 ∧ wholeOf (turnTo (frameOf b) p x 32) = ([], f) := by
  have h0 := frame_spoilt b hb p x h
  exact ⟨_, h0, by unfold wholeOf; rw [if_pos h0]⟩
theorem unspoilt_whole (b : List UInt8) (hb : b.length ≤ 16384) (p : Nat) (x : BitVec 32) (h : turnedTo (frameOf b) p x 32 = false) : wholeOf (turnTo (frameOf b) p x 32) = (b, 0) := by
  rw [turn_none h, whole_back b hb]

set_option maxHeartbeats 1000000 in
theorem spoilt_near (body : ByteArray) (at_ pat : BitVec 32) (w : World) (hT : Tab w) (h1 : ¬ (16384 : Int) < (body.size : Int)) :
    Calls Tryd.prog 6 #[.string body, .int .u32 (at_.toNat : Int), .int .u32 (pat.toNat : Int)] w fun e w' => e = .returned (.bool true) ∧ Below w.heap.size w w' := by
  have HT : Hid (Tab w) := hide hT
  clear hT
  have d1 : decide ((16384 : Int) < (body.size : Int)) = false := decide_eq_false h1
  have P := hide (put_is h1)
  obtain ⟨a, hf⟩ : ∃ a : ByteArray, a = ⟨(frameOf body.data.toList).toArray⟩ := ⟨_, rfl⟩
  have sf := frame_size hf
  have LF := hide (frame_list hf)
  have F := hide hf
  have ha : a.size ≤ 16396 := by omega
  clear hf sf
  have ha' : a.size ≤ maxLen := by unfold maxLen; omega
  have hbl : Hid (body.data.toList.length ≤ 16384) := hide (by rw [text_len]; omega)
  have hp : ((at_.toNat : Int) % (200000 : Int)) = ((at_.toNat % 200000 : Nat) : Int) := by omega
  generalize hp' : at_.toNat % 200000 = p at hp
  have hp2 : p < 200000 := by omega
  clear hp'
  go_enter Tryd.func6, Tryd.ntmps6
  go_wp2_with fail
  refine (awake_any _ (unhide HT)).mono ?_
  rintro e w1 ⟨rfl, m⟩
  have B := hide m
  clear m
  go_wp2_with fail
  refine (put_any body _ (by unfold maxLen; omega) ((unhide HT).below (unhide B))).mono ?_
  rintro e w2 ⟨rfl, m⟩
  replace B := hide ((unhide B).trans (m.mono (unhide B).size))
  clear m
  rw [unhide P, ← unhide F]
  obtain ⟨w3, cap, hconv, hB3, hR3⟩ := conv_in w2 a
  have HB3 := hide hB3
  have HR3 := hide hR3
  clear hB3 hR3
  go_wp2_with fail
  go_loopw [10, 11] (fun t i wr => ∃ k : Nat, k ≤ 32 ∧ i = .int .i64 k ∧ t = .bool (turnedTo a.data.toList p pat k) ∧ Below w2.heap.size w2 wr ∧ RowIs wr w2.heap.size (turnTo a.data.toList p pat k)) (fun _ i _ => 32 - (intOf i).toNat)
  case atStart => exact ⟨0, by omega, rfl, rfl, unhide HB3, unhide HR3⟩
  case round =>
    obtain ⟨k, hk, rfl, rfl, hB, hR⟩ := hrel
    have HB := hide hB
    have HR := hide hR
    clear hB hR
    have hlen : (turnTo a.data.toList p pat k).length = a.size := by rw [turnTo_length]; simp
    generalize hu : turnedTo a.data.toList p pat k = u
    have HU := hide hu
    clear hu
    by_cases hlt : k < 32
    · have hbit := bit_bv pat k hlt
      by_cases hx : pat.getLsbD k = true
      · rw [if_pos hx] at hbit
        have HX := hide hx
        clear hx
        by_cases hin : (p + k) / 8 < a.size
        · have hin' : ((p : Int) + (k : Int)) / 8 < (a.size : Int) := by omega
          have hcell := (unhide HR).2.1 ((p + k) / 8) (by rw [hlen]; exact hin)
          have hfroz := (unhide HR).2.2 ((p + k) / 8) (by rw [hlen]; exact hin)
          generalize hv : (turnTo a.data.toList p pat k).getD ((p + k) / 8) 0 = v at hcell
          have HV := hide hv
          clear hv
          have HL := hide hlen
          clear hlen
          go_wp2_with fail
          go_roundw
          case rel =>
            have hl : (p + k) / 8 < a.data.toList.length := by simpa using hin
            refine ⟨k + 1, by omega, by go_num, val_bool (turnedTo_yes _ _ _ _ (unhide HX) hl).symm, (unhide HB).setCell (Nat.le_refl _) _, ?_⟩
            rw [xor_u8 v _ (Nat.mod_lt _ (by decide)), turnTo_yes _ _ _ _ (unhide HX) hl, unhide HV]
            exact (unhide HR).set _ (by rw [unhide HL]; exact hin) _
          case measure => simp [intOf]; omega
        · have hin' : ¬ ((p : Int) + (k : Int)) / 8 < (a.size : Int) := by omega
          have HL := hide hlen
          clear hlen
          go_wp2_with fail
          go_roundw
          case rel =>
            have hn : ¬ (pat.getLsbD k = true ∧ (p + k) / 8 < a.data.toList.length) := fun h => hin (by simpa using h.2)
            refine ⟨k + 1, by omega, by go_num, val_bool ?_, unhide HB, ?_⟩
            · rw [turnedTo_no _ _ _ _ hn, unhide HU]
            · rw [turnTo_no _ _ _ _ hn]; exact unhide HR
          case measure => simp [intOf]; omega
      · rw [if_neg hx] at hbit
        have HX := hide hx
        clear hx
        have HL := hide hlen
        clear hlen
        go_wp2_with fail
        go_roundw
        case rel =>
          have hn : ¬ (pat.getLsbD k = true ∧ (p + k) / 8 < a.data.toList.length) := fun h => unhide HX h.1
          refine ⟨k + 1, by omega, by go_num, val_bool ?_, unhide HB, ?_⟩
          · rw [turnedTo_no _ _ _ _ hn, unhide HU]
          · rw [turnTo_no _ _ _ _ hn]; exact unhide HR
        case measure => simp [intOf]; omega
    · have hk2 : k = 32 := by omega
      subst hk2
      have hco := conv_out (unhide HR) a.size cap hlen
      have HL := hide hlen
      clear hlen
      replace B := hide ((unhide B).trans ((unhide HB).mono (unhide B).size))
      go_wp2_with fail
      refine (whole_any _ _ (by show (turnTo a.data.toList p pat 32).toArray.size ≤ maxLen; rw [List.size_toArray, unhide HL]; exact ha') ((unhide HT).below (unhide B))).mono ?_
      rintro e w5 ⟨rfl, m⟩
      replace B := hide ((unhide B).trans (m.mono (unhide B).size))
      clear m
      cases u with
      | false =>
        have e0 : wholeOf (ByteArray.mk (turnTo a.data.toList p pat 32).toArray).data.toList = (body.data.toList, 0) := by
          have hU := unhide HU
          rw [unhide LF] at hU
          show wholeOf (turnTo a.data.toList p pat 32) = _
          rw [unhide LF]
          exact unspoilt_whole _ (unhide hbl) p pat hU
        rw [e0, body_text]
        clear e0
        go_wp2_with fail
        go_ret
        exact ⟨rfl, unhide B⟩
      | true =>
        obtain ⟨g, hg, e0⟩ : ∃ g : Nat, g ≠ 0 ∧ wholeOf (ByteArray.mk (turnTo a.data.toList p pat 32).toArray).data.toList = ([], g) := by
          have hU := unhide HU
          rw [unhide LF] at hU
          obtain ⟨g, hg, e⟩ := spoilt_whole _ (unhide hbl) p pat hU
          refine ⟨g, hg, ?_⟩
          show wholeOf (turnTo a.data.toList p pat 32) = _
          rw [unhide LF]
          exact e
        rw [e0]
        clear e0
        have hne : (((g : Nat) : Int) != 0) = true := by simp; omega
        go_wp2_with fail
        go_ret
        exact ⟨rfl, unhide B⟩
theorem spoilt_far (body : ByteArray) (at_ pat : BitVec 32) (w : World) (hT : Tab w) (h1 : (16384 : Int) < (body.size : Int)) :
    Calls Tryd.prog 6 #[.string body, .int .u32 (at_.toNat : Int), .int .u32 (pat.toNat : Int)] w fun e w' => e = .returned (.bool true) ∧ Below w.heap.size w w' := by
  have HT : Hid (Tab w) := hide hT
  clear hT
  have d1 : decide ((16384 : Int) < (body.size : Int)) = true := decide_eq_true h1
  go_enter Tryd.func6, Tryd.ntmps6
  go_wp2_with fail
  refine (awake_any _ (unhide HT)).mono ?_
  rintro e w1 ⟨rfl, m⟩
  have B := hide m
  clear m
  go_wp2_with fail
  go_ret
  exact ⟨rfl, unhide B⟩
theorem spoilt_any (body : ByteArray) (at_ pat : BitVec 32) (w : World) (_h : body.size ≤ maxLen) (hT : Tab w) :
    Calls Tryd.prog 6 #[.string body, .int .u32 (at_.toNat : Int), .int .u32 (pat.toNat : Int)] w fun e w' => e = .returned (.bool true) ∧ Below w.heap.size w w' := by
  by_cases h1 : (16384 : Int) < (body.size : Int)
  · exact spoilt_far body at_ pat w hT h1
  · exact spoilt_near body at_ pat w hT h1
end Go.Proofs.YthklhnmageekgaaDoor

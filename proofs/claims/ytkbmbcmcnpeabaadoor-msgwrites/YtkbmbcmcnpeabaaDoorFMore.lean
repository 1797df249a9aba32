/- What the program's More, Crc and awake, and the document's own More and Crc, answer: the sum by bit vectors; the world stays as it is. Condition: the table's sixteen cells hold its numbers. -/
import Derived.Test.YtkbmbcmcnpeabaaDoorFBits
import Derived.Test.YtkbmbcmcnpeabaaDoorChecked
import Derived.WalkKit
import Derived.WalkSpells
import Derived.Outline
import Derived.Below
namespace Go.Proofs.YtkbmbcmcnpeabaaDoor.Fm
open Crc Go.RowKit

theorem hide {p : Prop} (h : p) : Hid p := h
theorem unhide {p : Prop} (h : Hid p) : p := h

/-- The table's cells. -/
def Tab (w : World) : Prop := ∀ i : Nat, i < 16 → w.cell? ⟨0, i, none⟩ = some (.int .u32 (tab.getD i 0))
theorem Tab.at {w : World} (h : Tab w) (x : BitVec 32) : w.cell? ⟨0, x.toNat % 16, none⟩ = some (.int .u32 (((Ln 4 (BitVec.ofNat 32 (x.toNat % 16))).toNat : Nat) : Int)) := by
  rw [← tab_at _ (Nat.mod_lt _ (by decide))]
  exact h _ (Nat.mod_lt _ (by decide))
theorem take_snoc (s : ByteArray) (k : Nat) (h : k < s.size) : s.data.toList.take (k + 1) = s.data.toList.take k ++ [s[k]] := by
  rw [List.take_succ_eq_append_getElem (by simpa using h)]; rfl
theorem ret_u32 {a b : Int} (h : a = b) : Ending.returned (.int .u32 a) = .returned (.int .u32 b) := by rw [h]
theorem val_u32 {a b : Int} (h : a = b) : Value.int .u32 a = .int .u32 b := by rw [h]
theorem inner_end (r : BitVec 32) (b : UInt8) : bits .xor .u32 (r.toNat : Int) ((b.toNat : Int) % 4294967296) = (((r ^^^ Crc.byteOf b).toNat : Nat) : Int) := by
  rw [byte_bv, xor_bv]

set_option maxHeartbeats 400000 in
theorem more_any (c : BitVec 32) (s : ByteArray) (w : World) (hs : s.size ≤ maxLen) (hT : Tab w) :
    Calls Tryd.prog 74 #[.int .u32 (c.toNat : Int), .string s] w fun e w' => e = .returned (.int .u32 (((more c s.data.toList).toNat : Nat) : Int)) ∧ w' = w := by
  unfold maxLen at hs
  have HT : Hid (Tab w) := hide hT
  clear hT
  have hn := not_bv c
  generalize hd : ((~~~ c).toNat : Int) = d at hn
  have Hd := hide hd
  clear hd
  go_enter Tryd.func74, Tryd.ntmps74
  go_wp2
  go_loop [5, 11] (fun r i => ∃ k : Nat, k ≤ s.size ∧ i = .int .i64 k ∧ r = .int .u32 (((reg (~~~ c) (s.data.toList.take k)).toNat : Nat) : Int)) (fun _ i => s.size - (intOf i).toNat)
  case atStart => exact ⟨0, Nat.zero_le _, rfl, val_u32 (by rw [← unhide Hd]; rfl)⟩
  case round =>
    obtain ⟨k, hk, rfl, rfl⟩ := hrel
    generalize hr : reg (~~~ c) (s.data.toList.take k) = r
    have Hr := hide hr
    clear hr
    by_cases hlt : k < s.size
    · have hx := inner_end r s[k]
      go_wp2
      go_loop [5, 20] (fun q i => ∃ m : Nat, m ≤ 2 ∧ i = .int .i64 m ∧ q = .int .u32 (((Ln (4 * m) (r ^^^ Crc.byteOf s[k])).toNat : Nat) : Int)) (fun _ i => 2 - (intOf i).toNat)
      case atStart => exact ⟨0, Nat.zero_le _, rfl, rfl⟩
      case round =>
        obtain ⟨m, hm, rfl, rfl⟩ := hrel
        generalize hq : Ln (4 * m) (r ^^^ Crc.byteOf s[k]) = q
        have Hq := hide hq
        clear hq
        by_cases hlt2 : m < 2
        · have ha := and15_bv q
          have hcell := (unhide HT).at q
          generalize hv : (((Ln 4 (BitVec.ofNat 32 (q.toNat % 16))).toNat : Nat) : Int) = v at hcell
          have Hv := hide hv
          clear hv
          generalize ho : q.toNat % 16 = o at ha hcell
          have ho2 : o < 16 := by rw [← ho]; exact Nat.mod_lt _ (by decide)
          have Ho := hide ho
          clear ho
          go_wp2
          go_round
          case rel =>
            refine ⟨m + 1, by omega, by go_num, val_u32 ?_⟩
            rw [← unhide Hv, shr4_bv, xor_bv, half, ← unhide Hq, show 4 * (m + 1) = 4 * m + 4 by omega, Ln_add]
          case measure => simp [intOf]; omega
        · have hm2 : m = 2 := by omega
          have Hm := hide hm2
          clear hm2
          go_wp2
          go_round
          case rel =>
            refine ⟨k + 1, by omega, by go_num, val_u32 ?_⟩
            rw [take_snoc s k hlt, reg_append, unhide Hr, ← unhide Hq, unhide Hm]
            rfl
          case measure => simp [intOf]; omega
    · have hk2 : s.data.toList.take k = s.data.toList := List.take_of_length_le (by simp; omega)
      have Hk := hide hk2
      clear hk2
      go_wp2
      go_ret
      refine ⟨ret_u32 ?_, rfl⟩
      rw [not_bv, ← unhide Hr, unhide Hk]
      rfl

theorem crc_any (s : ByteArray) (w : World) (hs : s.size ≤ maxLen) (hT : Tab w) :
    Calls Tryd.prog 67 #[.string s] w fun e w' => e = .returned (.int .u32 (((crc s.data.toList).toNat : Nat) : Int)) ∧ w' = w := by
  have HT : Hid (Tab w) := hide hT
  clear hT
  go_enter Tryd.func67, Tryd.ntmps67
  go_wp2_with fail
  refine (more_any 0#32 s _ hs (unhide HT)).mono ?_
  rintro e w' ⟨rfl, rfl⟩
  go_wp2
  go_ret
  exact ⟨rfl, rfl⟩

set_option maxHeartbeats 400000 in
theorem ref_more_any (c : BitVec 32) (s : ByteArray) (w : World) (hs : s.size ≤ maxLen) :
    Calls Tryd.prog 60 #[.int .u32 (c.toNat : Int), .string s] w fun e w' => e = .returned (.int .u32 (((more c s.data.toList).toNat : Nat) : Int)) ∧ w' = w := by
  unfold maxLen at hs
  have hn := not_bv' c
  generalize hd : ((~~~ c).toNat : Int) = d at hn
  have Hd := hide hd
  clear hd
  go_enter Tryd.func60, Tryd.ntmps60
  go_wp2
  go_loop [5, 6] (fun r i => ∃ k : Nat, k ≤ s.size ∧ i = .int .i64 k ∧ r = .int .u32 (((reg (~~~ c) (s.data.toList.take k)).toNat : Nat) : Int)) (fun _ i => s.size - (intOf i).toNat)
  case atStart => exact ⟨0, Nat.zero_le _, rfl, val_u32 (by rw [← unhide Hd]; rfl)⟩
  case round =>
    obtain ⟨k, hk, rfl, rfl⟩ := hrel
    generalize hr : reg (~~~ c) (s.data.toList.take k) = r
    have Hr := hide hr
    clear hr
    by_cases hlt : k < s.size
    · have hx := inner_end r s[k]
      go_wp2
      go_loop [5, 7] (fun q i => ∃ m : Nat, m ≤ 8 ∧ i = .int .i64 m ∧ q = .int .u32 (((Ln m (r ^^^ Crc.byteOf s[k])).toNat : Nat) : Int)) (fun _ i => 8 - (intOf i).toNat)
      case atStart => exact ⟨0, Nat.zero_le _, rfl, rfl⟩
      case round =>
        obtain ⟨m, hm, rfl, rfl⟩ := hrel
        generalize hq : Ln m (r ^^^ Crc.byteOf s[k]) = q
        have Hq := hide hq
        clear hq
        by_cases hlt2 : m < 8
        · have hb := q.isLt
          go_wp2
          · go_round
            case rel =>
              refine ⟨m + 1, by omega, by go_num, val_u32 ?_⟩
              rw [(ref_step q).1 (by simpa using ‹((q.toNat : Int) % (2 : Int) == 1) = true›), ← unhide Hq]; rfl
            case measure => simp [intOf]; omega
          · go_round
            case rel =>
              refine ⟨m + 1, by omega, by go_num, val_u32 ?_⟩
              rw [(ref_step q).2 (by simpa using ‹((q.toNat : Int) % (2 : Int) == 1) = false›), ← unhide Hq]; rfl
            case measure => simp [intOf]; omega
        · have hm2 : m = 8 := by omega
          have Hm := hide hm2
          clear hm2
          go_wp2
          go_round
          case rel =>
            refine ⟨k + 1, by omega, by go_num, val_u32 ?_⟩
            rw [take_snoc s k hlt, reg_append, unhide Hr, ← unhide Hq, unhide Hm]
            rfl
          case measure => simp [intOf]; omega
    · have hk2 : s.data.toList.take k = s.data.toList := List.take_of_length_le (by simp; omega)
      have Hk := hide hk2
      clear hk2
      go_wp2
      go_ret
      refine ⟨ret_u32 ?_, rfl⟩
      rw [not_bv', ← unhide Hr, unhide Hk]
      rfl
theorem ref_crc_any (s : ByteArray) (w : World) (hs : s.size ≤ maxLen) :
    Calls Tryd.prog 34 #[.string s] w fun e w' => e = .returned (.int .u32 (((crc s.data.toList).toNat : Nat) : Int)) ∧ w' = w := by
  go_enter Tryd.func34, Tryd.ntmps34
  go_wp2_with fail
  refine (ref_more_any 0#32 s _ hs).mono ?_
  rintro e w' ⟨rfl, rfl⟩
  go_wp2
  go_ret
  exact ⟨rfl, rfl⟩

/-- The chapter's examples. -/
theorem ex9 : (((crc [49, 50, 51, 52, 53, 54, 55, 56, 57]).toNat : Nat) : Int) = 3808858755 := by decide +kernel
theorem ex0 : (((crc []).toNat : Nat) : Int) = 0 := by decide +kernel
theorem ex1 : (((crc [97]).toNat : Nat) : Int) = 3251651376 := by decide +kernel

end Go.Proofs.YtkbmbcmcnpeabaaDoor.Fm

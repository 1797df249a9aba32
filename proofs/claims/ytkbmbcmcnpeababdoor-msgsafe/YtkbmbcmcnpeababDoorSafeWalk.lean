/- MsgSafe's walk: a message's frame in which bits are turned within 32 is not read. Condition: the table's sixteen cells hold its numbers. -/
import Derived.Test.YtkbmbcmcnpeababDoorCutWalk
namespace Go.Proofs.YtkbmbcmcnpeababDoor.Fm
open Crc Go.RowKit

theorem bit_bv (x : BitVec 32) (k : Nat) (_h : k < 32) : bits .and .u32 ((x.toNat : Int) / 2 ^ k) 1 = if x.getLsbD k = true then 1 else 0 := by
  have hx := x.isLt
  have e : (x.toNat : Int) / 2 ^ k = ((x.toNat / 2 ^ k : Nat) : Int) := by
    rw [Int.natCast_ediv]; simp
  have hlt : x.toNat / 2 ^ k < 4294967296 := Nat.lt_of_le_of_lt (Nat.div_le_self _ _) hx
  rw [e, show (1 : Int) = ((1 : Nat) : Int) from rfl, u32_and_nat _ _ hlt (by decide), nat_mask1, ← BitVec.testBit_toNat, Nat.testBit_eq_decide_div_mod_eq]
  have : x.toNat / 2 ^ k % 2 = 0 ∨ x.toNat / 2 ^ k % 2 = 1 := by omega
  rcases this with h | h <;> simp [h]
theorem xor_u8 (v : UInt8) (m : Nat) (h : m < 8) : bits .xor .u8 (v.toNat : Int) ((2 : Int) ^ m % 256) = (((v ^^^ UInt8.ofNat (2 ^ m)).toNat : Nat) : Int) := by
  have hv := v.toNat_lt
  have hm : 2 ^ m < 256 := Nat.lt_of_lt_of_le (Nat.pow_lt_pow_right (by decide) h) (by decide)
  have e : (2 : Int) ^ m % 256 = ((2 ^ m : Nat) : Int) := by
    have e0 : (2 : Int) ^ m = ((2 ^ m : Nat) : Int) := by simp
    have key : ∀ q : Nat, q < 256 → (q : Int) % 256 = (q : Int) := by intro q hq; omega
    rw [e0]; exact key _ hm
  rw [e, u8_xor_nat _ _ hv hm, UInt8.toNat_xor, UInt8.toNat_ofNat', Nat.mod_eq_of_lt (by simpa using hm)]
theorem val_bool {a b : Bool} (h : a = b) : Value.bool a = .bool b := by rw [h]
theorem body_text (s : ByteArray) : (⟨s.data.toList.toArray⟩ : ByteArray) = s := bytes_ext rfl
/-- A frame in which bits are turned is refused as a whole. -/
theorem spoilt_whole (b : List UInt8) (hb : b.length ≤ 16384) (p : Nat) (x : BitVec 32) (h : turnedTo (frameOf b) p x 32 = true) : ∃ f : Nat, f ≠ 0 ∧ wholeOf (turnTo (frameOf b) p x 32) = ([], f) := by
  have h0 := frame_spoilt b hb p x h
  exact ⟨_, h0, by unfold wholeOf; rw [if_pos h0]⟩
theorem unspoilt_whole (b : List UInt8) (hb : b.length ≤ 16384) (p : Nat) (x : BitVec 32) (h : turnedTo (frameOf b) p x 32 = false) : wholeOf (turnTo (frameOf b) p x 32) = (b, 0) := by
  rw [turn_none h, whole_back b hb]

end Go.Proofs.YtkbmbcmcnpeababDoor.Fm
namespace Go.Proofs.YtkbmbcmcnpeababDoor
open Pk Go.RowKit

theorem of_spoilt {m : MsgV} (h : Right m) (p : Nat) (x : BitVec 32) (ht : Fm.Crc.turnedTo (Fm.Crc.frameOf (msgBytes m)) p x 32 = true) : ∃ f : Nat, f ≠ 0 ∧ ofMsg (Fm.Crc.turnTo (Fm.Crc.frameOf (msgBytes m)) p x 32) = (MsgV.zero, f) := by
  obtain ⟨f, h0, e⟩ := Fm.spoilt_whole (msgBytes m) (msg_len h) p x ht
  refine ⟨f, h0, ?_⟩
  unfold ofMsg
  rw [e, if_pos h0]
theorem of_unspoilt {m : MsgV} (h : Right m) (p : Nat) (x : BitVec 32) (ht : Fm.Crc.turnedTo (Fm.Crc.frameOf (msgBytes m)) p x 32 = false) : ofMsg (Fm.Crc.turnTo (Fm.Crc.frameOf (msgBytes m)) p x 32) = (m, 0) := by
  have e := Fm.unspoilt_whole (msgBytes m) (msg_len h) p x ht
  unfold ofMsg
  rw [e, if_neg (fun h => h rfl)]
  exact msg_back h
set_option maxHeartbeats 16000000 in
set_option maxRecDepth 100000 in
theorem safe_said (ma : MsgV) (a1 a2 : Option Addr) (c1 c2 : Nat) (at_ pat : BitVec 32) (w : World) (fa : Fit ma) (ia1 : Ints w a1 ma.owner) (ia2 : Ints w a2 ma.set) (hT : Fm.Tab w) :
    Calls Tryd.prog 4 #[.agg (msgCells ma a1 c1 a2 c2).toArray, .int .u32 (at_.toNat : Int), .int .u32 (pat.toNat : Int)] w fun e w' => e = .returned (.bool true) ∧ Below w.heap.size w w' := by
  obtain ⟨A, hA⟩ : ∃ A, A = w.heap.size := ⟨_, rfl⟩
  obtain ⟨W, hW⟩ : ∃ W, W = w.alloc (.cells (msgCells ma a1 c1 a2 c2).toArray 29) := ⟨_, rfl⟩
  have mW : Moved (fun _ => False) w W := by rw [hW]; exact (Moved.refl _ _).alloc _
  have RA : Hid (RowAt W A (msgCells ma a1 c1 a2 c2)) := hide (by rw [hW, hA]; exact row_new _ _ _)
  have JA := hide (And.intro (ia1.keep mW fun _ _ => id) (ia2.keep mW fun _ _ => id))
  have HT := hide (tab_moved hT mW)
  have HW := hide hW
  have HA := hide hA
  have HF := hide fa
  have fin : ∀ w', Moved (fun _ => False) W w' → Below w.heap.size w w' := fun w' h => (mW.trans h fun _ f => f.elim).below (fun _ f => f.elim) (Nat.le_refl _)
  have FIN := hide fin
  have hp : ((at_.toNat : Int) % (100000 : Int)) = ((at_.toNat % 100000 : Nat) : Int) := by omega
  generalize hp' : at_.toNat % 100000 = p at hp
  have hp2 : p < 100000 := by omega
  clear mW hW hA ia1 ia2 fa hT fin hp'
  go_enter Tryd.func4, Tryd.ntmps4
  go_upto_region 1 with fail
  rw [← unhide HA, ← unhide HW]
  go_wp2_with fail
  refine (awake_any W).mono ?_
  rintro e w1 ⟨rfl, hm⟩
  have MV := hide hm
  clear hm
  go_wp2_with (refine wpList_load_on rfl 29 (.tmp 3) rfl A 0 rfl (msgCells ma a1 c1 a2 c2) _ ((unhide RA).keep (unhide MV) id).range Tryd.underlying29 rfl (by kernel_rfl) ?_)
  refine (great_any ma a1 a2 c1 c2 w1).mono ?_
  rintro e w2 ⟨rfl, hm⟩
  replace MV := hide ((unhide MV).trans hm fun _ f => f.elim)
  clear hm
  cases hga : great ma
  rotate_left
  · go_wp2_with fail
    go_ret
    exact ⟨rfl, unhide FIN _ (unhide MV)⟩
  clear hga
  by_cases ra : Right ma
  rotate_left
  · obtain ⟨ea, hea⟩ : ∃ e, errOf ma = e := ⟨_, rfl⟩
    have hea0 : ¬ ea = 0 := by rw [← hea]; unfold errOf; split <;> decide
    have HEA := hide hea
    have HR := hide ra
    clear hea ra
    go_wp2_with (refine wpList_load_on rfl 29 (.tmp 3) rfl A 0 rfl (msgCells ma a1 c1 a2 c2) _ ((unhide RA).keep (unhide MV) id).range Tryd.underlying29 rfl (by kernel_rfl) ?_)
    refine (data_no ma a1 a2 c1 c2 w2 (unhide HF) ((unhide JA).1.keep (unhide MV) fun _ _ => id) ((unhide JA).2.keep (unhide MV) fun _ _ => id) (tab_moved (unhide HT) (unhide MV)) (unhide HR)).mono ?_
    rintro e w3 ⟨rfl, hm⟩
    rw [unhide HEA]
    replace MV := hide ((unhide MV).trans hm fun _ f => f.elim)
    clear hm
    go_wp2_with fail
    go_ret
    exact ⟨rfl, unhide FIN _ (unhide MV)⟩
  have HR := hide ra
  have hlen0 := msg_len ra
  obtain ⟨a, hsd⟩ : ∃ x, (⟨(Fm.Crc.frameOf (msgBytes ma)).toArray⟩ : ByteArray) = x := ⟨_, rfl⟩
  have hd1 : a.data.toList = Fm.Crc.frameOf (msgBytes ma) := by rw [← hsd]
  have ha : a.size ≤ 16396 := by
    have : a.size = a.data.toList.length := rfl
    rw [this, hd1, Fm.Crc.frameOf_length]; omega
  have LF := hide hd1
  have HSD := hide hsd
  clear ra hsd hd1 hlen0
  go_wp2_with (refine wpList_load_on rfl 29 (.tmp 3) rfl A 0 rfl (msgCells ma a1 c1 a2 c2) _ ((unhide RA).keep (unhide MV) id).range Tryd.underlying29 rfl (by kernel_rfl) ?_)
  refine (data_yes ma a1 a2 c1 c2 w2 (unhide HF) ((unhide JA).1.keep (unhide MV) fun _ _ => id) ((unhide JA).2.keep (unhide MV) fun _ _ => id) (tab_moved (unhide HT) (unhide MV)) (unhide HR)).mono ?_
  rintro e w3 ⟨rfl, hm⟩
  rw [unhide HSD]
  replace MV := hide ((unhide MV).trans hm fun _ f => f.elim)
  clear hm
  obtain ⟨w4, cap, hconv, hB4, hR4⟩ := Fm.conv_in w3 a
  have HB4 := hide hB4
  have HR4 := hide hR4
  clear hB4 hR4
  go_wp2_with fail
  go_loopw [10, 11] (fun t i wr => ∃ k : Nat, k ≤ 32 ∧ i = .int .i64 k ∧ t = .bool (Fm.Crc.turnedTo a.data.toList p pat k) ∧ Below w3.heap.size w3 wr ∧ Fm.RowIs wr w3.heap.size (Fm.Crc.turnTo a.data.toList p pat k)) (fun _ i _ => 32 - (intOf i).toNat)
  case atStart => exact ⟨0, by omega, rfl, rfl, unhide HB4, unhide HR4⟩
  case round =>
    obtain ⟨k, hk, rfl, rfl, hB, hR⟩ := hrel
    have HB := hide hB
    have HRW := hide hR
    clear hB hR
    have hlen : (Fm.Crc.turnTo a.data.toList p pat k).length = a.size := by rw [Fm.Crc.turnTo_length]; simp
    generalize hu : Fm.Crc.turnedTo a.data.toList p pat k = u
    have HU := hide hu
    clear hu
    by_cases hlt : k < 32
    · have hbit := Fm.bit_bv pat k hlt
      by_cases hx : pat.getLsbD k = true
      · rw [if_pos hx] at hbit
        have HX := hide hx
        clear hx
        by_cases hin : (p + k) / 8 < a.size
        · have hin' : ((p : Int) + (k : Int)) / 8 < (a.size : Int) := by omega
          have hcell := (unhide HRW).2.1 ((p + k) / 8) (by rw [hlen]; exact hin)
          have hfroz := (unhide HRW).2.2 ((p + k) / 8) (by rw [hlen]; exact hin)
          generalize hv : (Fm.Crc.turnTo a.data.toList p pat k).getD ((p + k) / 8) 0 = v at hcell
          have HV := hide hv
          clear hv
          have HL := hide hlen
          clear hlen
          go_wp2_with fail
          go_roundw
          case rel =>
            have hl : (p + k) / 8 < a.data.toList.length := by simpa using hin
            refine ⟨k + 1, by omega, by go_num, Fm.val_bool (Fm.Crc.turnedTo_yes _ _ _ _ (unhide HX) hl).symm, (unhide HB).setCell (Nat.le_refl _) _, ?_⟩
            rw [Fm.xor_u8 v _ (Nat.mod_lt _ (by decide)), Fm.Crc.turnTo_yes _ _ _ _ (unhide HX) hl, unhide HV]
            exact (unhide HRW).set _ (by rw [unhide HL]; exact hin) _
          case measure => simp [intOf]; omega
        · have hin' : ¬ ((p : Int) + (k : Int)) / 8 < (a.size : Int) := by omega
          have HL := hide hlen
          clear hlen
          go_wp2_with fail
          go_roundw
          case rel =>
            have hn : ¬ (pat.getLsbD k = true ∧ (p + k) / 8 < a.data.toList.length) := fun h => hin (by simpa using h.2)
            refine ⟨k + 1, by omega, by go_num, Fm.val_bool ?_, unhide HB, ?_⟩
            · rw [Fm.Crc.turnedTo_no _ _ _ _ hn, unhide HU]
            · rw [Fm.Crc.turnTo_no _ _ _ _ hn]; exact unhide HRW
          case measure => simp [intOf]; omega
      · rw [if_neg hx] at hbit
        have HX := hide hx
        clear hx
        have HL := hide hlen
        clear hlen
        go_wp2_with fail
        go_roundw
        case rel =>
          have hn : ¬ (pat.getLsbD k = true ∧ (p + k) / 8 < a.data.toList.length) := fun h => unhide HX h.1
          refine ⟨k + 1, by omega, by go_num, Fm.val_bool ?_, unhide HB, ?_⟩
          · rw [Fm.Crc.turnedTo_no _ _ _ _ hn, unhide HU]
          · rw [Fm.Crc.turnTo_no _ _ _ _ hn]; exact unhide HRW
        case measure => simp [intOf]; omega
    · have hk2 : k = 32 := by omega
      subst hk2
      have hco := Fm.conv_out (unhide HRW) a.size cap hlen
      have hof := ofMsg_any ⟨(Fm.Crc.turnTo a.data.toList p pat 32).toArray⟩ (by show (Fm.Crc.turnTo a.data.toList p pat 32).toArray.size ≤ _; rw [List.size_toArray, hlen]; omega) wr (tab_moved (unhide HT) ((unhide MV).trans (Moved.of_below (F := fun _ => False) (unhide HB)) fun _ f => f.elim))
      have HL := hide hlen
      clear hlen
      replace MV := hide ((unhide MV).trans (Moved.of_below (F := fun _ => False) (unhide HB)) fun _ f => f.elim)
      obtain ⟨mz, E, em, hE⟩ : ∃ (mz : MsgV) (E : Nat), ofMsg (⟨(Fm.Crc.turnTo a.data.toList p pat 32).toArray⟩ : ByteArray).data.toList = (mz, E) ∧ ((u = true ∧ E ≠ 0) ∨ (u = false ∧ E = 0)) := by
        have hU := unhide HU
        have hLF := unhide LF
        have e0 : (⟨(Fm.Crc.turnTo a.data.toList p pat 32).toArray⟩ : ByteArray).data.toList = Fm.Crc.turnTo a.data.toList p pat 32 := rfl
        rw [e0, hLF]
        rw [hLF] at hU
        cases u with
        | true =>
          obtain ⟨f, h0, e⟩ := of_spoilt (unhide HR) p pat hU
          exact ⟨_, _, e, .inl ⟨rfl, h0⟩⟩
        | false => exact ⟨_, _, of_unspoilt (unhide HR) p pat hU, .inr ⟨rfl, rfl⟩⟩
      rw [em] at hof
      have HOF := hide hof
      have HE := hide hE
      clear hof em hE
      go_wp2_with fail
      refine (unhide HOF).mono ?_
      rintro e v1 ⟨hm, x1, y1, z1, t1, rfl, -⟩
      replace MV := hide ((unhide MV).trans hm fun _ f => f.elim)
      obtain ⟨u1, hu, -, hmf, hth⟩ := keep_at v1 mz x1 z1 y1 t1
      have U1 := hide hu
      have T1 := hide hth
      replace MV := hide ((unhide MV).trans hmf fun _ f => f.elim)
      clear hm hu hmf hth HOF hco
      rcases unhide HE with ⟨rfl, h0⟩ | ⟨rfl, rfl⟩
      · have h0' : ((E : Int) != 0) = true := by simp; omega
        clear h0 HE
        go_wp2_with (refine wpList_store_mid rfl 29 (.tmp 13) (.tmp 68) rfl v1.heap.size 0 (msgCells mz x1 y1 z1 t1).toArray rfl rfl (unhide T1) (by kernel_rfl) (cells_one mz x1 z1 y1 t1) ?_; change wpList _ _ _ _ _ (World.setCells _ v1.heap.size 0 (msgCells mz x1 y1 z1 t1)); rw [unhide U1]; clear T1 U1)
        go_ret
        exact ⟨rfl, unhide FIN _ (unhide MV)⟩
      · clear HE
        go_wp2_with (refine wpList_store_mid rfl 29 (.tmp 13) (.tmp 68) rfl v1.heap.size 0 (msgCells mz x1 y1 z1 t1).toArray rfl rfl (unhide T1) (by kernel_rfl) (cells_one mz x1 z1 y1 t1) ?_; change wpList _ _ _ _ _ (World.setCells _ v1.heap.size 0 (msgCells mz x1 y1 z1 t1)); rw [unhide U1]; clear T1 U1)
        go_ret
        exact ⟨rfl, unhide FIN _ (unhide MV)⟩
end Go.Proofs.YtkbmbcmcnpeababDoor

/- MsgCut's walk: what is cut is short, and a byte more is one too many. Condition: the table's sixteen cells hold its numbers. -/
import Derived.Test.YtkbmbcmcnpeababDoorDataOf
import Derived.Test.YtkbmbcmcnpeababDoorMsgIn
import Derived.Test.YtkbmbcmcnpeababDoorGreat
namespace Go.Proofs.YtkbmbcmcnpeababDoor
open Pk Go.RowKit

section
variable (m : MsgV) (a1 a2 : Option Addr) (c1 c2 : Nat) (w : World) (hf : Fit m) (hI1 : Ints w a1 m.owner) (hI2 : Ints w a2 m.set)
include hf hI1 hI2
theorem bytes_yes (hr : Right m) : Calls Tryd.prog 7 #[.agg (msgCells m a1 c1 a2 c2).toArray] w fun e w' => e = .returned (.tuple #[.string ⟨(msgBytes m).toArray⟩, .int .i64 0]) ∧ Moved (fun _ => False) w w' := by
  refine (bytes_any m a1 a2 c1 c2 w hf hI1 hI2).mono ?_
  rintro e w' ⟨hm, ⟨_, rfl⟩ | ⟨hn, _⟩⟩
  · exact ⟨rfl, hm⟩
  · exact absurd hr hn
theorem bytes_no (hr : ¬ Right m) : Calls Tryd.prog 7 #[.agg (msgCells m a1 c1 a2 c2).toArray] w fun e w' => e = .returned (.tuple #[.string ⟨#[]⟩, .int .i64 (errOf m)]) ∧ Moved (fun _ => False) w w' := by
  refine (bytes_any m a1 a2 c1 c2 w hf hI1 hI2).mono ?_
  rintro e w' ⟨hm, ⟨hn, _⟩ | ⟨_, rfl⟩⟩
  · exact absurd hn hr
  · exact ⟨rfl, hm⟩
theorem data_yes (hT : Fm.Tab w) (hr : Right m) : Calls Tryd.prog 8 #[.agg (msgCells m a1 c1 a2 c2).toArray] w fun e w' => e = .returned (.tuple #[.string ⟨(Fm.Crc.frameOf (msgBytes m)).toArray⟩, .int .i64 0]) ∧ Moved (fun _ => False) w w' := by
  refine (data_any m a1 a2 c1 c2 w hf hI1 hI2 hT).mono ?_
  rintro e w' ⟨hm, ⟨_, rfl⟩ | ⟨hn, _⟩⟩
  · exact ⟨rfl, hm⟩
  · exact absurd hr hn
theorem data_no (hT : Fm.Tab w) (hr : ¬ Right m) : Calls Tryd.prog 8 #[.agg (msgCells m a1 c1 a2 c2).toArray] w fun e w' => e = .returned (.tuple #[.string ⟨#[]⟩, .int .i64 (errOf m)]) ∧ Moved (fun _ => False) w w' := by
  refine (data_any m a1 a2 c1 c2 w hf hI1 hI2 hT).mono ?_
  rintro e w' ⟨hm, ⟨hn, _⟩ | ⟨_, rfl⟩⟩
  · exact absurd hn hr
  · exact ⟨rfl, hm⟩
end
theorem of_cut {m : MsgV} (h : Right m) (k : Nat) (hk : k < (Fm.Crc.frameOf (msgBytes m)).length) : ofMsg ((Fm.Crc.frameOf (msgBytes m)).take k) = (MsgV.zero, 7) := by
  have e := Fm.Crc.frame_cut (msgBytes m) (msg_len h) k hk
  have e2 : Fm.Crc.wholeOf ((Fm.Crc.frameOf (msgBytes m)).take k) = ([], 7) := by
    unfold Fm.Crc.wholeOf
    rw [e]
    simp
  unfold ofMsg
  rw [e2]
  simp
theorem one_conv (n : Nat) (hn : n < 256) (w : World) :
    Sem.run Tryd.prog (convert 37 9 (.slice (some ⟨w.heap.size, 0, none⟩) 1 1)) (w.alloc (.cells #[.int .u8 (n : Int)] 5)) = .ok (.string ⟨#[UInt8.ofNat n]⟩) (w.alloc (.cells #[.int .u8 (n : Int)] 5)) := by
  refine run_convert_bytes_back _ 37 9 5 ⟨w.heap.size, 0, none⟩ 1 [UInt8.ofNat n] Tryd.underlying37 Tryd.underlying5 Tryd.underlying9 ?_
  intro j hj
  have hj' : j < 1 := hj
  have hplain : (⟨w.heap.size, 0, none⟩ : Addr).add j = ⟨w.heap.size, j, none⟩ := by unfold Addr.add; split <;> simp_all
  rw [hplain]
  refine (World.cell?_alloc_new ..).trans ?_
  match j, hj' with
  | 0, _ => simp; omega
theorem cut_data (s : ByteArray) (n : Nat) : (s.extract 0 n).data.toList = s.data.toList.take n := by
  rw [ByteArray.data_extract, Array.toList_extract, List.extract_eq_take_drop, List.drop_zero, Nat.sub_zero]
set_option maxHeartbeats 16000000 in
set_option maxRecDepth 100000 in
theorem cut_said (ma : MsgV) (a1 a2 : Option Addr) (c1 c2 : Nat) (at_ : Int) (n : Nat) (w : World) (fa : Fit ma) (ia1 : Ints w a1 ma.owner) (ia2 : Ints w a2 ma.set) (hat : -9223372036854775808 ≤ at_ ∧ at_ ≤ 9223372036854775807) (hn : n < 256) (hT : Fm.Tab w) :
    Calls Tryd.prog 3 #[.agg (msgCells ma a1 c1 a2 c2).toArray, .int .i64 at_, .int .u8 (n : Int)] w fun e w' => e = .returned (.bool true) ∧ Below w.heap.size w w' := by
  obtain ⟨A, hA⟩ : ∃ A, A = w.heap.size := ⟨_, rfl⟩
  obtain ⟨W, hW⟩ : ∃ W, W = w.alloc (.cells (msgCells ma a1 c1 a2 c2).toArray 29) := ⟨_, rfl⟩
  have mW : Moved (fun _ => False) w W := by rw [hW]; exact (Moved.refl _ _).alloc _
  have RA : Hid (RowAt W A (msgCells ma a1 c1 a2 c2)) := hide (by rw [hW, hA]; exact row_new _ _ _)
  have JA := hide (And.intro (ia1.keep mW fun _ _ => id) (ia2.keep mW fun _ _ => id))
  have HT := hide (tab_moved hT mW)
  have HW := hide hW
  have HA := hide hA
  have HF := hide fa
  have fin : ∀ w', Moved (fun _ => False) W w' → Below w.heap.size w w' := fun w' h => (mW.trans h fun _ f => f.elim).below (fun _ f => f.elim) (Nat.le_refl _)
  have FIN := hide fin
  have HN := hide hn
  clear mW hW hA ia1 ia2 fa hT fin
  go_enter Tryd.func3, Tryd.ntmps3
  go_upto_region 1 with fail
  rw [← unhide HA, ← unhide HW]
  go_wp2_with fail
  refine (awake_any W).mono ?_
  rintro e w1 ⟨rfl, hm⟩
  have MV := hide hm
  clear hm
  go_wp2_with (refine wpList_load_on rfl 29 (.tmp 3) rfl A 0 rfl (msgCells ma a1 c1 a2 c2) _ ((unhide RA).keep (unhide MV) id).range Tryd.underlying29 rfl (by kernel_rfl) ?_)
  refine (great_any ma a1 a2 c1 c2 w1).mono ?_
  rintro e w2 ⟨rfl, hm⟩
  replace MV := hide ((unhide MV).trans hm fun _ f => f.elim)
  clear hm
  cases hga : great ma
  rotate_left
  · go_wp2_with fail
    go_ret
    exact ⟨rfl, unhide FIN _ (unhide MV)⟩
  clear hga
  by_cases ra : Right ma
  rotate_left
  · obtain ⟨ea, hea⟩ : ∃ e, errOf ma = e := ⟨_, rfl⟩
    have hea0 : ¬ ea = 0 := by rw [← hea]; unfold errOf; split <;> decide
    have HEA := hide hea
    have HR := hide ra
    clear hea ra
    go_wp2_with (refine wpList_load_on rfl 29 (.tmp 3) rfl A 0 rfl (msgCells ma a1 c1 a2 c2) _ ((unhide RA).keep (unhide MV) id).range Tryd.underlying29 rfl (by kernel_rfl) ?_)
    refine (bytes_no ma a1 a2 c1 c2 w2 (unhide HF) ((unhide JA).1.keep (unhide MV) fun _ _ => id) ((unhide JA).2.keep (unhide MV) fun _ _ => id) (unhide HR)).mono ?_
    rintro e w3 ⟨rfl, hm⟩
    rw [unhide HEA]
    replace MV := hide ((unhide MV).trans hm fun _ f => f.elim)
    clear hm
    go_wp2_with fail
    go_ret
    exact ⟨rfl, unhide FIN _ (unhide MV)⟩
  have HR := hide ra
  have hlen := msg_len ra
  obtain ⟨sx, hsx⟩ : ∃ x, (⟨(msgBytes ma).toArray⟩ : ByteArray) = x := ⟨_, rfl⟩
  obtain ⟨sd, hsd⟩ : ∃ x, (⟨(Fm.Crc.frameOf (msgBytes ma)).toArray⟩ : ByteArray) = x := ⟨_, rfl⟩
  have hx1 : sx.data.toList = msgBytes ma := by rw [← hsx]
  have hd1 : sd.data.toList = Fm.Crc.frameOf (msgBytes ma) := by rw [← hsd]
  have hxs : sx.size = (msgBytes ma).length := by rw [← hx1]; rfl
  have hds : sd.size = (msgBytes ma).length + 12 := by rw [← Fm.Crc.frameOf_length, ← hd1]; rfl
  have HX := hide (And.intro hx1 hd1)
  have HSX := hide hsx
  have HSD := hide hsd
  have HLN := hide hlen
  clear ra hsx hsd hx1 hd1 hlen
  generalize hgl : (msgBytes ma).length = L at *
  have HGL := hide hgl
  clear hgl
  go_wp2_with (refine wpList_load_on rfl 29 (.tmp 3) rfl A 0 rfl (msgCells ma a1 c1 a2 c2) _ ((unhide RA).keep (unhide MV) id).range Tryd.underlying29 rfl (by kernel_rfl) ?_)
  refine (bytes_yes ma a1 a2 c1 c2 w2 (unhide HF) ((unhide JA).1.keep (unhide MV) fun _ _ => id) ((unhide JA).2.keep (unhide MV) fun _ _ => id) (unhide HR)).mono ?_
  rintro e w3 ⟨rfl, hm⟩
  rw [unhide HSX]
  replace MV := hide ((unhide MV).trans hm fun _ f => f.elim)
  clear hm
  go_wp2_with (refine wpList_load_on rfl 29 (.tmp 3) rfl A 0 rfl (msgCells ma a1 c1 a2 c2) _ ((unhide RA).keep (unhide MV) id).range Tryd.underlying29 rfl (by kernel_rfl) ?_)
  refine (data_yes ma a1 a2 c1 c2 w3 (unhide HF) ((unhide JA).1.keep (unhide MV) fun _ _ => id) ((unhide JA).2.keep (unhide MV) fun _ _ => id) (tab_moved (unhide HT) (unhide MV)) (unhide HR)).mono ?_
  rintro e w4 ⟨rfl, hm⟩
  rw [unhide HSD]
  replace MV := hide ((unhide MV).trans hm fun _ f => f.elim)
  clear hm
  have hcv := one_conv n hn w4
  have hL := unhide HLN
  have hsum : ¬ (9223372036854775807 < sx.size + 1) := by omega
  have hsz1 : (⟨#[UInt8.ofNat n]⟩ : ByteArray).size = 1 := rfl
  obtain ⟨s1, hs1⟩ : ∃ s1 : ByteArray, s1 = ⟨#[UInt8.ofNat n]⟩ := ⟨_, rfl⟩
  rw [← hs1] at hcv hsz1
  have hsum' : ¬ (9223372036854775807 < sx.size + s1.size) := by omega
  have hap : (sx ++ s1).data.toList = msgBytes ma ++ [UInt8.ofNat n] := by
    rw [ByteArray.data_append, Array.toList_append, (unhide HX).1, hs1]
  have hrd := read_any (sx ++ s1) (by rw [ByteArray.size_append]; omega) (w4.alloc (.cells #[.int .u8 (n : Int)] 5))
  rw [hap, msg_more (unhide HR) (UInt8.ofNat n)] at hrd
  have HR1 := hide hrd
  replace MV := hide ((unhide MV).trans ((Moved.refl (fun _ => False) w4).alloc (.cells #[.int .u8 (n : Int)] 5)) fun _ f => f.elim)
  clear hrd hap hs1
  go_wp2_with fail
  refine (unhide HR1).mono ?_
  rintro e v1 ⟨hm, xp, yp, zp, tp, rfl, -⟩
  replace MV := hide ((unhide MV).trans hm fun _ f => f.elim)
  obtain ⟨u1, hu, -, hmf, hth⟩ := keep_at v1 MsgV.zero xp zp yp tp
  have Up := hide hu
  have Tp := hide hth
  replace MV := hide ((unhide MV).trans hmf fun _ f => f.elim)
  clear hm hu hmf hth HR1
  by_cases h0 : 0 ≤ at_ ∧ at_ < (sx.size : Int)
  rotate_left
  · by_cases h1 : at_ < 0
    · have h2 : ¬ 0 ≤ at_ := by omega
      clear h0 hcv
      go_wp2_with (refine wpList_store_mid rfl 29 (.tmp 11) (.tmp 40) rfl v1.heap.size 0 (msgCells MsgV.zero xp yp zp tp).toArray rfl rfl (unhide Tp) (by kernel_rfl) (cells_one MsgV.zero xp zp yp tp) ?_; change wpList _ _ _ _ _ (World.setCells _ v1.heap.size 0 (msgCells MsgV.zero xp yp zp tp)); rw [unhide Up]; clear Tp Up)
      go_ret
      exact ⟨rfl, unhide FIN _ (unhide MV)⟩
    · have h2 : 0 ≤ at_ := by omega
      have h3 : ¬ at_ < (sx.size : Int) := by omega
      clear h0 hcv
      go_wp2_with (refine wpList_store_mid rfl 29 (.tmp 11) (.tmp 40) rfl v1.heap.size 0 (msgCells MsgV.zero xp yp zp tp).toArray rfl rfl (unhide Tp) (by kernel_rfl) (cells_one MsgV.zero xp zp yp tp) ?_; change wpList _ _ _ _ _ (World.setCells _ v1.heap.size 0 (msgCells MsgV.zero xp yp zp tp)); rw [unhide Up]; clear Tp Up)
      go_ret
      exact ⟨rfl, unhide FIN _ (unhide MV)⟩
  obtain ⟨k, hk⟩ : ∃ k : Nat, at_ = (k : Int) := ⟨at_.toNat, by omega⟩
  subst hk
  have hk1 : k < sx.size := by omega
  have hk2 : (k : Int) < (sx.size : Int) := by omega
  have hk3 : k ≤ sd.size := by omega
  have hrd := read_any (sx.extract 0 k) (by rw [ByteArray.size_extract]; omega) u1
  have e1 : readMsg (sx.extract 0 k).data.toList = (MsgV.zero, 7) := by
    rw [cut_data, (unhide HX).1]
    exact msg_cut (unhide HR) k (by have := unhide HGL; omega)
  rw [e1] at hrd
  have HR2 := hide hrd
  clear hrd e1 h0 hcv
  go_wp2_with (refine wpList_store_mid rfl 29 (.tmp 11) (.tmp 40) rfl v1.heap.size 0 (msgCells MsgV.zero xp yp zp tp).toArray rfl rfl (unhide Tp) (by kernel_rfl) (cells_one MsgV.zero xp zp yp tp) ?_; change wpList _ _ _ _ _ (World.setCells _ v1.heap.size 0 (msgCells MsgV.zero xp yp zp tp)); rw [unhide Up]; clear Tp Up)
  refine (unhide HR2).mono ?_
  rintro e v2 ⟨hm, xq, yq, zq, tq, rfl, -⟩
  replace MV := hide ((unhide MV).trans hm fun _ f => f.elim)
  obtain ⟨u2, hu, -, hmf, hth⟩ := keep_at v2 MsgV.zero xq zq yq tq
  have Uq := hide hu
  have Tq := hide hth
  replace MV := hide ((unhide MV).trans hmf fun _ f => f.elim)
  clear hm hu hmf hth HR2
  have hof := ofMsg_any (sd.extract 0 k) (by rw [ByteArray.size_extract]; omega) u2 (tab_moved (unhide HT) (unhide MV))
  have e1 : ofMsg (sd.extract 0 k).data.toList = (MsgV.zero, 7) := by
    rw [cut_data, (unhide HX).2]
    exact of_cut (unhide HR) k (by rw [Fm.Crc.frameOf_length]; have := unhide HGL; omega)
  rw [e1] at hof
  have HR3 := hide hof
  clear hof e1
  go_wp2_with (refine wpList_store_mid rfl 29 (.tmp 13) (.tmp 61) rfl v2.heap.size 0 (msgCells MsgV.zero xq yq zq tq).toArray rfl rfl (unhide Tq) (by kernel_rfl) (cells_one MsgV.zero xq zq yq tq) ?_; change wpList _ _ _ _ _ (World.setCells _ v2.heap.size 0 (msgCells MsgV.zero xq yq zq tq)); rw [unhide Uq]; clear Tq Uq)
  refine (unhide HR3).mono ?_
  rintro e v3 ⟨hm, xr, yr, zr, tr, rfl, -⟩
  replace MV := hide ((unhide MV).trans hm fun _ f => f.elim)
  obtain ⟨u3, hu, -, hmf, hth⟩ := keep_at v3 MsgV.zero xr zr yr tr
  have Ur := hide hu
  have Tr := hide hth
  replace MV := hide ((unhide MV).trans hmf fun _ f => f.elim)
  clear hm hu hmf hth HR3
  go_wp2_with (refine wpList_store_mid rfl 29 (.tmp 15) (.tmp 68) rfl v3.heap.size 0 (msgCells MsgV.zero xr yr zr tr).toArray rfl rfl (unhide Tr) (by kernel_rfl) (cells_one MsgV.zero xr zr yr tr) ?_; change wpList _ _ _ _ _ (World.setCells _ v3.heap.size 0 (msgCells MsgV.zero xr yr zr tr)); rw [unhide Ur]; clear Tr Ur)
  go_ret
  exact ⟨rfl, unhide FIN _ (unhide MV)⟩
end Go.Proofs.YtkbmbcmcnpeababDoor

/- MsgBack's walk: what has bytes is read from them. Condition: the table's sixteen cells hold its numbers. -/
import Derived.Test.YtkbmbcmcnpeabaaDoorDataOf
import Derived.Test.YtkbmbcmcnpeabaaDoorMsgIn
import Derived.Test.YtkbmbcmcnpeabaaDoorGreat
namespace Go.Proofs.YtkbmbcmcnpeabaaDoor
open Pk Go.RowKit

theorem fit_of {m : MsgV} (h : Right m) : Fit m := ⟨h.ok.digest, h.ok.at_, h.ok.item.at_, h.ok.item.n, by have := h.ok.item.key; unfold maxLen; omega, by have := h.ok.owner.1; unfold maxLen; omega, by have := h.ok.set.1; unfold maxLen; omega, by have := h.ok.data; unfold maxLen; omega⟩
section
variable (m : MsgV) (a1 a2 : Option Addr) (c1 c2 : Nat) (w : World) (hf : Fit m) (hI1 : Ints w a1 m.owner) (hI2 : Ints w a2 m.set)
include hf hI1 hI2
theorem bytes_yes (hr : Right m) : Calls Tryd.prog 8 #[.agg (msgCells m a1 c1 a2 c2).toArray] w fun e w' => e = .returned (.tuple #[.string ⟨(msgBytes m).toArray⟩, .int .i64 0]) ∧ Moved (fun _ => False) w w' := by
  refine (bytes_any m a1 a2 c1 c2 w hf hI1 hI2).mono ?_
  rintro e w' ⟨hm, ⟨_, rfl⟩ | ⟨hn, _⟩⟩
  · exact ⟨rfl, hm⟩
  · exact absurd hr hn
theorem bytes_no (hr : ¬ Right m) : Calls Tryd.prog 8 #[.agg (msgCells m a1 c1 a2 c2).toArray] w fun e w' => e = .returned (.tuple #[.string ⟨#[]⟩, .int .i64 (errOf m)]) ∧ Moved (fun _ => False) w w' := by
  refine (bytes_any m a1 a2 c1 c2 w hf hI1 hI2).mono ?_
  rintro e w' ⟨hm, ⟨hn, _⟩ | ⟨_, rfl⟩⟩
  · exact absurd hn hr
  · exact ⟨rfl, hm⟩
theorem right_yes (hr : Right m) : Calls Tryd.prog 12 #[.agg (msgCells m a1 c1 a2 c2).toArray] w fun e w' => e = .returned (.int .i64 0) ∧ Moved (fun _ => False) w w' := by
  refine (right_any m a1 a2 c1 c2 w hf hI1 hI2).mono ?_
  rintro e w' ⟨hm, ⟨_, rfl⟩ | ⟨hn, _⟩⟩
  · exact ⟨rfl, hm⟩
  · exact absurd hr hn
theorem right_no (hr : ¬ Right m) : Calls Tryd.prog 12 #[.agg (msgCells m a1 c1 a2 c2).toArray] w fun e w' => e = .returned (.int .i64 (errOf m)) ∧ Moved (fun _ => False) w w' := by
  refine (right_any m a1 a2 c1 c2 w hf hI1 hI2).mono ?_
  rintro e w' ⟨hm, ⟨hn, _⟩ | ⟨_, rfl⟩⟩
  · exact absurd hn hr
  · exact ⟨rfl, hm⟩
theorem data_yes (hT : Fm.Tab w) (hr : Right m) : Calls Tryd.prog 10 #[.agg (msgCells m a1 c1 a2 c2).toArray] w fun e w' => e = .returned (.tuple #[.string ⟨(Fm.Crc.frameOf (msgBytes m)).toArray⟩, .int .i64 0]) ∧ Moved (fun _ => False) w w' := by
  refine (data_any m a1 a2 c1 c2 w hf hI1 hI2 hT).mono ?_
  rintro e w' ⟨hm, ⟨_, rfl⟩ | ⟨hn, _⟩⟩
  · exact ⟨rfl, hm⟩
  · exact absurd hr hn
theorem data_no (hT : Fm.Tab w) (hr : ¬ Right m) : Calls Tryd.prog 10 #[.agg (msgCells m a1 c1 a2 c2).toArray] w fun e w' => e = .returned (.tuple #[.string ⟨#[]⟩, .int .i64 (errOf m)]) ∧ Moved (fun _ => False) w w' := by
  refine (data_any m a1 a2 c1 c2 w hf hI1 hI2 hT).mono ?_
  rintro e w' ⟨hm, ⟨hn, _⟩ | ⟨_, rfl⟩⟩
  · exact absurd hn hr
  · exact ⟨rfl, hm⟩
end
theorem of_back {m : MsgV} (h : Right m) : ofMsg (Fm.Crc.frameOf (msgBytes m)) = (m, 0) := by
  unfold ofMsg
  rw [Fm.whole_back _ (msg_len h), if_neg (fun h => h rfl)]
  exact msg_back h
theorem text_back {s : ByteArray} {l : List UInt8} (h : l = s.data.toList) : (⟨l.toArray⟩ : ByteArray) = s := by
  subst h
  cases s
  simp

set_option maxHeartbeats 16000000 in
set_option maxRecDepth 100000 in
theorem back_ye (ma mb : MsgV) (a1 a2 b1 b2 : Option Addr) (c1 c2 d1 d2 : Nat) (s : ByteArray) (w : World) (fa : Fit ma) (fb : Fit mb) (ia1 : Ints w a1 ma.owner) (ia2 : Ints w a2 ma.set) (ib1 : Ints w b1 mb.owner) (ib2 : Ints w b2 mb.set) (hs : s.size ≤ maxLen) (hT : Fm.Tab w) (ra : Right ma) (rb : Right mb) (hab : ma = mb) :
    Calls Tryd.prog 5 #[.agg (msgCells ma a1 c1 a2 c2).toArray, .agg (msgCells mb b1 d1 b2 d2).toArray, .string s] w fun e w' => e = .returned (.bool true) ∧ Below w.heap.size w w' := by
  subst hab
  obtain ⟨A, hA⟩ : ∃ A, A = w.heap.size := ⟨_, rfl⟩
  obtain ⟨W, hW⟩ : ∃ W, W = (w.alloc (.cells (msgCells ma a1 c1 a2 c2).toArray 29)).alloc (.cells (msgCells ma b1 d1 b2 d2).toArray 29) := ⟨_, rfl⟩
  have mW : Moved (fun _ => False) w W := by rw [hW]; exact ((Moved.refl _ _).alloc _).alloc _
  have RA : Hid (RowAt W A (msgCells ma a1 c1 a2 c2)) := hide (by rw [hW, hA]; exact row_old (row_new _ _ _) _)
  have RB : Hid (RowAt W (A + 1) (msgCells ma b1 d1 b2 d2)) := hide (by rw [hW, hA]; exact row_new2 _ _ _ _ _)
  have JA := hide (And.intro (ia1.keep mW fun _ _ => id) (ia2.keep mW fun _ _ => id))
  have JB := hide (And.intro (ib1.keep mW fun _ _ => id) (ib2.keep mW fun _ _ => id))
  have HT := hide (tab_moved hT mW)
  have HMW := hide mW
  have HW := hide hW
  have HA := hide hA
  have HF := hide (And.intro fa fb)
  have HS := hide hs
  have fin : ∀ w', Moved (fun _ => False) W w' → Below w.heap.size w w' := fun w' h => (mW.trans h fun _ f => f.elim).below (fun _ f => f.elim) (Nat.le_refl _)
  have FIN := hide fin
  clear mW hW hA ia1 ia2 ib1 ib2 fa fb hT hs fin
  go_enter Tryd.func5, Tryd.ntmps5
  go_upto_region 1 with fail
  rw [← unhide HA, ← unhide HW]
  go_wp2_with fail
  refine (awake_any W).mono ?_
  rintro e w1 ⟨rfl, hm⟩
  have MV := hide hm
  clear hm
  go_wp2_with (first | (refine wpList_load_on rfl 29 (.tmp 3) rfl A 0 rfl (msgCells ma a1 c1 a2 c2) _ ((unhide RA).keep (unhide MV) id).range Tryd.underlying29 rfl (by kernel_rfl) ?_) | (refine wpList_load_on rfl 29 (.tmp 4) rfl (A + 1) 0 rfl (msgCells ma b1 d1 b2 d2) _ ((unhide RB).keep (unhide MV) id).range Tryd.underlying29 rfl (by kernel_rfl) ?_))
  refine (great_any ma a1 a2 c1 c2 w1).mono ?_
  rintro e w2 ⟨rfl, hm⟩
  replace MV := hide ((unhide MV).trans hm fun _ f => f.elim)
  clear hm
  cases hga : great ma
  rotate_left
  · go_wp2_with fail
    go_ret
    exact ⟨rfl, unhide FIN _ (unhide MV)⟩
  clear hga
  go_wp2_with (first | (refine wpList_load_on rfl 29 (.tmp 3) rfl A 0 rfl (msgCells ma a1 c1 a2 c2) _ ((unhide RA).keep (unhide MV) id).range Tryd.underlying29 rfl (by kernel_rfl) ?_) | (refine wpList_load_on rfl 29 (.tmp 4) rfl (A + 1) 0 rfl (msgCells ma b1 d1 b2 d2) _ ((unhide RB).keep (unhide MV) id).range Tryd.underlying29 rfl (by kernel_rfl) ?_))
  refine (great_any ma b1 b2 d1 d2 w2).mono ?_
  rintro e w3 ⟨rfl, hm⟩
  replace MV := hide ((unhide MV).trans hm fun _ f => f.elim)
  clear hm
  cases hgb : great ma
  rotate_left
  · go_wp2_with fail
    go_ret
    exact ⟨rfl, unhide FIN _ (unhide MV)⟩
  clear hgb
  by_cases hl : (20000 : Int) < (s.size : Int)
  · go_wp2_with fail
    go_ret
    exact ⟨rfl, unhide FIN _ (unhide MV)⟩
  have HR := hide (And.intro ra rb)
  clear ra rb
  obtain ⟨sx, hsx⟩ : ∃ x, (⟨(msgBytes ma).toArray⟩ : ByteArray) = x := ⟨_, rfl⟩
  have HSX := hide hsx
  clear hsx
  obtain ⟨sd, hsd⟩ : ∃ x, (⟨(Fm.Crc.frameOf (msgBytes ma)).toArray⟩ : ByteArray) = x := ⟨_, rfl⟩
  have HSD := hide hsd
  clear hsd
  go_wp2_with (first | (refine wpList_load_on rfl 29 (.tmp 3) rfl A 0 rfl (msgCells ma a1 c1 a2 c2) _ ((unhide RA).keep (unhide MV) id).range Tryd.underlying29 rfl (by kernel_rfl) ?_) | (refine wpList_load_on rfl 29 (.tmp 4) rfl (A + 1) 0 rfl (msgCells mb b1 d1 b2 d2) _ ((unhide RB).keep (unhide MV) id).range Tryd.underlying29 rfl (by kernel_rfl) ?_))
  refine (bytes_yes ma a1 a2 c1 c2 w3 (unhide HF).1 ((unhide JA).1.keep (unhide MV) fun _ _ => id) ((unhide JA).2.keep (unhide MV) fun _ _ => id) (unhide HR).1).mono ?_
  rintro e w4 ⟨rfl, hm⟩
  replace MV := hide ((unhide MV).trans hm fun _ f => f.elim)
  clear hm
  rw [unhide HSX]
  go_wp2_with (first | (refine wpList_load_on rfl 29 (.tmp 3) rfl A 0 rfl (msgCells ma a1 c1 a2 c2) _ ((unhide RA).keep (unhide MV) id).range Tryd.underlying29 rfl (by kernel_rfl) ?_) | (refine wpList_load_on rfl 29 (.tmp 4) rfl (A + 1) 0 rfl (msgCells ma b1 d1 b2 d2) _ ((unhide RB).keep (unhide MV) id).range Tryd.underlying29 rfl (by kernel_rfl) ?_))
  refine (bytes_yes ma b1 b2 d1 d2 w4 (unhide HF).2 ((unhide JB).1.keep (unhide MV) fun _ _ => id) ((unhide JB).2.keep (unhide MV) fun _ _ => id) (unhide HR).2).mono ?_
  rintro e w5 ⟨rfl, hm⟩
  replace MV := hide ((unhide MV).trans hm fun _ f => f.elim)
  clear hm
  rw [unhide HSX]
  go_wp2_with (first | (refine wpList_load_on rfl 29 (.tmp 3) rfl A 0 rfl (msgCells ma a1 c1 a2 c2) _ ((unhide RA).keep (unhide MV) id).range Tryd.underlying29 rfl (by kernel_rfl) ?_) | (refine wpList_load_on rfl 29 (.tmp 4) rfl (A + 1) 0 rfl (msgCells mb b1 d1 b2 d2) _ ((unhide RB).keep (unhide MV) id).range Tryd.underlying29 rfl (by kernel_rfl) ?_))
  refine (data_yes ma a1 a2 c1 c2 w5 (unhide HF).1 ((unhide JA).1.keep (unhide MV) fun _ _ => id) ((unhide JA).2.keep (unhide MV) fun _ _ => id) (tab_moved (unhide HT) (unhide MV)) (unhide HR).1).mono ?_
  rintro e w6 ⟨rfl, hm⟩
  replace MV := hide ((unhide MV).trans hm fun _ f => f.elim)
  clear hm
  rw [unhide HSD]
  go_wp2_with (first | (refine wpList_load_on rfl 29 (.tmp 3) rfl A 0 rfl (msgCells ma a1 c1 a2 c2) _ ((unhide RA).keep (unhide MV) id).range Tryd.underlying29 rfl (by kernel_rfl) ?_) | (refine wpList_load_on rfl 29 (.tmp 4) rfl (A + 1) 0 rfl (msgCells mb b1 d1 b2 d2) _ ((unhide RB).keep (unhide MV) id).range Tryd.underlying29 rfl (by kernel_rfl) ?_))
  refine (right_yes ma a1 a2 c1 c2 w6 (unhide HF).1 ((unhide JA).1.keep (unhide MV) fun _ _ => id) ((unhide JA).2.keep (unhide MV) fun _ _ => id) (unhide HR).1).mono ?_
  rintro e w7 ⟨rfl, hm⟩
  replace MV := hide ((unhide MV).trans hm fun _ f => f.elim)
  clear hm
  go_wp2_with (first | (refine wpList_load_on rfl 29 (.tmp 3) rfl A 0 rfl (msgCells ma a1 c1 a2 c2) _ ((unhide RA).keep (unhide MV) id).range Tryd.underlying29 rfl (by kernel_rfl) ?_) | (refine wpList_load_on rfl 29 (.tmp 4) rfl (A + 1) 0 rfl (msgCells ma b1 d1 b2 d2) _ ((unhide RB).keep (unhide MV) id).range Tryd.underlying29 rfl (by kernel_rfl) ?_))
  refine (right_yes ma b1 b2 d1 d2 w7 (unhide HF).2 ((unhide JB).1.keep (unhide MV) fun _ _ => id) ((unhide JB).2.keep (unhide MV) fun _ _ => id) (unhide HR).2).mono ?_
  rintro e w8 ⟨rfl, hm⟩
  replace MV := hide ((unhide MV).trans hm fun _ f => f.elim)
  clear hm
  have hq : sameMsg ma ma = true := ((sameMsg_iff ma ma).2 rfl)
  have HQ := hide hq
  clear hq
  go_wp2_with (first | (refine wpList_load_on rfl 29 (.tmp 3) rfl A 0 rfl (msgCells ma a1 c1 a2 c2) _ ((unhide RA).keep (unhide MV) id).range Tryd.underlying29 rfl (by kernel_rfl) ?_) | (refine wpList_load_on rfl 29 (.tmp 4) rfl (A + 1) 0 rfl (msgCells ma b1 d1 b2 d2) _ ((unhide RB).keep (unhide MV) id).range Tryd.underlying29 rfl (by kernel_rfl) ?_))
  refine (same_any ma ma a1 a2 b1 b2 c1 c2 d1 d2 w8 ((unhide JA).1.keep (unhide MV) fun _ _ => id) ((unhide JA).2.keep (unhide MV) fun _ _ => id) ((unhide JB).1.keep (unhide MV) fun _ _ => id) ((unhide JB).2.keep (unhide MV) fun _ _ => id) (unhide HF).1.owner (unhide HF).1.set).mono ?_
  rintro e w9 ⟨rfl, hm⟩
  rw [unhide HQ]
  replace MV := hide ((unhide MV).trans hm fun _ f => f.elim)
  clear hm
  have hrd := read_any sx (by rw [← unhide HSX]; show (msgBytes ma).toArray.size ≤ _; simp only [List.size_toArray]; have := msg_len (unhide HR).1; omega) w9
  have e1 : readMsg sx.data.toList = (ma, 0) := by rw [← unhide HSX]; exact msg_back (unhide HR).1
  rw [e1] at hrd
  have HRX := hide hrd
  clear hrd e1
  go_wp2_with (first | (refine wpList_load_on rfl 29 (.tmp 3) rfl A 0 rfl (msgCells ma a1 c1 a2 c2) _ ((unhide RA).keep (unhide MV) id).range Tryd.underlying29 rfl (by kernel_rfl) ?_) | (refine wpList_load_on rfl 29 (.tmp 4) rfl (A + 1) 0 rfl (msgCells mb b1 d1 b2 d2) _ ((unhide RB).keep (unhide MV) id).range Tryd.underlying29 rfl (by kernel_rfl) ?_))
  refine (unhide HRX).mono ?_
  rintro e v1 ⟨hm, x1, y1, x2, y2, rfl, hi1, hi2, -⟩
  replace MV := hide ((unhide MV).trans hm fun _ f => f.elim)
  obtain ⟨u1, hu, hrow, hmf, hth⟩ := keep_at v1 ma x1 x2 y1 y2
  have U1 := hide hu
  have K1 := hide hrow
  have T1 := hide hth
  have I1 := hide (And.intro (hi1.keep hmf fun _ _ => id) (hi2.keep hmf fun _ _ => id))
  replace MV := hide ((unhide MV).trans hmf fun _ f => f.elim)
  clear hm hi1 hi2 hu hrow hmf hth HRX
  have hof := ofMsg_any sd (by rw [← unhide HSD]; show (Fm.Crc.frameOf (msgBytes ma)).toArray.size ≤ _; simp only [List.size_toArray, Fm.Crc.frameOf_length]; have := msg_len (unhide HR).1; omega) u1 (tab_moved (unhide HT) (unhide MV))
  have e1 : ofMsg sd.data.toList = (ma, 0) := by rw [← unhide HSD]; exact of_back (unhide HR).1
  rw [e1] at hof
  have HOF := hide hof
  clear hof e1
  go_wp2_with (refine wpList_store_mid rfl 29 (.tmp 13) (.tmp 86) rfl v1.heap.size 0 (msgCells ma x1 y1 x2 y2).toArray rfl rfl (unhide T1) (by kernel_rfl) (cells_one ma x1 x2 y1 y2) ?_; change wpList _ _ _ _ _ (World.setCells _ v1.heap.size 0 (msgCells ma x1 y1 x2 y2)); rw [unhide U1]; clear T1 U1)
  refine (unhide HOF).mono ?_
  rintro e v2 ⟨hm, z1, t1, z2, t2, rfl, hi1, hi2⟩
  obtain ⟨u2, hu, hrow, hmf, hth⟩ := keep_at v2 ma z1 z2 t1 t2
  have U2 := hide hu
  have K2 := hide hrow
  have T2 := hide hth
  have I2 := hide (And.intro (hi1.keep hmf fun _ _ => id) (hi2.keep hmf fun _ _ => id))
  have mk := hm.trans hmf fun _ f => f.elim
  replace K1 := hide ((unhide K1).keep mk id)
  replace I1 := hide (And.intro ((unhide I1).1.keep mk fun _ _ => id) ((unhide I1).2.keep mk fun _ _ => id))
  replace MV := hide ((unhide MV).trans mk fun _ f => f.elim)
  clear hm hi1 hi2 hu hrow hmf hth HOF mk
  go_wp2_with (first | (refine wpList_store_mid rfl 29 (.tmp 15) (.tmp 91) rfl v2.heap.size 0 (msgCells ma z1 t1 z2 t2).toArray rfl rfl (unhide T2) (by kernel_rfl) (cells_one ma z1 z2 t1 t2) ?_; change wpList _ _ _ _ _ (World.setCells _ v2.heap.size 0 (msgCells ma z1 t1 z2 t2)); rw [unhide U2]; clear T2 U2) | (refine wpList_load_on rfl 29 (.tmp 13) rfl v1.heap.size 0 rfl (msgCells ma x1 y1 x2 y2) _ (unhide K1).range Tryd.underlying29 rfl (by kernel_rfl) ?_) | (refine wpList_load_on rfl 29 (.tmp 3) rfl A 0 rfl (msgCells ma a1 c1 a2 c2) _ ((unhide RA).keep (unhide MV) id).range Tryd.underlying29 rfl (by kernel_rfl) ?_))
  refine (same_any ma ma x1 x2 a1 a2 y1 y2 c1 c2 u2 (unhide I1).1 (unhide I1).2 ((unhide JA).1.keep (unhide MV) fun _ _ => id) ((unhide JA).2.keep (unhide MV) fun _ _ => id) (unhide HF).1.owner (unhide HF).1.set).mono ?_
  rintro e w10 ⟨rfl, hm⟩
  rw [(sameMsg_iff ma ma).2 rfl]
  replace K2 := hide ((unhide K2).keep hm id)
  replace I2 := hide (And.intro ((unhide I2).1.keep hm fun _ _ => id) ((unhide I2).2.keep hm fun _ _ => id))
  replace MV := hide ((unhide MV).trans hm fun _ f => f.elim)
  clear hm K1 I1
  go_wp2_with (first | (refine wpList_load_on rfl 29 (.tmp 15) rfl v2.heap.size 0 rfl (msgCells ma z1 t1 z2 t2) _ (unhide K2).range Tryd.underlying29 rfl (by kernel_rfl) ?_) | (refine wpList_load_on rfl 29 (.tmp 3) rfl A 0 rfl (msgCells ma a1 c1 a2 c2) _ ((unhide RA).keep (unhide MV) id).range Tryd.underlying29 rfl (by kernel_rfl) ?_))
  refine (same_any ma ma z1 z2 a1 a2 t1 t2 c1 c2 w10 (unhide I2).1 (unhide I2).2 ((unhide JA).1.keep (unhide MV) fun _ _ => id) ((unhide JA).2.keep (unhide MV) fun _ _ => id) (unhide HF).1.owner (unhide HF).1.set).mono ?_
  rintro e w11 ⟨rfl, hm⟩
  rw [(sameMsg_iff ma ma).2 rfl]
  replace MV := hide ((unhide MV).trans hm fun _ f => f.elim)
  clear hm K2 I2
  have hrd := read_any s (by have := hl; omega) w11
  obtain ⟨mr, er⟩ : ∃ m, (readMsg s.data.toList).1 = m := ⟨_, rfl⟩
  obtain ⟨E, eE⟩ : ∃ E, (readMsg s.data.toList).2 = E := ⟨_, rfl⟩
  have hfa := msg_fault s.data.toList
  rw [er, eE] at hrd hfa
  have HER := hide (And.intro er eE)
  have HRD := hide hrd
  have HFA := hide hfa
  clear hrd er eE hfa
  go_wp2_with fail
  refine (unhide HRD).mono ?_
  rintro e v3 ⟨hm, x1, y1, x2, y2, rfl, hi1, hi2, -⟩
  replace MV := hide ((unhide MV).trans hm fun _ f => f.elim)
  obtain ⟨u3, hu, hrow, hmf, hth⟩ := keep_at v3 mr x1 x2 y1 y2
  have U3 := hide hu
  have K3 := hide hrow
  have T3 := hide hth
  have I3 := hide (And.intro (hi1.keep hmf fun _ _ => id) (hi2.keep hmf fun _ _ => id))
  replace MV := hide ((unhide MV).trans hmf fun _ f => f.elim)
  clear hm hi1 hi2 hu hrow hmf hth HRD
  by_cases hE : E = 0
  · subst hE
    have hj := msg_just (show readMsg s.data.toList = (mr, 0) from Prod.ext (unhide HER).1 (unhide HER).2)
    have hbs := text_back hj.2
    have HB := hide hbs
    have HRM := hide hj.1
    clear hj hbs
    go_wp2_with (first | (refine wpList_store_mid rfl 29 (.tmp 17) (.tmp 114) rfl v3.heap.size 0 (msgCells mr x1 y1 x2 y2).toArray rfl rfl (unhide T3) (by kernel_rfl) (cells_one mr x1 x2 y1 y2) ?_; change wpList _ _ _ _ _ (World.setCells _ v3.heap.size 0 (msgCells mr x1 y1 x2 y2)); rw [unhide U3]; clear T3 U3) | (refine wpList_load_on rfl 29 (.tmp 17) rfl v3.heap.size 0 rfl (msgCells mr x1 y1 x2 y2) _ (unhide K3).range Tryd.underlying29 rfl (by kernel_rfl) ?_))
    refine (bytes_yes mr x1 x2 y1 y2 u3 (fit_of (unhide HRM)) (unhide I3).1 (unhide I3).2 (unhide HRM)).mono ?_
    rintro e w12 ⟨rfl, hm⟩
    rw [unhide HB]
    replace K3 := hide ((unhide K3).keep hm id)
    replace I3 := hide (And.intro ((unhide I3).1.keep hm fun _ _ => id) ((unhide I3).2.keep hm fun _ _ => id))
    replace MV := hide ((unhide MV).trans hm fun _ f => f.elim)
    clear hm
    go_wp2_with (refine wpList_load_on rfl 29 (.tmp 17) rfl v3.heap.size 0 rfl (msgCells mr x1 y1 x2 y2) _ (unhide K3).range Tryd.underlying29 rfl (by kernel_rfl) ?_)
    refine (right_yes mr x1 x2 y1 y2 w12 (fit_of (unhide HRM)) (unhide I3).1 (unhide I3).2 (unhide HRM)).mono ?_
    rintro e w13 ⟨rfl, hm⟩
    replace MV := hide ((unhide MV).trans hm fun _ f => f.elim)
    clear hm
    go_wp2_with fail
    go_ret
    exact ⟨rfl, unhide FIN _ (unhide MV)⟩
  · have hE' : ¬ ((E : Int) = 0) := by omega
    have hz : mr = MsgV.zero := (unhide HFA).resolve_left hE
    subst hz
    clear hE
    go_wp2_with (first | (refine wpList_store_mid rfl 29 (.tmp 17) (.tmp 114) rfl v3.heap.size 0 (msgCells MsgV.zero x1 y1 x2 y2).toArray rfl rfl (unhide T3) (by kernel_rfl) (cells_one MsgV.zero x1 x2 y1 y2) ?_; change wpList _ _ _ _ _ (World.setCells _ v3.heap.size 0 (msgCells MsgV.zero x1 y1 x2 y2)); rw [unhide U3]; clear T3 U3) | (refine wpList_load_on rfl 29 (.tmp 17) rfl v3.heap.size 0 rfl (msgCells MsgV.zero x1 y1 x2 y2) _ (unhide K3).range Tryd.underlying29 rfl (by kernel_rfl) ?_))
    refine (same_any MsgV.zero MsgV.zero x1 x2 none none y1 y2 0 0 u3 (unhide I3).1 (unhide I3).2 (ints_nil _ _) (ints_nil _ _) (Nat.zero_le _) (Nat.zero_le _)).mono ?_
    rintro e w12 ⟨rfl, hm⟩
    rw [(sameMsg_iff MsgV.zero MsgV.zero).2 rfl]
    replace MV := hide ((unhide MV).trans hm fun _ f => f.elim)
    clear hm
    go_wp2_with fail
    go_ret
    exact ⟨rfl, unhide FIN _ (unhide MV)⟩
set_option maxHeartbeats 16000000 in
set_option maxRecDepth 100000 in
theorem back_yd (ma mb : MsgV) (a1 a2 b1 b2 : Option Addr) (c1 c2 d1 d2 : Nat) (s : ByteArray) (w : World) (fa : Fit ma) (fb : Fit mb) (ia1 : Ints w a1 ma.owner) (ia2 : Ints w a2 ma.set) (ib1 : Ints w b1 mb.owner) (ib2 : Ints w b2 mb.set) (hs : s.size ≤ maxLen) (hT : Fm.Tab w) (ra : Right ma) (rb : Right mb) (hab : ma ≠ mb) :
    Calls Tryd.prog 5 #[.agg (msgCells ma a1 c1 a2 c2).toArray, .agg (msgCells mb b1 d1 b2 d2).toArray, .string s] w fun e w' => e = .returned (.bool true) ∧ Below w.heap.size w w' := by
  obtain ⟨A, hA⟩ : ∃ A, A = w.heap.size := ⟨_, rfl⟩
  obtain ⟨W, hW⟩ : ∃ W, W = (w.alloc (.cells (msgCells ma a1 c1 a2 c2).toArray 29)).alloc (.cells (msgCells mb b1 d1 b2 d2).toArray 29) := ⟨_, rfl⟩
  have mW : Moved (fun _ => False) w W := by rw [hW]; exact ((Moved.refl _ _).alloc _).alloc _
  have RA : Hid (RowAt W A (msgCells ma a1 c1 a2 c2)) := hide (by rw [hW, hA]; exact row_old (row_new _ _ _) _)
  have RB : Hid (RowAt W (A + 1) (msgCells mb b1 d1 b2 d2)) := hide (by rw [hW, hA]; exact row_new2 _ _ _ _ _)
  have JA := hide (And.intro (ia1.keep mW fun _ _ => id) (ia2.keep mW fun _ _ => id))
  have JB := hide (And.intro (ib1.keep mW fun _ _ => id) (ib2.keep mW fun _ _ => id))
  have HT := hide (tab_moved hT mW)
  have HMW := hide mW
  have HW := hide hW
  have HA := hide hA
  have HF := hide (And.intro fa fb)
  have HS := hide hs
  have fin : ∀ w', Moved (fun _ => False) W w' → Below w.heap.size w w' := fun w' h => (mW.trans h fun _ f => f.elim).below (fun _ f => f.elim) (Nat.le_refl _)
  have FIN := hide fin
  clear mW hW hA ia1 ia2 ib1 ib2 fa fb hT hs fin
  go_enter Tryd.func5, Tryd.ntmps5
  go_upto_region 1 with fail
  rw [← unhide HA, ← unhide HW]
  go_wp2_with fail
  refine (awake_any W).mono ?_
  rintro e w1 ⟨rfl, hm⟩
  have MV := hide hm
  clear hm
  go_wp2_with (first | (refine wpList_load_on rfl 29 (.tmp 3) rfl A 0 rfl (msgCells ma a1 c1 a2 c2) _ ((unhide RA).keep (unhide MV) id).range Tryd.underlying29 rfl (by kernel_rfl) ?_) | (refine wpList_load_on rfl 29 (.tmp 4) rfl (A + 1) 0 rfl (msgCells mb b1 d1 b2 d2) _ ((unhide RB).keep (unhide MV) id).range Tryd.underlying29 rfl (by kernel_rfl) ?_))
  refine (great_any ma a1 a2 c1 c2 w1).mono ?_
  rintro e w2 ⟨rfl, hm⟩
  replace MV := hide ((unhide MV).trans hm fun _ f => f.elim)
  clear hm
  cases hga : great ma
  rotate_left
  · go_wp2_with fail
    go_ret
    exact ⟨rfl, unhide FIN _ (unhide MV)⟩
  clear hga
  go_wp2_with (first | (refine wpList_load_on rfl 29 (.tmp 3) rfl A 0 rfl (msgCells ma a1 c1 a2 c2) _ ((unhide RA).keep (unhide MV) id).range Tryd.underlying29 rfl (by kernel_rfl) ?_) | (refine wpList_load_on rfl 29 (.tmp 4) rfl (A + 1) 0 rfl (msgCells mb b1 d1 b2 d2) _ ((unhide RB).keep (unhide MV) id).range Tryd.underlying29 rfl (by kernel_rfl) ?_))
  refine (great_any mb b1 b2 d1 d2 w2).mono ?_
  rintro e w3 ⟨rfl, hm⟩
  replace MV := hide ((unhide MV).trans hm fun _ f => f.elim)
  clear hm
  cases hgb : great mb
  rotate_left
  · go_wp2_with fail
    go_ret
    exact ⟨rfl, unhide FIN _ (unhide MV)⟩
  clear hgb
  by_cases hl : (20000 : Int) < (s.size : Int)
  · go_wp2_with fail
    go_ret
    exact ⟨rfl, unhide FIN _ (unhide MV)⟩
  have HAB := hide hab
  have HR := hide (And.intro ra rb)
  clear ra rb hab
  obtain ⟨sx, hsx⟩ : ∃ x, (⟨(msgBytes ma).toArray⟩ : ByteArray) = x := ⟨_, rfl⟩
  have HSX := hide hsx
  clear hsx
  obtain ⟨sd, hsd⟩ : ∃ x, (⟨(Fm.Crc.frameOf (msgBytes ma)).toArray⟩ : ByteArray) = x := ⟨_, rfl⟩
  have HSD := hide hsd
  clear hsd
  obtain ⟨sy, hsy⟩ : ∃ x, (⟨(msgBytes mb).toArray⟩ : ByteArray) = x := ⟨_, rfl⟩
  have HSY := hide hsy
  clear hsy
  go_wp2_with (first | (refine wpList_load_on rfl 29 (.tmp 3) rfl A 0 rfl (msgCells ma a1 c1 a2 c2) _ ((unhide RA).keep (unhide MV) id).range Tryd.underlying29 rfl (by kernel_rfl) ?_) | (refine wpList_load_on rfl 29 (.tmp 4) rfl (A + 1) 0 rfl (msgCells mb b1 d1 b2 d2) _ ((unhide RB).keep (unhide MV) id).range Tryd.underlying29 rfl (by kernel_rfl) ?_))
  refine (bytes_yes ma a1 a2 c1 c2 w3 (unhide HF).1 ((unhide JA).1.keep (unhide MV) fun _ _ => id) ((unhide JA).2.keep (unhide MV) fun _ _ => id) (unhide HR).1).mono ?_
  rintro e w4 ⟨rfl, hm⟩
  replace MV := hide ((unhide MV).trans hm fun _ f => f.elim)
  clear hm
  rw [unhide HSX]
  go_wp2_with (first | (refine wpList_load_on rfl 29 (.tmp 3) rfl A 0 rfl (msgCells ma a1 c1 a2 c2) _ ((unhide RA).keep (unhide MV) id).range Tryd.underlying29 rfl (by kernel_rfl) ?_) | (refine wpList_load_on rfl 29 (.tmp 4) rfl (A + 1) 0 rfl (msgCells mb b1 d1 b2 d2) _ ((unhide RB).keep (unhide MV) id).range Tryd.underlying29 rfl (by kernel_rfl) ?_))
  refine (bytes_yes mb b1 b2 d1 d2 w4 (unhide HF).2 ((unhide JB).1.keep (unhide MV) fun _ _ => id) ((unhide JB).2.keep (unhide MV) fun _ _ => id) (unhide HR).2).mono ?_
  rintro e w5 ⟨rfl, hm⟩
  replace MV := hide ((unhide MV).trans hm fun _ f => f.elim)
  clear hm
  rw [unhide HSY]
  go_wp2_with (first | (refine wpList_load_on rfl 29 (.tmp 3) rfl A 0 rfl (msgCells ma a1 c1 a2 c2) _ ((unhide RA).keep (unhide MV) id).range Tryd.underlying29 rfl (by kernel_rfl) ?_) | (refine wpList_load_on rfl 29 (.tmp 4) rfl (A + 1) 0 rfl (msgCells mb b1 d1 b2 d2) _ ((unhide RB).keep (unhide MV) id).range Tryd.underlying29 rfl (by kernel_rfl) ?_))
  refine (data_yes ma a1 a2 c1 c2 w5 (unhide HF).1 ((unhide JA).1.keep (unhide MV) fun _ _ => id) ((unhide JA).2.keep (unhide MV) fun _ _ => id) (tab_moved (unhide HT) (unhide MV)) (unhide HR).1).mono ?_
  rintro e w6 ⟨rfl, hm⟩
  replace MV := hide ((unhide MV).trans hm fun _ f => f.elim)
  clear hm
  rw [unhide HSD]
  go_wp2_with (first | (refine wpList_load_on rfl 29 (.tmp 3) rfl A 0 rfl (msgCells ma a1 c1 a2 c2) _ ((unhide RA).keep (unhide MV) id).range Tryd.underlying29 rfl (by kernel_rfl) ?_) | (refine wpList_load_on rfl 29 (.tmp 4) rfl (A + 1) 0 rfl (msgCells mb b1 d1 b2 d2) _ ((unhide RB).keep (unhide MV) id).range Tryd.underlying29 rfl (by kernel_rfl) ?_))
  refine (right_yes ma a1 a2 c1 c2 w6 (unhide HF).1 ((unhide JA).1.keep (unhide MV) fun _ _ => id) ((unhide JA).2.keep (unhide MV) fun _ _ => id) (unhide HR).1).mono ?_
  rintro e w7 ⟨rfl, hm⟩
  replace MV := hide ((unhide MV).trans hm fun _ f => f.elim)
  clear hm
  go_wp2_with (first | (refine wpList_load_on rfl 29 (.tmp 3) rfl A 0 rfl (msgCells ma a1 c1 a2 c2) _ ((unhide RA).keep (unhide MV) id).range Tryd.underlying29 rfl (by kernel_rfl) ?_) | (refine wpList_load_on rfl 29 (.tmp 4) rfl (A + 1) 0 rfl (msgCells mb b1 d1 b2 d2) _ ((unhide RB).keep (unhide MV) id).range Tryd.underlying29 rfl (by kernel_rfl) ?_))
  refine (right_yes mb b1 b2 d1 d2 w7 (unhide HF).2 ((unhide JB).1.keep (unhide MV) fun _ _ => id) ((unhide JB).2.keep (unhide MV) fun _ _ => id) (unhide HR).2).mono ?_
  rintro e w8 ⟨rfl, hm⟩
  replace MV := hide ((unhide MV).trans hm fun _ f => f.elim)
  clear hm
  have hxe : ¬ sx = sy := by
    rw [← unhide HSX, ← unhide HSY]
    exact fun h => unhide HAB (msg_inj (unhide HR).1 (unhide HR).2 (by have := congrArg (fun (x : ByteArray) => x.data.toList) h; exact this))
  have hb2 : decide (sx = sy) = false := decide_eq_false hxe
  have hb3 : (sx.toList == sy.toList) = false := by rw [ByteArray.toList_eq, ByteArray.toList_eq]; simpa using fun h => hxe (bytes_ext h)
  have hq : sameMsg ma mb = false := (by cases e : sameMsg ma mb; rfl; exact absurd ((sameMsg_iff ma mb).1 e) (unhide HAB))
  have HQ := hide hq
  clear hq
  go_wp2_with (first | (refine wpList_load_on rfl 29 (.tmp 3) rfl A 0 rfl (msgCells ma a1 c1 a2 c2) _ ((unhide RA).keep (unhide MV) id).range Tryd.underlying29 rfl (by kernel_rfl) ?_) | (refine wpList_load_on rfl 29 (.tmp 4) rfl (A + 1) 0 rfl (msgCells mb b1 d1 b2 d2) _ ((unhide RB).keep (unhide MV) id).range Tryd.underlying29 rfl (by kernel_rfl) ?_))
  refine (same_any ma mb a1 a2 b1 b2 c1 c2 d1 d2 w8 ((unhide JA).1.keep (unhide MV) fun _ _ => id) ((unhide JA).2.keep (unhide MV) fun _ _ => id) ((unhide JB).1.keep (unhide MV) fun _ _ => id) ((unhide JB).2.keep (unhide MV) fun _ _ => id) (unhide HF).1.owner (unhide HF).1.set).mono ?_
  rintro e w9 ⟨rfl, hm⟩
  rw [unhide HQ]
  replace MV := hide ((unhide MV).trans hm fun _ f => f.elim)
  clear hm
  have hrd := read_any sx (by rw [← unhide HSX]; show (msgBytes ma).toArray.size ≤ _; simp only [List.size_toArray]; have := msg_len (unhide HR).1; omega) w9
  have e1 : readMsg sx.data.toList = (ma, 0) := by rw [← unhide HSX]; exact msg_back (unhide HR).1
  rw [e1] at hrd
  have HRX := hide hrd
  clear hrd e1
  go_wp2_with (first | (refine wpList_load_on rfl 29 (.tmp 3) rfl A 0 rfl (msgCells ma a1 c1 a2 c2) _ ((unhide RA).keep (unhide MV) id).range Tryd.underlying29 rfl (by kernel_rfl) ?_) | (refine wpList_load_on rfl 29 (.tmp 4) rfl (A + 1) 0 rfl (msgCells mb b1 d1 b2 d2) _ ((unhide RB).keep (unhide MV) id).range Tryd.underlying29 rfl (by kernel_rfl) ?_))
  refine (unhide HRX).mono ?_
  rintro e v1 ⟨hm, x1, y1, x2, y2, rfl, hi1, hi2, -⟩
  replace MV := hide ((unhide MV).trans hm fun _ f => f.elim)
  obtain ⟨u1, hu, hrow, hmf, hth⟩ := keep_at v1 ma x1 x2 y1 y2
  have U1 := hide hu
  have K1 := hide hrow
  have T1 := hide hth
  have I1 := hide (And.intro (hi1.keep hmf fun _ _ => id) (hi2.keep hmf fun _ _ => id))
  replace MV := hide ((unhide MV).trans hmf fun _ f => f.elim)
  clear hm hi1 hi2 hu hrow hmf hth HRX
  have hof := ofMsg_any sd (by rw [← unhide HSD]; show (Fm.Crc.frameOf (msgBytes ma)).toArray.size ≤ _; simp only [List.size_toArray, Fm.Crc.frameOf_length]; have := msg_len (unhide HR).1; omega) u1 (tab_moved (unhide HT) (unhide MV))
  have e1 : ofMsg sd.data.toList = (ma, 0) := by rw [← unhide HSD]; exact of_back (unhide HR).1
  rw [e1] at hof
  have HOF := hide hof
  clear hof e1
  go_wp2_with (refine wpList_store_mid rfl 29 (.tmp 13) (.tmp 86) rfl v1.heap.size 0 (msgCells ma x1 y1 x2 y2).toArray rfl rfl (unhide T1) (by kernel_rfl) (cells_one ma x1 x2 y1 y2) ?_; change wpList _ _ _ _ _ (World.setCells _ v1.heap.size 0 (msgCells ma x1 y1 x2 y2)); rw [unhide U1]; clear T1 U1)
  refine (unhide HOF).mono ?_
  rintro e v2 ⟨hm, z1, t1, z2, t2, rfl, hi1, hi2⟩
  obtain ⟨u2, hu, hrow, hmf, hth⟩ := keep_at v2 ma z1 z2 t1 t2
  have U2 := hide hu
  have K2 := hide hrow
  have T2 := hide hth
  have I2 := hide (And.intro (hi1.keep hmf fun _ _ => id) (hi2.keep hmf fun _ _ => id))
  have mk := hm.trans hmf fun _ f => f.elim
  replace K1 := hide ((unhide K1).keep mk id)
  replace I1 := hide (And.intro ((unhide I1).1.keep mk fun _ _ => id) ((unhide I1).2.keep mk fun _ _ => id))
  replace MV := hide ((unhide MV).trans mk fun _ f => f.elim)
  clear hm hi1 hi2 hu hrow hmf hth HOF mk
  go_wp2_with (first | (refine wpList_store_mid rfl 29 (.tmp 15) (.tmp 91) rfl v2.heap.size 0 (msgCells ma z1 t1 z2 t2).toArray rfl rfl (unhide T2) (by kernel_rfl) (cells_one ma z1 z2 t1 t2) ?_; change wpList _ _ _ _ _ (World.setCells _ v2.heap.size 0 (msgCells ma z1 t1 z2 t2)); rw [unhide U2]; clear T2 U2) | (refine wpList_load_on rfl 29 (.tmp 13) rfl v1.heap.size 0 rfl (msgCells ma x1 y1 x2 y2) _ (unhide K1).range Tryd.underlying29 rfl (by kernel_rfl) ?_) | (refine wpList_load_on rfl 29 (.tmp 3) rfl A 0 rfl (msgCells ma a1 c1 a2 c2) _ ((unhide RA).keep (unhide MV) id).range Tryd.underlying29 rfl (by kernel_rfl) ?_))
  refine (same_any ma ma x1 x2 a1 a2 y1 y2 c1 c2 u2 (unhide I1).1 (unhide I1).2 ((unhide JA).1.keep (unhide MV) fun _ _ => id) ((unhide JA).2.keep (unhide MV) fun _ _ => id) (unhide HF).1.owner (unhide HF).1.set).mono ?_
  rintro e w10 ⟨rfl, hm⟩
  rw [(sameMsg_iff ma ma).2 rfl]
  replace K2 := hide ((unhide K2).keep hm id)
  replace I2 := hide (And.intro ((unhide I2).1.keep hm fun _ _ => id) ((unhide I2).2.keep hm fun _ _ => id))
  replace MV := hide ((unhide MV).trans hm fun _ f => f.elim)
  clear hm K1 I1
  go_wp2_with (first | (refine wpList_load_on rfl 29 (.tmp 15) rfl v2.heap.size 0 rfl (msgCells ma z1 t1 z2 t2) _ (unhide K2).range Tryd.underlying29 rfl (by kernel_rfl) ?_) | (refine wpList_load_on rfl 29 (.tmp 3) rfl A 0 rfl (msgCells ma a1 c1 a2 c2) _ ((unhide RA).keep (unhide MV) id).range Tryd.underlying29 rfl (by kernel_rfl) ?_))
  refine (same_any ma ma z1 z2 a1 a2 t1 t2 c1 c2 w10 (unhide I2).1 (unhide I2).2 ((unhide JA).1.keep (unhide MV) fun _ _ => id) ((unhide JA).2.keep (unhide MV) fun _ _ => id) (unhide HF).1.owner (unhide HF).1.set).mono ?_
  rintro e w11 ⟨rfl, hm⟩
  rw [(sameMsg_iff ma ma).2 rfl]
  replace MV := hide ((unhide MV).trans hm fun _ f => f.elim)
  clear hm K2 I2
  have hrd := read_any s (by have := hl; omega) w11
  obtain ⟨mr, er⟩ : ∃ m, (readMsg s.data.toList).1 = m := ⟨_, rfl⟩
  obtain ⟨E, eE⟩ : ∃ E, (readMsg s.data.toList).2 = E := ⟨_, rfl⟩
  have hfa := msg_fault s.data.toList
  rw [er, eE] at hrd hfa
  have HER := hide (And.intro er eE)
  have HRD := hide hrd
  have HFA := hide hfa
  clear hrd er eE hfa
  go_wp2_with fail
  refine (unhide HRD).mono ?_
  rintro e v3 ⟨hm, x1, y1, x2, y2, rfl, hi1, hi2, -⟩
  replace MV := hide ((unhide MV).trans hm fun _ f => f.elim)
  obtain ⟨u3, hu, hrow, hmf, hth⟩ := keep_at v3 mr x1 x2 y1 y2
  have U3 := hide hu
  have K3 := hide hrow
  have T3 := hide hth
  have I3 := hide (And.intro (hi1.keep hmf fun _ _ => id) (hi2.keep hmf fun _ _ => id))
  replace MV := hide ((unhide MV).trans hmf fun _ f => f.elim)
  clear hm hi1 hi2 hu hrow hmf hth HRD
  by_cases hE : E = 0
  · subst hE
    have hj := msg_just (show readMsg s.data.toList = (mr, 0) from Prod.ext (unhide HER).1 (unhide HER).2)
    have hbs := text_back hj.2
    have HB := hide hbs
    have HRM := hide hj.1
    clear hj hbs
    go_wp2_with (first | (refine wpList_store_mid rfl 29 (.tmp 17) (.tmp 114) rfl v3.heap.size 0 (msgCells mr x1 y1 x2 y2).toArray rfl rfl (unhide T3) (by kernel_rfl) (cells_one mr x1 x2 y1 y2) ?_; change wpList _ _ _ _ _ (World.setCells _ v3.heap.size 0 (msgCells mr x1 y1 x2 y2)); rw [unhide U3]; clear T3 U3) | (refine wpList_load_on rfl 29 (.tmp 17) rfl v3.heap.size 0 rfl (msgCells mr x1 y1 x2 y2) _ (unhide K3).range Tryd.underlying29 rfl (by kernel_rfl) ?_))
    refine (bytes_yes mr x1 x2 y1 y2 u3 (fit_of (unhide HRM)) (unhide I3).1 (unhide I3).2 (unhide HRM)).mono ?_
    rintro e w12 ⟨rfl, hm⟩
    rw [unhide HB]
    replace K3 := hide ((unhide K3).keep hm id)
    replace I3 := hide (And.intro ((unhide I3).1.keep hm fun _ _ => id) ((unhide I3).2.keep hm fun _ _ => id))
    replace MV := hide ((unhide MV).trans hm fun _ f => f.elim)
    clear hm
    go_wp2_with (refine wpList_load_on rfl 29 (.tmp 17) rfl v3.heap.size 0 rfl (msgCells mr x1 y1 x2 y2) _ (unhide K3).range Tryd.underlying29 rfl (by kernel_rfl) ?_)
    refine (right_yes mr x1 x2 y1 y2 w12 (fit_of (unhide HRM)) (unhide I3).1 (unhide I3).2 (unhide HRM)).mono ?_
    rintro e w13 ⟨rfl, hm⟩
    replace MV := hide ((unhide MV).trans hm fun _ f => f.elim)
    clear hm
    go_wp2_with fail
    go_ret
    exact ⟨rfl, unhide FIN _ (unhide MV)⟩
  · have hE' : ¬ ((E : Int) = 0) := by omega
    have hz : mr = MsgV.zero := (unhide HFA).resolve_left hE
    subst hz
    clear hE
    go_wp2_with (first | (refine wpList_store_mid rfl 29 (.tmp 17) (.tmp 114) rfl v3.heap.size 0 (msgCells MsgV.zero x1 y1 x2 y2).toArray rfl rfl (unhide T3) (by kernel_rfl) (cells_one MsgV.zero x1 x2 y1 y2) ?_; change wpList _ _ _ _ _ (World.setCells _ v3.heap.size 0 (msgCells MsgV.zero x1 y1 x2 y2)); rw [unhide U3]; clear T3 U3) | (refine wpList_load_on rfl 29 (.tmp 17) rfl v3.heap.size 0 rfl (msgCells MsgV.zero x1 y1 x2 y2) _ (unhide K3).range Tryd.underlying29 rfl (by kernel_rfl) ?_))
    refine (same_any MsgV.zero MsgV.zero x1 x2 none none y1 y2 0 0 u3 (unhide I3).1 (unhide I3).2 (ints_nil _ _) (ints_nil _ _) (Nat.zero_le _) (Nat.zero_le _)).mono ?_
    rintro e w12 ⟨rfl, hm⟩
    rw [(sameMsg_iff MsgV.zero MsgV.zero).2 rfl]
    replace MV := hide ((unhide MV).trans hm fun _ f => f.elim)
    clear hm
    go_wp2_with fail
    go_ret
    exact ⟨rfl, unhide FIN _ (unhide MV)⟩
set_option maxHeartbeats 16000000 in
set_option maxRecDepth 100000 in
theorem back_yn (ma mb : MsgV) (a1 a2 b1 b2 : Option Addr) (c1 c2 d1 d2 : Nat) (s : ByteArray) (w : World) (fa : Fit ma) (fb : Fit mb) (ia1 : Ints w a1 ma.owner) (ia2 : Ints w a2 ma.set) (ib1 : Ints w b1 mb.owner) (ib2 : Ints w b2 mb.set) (hs : s.size ≤ maxLen) (hT : Fm.Tab w) (ra : Right ma) (rb : ¬ Right mb) :
    Calls Tryd.prog 5 #[.agg (msgCells ma a1 c1 a2 c2).toArray, .agg (msgCells mb b1 d1 b2 d2).toArray, .string s] w fun e w' => e = .returned (.bool true) ∧ Below w.heap.size w w' := by
  obtain ⟨A, hA⟩ : ∃ A, A = w.heap.size := ⟨_, rfl⟩
  obtain ⟨W, hW⟩ : ∃ W, W = (w.alloc (.cells (msgCells ma a1 c1 a2 c2).toArray 29)).alloc (.cells (msgCells mb b1 d1 b2 d2).toArray 29) := ⟨_, rfl⟩
  have mW : Moved (fun _ => False) w W := by rw [hW]; exact ((Moved.refl _ _).alloc _).alloc _
  have RA : Hid (RowAt W A (msgCells ma a1 c1 a2 c2)) := hide (by rw [hW, hA]; exact row_old (row_new _ _ _) _)
  have RB : Hid (RowAt W (A + 1) (msgCells mb b1 d1 b2 d2)) := hide (by rw [hW, hA]; exact row_new2 _ _ _ _ _)
  have JA := hide (And.intro (ia1.keep mW fun _ _ => id) (ia2.keep mW fun _ _ => id))
  have JB := hide (And.intro (ib1.keep mW fun _ _ => id) (ib2.keep mW fun _ _ => id))
  have HT := hide (tab_moved hT mW)
  have HMW := hide mW
  have HW := hide hW
  have HA := hide hA
  have HF := hide (And.intro fa fb)
  have HS := hide hs
  have fin : ∀ w', Moved (fun _ => False) W w' → Below w.heap.size w w' := fun w' h => (mW.trans h fun _ f => f.elim).below (fun _ f => f.elim) (Nat.le_refl _)
  have FIN := hide fin
  clear mW hW hA ia1 ia2 ib1 ib2 fa fb hT hs fin
  go_enter Tryd.func5, Tryd.ntmps5
  go_upto_region 1 with fail
  rw [← unhide HA, ← unhide HW]
  go_wp2_with fail
  refine (awake_any W).mono ?_
  rintro e w1 ⟨rfl, hm⟩
  have MV := hide hm
  clear hm
  go_wp2_with (first | (refine wpList_load_on rfl 29 (.tmp 3) rfl A 0 rfl (msgCells ma a1 c1 a2 c2) _ ((unhide RA).keep (unhide MV) id).range Tryd.underlying29 rfl (by kernel_rfl) ?_) | (refine wpList_load_on rfl 29 (.tmp 4) rfl (A + 1) 0 rfl (msgCells mb b1 d1 b2 d2) _ ((unhide RB).keep (unhide MV) id).range Tryd.underlying29 rfl (by kernel_rfl) ?_))
  refine (great_any ma a1 a2 c1 c2 w1).mono ?_
  rintro e w2 ⟨rfl, hm⟩
  replace MV := hide ((unhide MV).trans hm fun _ f => f.elim)
  clear hm
  cases hga : great ma
  rotate_left
  · go_wp2_with fail
    go_ret
    exact ⟨rfl, unhide FIN _ (unhide MV)⟩
  clear hga
  go_wp2_with (first | (refine wpList_load_on rfl 29 (.tmp 3) rfl A 0 rfl (msgCells ma a1 c1 a2 c2) _ ((unhide RA).keep (unhide MV) id).range Tryd.underlying29 rfl (by kernel_rfl) ?_) | (refine wpList_load_on rfl 29 (.tmp 4) rfl (A + 1) 0 rfl (msgCells mb b1 d1 b2 d2) _ ((unhide RB).keep (unhide MV) id).range Tryd.underlying29 rfl (by kernel_rfl) ?_))
  refine (great_any mb b1 b2 d1 d2 w2).mono ?_
  rintro e w3 ⟨rfl, hm⟩
  replace MV := hide ((unhide MV).trans hm fun _ f => f.elim)
  clear hm
  cases hgb : great mb
  rotate_left
  · go_wp2_with fail
    go_ret
    exact ⟨rfl, unhide FIN _ (unhide MV)⟩
  clear hgb
  by_cases hl : (20000 : Int) < (s.size : Int)
  · go_wp2_with fail
    go_ret
    exact ⟨rfl, unhide FIN _ (unhide MV)⟩
  have HR := hide (And.intro ra rb)
  clear ra rb
  obtain ⟨eb, heb⟩ : ∃ e, errOf mb = e := ⟨_, rfl⟩
  have heb0 : ¬ eb = 0 := by rw [← heb]; unfold errOf; split <;> decide
  have HEB := hide heb
  clear heb
  obtain ⟨sx, hsx⟩ : ∃ x, (⟨(msgBytes ma).toArray⟩ : ByteArray) = x := ⟨_, rfl⟩
  have HSX := hide hsx
  clear hsx
  obtain ⟨sd, hsd⟩ : ∃ x, (⟨(Fm.Crc.frameOf (msgBytes ma)).toArray⟩ : ByteArray) = x := ⟨_, rfl⟩
  have HSD := hide hsd
  clear hsd
  go_wp2_with (first | (refine wpList_load_on rfl 29 (.tmp 3) rfl A 0 rfl (msgCells ma a1 c1 a2 c2) _ ((unhide RA).keep (unhide MV) id).range Tryd.underlying29 rfl (by kernel_rfl) ?_) | (refine wpList_load_on rfl 29 (.tmp 4) rfl (A + 1) 0 rfl (msgCells mb b1 d1 b2 d2) _ ((unhide RB).keep (unhide MV) id).range Tryd.underlying29 rfl (by kernel_rfl) ?_))
  refine (bytes_yes ma a1 a2 c1 c2 w3 (unhide HF).1 ((unhide JA).1.keep (unhide MV) fun _ _ => id) ((unhide JA).2.keep (unhide MV) fun _ _ => id) (unhide HR).1).mono ?_
  rintro e w4 ⟨rfl, hm⟩
  replace MV := hide ((unhide MV).trans hm fun _ f => f.elim)
  clear hm
  rw [unhide HSX]
  go_wp2_with (first | (refine wpList_load_on rfl 29 (.tmp 3) rfl A 0 rfl (msgCells ma a1 c1 a2 c2) _ ((unhide RA).keep (unhide MV) id).range Tryd.underlying29 rfl (by kernel_rfl) ?_) | (refine wpList_load_on rfl 29 (.tmp 4) rfl (A + 1) 0 rfl (msgCells mb b1 d1 b2 d2) _ ((unhide RB).keep (unhide MV) id).range Tryd.underlying29 rfl (by kernel_rfl) ?_))
  refine (bytes_no mb b1 b2 d1 d2 w4 (unhide HF).2 ((unhide JB).1.keep (unhide MV) fun _ _ => id) ((unhide JB).2.keep (unhide MV) fun _ _ => id) (unhide HR).2).mono ?_
  rintro e w5 ⟨rfl, hm⟩
  replace MV := hide ((unhide MV).trans hm fun _ f => f.elim)
  clear hm
  rw [unhide HEB]
  go_wp2_with (first | (refine wpList_load_on rfl 29 (.tmp 3) rfl A 0 rfl (msgCells ma a1 c1 a2 c2) _ ((unhide RA).keep (unhide MV) id).range Tryd.underlying29 rfl (by kernel_rfl) ?_) | (refine wpList_load_on rfl 29 (.tmp 4) rfl (A + 1) 0 rfl (msgCells mb b1 d1 b2 d2) _ ((unhide RB).keep (unhide MV) id).range Tryd.underlying29 rfl (by kernel_rfl) ?_))
  refine (data_yes ma a1 a2 c1 c2 w5 (unhide HF).1 ((unhide JA).1.keep (unhide MV) fun _ _ => id) ((unhide JA).2.keep (unhide MV) fun _ _ => id) (tab_moved (unhide HT) (unhide MV)) (unhide HR).1).mono ?_
  rintro e w6 ⟨rfl, hm⟩
  replace MV := hide ((unhide MV).trans hm fun _ f => f.elim)
  clear hm
  rw [unhide HSD]
  go_wp2_with (first | (refine wpList_load_on rfl 29 (.tmp 3) rfl A 0 rfl (msgCells ma a1 c1 a2 c2) _ ((unhide RA).keep (unhide MV) id).range Tryd.underlying29 rfl (by kernel_rfl) ?_) | (refine wpList_load_on rfl 29 (.tmp 4) rfl (A + 1) 0 rfl (msgCells mb b1 d1 b2 d2) _ ((unhide RB).keep (unhide MV) id).range Tryd.underlying29 rfl (by kernel_rfl) ?_))
  refine (right_yes ma a1 a2 c1 c2 w6 (unhide HF).1 ((unhide JA).1.keep (unhide MV) fun _ _ => id) ((unhide JA).2.keep (unhide MV) fun _ _ => id) (unhide HR).1).mono ?_
  rintro e w7 ⟨rfl, hm⟩
  replace MV := hide ((unhide MV).trans hm fun _ f => f.elim)
  clear hm
  go_wp2_with (first | (refine wpList_load_on rfl 29 (.tmp 3) rfl A 0 rfl (msgCells ma a1 c1 a2 c2) _ ((unhide RA).keep (unhide MV) id).range Tryd.underlying29 rfl (by kernel_rfl) ?_) | (refine wpList_load_on rfl 29 (.tmp 4) rfl (A + 1) 0 rfl (msgCells mb b1 d1 b2 d2) _ ((unhide RB).keep (unhide MV) id).range Tryd.underlying29 rfl (by kernel_rfl) ?_))
  refine (right_no mb b1 b2 d1 d2 w7 (unhide HF).2 ((unhide JB).1.keep (unhide MV) fun _ _ => id) ((unhide JB).2.keep (unhide MV) fun _ _ => id) (unhide HR).2).mono ?_
  rintro e w8 ⟨rfl, hm⟩
  replace MV := hide ((unhide MV).trans hm fun _ f => f.elim)
  clear hm
  rw [unhide HEB]
  have hrd := read_any sx (by rw [← unhide HSX]; show (msgBytes ma).toArray.size ≤ _; simp only [List.size_toArray]; have := msg_len (unhide HR).1; omega) w8
  have e1 : readMsg sx.data.toList = (ma, 0) := by rw [← unhide HSX]; exact msg_back (unhide HR).1
  rw [e1] at hrd
  have HRX := hide hrd
  clear hrd e1
  go_wp2_with (first | (refine wpList_load_on rfl 29 (.tmp 3) rfl A 0 rfl (msgCells ma a1 c1 a2 c2) _ ((unhide RA).keep (unhide MV) id).range Tryd.underlying29 rfl (by kernel_rfl) ?_) | (refine wpList_load_on rfl 29 (.tmp 4) rfl (A + 1) 0 rfl (msgCells mb b1 d1 b2 d2) _ ((unhide RB).keep (unhide MV) id).range Tryd.underlying29 rfl (by kernel_rfl) ?_))
  refine (unhide HRX).mono ?_
  rintro e v1 ⟨hm, x1, y1, x2, y2, rfl, hi1, hi2, -⟩
  replace MV := hide ((unhide MV).trans hm fun _ f => f.elim)
  obtain ⟨u1, hu, hrow, hmf, hth⟩ := keep_at v1 ma x1 x2 y1 y2
  have U1 := hide hu
  have K1 := hide hrow
  have T1 := hide hth
  have I1 := hide (And.intro (hi1.keep hmf fun _ _ => id) (hi2.keep hmf fun _ _ => id))
  replace MV := hide ((unhide MV).trans hmf fun _ f => f.elim)
  clear hm hi1 hi2 hu hrow hmf hth HRX
  have hof := ofMsg_any sd (by rw [← unhide HSD]; show (Fm.Crc.frameOf (msgBytes ma)).toArray.size ≤ _; simp only [List.size_toArray, Fm.Crc.frameOf_length]; have := msg_len (unhide HR).1; omega) u1 (tab_moved (unhide HT) (unhide MV))
  have e1 : ofMsg sd.data.toList = (ma, 0) := by rw [← unhide HSD]; exact of_back (unhide HR).1
  rw [e1] at hof
  have HOF := hide hof
  clear hof e1
  go_wp2_with (refine wpList_store_mid rfl 29 (.tmp 13) (.tmp 86) rfl v1.heap.size 0 (msgCells ma x1 y1 x2 y2).toArray rfl rfl (unhide T1) (by kernel_rfl) (cells_one ma x1 x2 y1 y2) ?_; change wpList _ _ _ _ _ (World.setCells _ v1.heap.size 0 (msgCells ma x1 y1 x2 y2)); rw [unhide U1]; clear T1 U1)
  refine (unhide HOF).mono ?_
  rintro e v2 ⟨hm, z1, t1, z2, t2, rfl, hi1, hi2⟩
  obtain ⟨u2, hu, hrow, hmf, hth⟩ := keep_at v2 ma z1 z2 t1 t2
  have U2 := hide hu
  have K2 := hide hrow
  have T2 := hide hth
  have I2 := hide (And.intro (hi1.keep hmf fun _ _ => id) (hi2.keep hmf fun _ _ => id))
  have mk := hm.trans hmf fun _ f => f.elim
  replace K1 := hide ((unhide K1).keep mk id)
  replace I1 := hide (And.intro ((unhide I1).1.keep mk fun _ _ => id) ((unhide I1).2.keep mk fun _ _ => id))
  replace MV := hide ((unhide MV).trans mk fun _ f => f.elim)
  clear hm hi1 hi2 hu hrow hmf hth HOF mk
  go_wp2_with (first | (refine wpList_store_mid rfl 29 (.tmp 15) (.tmp 91) rfl v2.heap.size 0 (msgCells ma z1 t1 z2 t2).toArray rfl rfl (unhide T2) (by kernel_rfl) (cells_one ma z1 z2 t1 t2) ?_; change wpList _ _ _ _ _ (World.setCells _ v2.heap.size 0 (msgCells ma z1 t1 z2 t2)); rw [unhide U2]; clear T2 U2) | (refine wpList_load_on rfl 29 (.tmp 13) rfl v1.heap.size 0 rfl (msgCells ma x1 y1 x2 y2) _ (unhide K1).range Tryd.underlying29 rfl (by kernel_rfl) ?_) | (refine wpList_load_on rfl 29 (.tmp 3) rfl A 0 rfl (msgCells ma a1 c1 a2 c2) _ ((unhide RA).keep (unhide MV) id).range Tryd.underlying29 rfl (by kernel_rfl) ?_))
  refine (same_any ma ma x1 x2 a1 a2 y1 y2 c1 c2 u2 (unhide I1).1 (unhide I1).2 ((unhide JA).1.keep (unhide MV) fun _ _ => id) ((unhide JA).2.keep (unhide MV) fun _ _ => id) (unhide HF).1.owner (unhide HF).1.set).mono ?_
  rintro e w10 ⟨rfl, hm⟩
  rw [(sameMsg_iff ma ma).2 rfl]
  replace K2 := hide ((unhide K2).keep hm id)
  replace I2 := hide (And.intro ((unhide I2).1.keep hm fun _ _ => id) ((unhide I2).2.keep hm fun _ _ => id))
  replace MV := hide ((unhide MV).trans hm fun _ f => f.elim)
  clear hm K1 I1
  go_wp2_with (first | (refine wpList_load_on rfl 29 (.tmp 15) rfl v2.heap.size 0 rfl (msgCells ma z1 t1 z2 t2) _ (unhide K2).range Tryd.underlying29 rfl (by kernel_rfl) ?_) | (refine wpList_load_on rfl 29 (.tmp 3) rfl A 0 rfl (msgCells ma a1 c1 a2 c2) _ ((unhide RA).keep (unhide MV) id).range Tryd.underlying29 rfl (by kernel_rfl) ?_))
  refine (same_any ma ma z1 z2 a1 a2 t1 t2 c1 c2 w10 (unhide I2).1 (unhide I2).2 ((unhide JA).1.keep (unhide MV) fun _ _ => id) ((unhide JA).2.keep (unhide MV) fun _ _ => id) (unhide HF).1.owner (unhide HF).1.set).mono ?_
  rintro e w11 ⟨rfl, hm⟩
  rw [(sameMsg_iff ma ma).2 rfl]
  replace MV := hide ((unhide MV).trans hm fun _ f => f.elim)
  clear hm K2 I2
  have hrd := read_any s (by have := hl; omega) w11
  obtain ⟨mr, er⟩ : ∃ m, (readMsg s.data.toList).1 = m := ⟨_, rfl⟩
  obtain ⟨E, eE⟩ : ∃ E, (readMsg s.data.toList).2 = E := ⟨_, rfl⟩
  have hfa := msg_fault s.data.toList
  rw [er, eE] at hrd hfa
  have HER := hide (And.intro er eE)
  have HRD := hide hrd
  have HFA := hide hfa
  clear hrd er eE hfa
  go_wp2_with fail
  refine (unhide HRD).mono ?_
  rintro e v3 ⟨hm, x1, y1, x2, y2, rfl, hi1, hi2, -⟩
  replace MV := hide ((unhide MV).trans hm fun _ f => f.elim)
  obtain ⟨u3, hu, hrow, hmf, hth⟩ := keep_at v3 mr x1 x2 y1 y2
  have U3 := hide hu
  have K3 := hide hrow
  have T3 := hide hth
  have I3 := hide (And.intro (hi1.keep hmf fun _ _ => id) (hi2.keep hmf fun _ _ => id))
  replace MV := hide ((unhide MV).trans hmf fun _ f => f.elim)
  clear hm hi1 hi2 hu hrow hmf hth HRD
  by_cases hE : E = 0
  · subst hE
    have hj := msg_just (show readMsg s.data.toList = (mr, 0) from Prod.ext (unhide HER).1 (unhide HER).2)
    have hbs := text_back hj.2
    have HB := hide hbs
    have HRM := hide hj.1
    clear hj hbs
    go_wp2_with (first | (refine wpList_store_mid rfl 29 (.tmp 17) (.tmp 114) rfl v3.heap.size 0 (msgCells mr x1 y1 x2 y2).toArray rfl rfl (unhide T3) (by kernel_rfl) (cells_one mr x1 x2 y1 y2) ?_; change wpList _ _ _ _ _ (World.setCells _ v3.heap.size 0 (msgCells mr x1 y1 x2 y2)); rw [unhide U3]; clear T3 U3) | (refine wpList_load_on rfl 29 (.tmp 17) rfl v3.heap.size 0 rfl (msgCells mr x1 y1 x2 y2) _ (unhide K3).range Tryd.underlying29 rfl (by kernel_rfl) ?_))
    refine (bytes_yes mr x1 x2 y1 y2 u3 (fit_of (unhide HRM)) (unhide I3).1 (unhide I3).2 (unhide HRM)).mono ?_
    rintro e w12 ⟨rfl, hm⟩
    rw [unhide HB]
    replace K3 := hide ((unhide K3).keep hm id)
    replace I3 := hide (And.intro ((unhide I3).1.keep hm fun _ _ => id) ((unhide I3).2.keep hm fun _ _ => id))
    replace MV := hide ((unhide MV).trans hm fun _ f => f.elim)
    clear hm
    go_wp2_with (refine wpList_load_on rfl 29 (.tmp 17) rfl v3.heap.size 0 rfl (msgCells mr x1 y1 x2 y2) _ (unhide K3).range Tryd.underlying29 rfl (by kernel_rfl) ?_)
    refine (right_yes mr x1 x2 y1 y2 w12 (fit_of (unhide HRM)) (unhide I3).1 (unhide I3).2 (unhide HRM)).mono ?_
    rintro e w13 ⟨rfl, hm⟩
    replace MV := hide ((unhide MV).trans hm fun _ f => f.elim)
    clear hm
    go_wp2_with fail
    go_ret
    exact ⟨rfl, unhide FIN _ (unhide MV)⟩
  · have hE' : ¬ ((E : Int) = 0) := by omega
    have hz : mr = MsgV.zero := (unhide HFA).resolve_left hE
    subst hz
    clear hE
    go_wp2_with (first | (refine wpList_store_mid rfl 29 (.tmp 17) (.tmp 114) rfl v3.heap.size 0 (msgCells MsgV.zero x1 y1 x2 y2).toArray rfl rfl (unhide T3) (by kernel_rfl) (cells_one MsgV.zero x1 x2 y1 y2) ?_; change wpList _ _ _ _ _ (World.setCells _ v3.heap.size 0 (msgCells MsgV.zero x1 y1 x2 y2)); rw [unhide U3]; clear T3 U3) | (refine wpList_load_on rfl 29 (.tmp 17) rfl v3.heap.size 0 rfl (msgCells MsgV.zero x1 y1 x2 y2) _ (unhide K3).range Tryd.underlying29 rfl (by kernel_rfl) ?_))
    refine (same_any MsgV.zero MsgV.zero x1 x2 none none y1 y2 0 0 u3 (unhide I3).1 (unhide I3).2 (ints_nil _ _) (ints_nil _ _) (Nat.zero_le _) (Nat.zero_le _)).mono ?_
    rintro e w12 ⟨rfl, hm⟩
    rw [(sameMsg_iff MsgV.zero MsgV.zero).2 rfl]
    replace MV := hide ((unhide MV).trans hm fun _ f => f.elim)
    clear hm
    go_wp2_with fail
    go_ret
    exact ⟨rfl, unhide FIN _ (unhide MV)⟩
set_option maxHeartbeats 16000000 in
set_option maxRecDepth 100000 in
theorem back_ny (ma mb : MsgV) (a1 a2 b1 b2 : Option Addr) (c1 c2 d1 d2 : Nat) (s : ByteArray) (w : World) (fa : Fit ma) (fb : Fit mb) (ia1 : Ints w a1 ma.owner) (ia2 : Ints w a2 ma.set) (ib1 : Ints w b1 mb.owner) (ib2 : Ints w b2 mb.set) (hs : s.size ≤ maxLen) (hT : Fm.Tab w) (ra : ¬ Right ma) (rb : Right mb) :
    Calls Tryd.prog 5 #[.agg (msgCells ma a1 c1 a2 c2).toArray, .agg (msgCells mb b1 d1 b2 d2).toArray, .string s] w fun e w' => e = .returned (.bool true) ∧ Below w.heap.size w w' := by
  obtain ⟨A, hA⟩ : ∃ A, A = w.heap.size := ⟨_, rfl⟩
  obtain ⟨W, hW⟩ : ∃ W, W = (w.alloc (.cells (msgCells ma a1 c1 a2 c2).toArray 29)).alloc (.cells (msgCells mb b1 d1 b2 d2).toArray 29) := ⟨_, rfl⟩
  have mW : Moved (fun _ => False) w W := by rw [hW]; exact ((Moved.refl _ _).alloc _).alloc _
  have RA : Hid (RowAt W A (msgCells ma a1 c1 a2 c2)) := hide (by rw [hW, hA]; exact row_old (row_new _ _ _) _)
  have RB : Hid (RowAt W (A + 1) (msgCells mb b1 d1 b2 d2)) := hide (by rw [hW, hA]; exact row_new2 _ _ _ _ _)
  have JA := hide (And.intro (ia1.keep mW fun _ _ => id) (ia2.keep mW fun _ _ => id))
  have JB := hide (And.intro (ib1.keep mW fun _ _ => id) (ib2.keep mW fun _ _ => id))
  have HT := hide (tab_moved hT mW)
  have HMW := hide mW
  have HW := hide hW
  have HA := hide hA
  have HF := hide (And.intro fa fb)
  have HS := hide hs
  have fin : ∀ w', Moved (fun _ => False) W w' → Below w.heap.size w w' := fun w' h => (mW.trans h fun _ f => f.elim).below (fun _ f => f.elim) (Nat.le_refl _)
  have FIN := hide fin
  clear mW hW hA ia1 ia2 ib1 ib2 fa fb hT hs fin
  go_enter Tryd.func5, Tryd.ntmps5
  go_upto_region 1 with fail
  rw [← unhide HA, ← unhide HW]
  go_wp2_with fail
  refine (awake_any W).mono ?_
  rintro e w1 ⟨rfl, hm⟩
  have MV := hide hm
  clear hm
  go_wp2_with (first | (refine wpList_load_on rfl 29 (.tmp 3) rfl A 0 rfl (msgCells ma a1 c1 a2 c2) _ ((unhide RA).keep (unhide MV) id).range Tryd.underlying29 rfl (by kernel_rfl) ?_) | (refine wpList_load_on rfl 29 (.tmp 4) rfl (A + 1) 0 rfl (msgCells mb b1 d1 b2 d2) _ ((unhide RB).keep (unhide MV) id).range Tryd.underlying29 rfl (by kernel_rfl) ?_))
  refine (great_any ma a1 a2 c1 c2 w1).mono ?_
  rintro e w2 ⟨rfl, hm⟩
  replace MV := hide ((unhide MV).trans hm fun _ f => f.elim)
  clear hm
  cases hga : great ma
  rotate_left
  · go_wp2_with fail
    go_ret
    exact ⟨rfl, unhide FIN _ (unhide MV)⟩
  clear hga
  go_wp2_with (first | (refine wpList_load_on rfl 29 (.tmp 3) rfl A 0 rfl (msgCells ma a1 c1 a2 c2) _ ((unhide RA).keep (unhide MV) id).range Tryd.underlying29 rfl (by kernel_rfl) ?_) | (refine wpList_load_on rfl 29 (.tmp 4) rfl (A + 1) 0 rfl (msgCells mb b1 d1 b2 d2) _ ((unhide RB).keep (unhide MV) id).range Tryd.underlying29 rfl (by kernel_rfl) ?_))
  refine (great_any mb b1 b2 d1 d2 w2).mono ?_
  rintro e w3 ⟨rfl, hm⟩
  replace MV := hide ((unhide MV).trans hm fun _ f => f.elim)
  clear hm
  cases hgb : great mb
  rotate_left
  · go_wp2_with fail
    go_ret
    exact ⟨rfl, unhide FIN _ (unhide MV)⟩
  clear hgb
  by_cases hl : (20000 : Int) < (s.size : Int)
  · go_wp2_with fail
    go_ret
    exact ⟨rfl, unhide FIN _ (unhide MV)⟩
  have HR := hide (And.intro ra rb)
  clear ra rb
  obtain ⟨ea, hea⟩ : ∃ e, errOf ma = e := ⟨_, rfl⟩
  have hea0 : ¬ ea = 0 := by rw [← hea]; unfold errOf; split <;> decide
  have HEA := hide hea
  clear hea
  obtain ⟨sy, hsy⟩ : ∃ x, (⟨(msgBytes mb).toArray⟩ : ByteArray) = x := ⟨_, rfl⟩
  have HSY := hide hsy
  clear hsy
  go_wp2_with (first | (refine wpList_load_on rfl 29 (.tmp 3) rfl A 0 rfl (msgCells ma a1 c1 a2 c2) _ ((unhide RA).keep (unhide MV) id).range Tryd.underlying29 rfl (by kernel_rfl) ?_) | (refine wpList_load_on rfl 29 (.tmp 4) rfl (A + 1) 0 rfl (msgCells mb b1 d1 b2 d2) _ ((unhide RB).keep (unhide MV) id).range Tryd.underlying29 rfl (by kernel_rfl) ?_))
  refine (bytes_no ma a1 a2 c1 c2 w3 (unhide HF).1 ((unhide JA).1.keep (unhide MV) fun _ _ => id) ((unhide JA).2.keep (unhide MV) fun _ _ => id) (unhide HR).1).mono ?_
  rintro e w4 ⟨rfl, hm⟩
  replace MV := hide ((unhide MV).trans hm fun _ f => f.elim)
  clear hm
  rw [unhide HEA]
  go_wp2_with (first | (refine wpList_load_on rfl 29 (.tmp 3) rfl A 0 rfl (msgCells ma a1 c1 a2 c2) _ ((unhide RA).keep (unhide MV) id).range Tryd.underlying29 rfl (by kernel_rfl) ?_) | (refine wpList_load_on rfl 29 (.tmp 4) rfl (A + 1) 0 rfl (msgCells mb b1 d1 b2 d2) _ ((unhide RB).keep (unhide MV) id).range Tryd.underlying29 rfl (by kernel_rfl) ?_))
  refine (bytes_yes mb b1 b2 d1 d2 w4 (unhide HF).2 ((unhide JB).1.keep (unhide MV) fun _ _ => id) ((unhide JB).2.keep (unhide MV) fun _ _ => id) (unhide HR).2).mono ?_
  rintro e w5 ⟨rfl, hm⟩
  replace MV := hide ((unhide MV).trans hm fun _ f => f.elim)
  clear hm
  rw [unhide HSY]
  go_wp2_with (first | (refine wpList_load_on rfl 29 (.tmp 3) rfl A 0 rfl (msgCells ma a1 c1 a2 c2) _ ((unhide RA).keep (unhide MV) id).range Tryd.underlying29 rfl (by kernel_rfl) ?_) | (refine wpList_load_on rfl 29 (.tmp 4) rfl (A + 1) 0 rfl (msgCells mb b1 d1 b2 d2) _ ((unhide RB).keep (unhide MV) id).range Tryd.underlying29 rfl (by kernel_rfl) ?_))
  refine (data_no ma a1 a2 c1 c2 w5 (unhide HF).1 ((unhide JA).1.keep (unhide MV) fun _ _ => id) ((unhide JA).2.keep (unhide MV) fun _ _ => id) (tab_moved (unhide HT) (unhide MV)) (unhide HR).1).mono ?_
  rintro e w6 ⟨rfl, hm⟩
  replace MV := hide ((unhide MV).trans hm fun _ f => f.elim)
  clear hm
  rw [unhide HEA]
  go_wp2_with (first | (refine wpList_load_on rfl 29 (.tmp 3) rfl A 0 rfl (msgCells ma a1 c1 a2 c2) _ ((unhide RA).keep (unhide MV) id).range Tryd.underlying29 rfl (by kernel_rfl) ?_) | (refine wpList_load_on rfl 29 (.tmp 4) rfl (A + 1) 0 rfl (msgCells mb b1 d1 b2 d2) _ ((unhide RB).keep (unhide MV) id).range Tryd.underlying29 rfl (by kernel_rfl) ?_))
  refine (right_no ma a1 a2 c1 c2 w6 (unhide HF).1 ((unhide JA).1.keep (unhide MV) fun _ _ => id) ((unhide JA).2.keep (unhide MV) fun _ _ => id) (unhide HR).1).mono ?_
  rintro e w7 ⟨rfl, hm⟩
  replace MV := hide ((unhide MV).trans hm fun _ f => f.elim)
  clear hm
  rw [unhide HEA]
  go_wp2_with (first | (refine wpList_load_on rfl 29 (.tmp 3) rfl A 0 rfl (msgCells ma a1 c1 a2 c2) _ ((unhide RA).keep (unhide MV) id).range Tryd.underlying29 rfl (by kernel_rfl) ?_) | (refine wpList_load_on rfl 29 (.tmp 4) rfl (A + 1) 0 rfl (msgCells mb b1 d1 b2 d2) _ ((unhide RB).keep (unhide MV) id).range Tryd.underlying29 rfl (by kernel_rfl) ?_))
  refine (right_yes mb b1 b2 d1 d2 w7 (unhide HF).2 ((unhide JB).1.keep (unhide MV) fun _ _ => id) ((unhide JB).2.keep (unhide MV) fun _ _ => id) (unhide HR).2).mono ?_
  rintro e w8 ⟨rfl, hm⟩
  replace MV := hide ((unhide MV).trans hm fun _ f => f.elim)
  clear hm
  have hrd := read_any s (by have := hl; omega) w8
  obtain ⟨mr, er⟩ : ∃ m, (readMsg s.data.toList).1 = m := ⟨_, rfl⟩
  obtain ⟨E, eE⟩ : ∃ E, (readMsg s.data.toList).2 = E := ⟨_, rfl⟩
  have hfa := msg_fault s.data.toList
  rw [er, eE] at hrd hfa
  have HER := hide (And.intro er eE)
  have HRD := hide hrd
  have HFA := hide hfa
  clear hrd er eE hfa
  go_wp2_with fail
  refine (unhide HRD).mono ?_
  rintro e v3 ⟨hm, x1, y1, x2, y2, rfl, hi1, hi2, -⟩
  replace MV := hide ((unhide MV).trans hm fun _ f => f.elim)
  obtain ⟨u3, hu, hrow, hmf, hth⟩ := keep_at v3 mr x1 x2 y1 y2
  have U3 := hide hu
  have K3 := hide hrow
  have T3 := hide hth
  have I3 := hide (And.intro (hi1.keep hmf fun _ _ => id) (hi2.keep hmf fun _ _ => id))
  replace MV := hide ((unhide MV).trans hmf fun _ f => f.elim)
  clear hm hi1 hi2 hu hrow hmf hth HRD
  by_cases hE : E = 0
  · subst hE
    have hj := msg_just (show readMsg s.data.toList = (mr, 0) from Prod.ext (unhide HER).1 (unhide HER).2)
    have hbs := text_back hj.2
    have HB := hide hbs
    have HRM := hide hj.1
    clear hj hbs
    go_wp2_with (first | (refine wpList_store_mid rfl 29 (.tmp 17) (.tmp 114) rfl v3.heap.size 0 (msgCells mr x1 y1 x2 y2).toArray rfl rfl (unhide T3) (by kernel_rfl) (cells_one mr x1 x2 y1 y2) ?_; change wpList _ _ _ _ _ (World.setCells _ v3.heap.size 0 (msgCells mr x1 y1 x2 y2)); rw [unhide U3]; clear T3 U3) | (refine wpList_load_on rfl 29 (.tmp 17) rfl v3.heap.size 0 rfl (msgCells mr x1 y1 x2 y2) _ (unhide K3).range Tryd.underlying29 rfl (by kernel_rfl) ?_))
    refine (bytes_yes mr x1 x2 y1 y2 u3 (fit_of (unhide HRM)) (unhide I3).1 (unhide I3).2 (unhide HRM)).mono ?_
    rintro e w12 ⟨rfl, hm⟩
    rw [unhide HB]
    replace K3 := hide ((unhide K3).keep hm id)
    replace I3 := hide (And.intro ((unhide I3).1.keep hm fun _ _ => id) ((unhide I3).2.keep hm fun _ _ => id))
    replace MV := hide ((unhide MV).trans hm fun _ f => f.elim)
    clear hm
    go_wp2_with (refine wpList_load_on rfl 29 (.tmp 17) rfl v3.heap.size 0 rfl (msgCells mr x1 y1 x2 y2) _ (unhide K3).range Tryd.underlying29 rfl (by kernel_rfl) ?_)
    refine (right_yes mr x1 x2 y1 y2 w12 (fit_of (unhide HRM)) (unhide I3).1 (unhide I3).2 (unhide HRM)).mono ?_
    rintro e w13 ⟨rfl, hm⟩
    replace MV := hide ((unhide MV).trans hm fun _ f => f.elim)
    clear hm
    go_wp2_with fail
    go_ret
    exact ⟨rfl, unhide FIN _ (unhide MV)⟩
  · have hE' : ¬ ((E : Int) = 0) := by omega
    have hz : mr = MsgV.zero := (unhide HFA).resolve_left hE
    subst hz
    clear hE
    go_wp2_with (first | (refine wpList_store_mid rfl 29 (.tmp 17) (.tmp 114) rfl v3.heap.size 0 (msgCells MsgV.zero x1 y1 x2 y2).toArray rfl rfl (unhide T3) (by kernel_rfl) (cells_one MsgV.zero x1 x2 y1 y2) ?_; change wpList _ _ _ _ _ (World.setCells _ v3.heap.size 0 (msgCells MsgV.zero x1 y1 x2 y2)); rw [unhide U3]; clear T3 U3) | (refine wpList_load_on rfl 29 (.tmp 17) rfl v3.heap.size 0 rfl (msgCells MsgV.zero x1 y1 x2 y2) _ (unhide K3).range Tryd.underlying29 rfl (by kernel_rfl) ?_))
    refine (same_any MsgV.zero MsgV.zero x1 x2 none none y1 y2 0 0 u3 (unhide I3).1 (unhide I3).2 (ints_nil _ _) (ints_nil _ _) (Nat.zero_le _) (Nat.zero_le _)).mono ?_
    rintro e w12 ⟨rfl, hm⟩
    rw [(sameMsg_iff MsgV.zero MsgV.zero).2 rfl]
    replace MV := hide ((unhide MV).trans hm fun _ f => f.elim)
    clear hm
    go_wp2_with fail
    go_ret
    exact ⟨rfl, unhide FIN _ (unhide MV)⟩
set_option maxHeartbeats 16000000 in
set_option maxRecDepth 100000 in
theorem back_nn (ma mb : MsgV) (a1 a2 b1 b2 : Option Addr) (c1 c2 d1 d2 : Nat) (s : ByteArray) (w : World) (fa : Fit ma) (fb : Fit mb) (ia1 : Ints w a1 ma.owner) (ia2 : Ints w a2 ma.set) (ib1 : Ints w b1 mb.owner) (ib2 : Ints w b2 mb.set) (hs : s.size ≤ maxLen) (hT : Fm.Tab w) (ra : ¬ Right ma) (rb : ¬ Right mb) :
    Calls Tryd.prog 5 #[.agg (msgCells ma a1 c1 a2 c2).toArray, .agg (msgCells mb b1 d1 b2 d2).toArray, .string s] w fun e w' => e = .returned (.bool true) ∧ Below w.heap.size w w' := by
  obtain ⟨A, hA⟩ : ∃ A, A = w.heap.size := ⟨_, rfl⟩
  obtain ⟨W, hW⟩ : ∃ W, W = (w.alloc (.cells (msgCells ma a1 c1 a2 c2).toArray 29)).alloc (.cells (msgCells mb b1 d1 b2 d2).toArray 29) := ⟨_, rfl⟩
  have mW : Moved (fun _ => False) w W := by rw [hW]; exact ((Moved.refl _ _).alloc _).alloc _
  have RA : Hid (RowAt W A (msgCells ma a1 c1 a2 c2)) := hide (by rw [hW, hA]; exact row_old (row_new _ _ _) _)
  have RB : Hid (RowAt W (A + 1) (msgCells mb b1 d1 b2 d2)) := hide (by rw [hW, hA]; exact row_new2 _ _ _ _ _)
  have JA := hide (And.intro (ia1.keep mW fun _ _ => id) (ia2.keep mW fun _ _ => id))
  have JB := hide (And.intro (ib1.keep mW fun _ _ => id) (ib2.keep mW fun _ _ => id))
  have HT := hide (tab_moved hT mW)
  have HMW := hide mW
  have HW := hide hW
  have HA := hide hA
  have HF := hide (And.intro fa fb)
  have HS := hide hs
  have fin : ∀ w', Moved (fun _ => False) W w' → Below w.heap.size w w' := fun w' h => (mW.trans h fun _ f => f.elim).below (fun _ f => f.elim) (Nat.le_refl _)
  have FIN := hide fin
  clear mW hW hA ia1 ia2 ib1 ib2 fa fb hT hs fin
  go_enter Tryd.func5, Tryd.ntmps5
  go_upto_region 1 with fail
  rw [← unhide HA, ← unhide HW]
  go_wp2_with fail
  refine (awake_any W).mono ?_
  rintro e w1 ⟨rfl, hm⟩
  have MV := hide hm
  clear hm
  go_wp2_with (first | (refine wpList_load_on rfl 29 (.tmp 3) rfl A 0 rfl (msgCells ma a1 c1 a2 c2) _ ((unhide RA).keep (unhide MV) id).range Tryd.underlying29 rfl (by kernel_rfl) ?_) | (refine wpList_load_on rfl 29 (.tmp 4) rfl (A + 1) 0 rfl (msgCells mb b1 d1 b2 d2) _ ((unhide RB).keep (unhide MV) id).range Tryd.underlying29 rfl (by kernel_rfl) ?_))
  refine (great_any ma a1 a2 c1 c2 w1).mono ?_
  rintro e w2 ⟨rfl, hm⟩
  replace MV := hide ((unhide MV).trans hm fun _ f => f.elim)
  clear hm
  cases hga : great ma
  rotate_left
  · go_wp2_with fail
    go_ret
    exact ⟨rfl, unhide FIN _ (unhide MV)⟩
  clear hga
  go_wp2_with (first | (refine wpList_load_on rfl 29 (.tmp 3) rfl A 0 rfl (msgCells ma a1 c1 a2 c2) _ ((unhide RA).keep (unhide MV) id).range Tryd.underlying29 rfl (by kernel_rfl) ?_) | (refine wpList_load_on rfl 29 (.tmp 4) rfl (A + 1) 0 rfl (msgCells mb b1 d1 b2 d2) _ ((unhide RB).keep (unhide MV) id).range Tryd.underlying29 rfl (by kernel_rfl) ?_))
  refine (great_any mb b1 b2 d1 d2 w2).mono ?_
  rintro e w3 ⟨rfl, hm⟩
  replace MV := hide ((unhide MV).trans hm fun _ f => f.elim)
  clear hm
  cases hgb : great mb
  rotate_left
  · go_wp2_with fail
    go_ret
    exact ⟨rfl, unhide FIN _ (unhide MV)⟩
  clear hgb
  by_cases hl : (20000 : Int) < (s.size : Int)
  · go_wp2_with fail
    go_ret
    exact ⟨rfl, unhide FIN _ (unhide MV)⟩
  have HR := hide (And.intro ra rb)
  clear ra rb
  obtain ⟨ea, hea⟩ : ∃ e, errOf ma = e := ⟨_, rfl⟩
  have hea0 : ¬ ea = 0 := by rw [← hea]; unfold errOf; split <;> decide
  have HEA := hide hea
  clear hea
  obtain ⟨eb, heb⟩ : ∃ e, errOf mb = e := ⟨_, rfl⟩
  have heb0 : ¬ eb = 0 := by rw [← heb]; unfold errOf; split <;> decide
  have HEB := hide heb
  clear heb
  go_wp2_with (first | (refine wpList_load_on rfl 29 (.tmp 3) rfl A 0 rfl (msgCells ma a1 c1 a2 c2) _ ((unhide RA).keep (unhide MV) id).range Tryd.underlying29 rfl (by kernel_rfl) ?_) | (refine wpList_load_on rfl 29 (.tmp 4) rfl (A + 1) 0 rfl (msgCells mb b1 d1 b2 d2) _ ((unhide RB).keep (unhide MV) id).range Tryd.underlying29 rfl (by kernel_rfl) ?_))
  refine (bytes_no ma a1 a2 c1 c2 w3 (unhide HF).1 ((unhide JA).1.keep (unhide MV) fun _ _ => id) ((unhide JA).2.keep (unhide MV) fun _ _ => id) (unhide HR).1).mono ?_
  rintro e w4 ⟨rfl, hm⟩
  replace MV := hide ((unhide MV).trans hm fun _ f => f.elim)
  clear hm
  rw [unhide HEA]
  go_wp2_with (first | (refine wpList_load_on rfl 29 (.tmp 3) rfl A 0 rfl (msgCells ma a1 c1 a2 c2) _ ((unhide RA).keep (unhide MV) id).range Tryd.underlying29 rfl (by kernel_rfl) ?_) | (refine wpList_load_on rfl 29 (.tmp 4) rfl (A + 1) 0 rfl (msgCells mb b1 d1 b2 d2) _ ((unhide RB).keep (unhide MV) id).range Tryd.underlying29 rfl (by kernel_rfl) ?_))
  refine (bytes_no mb b1 b2 d1 d2 w4 (unhide HF).2 ((unhide JB).1.keep (unhide MV) fun _ _ => id) ((unhide JB).2.keep (unhide MV) fun _ _ => id) (unhide HR).2).mono ?_
  rintro e w5 ⟨rfl, hm⟩
  replace MV := hide ((unhide MV).trans hm fun _ f => f.elim)
  clear hm
  rw [unhide HEB]
  go_wp2_with (first | (refine wpList_load_on rfl 29 (.tmp 3) rfl A 0 rfl (msgCells ma a1 c1 a2 c2) _ ((unhide RA).keep (unhide MV) id).range Tryd.underlying29 rfl (by kernel_rfl) ?_) | (refine wpList_load_on rfl 29 (.tmp 4) rfl (A + 1) 0 rfl (msgCells mb b1 d1 b2 d2) _ ((unhide RB).keep (unhide MV) id).range Tryd.underlying29 rfl (by kernel_rfl) ?_))
  refine (data_no ma a1 a2 c1 c2 w5 (unhide HF).1 ((unhide JA).1.keep (unhide MV) fun _ _ => id) ((unhide JA).2.keep (unhide MV) fun _ _ => id) (tab_moved (unhide HT) (unhide MV)) (unhide HR).1).mono ?_
  rintro e w6 ⟨rfl, hm⟩
  replace MV := hide ((unhide MV).trans hm fun _ f => f.elim)
  clear hm
  rw [unhide HEA]
  go_wp2_with (first | (refine wpList_load_on rfl 29 (.tmp 3) rfl A 0 rfl (msgCells ma a1 c1 a2 c2) _ ((unhide RA).keep (unhide MV) id).range Tryd.underlying29 rfl (by kernel_rfl) ?_) | (refine wpList_load_on rfl 29 (.tmp 4) rfl (A + 1) 0 rfl (msgCells mb b1 d1 b2 d2) _ ((unhide RB).keep (unhide MV) id).range Tryd.underlying29 rfl (by kernel_rfl) ?_))
  refine (right_no ma a1 a2 c1 c2 w6 (unhide HF).1 ((unhide JA).1.keep (unhide MV) fun _ _ => id) ((unhide JA).2.keep (unhide MV) fun _ _ => id) (unhide HR).1).mono ?_
  rintro e w7 ⟨rfl, hm⟩
  replace MV := hide ((unhide MV).trans hm fun _ f => f.elim)
  clear hm
  rw [unhide HEA]
  go_wp2_with (first | (refine wpList_load_on rfl 29 (.tmp 3) rfl A 0 rfl (msgCells ma a1 c1 a2 c2) _ ((unhide RA).keep (unhide MV) id).range Tryd.underlying29 rfl (by kernel_rfl) ?_) | (refine wpList_load_on rfl 29 (.tmp 4) rfl (A + 1) 0 rfl (msgCells mb b1 d1 b2 d2) _ ((unhide RB).keep (unhide MV) id).range Tryd.underlying29 rfl (by kernel_rfl) ?_))
  refine (right_no mb b1 b2 d1 d2 w7 (unhide HF).2 ((unhide JB).1.keep (unhide MV) fun _ _ => id) ((unhide JB).2.keep (unhide MV) fun _ _ => id) (unhide HR).2).mono ?_
  rintro e w8 ⟨rfl, hm⟩
  replace MV := hide ((unhide MV).trans hm fun _ f => f.elim)
  clear hm
  rw [unhide HEB]
  have hrd := read_any s (by have := hl; omega) w8
  obtain ⟨mr, er⟩ : ∃ m, (readMsg s.data.toList).1 = m := ⟨_, rfl⟩
  obtain ⟨E, eE⟩ : ∃ E, (readMsg s.data.toList).2 = E := ⟨_, rfl⟩
  have hfa := msg_fault s.data.toList
  rw [er, eE] at hrd hfa
  have HER := hide (And.intro er eE)
  have HRD := hide hrd
  have HFA := hide hfa
  clear hrd er eE hfa
  go_wp2_with fail
  refine (unhide HRD).mono ?_
  rintro e v3 ⟨hm, x1, y1, x2, y2, rfl, hi1, hi2, -⟩
  replace MV := hide ((unhide MV).trans hm fun _ f => f.elim)
  obtain ⟨u3, hu, hrow, hmf, hth⟩ := keep_at v3 mr x1 x2 y1 y2
  have U3 := hide hu
  have K3 := hide hrow
  have T3 := hide hth
  have I3 := hide (And.intro (hi1.keep hmf fun _ _ => id) (hi2.keep hmf fun _ _ => id))
  replace MV := hide ((unhide MV).trans hmf fun _ f => f.elim)
  clear hm hi1 hi2 hu hrow hmf hth HRD
  by_cases hE : E = 0
  · subst hE
    have hj := msg_just (show readMsg s.data.toList = (mr, 0) from Prod.ext (unhide HER).1 (unhide HER).2)
    have hbs := text_back hj.2
    have HB := hide hbs
    have HRM := hide hj.1
    clear hj hbs
    go_wp2_with (first | (refine wpList_store_mid rfl 29 (.tmp 17) (.tmp 114) rfl v3.heap.size 0 (msgCells mr x1 y1 x2 y2).toArray rfl rfl (unhide T3) (by kernel_rfl) (cells_one mr x1 x2 y1 y2) ?_; change wpList _ _ _ _ _ (World.setCells _ v3.heap.size 0 (msgCells mr x1 y1 x2 y2)); rw [unhide U3]; clear T3 U3) | (refine wpList_load_on rfl 29 (.tmp 17) rfl v3.heap.size 0 rfl (msgCells mr x1 y1 x2 y2) _ (unhide K3).range Tryd.underlying29 rfl (by kernel_rfl) ?_))
    refine (bytes_yes mr x1 x2 y1 y2 u3 (fit_of (unhide HRM)) (unhide I3).1 (unhide I3).2 (unhide HRM)).mono ?_
    rintro e w12 ⟨rfl, hm⟩
    rw [unhide HB]
    replace K3 := hide ((unhide K3).keep hm id)
    replace I3 := hide (And.intro ((unhide I3).1.keep hm fun _ _ => id) ((unhide I3).2.keep hm fun _ _ => id))
    replace MV := hide ((unhide MV).trans hm fun _ f => f.elim)
    clear hm
    go_wp2_with (refine wpList_load_on rfl 29 (.tmp 17) rfl v3.heap.size 0 rfl (msgCells mr x1 y1 x2 y2) _ (unhide K3).range Tryd.underlying29 rfl (by kernel_rfl) ?_)
    refine (right_yes mr x1 x2 y1 y2 w12 (fit_of (unhide HRM)) (unhide I3).1 (unhide I3).2 (unhide HRM)).mono ?_
    rintro e w13 ⟨rfl, hm⟩
    replace MV := hide ((unhide MV).trans hm fun _ f => f.elim)
    clear hm
    go_wp2_with fail
    go_ret
    exact ⟨rfl, unhide FIN _ (unhide MV)⟩
  · have hE' : ¬ ((E : Int) = 0) := by omega
    have hz : mr = MsgV.zero := (unhide HFA).resolve_left hE
    subst hz
    clear hE
    go_wp2_with (first | (refine wpList_store_mid rfl 29 (.tmp 17) (.tmp 114) rfl v3.heap.size 0 (msgCells MsgV.zero x1 y1 x2 y2).toArray rfl rfl (unhide T3) (by kernel_rfl) (cells_one MsgV.zero x1 x2 y1 y2) ?_; change wpList _ _ _ _ _ (World.setCells _ v3.heap.size 0 (msgCells MsgV.zero x1 y1 x2 y2)); rw [unhide U3]; clear T3 U3) | (refine wpList_load_on rfl 29 (.tmp 17) rfl v3.heap.size 0 rfl (msgCells MsgV.zero x1 y1 x2 y2) _ (unhide K3).range Tryd.underlying29 rfl (by kernel_rfl) ?_))
    refine (same_any MsgV.zero MsgV.zero x1 x2 none none y1 y2 0 0 u3 (unhide I3).1 (unhide I3).2 (ints_nil _ _) (ints_nil _ _) (Nat.zero_le _) (Nat.zero_le _)).mono ?_
    rintro e w12 ⟨rfl, hm⟩
    rw [(sameMsg_iff MsgV.zero MsgV.zero).2 rfl]
    replace MV := hide ((unhide MV).trans hm fun _ f => f.elim)
    clear hm
    go_wp2_with fail
    go_ret
    exact ⟨rfl, unhide FIN _ (unhide MV)⟩
theorem back_said (ma : MsgV) (a1 a2 : Option Addr) (c1 c2 : Nat) (mb : MsgV) (b1 b2 : Option Addr) (d1 d2 : Nat) (s : ByteArray) (w : World) (fa : Fit ma) (ia1 : Ints w a1 ma.owner) (ia2 : Ints w a2 ma.set) (fb : Fit mb) (ib1 : Ints w b1 mb.owner) (ib2 : Ints w b2 mb.set) (hs : s.size ≤ maxLen) (hT : Fm.Tab w) :
    Calls Tryd.prog 5 #[.agg (msgCells ma a1 c1 a2 c2).toArray, .agg (msgCells mb b1 d1 b2 d2).toArray, .string s] w fun e w' => e = .returned (.bool true) ∧ Below w.heap.size w w' := by
  by_cases ra : Right ma
  · by_cases rb : Right mb
    · by_cases hab : ma = mb
      · exact back_ye ma mb a1 a2 b1 b2 c1 c2 d1 d2 s w fa fb ia1 ia2 ib1 ib2 hs hT ra rb hab
      · exact back_yd ma mb a1 a2 b1 b2 c1 c2 d1 d2 s w fa fb ia1 ia2 ib1 ib2 hs hT ra rb hab
    · exact back_yn ma mb a1 a2 b1 b2 c1 c2 d1 d2 s w fa fb ia1 ia2 ib1 ib2 hs hT ra rb
  · by_cases rb : Right mb
    · exact back_ny ma mb a1 a2 b1 b2 c1 c2 d1 d2 s w fa fb ia1 ia2 ib1 ib2 hs hT ra rb
    · exact back_nn ma mb a1 a2 b1 b2 c1 c2 d1 d2 s w fa fb ia1 ia2 ib1 ib2 hs hT ra rb
end Go.Proofs.YtkbmbcmcnpeabaaDoor

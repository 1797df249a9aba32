/- The program's Data and Of: a message in a frame, and the message of a frame. Condition: the table's sixteen cells hold its numbers; no more than 2^40 bytes. -/
import Derived.Test.YtkbmbcmcnpeabaaDoorAwake
import Derived.Test.YtkbmbcmcnpeabaaDoorMsgLen
import Derived.Test.YtkbmbcmcnpeabaaDoorFCalls
namespace Go.Proofs.YtkbmbcmcnpeabaaDoor
open Pk Go.RowKit

theorem tab_moved {w w' : World} (h : Fm.Tab w) (m : Moved (fun _ => False) w w') : Fm.Tab w' := h.below (m.below (fun _ f => f.elim) (Nat.le_refl _))
/-- What a frame's bytes are read as. -/
def ofMsg (l : List UInt8) : MsgV × Nat := if (Fm.Crc.wholeOf l).2 ≠ 0 then (MsgV.zero, (Fm.Crc.wholeOf l).2) else readMsg (Fm.Crc.wholeOf l).1
set_option maxHeartbeats 4000000 in
set_option maxRecDepth 100000 in
theorem data_any (m : MsgV) (a1 a2 : Option Addr) (c1 c2 : Nat) (w : World) (hf : Fit m) (hI1 : Ints w a1 m.owner) (hI2 : Ints w a2 m.set) (hT : Fm.Tab w) :
    Calls Tryd.prog 10 #[.agg (msgCells m a1 c1 a2 c2).toArray] w fun e w' => Moved (fun _ => False) w w' ∧ ((Right m ∧ e = .returned (.tuple #[.string ⟨(Fm.Crc.frameOf (msgBytes m)).toArray⟩, .int .i64 0])) ∨ (¬ Right m ∧ e = .returned (.tuple #[.string ⟨#[]⟩, .int .i64 (errOf m)]))) := by
  obtain ⟨W, hW⟩ : ∃ W, W = w.alloc (.cells (msgCells m a1 c1 a2 c2).toArray 29) := ⟨_, rfl⟩
  have mW : Moved (fun _ => False) w W := by rw [hW]; exact (Moved.refl _ _).alloc _
  have hcon := bytes_any m a1 a2 c1 c2 W hf (hI1.keep mW fun _ _ => id) (hI2.keep mW fun _ _ => id)
  have hrg : W.rangeAt w.heap.size 0 (msgCells m a1 c1 a2 c2) := by rw [hW]; exact (row_new w (msgCells m a1 c1 a2 c2) 29).range
  have hne : errOf m ≠ 0 := by unfold errOf; split <;> decide
  have HC := hide hcon
  have HW := hide hW
  have HMW := hide mW
  have HG := hide hrg
  have HT := hide (tab_moved hT mW)
  have HN := hide hne
  clear hcon hW mW hI1 hI2 hf hrg hT hne
  go_enter Tryd.func10, Tryd.ntmps10
  go_upto_region 1 with fail
  rw [← unhide HW]
  go_step
  refine wpList_load_mid rfl 29 (.tmp 1) rfl w.heap.size 0 rfl (msgCells m a1 c1 a2 c2) _ (unhide HG) Tryd.underlying29 rfl (by kernel_rfl) ?_
  go_wp2_with fail
  refine (unhide HC).mono ?_
  rintro e w' ⟨hm, hh⟩
  have HM := hide hm
  have HT' := hide (tab_moved (unhide HT) hm)
  clear hm
  rcases hh with ⟨hr, rfl⟩ | ⟨hr, rfl⟩
  · have hl := msg_len hr
    have hp := Fm.put_any ⟨(msgBytes m).toArray⟩ w' (by show (msgBytes m).toArray.size ≤ maxLen; unfold maxLen; simp only [List.size_toArray]; omega) (unhide HT')
    have e1 : Fm.putOf (⟨(msgBytes m).toArray⟩ : ByteArray).data.toList = (Fm.Crc.frameOf (msgBytes m), 0) := if_neg (Nat.not_lt.2 hl)
    rw [e1] at hp
    have HP := hide hp
    have HR := hide hr
    clear hp hr hl e1
    go_wp2_with fail
    refine (unhide HP).mono ?_
    rintro e w2 ⟨rfl, hb⟩
    have HB := hide hb
    clear hb
    go_wp2_with fail
    go_ret2
    exact ⟨((unhide HMW).trans (unhide HM) fun _ f => f.elim).trans (Moved.of_below (F := fun _ => False) (unhide HB)) fun _ f => f.elim, .inl ⟨unhide HR, rfl⟩⟩
  · have HR := hide hr
    clear hr
    obtain ⟨E, hE⟩ : ∃ E, errOf m = E := ⟨_, rfl⟩
    have hE0 : E ≠ 0 := by rw [← hE]; exact unhide HN
    have HE := hide hE
    rw [hE]
    clear hE
    go_wp2_with fail
    go_ret2
    exact ⟨(unhide HMW).trans (unhide HM) fun _ f => f.elim, .inr ⟨unhide HR, by rw [unhide HE]; rfl⟩⟩
set_option maxHeartbeats 4000000 in
set_option maxRecDepth 100000 in
theorem ofMsg_any (s : ByteArray) (hs : s.size ≤ 1099511627776) (w : World) (hT : Fm.Tab w) :
    Calls Tryd.prog 16 #[.string s] w fun e w' => Moved (fun _ => False) w w' ∧ ∃ a c a2 c2, e = .returned (.tuple #[.agg (msgCells (ofMsg s.data.toList).1 a c a2 c2).toArray, .int .i64 (((ofMsg s.data.toList).2 : Nat) : Int)]) ∧ Ints w' a (ofMsg s.data.toList).1.owner ∧ Ints w' a2 (ofMsg s.data.toList).1.set := by
  obtain ⟨A, hA⟩ : ∃ A, A = w.heap.size := ⟨_, rfl⟩
  obtain ⟨U, hU⟩ : ∃ U, U = w.alloc (.cells (msgCells MsgV.zero none 0 none 0).toArray 29) := ⟨_, rfl⟩
  have mU : Moved (fun _ => False) w U := by rw [hU]; exact (Moved.refl _ _).alloc _
  have rA : RowAt U A (msgCells MsgV.zero none 0 none 0) := by rw [hU, hA]; exact row_new _ _ _
  have hwh := Fm.whole_any s U (by unfold maxLen; omega) (tab_moved hT mU)
  have hle : (Fm.Crc.wholeOf s.data.toList).1.length ≤ s.size := by
    unfold Fm.Crc.wholeOf
    split
    · exact Nat.zero_le _
    · split
      · exact Nat.zero_le _
      · unfold Fm.Crc.nextOf
        repeat' split
        all_goals first | exact Nat.zero_le _ | (simp only [List.length_take, List.length_drop]; have : s.data.toList.length = s.size := rfl; omega)
  have HU := hide hU
  have HMU := hide mU
  have HRA := hide rA
  have HWH := hide hwh
  have HA := hide hA
  have HL := hide hle
  clear hU mU rA hwh hA hT hle
  go_enter Tryd.func16, Tryd.ntmps16
  go_upto_region 1 with fail
  rw [← unhide HA]
  change Code.wp _ _ _ _ (w.alloc (.cells (msgCells MsgV.zero none 0 none 0).toArray 29))
  rw [← unhide HU]
  go_wp2_with fail
  refine (unhide HWH).mono ?_
  rintro e w1 ⟨rfl, hb⟩
  have hm := Moved.of_below (F := fun _ => False) hb
  have rA1 := (unhide HRA).keep hm id
  have HM := hide ((unhide HMU).trans hm fun _ f => f.elim)
  have HR1 := hide rA1
  clear hb hm rA1
  by_cases h0 : (Fm.Crc.wholeOf s.data.toList).2 = 0
  · have e1 : ofMsg s.data.toList = readMsg (Fm.Crc.wholeOf s.data.toList).1 := if_neg (fun h => h h0)
    have HE := hide e1
    rw [h0]
    clear e1
    generalize (Fm.Crc.wholeOf s.data.toList).1 = bd at *
    have hrd := read_any ⟨bd.toArray⟩ (by show bd.toArray.size ≤ _; simp only [List.size_toArray]; have := unhide HL; omega) w1
    have e2 : (⟨bd.toArray⟩ : ByteArray).data.toList = bd := rfl
    rw [e2] at hrd
    have HRD := hide hrd
    clear hrd e2 h0
    go_wp2_with fail
    refine (unhide HRD).mono ?_
    rintro e w2 ⟨hm2, a, c, a2, c2, rfl, hi1, hi2, hfr⟩
    obtain ⟨m, em⟩ : ∃ m, (readMsg bd).1 = m := ⟨_, rfl⟩
    obtain ⟨E, eE⟩ : ∃ E, (readMsg bd).2 = E := ⟨_, rfl⟩
    have HEM := hide (And.intro em eE)
    rw [em] at hi1 hi2 ⊢
    rw [eE]
    have rA2 := (unhide HR1).keep hm2 id
    have hAlt := (unhide HR1).lt
    have hA' := unhide HA
    have mset := setCells_moved w2 A 0 (msgCells m a c a2 c2)
    have hj1 := ints_beside hi1 mset fun y hy f => by have := hfr y (.inl hy); omega
    have hj2 := ints_beside hi2 mset fun y hy f => by have := hfr y (.inr hy); omega
    have mall : Moved (fun _ => False) w (w2.setCells A 0 (msgCells m a c a2 c2)) := ((unhide HM).trans hm2 fun _ f => f.elim).trans mset fun i hi => .inr (by omega)
    have RF := (rA2.put (msgCells m a c a2 c2) rfl).range
    have HJ := hide (And.intro hj1 hj2)
    have HMA := hide mall
    have HRF := hide RF
    have HTH := hide rA2.there
    have HO := hide (cells_one m a a2 c c2)
    clear em eE rA2 hAlt hA' mset hj1 hj2 mall RF hi1 hi2 hfr hm2
    go_wp2_with (refine wpList_store_mid rfl 29 (.tmp 2) (.tmp 17) rfl A 0 (msgCells m a c a2 c2).toArray rfl rfl (unhide HTH) (by kernel_rfl) (unhide HO) ?_; change wpList _ _ _ _ _ (w2.setCells A 0 (msgCells m a c a2 c2)); generalize w2.setCells A 0 (msgCells m a c a2 c2) = wf at *; clear HTH HO)
    refine bodyPost_ret (v := .tuple #[.agg (msgCells m a c a2 c2).toArray, .int .i64 (E : Int)]) ?_ rfl ?_
    · exact results_cell_tmp Tryd.results16 _ wf A _ _ rfl (unhide HRF) Tryd.underlying29 rfl (by kernel_rfl)
    · rw [unhide HE, (unhide HEM).1, (unhide HEM).2]
      exact ⟨unhide HMA, a, c, a2, c2, rfl, (unhide HJ).1, (unhide HJ).2⟩
  · have e1 : ofMsg s.data.toList = (MsgV.zero, (Fm.Crc.wholeOf s.data.toList).2) := if_pos h0
    have HE := hide e1
    obtain ⟨E, eE⟩ : ∃ E, (Fm.Crc.wholeOf s.data.toList).2 = E := ⟨_, rfl⟩
    have HEE := hide eE
    rw [eE] at h0 ⊢
    have h0' : ¬ ((E : Int) = 0) := by omega
    have hA' := unhide HA
    have mset := setCells_moved w1 A 0 (msgCells MsgV.zero none 0 none 0)
    have mall : Moved (fun _ => False) w (w1.setCells A 0 (msgCells MsgV.zero none 0 none 0)) := (unhide HM).trans mset fun i hi => .inr (by omega)
    have RF := ((unhide HR1).put (msgCells MsgV.zero none 0 none 0) rfl).range
    have HMA := hide mall
    have HRF := hide RF
    have HTH := hide (unhide HR1).there
    clear e1 eE hA' mset mall RF h0
    go_wp2_with (refine wpList_store_mid rfl 29 (.tmp 2) (.tmp 13) rfl A 0 #[.int .u8 0, .int .i64 0, .int .i64 0, .int .i64 0, .int .i64 0, .int .i64 0, .int .i64 0, .int .u64 0, .int .i64 0, .int .i64 0, .int .i64 0, .int .i64 0, .int .u8 0, .string ⟨#[]⟩, .int .i64 0, .int .i64 0, .int .i64 0, .int .i64 0, .int .i64 0, .slice none 0 0, .slice none 0 0, .string ⟨#[]⟩] rfl rfl (unhide HTH) (by kernel_rfl) (by simp [Value.oneCell']) ?_; change wpList _ _ _ _ _ (w1.setCells A 0 (msgCells MsgV.zero none 0 none 0)); generalize w1.setCells A 0 (msgCells MsgV.zero none 0 none 0) = wf at *; clear HTH)
    refine bodyPost_ret (v := .tuple #[.agg (msgCells MsgV.zero none 0 none 0).toArray, .int .i64 (E : Int)]) ?_ rfl ?_
    · exact results_cell_tmp Tryd.results16 _ wf A _ _ rfl (unhide HRF) Tryd.underlying29 rfl (by kernel_rfl)
    · rw [unhide HE]
      simp only [unhide HEE]
      exact ⟨unhide HMA, none, 0, none, 0, rfl, ints_nil _ _, ints_nil _ _⟩
end Go.Proofs.YtkbmbcmcnpeabaaDoor

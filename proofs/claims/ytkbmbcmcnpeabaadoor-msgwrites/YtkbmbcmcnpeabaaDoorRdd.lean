/- The program's Read: its closure, entered with a reader and an empty message in memory. No conditions. -/
import Derived.Test.YtkbmbcmcnpeabaaDoorFieldsR
import Derived.Test.YtkbmbcmcnpeabaaDoorAttB
namespace Go.Proofs.YtkbmbcmcnpeabaaDoor
open Pk Go.RowKit

theorem kind_cases {n : Nat} (h : 1 ≤ n ∧ n ≤ 14) : n = 1 ∨ n = 2 ∨ n = 3 ∨ n = 4 ∨ n = 5 ∨ n = 6 ∨ n = 7 ∨ n = 8 ∨ n = 9 ∨ n = 10 ∨ n = 11 ∨ n = 12 ∨ n = 13 ∨ n = 14 := by omega
/-- fields, for a message of whatever kind. -/
theorem fields_r {w0 w : World} {r x B : Nat} {s : ByteArray} {k : Nat} (a : UInt8) (hk : 1 ≤ a.toNat ∧ a.toNat ≤ 14) (h : RSt w0 w r x B (msgCells { MsgV.zero with kind := a } none 0 none 0) s k) :
    Calls Tryd.prog 22 #[sr r, .int .u8 (a.toNat : Int), .pointer (some ⟨B, 0, none⟩)] w (RdR (bodyC a.toNat) s k (fun i => i = x ∨ i = B) w0 fun m k' w' => RMsg w0 w' r x B s m k') := by
  rcases kind_cases hk with h1 | h1 | h1 | h1 | h1 | h1 | h1 | h1 | h1 | h1 | h1 | h1 | h1 | h1
  · obtain rfl : a = 1 := UInt8.toNat_inj.1 h1
    exact fields_r1 h
  · obtain rfl : a = 2 := UInt8.toNat_inj.1 h1
    exact fields_r2 h
  · obtain rfl : a = 3 := UInt8.toNat_inj.1 h1
    exact fields_r3 h
  · obtain rfl : a = 4 := UInt8.toNat_inj.1 h1
    exact fields_r4 h
  · obtain rfl : a = 5 := UInt8.toNat_inj.1 h1
    exact fields_r5 h
  · obtain rfl : a = 6 := UInt8.toNat_inj.1 h1
    exact fields_r6 h
  · obtain rfl : a = 7 := UInt8.toNat_inj.1 h1
    exact fields_r7 h
  · obtain rfl : a = 8 := UInt8.toNat_inj.1 h1
    exact fields_r8 h
  · obtain rfl : a = 9 := UInt8.toNat_inj.1 h1
    exact fields_r9 h
  · obtain rfl : a = 10 := UInt8.toNat_inj.1 h1
    exact fields_r10 h
  · obtain rfl : a = 11 := UInt8.toNat_inj.1 h1
    exact fields_r11 h
  · obtain rfl : a = 12 := UInt8.toNat_inj.1 h1
    exact fields_r12 h
  · obtain rfl : a = 13 := UInt8.toNat_inj.1 h1
    exact fields_r13 h
  · obtain rfl : a = 14 := UInt8.toNat_inj.1 h1
    exact fields_r14 h
set_option maxHeartbeats 4000000 in
set_option maxRecDepth 100000 in
theorem fields_none_r {w : World} {r B : Nat} (kd : UInt8) (hk : kd.toNat = 0 ∨ 14 < kd.toNat) :
    Calls Tryd.prog 22 #[sr r, .int .u8 (kd.toNat : Int), .pointer (some ⟨B, 0, none⟩)] w fun e w' => e = .panicked (refused 10) ∧ Moved (fun _ => False) w w' := by
  have n0 : ¬ ((kd.toNat : Int) = 1) := by omega
  have n1 : ¬ (4 ≤ (kd.toNat : Int) ∧ (kd.toNat : Int) ≤ 13) := by omega
  unfold sr
  go_enter Tryd.func22, Tryd.ntmps22
  go_wp2_with fail
  all_goals first
    | (refine (giveUp_any 10 _).mono ?_
       rintro e w' ⟨rfl, rfl⟩
       go_wp2_with fail
       exact ⟨rfl, rfl, Moved.refl _ _⟩)
    | (exfalso; simp only [beq_eq_false_iff_ne, beq_iff_eq] at *; omega)
/-- What any bytes are read as, said step by step. -/
theorem readMsg_byte {l : List UInt8} {a : UInt8} {t : Nat} (h : byteC.dec l = (a, t, 0)) : t = 1 ∧ l = a :: l.drop 1 := by
  match l, h with
  | [], h => simp [byteC, byteOf?] at h
  | c :: r, h =>
    simp only [byteC, byteOf?, Prod.mk.injEq, and_true] at h
    obtain ⟨rfl, rfl⟩ := h
    exact ⟨rfl, rfl⟩
theorem readMsg_none {l : List UInt8} {c : Nat} (h : (byteC.dec l).2.2 = c) (hc : c ≠ 0) : readMsg l = (MsgV.zero, c) := by
  match l, h with
  | [], h => simp only [byteC, byteOf?] at h; subst h; rfl
  | c :: r, h => simp only [byteC, byteOf?] at h; omega
set_option maxHeartbeats 4000000 in
set_option maxRecDepth 100000 in
theorem read1_any {w : World} {rc r x B : Nat} {s : ByteArray} (h : RSt w w r x B (msgCells MsgV.zero none 0 none 0) s 0) (hrc : w.cell? ⟨rc, 0, none⟩ = some (.pointer (some ⟨r, 0, none⟩))) (hx : rc ≠ x) (hB : rc ≠ B) :
    Calls Tryd.prog 36 #[.pointer (some ⟨rc, 0, none⟩), .pointer (some ⟨B, 0, none⟩)] w fun e w' => Moved (fun i => i = x ∨ i = B) w w' ∧ ((e = .returned (.tuple #[]) ∧ ∃ m k, readMsg s.data.toList = (m, 0) ∧ RMsg w w' r x B s m k) ∨ (e = .panicked (refused (((readMsg s.data.toList).2 : Nat) : Int)) ∧ (readMsg s.data.toList).2 ≠ 0)) := by
  have hrcm : ∀ w', Moved (fun i => i = x ∨ i = B) w w' → w'.cell? ⟨rc, 0, none⟩ = some (.pointer (some ⟨r, 0, none⟩)) := fun w' m => (m.cell (p := ⟨rc, 0, none⟩) (World.block_lt_of_cell? _ _ hrc) (fun f => f.elim hx hB)).trans hrc
  have HR := hide hrcm
  have H := hide h
  clear h hrcm
  go_enter Tryd.func36, Tryd.ntmps36
  go_wp2_with fail
  refine (roctet_any (unhide H) 0 (by decide)).mono ?_
  rintro e w1 (⟨a, t, hd, rfl, hs⟩ | ⟨c, hd, hc, rfl, hm⟩)
  rotate_left
  · rw [List.drop_zero] at hd
    have HD := hide (readMsg_none hd hc)
    have HC := hide hc
    have HM := hide hm
    clear hd hc hm
    go_wp2_with fail
    exact ⟨rfl, unhide HM, .inr ⟨by rw [unhide HD], by rw [unhide HD]; exact unhide HC⟩⟩
  rw [List.drop_zero] at hd
  obtain ⟨rfl, hl⟩ := readMsg_byte hd
  have hs' : RSt w w1 r x B (msgCells { MsgV.zero with kind := a } none 0 none 0) s 1 := hs
  have hc1 := unhide HR w1 hs.moved
  have hc0 := hs'.row.cell 0 (show 0 < 22 by decide)
  have HS1 := hide hs'
  have HL := hide hl
  clear hs hs' hd hrc hl
  go_wp2_with fail
  by_cases hk : 1 ≤ a.toNat ∧ a.toNat ≤ 14
  rotate_left
  · have hk' : a.toNat < 1 ∨ 14 < a.toNat := by omega
    refine (fields_none_r a (by omega)).mono ?_
    rintro e w2 ⟨rfl, hm⟩
    have HD : Hid (readMsg s.data.toList = (MsgV.zero, 10)) := hide (by rw [unhide HL]; simp only [readMsg]; rw [if_pos hk'])
    have HM := hide hm
    clear hm hk hk' hc0 hc1
    go_wp2_with fail
    exact ⟨rfl, (unhide HS1).moved.trans (unhide HM) fun _ f => f.elim, .inr ⟨by rw [unhide HD]; rfl, by rw [unhide HD]; decide⟩⟩
  have hk' : ¬ (a.toNat < 1 ∨ 14 < a.toNat) := by omega
  have HK := hide hk
  have HK' := hide hk'
  clear hk hk'
  refine (fields_r a (unhide HK) (unhide HS1)).mono ?_
  rintro e w2 (⟨m, u, hd, rfl, hs⟩ | ⟨c, hd, hc, rfl, hm⟩)
  rotate_left
  · have HD : Hid (readMsg s.data.toList = (MsgV.zero, c)) := hide (by rw [unhide HL]; simp only [readMsg]; rw [if_neg (unhide HK'), hd, if_pos hc])
    have HC := hide hc
    have HM := hide hm
    clear hd hc hm hc0 hc1
    go_wp2_with fail
    exact ⟨rfl, unhide HM, .inr ⟨by rw [unhide HD], by rw [unhide HD]; exact unhide HC⟩⟩
  obtain ⟨b1, d1, b2, d2, hst, hi1, hi2, hn1, hn2⟩ := hs
  have hc2 := unhide HR w2 hst.moved
  have HS2 := hide hst
  have HI := hide (And.intro hi1 hi2)
  have HN := hide (And.intro hn1 hn2)
  have HD := hide hd
  clear hst hi1 hi2 hn1 hn2 hd hc0 hc1
  go_wp2_with fail
  refine (rend_any (unhide HS2).inn (unhide HS2).rd).mono ?_
  rintro e w3 ⟨hm, hh⟩
  have HM := hide hm
  have hlen : (s.data.toList.drop 1).length = s.size - 1 := by rw [List.length_drop]; rfl
  clear hm hc2
  rcases hh with ⟨rfl, h0⟩ | ⟨rfl, h0⟩
  · have h1 : ¬ u < (s.data.toList.drop 1).length := by
      rw [hlen]; intro hlt
      unfold endOf at h0
      rw [if_neg (by simp), if_pos (by omega)] at h0
      omega
    have HE : Hid (readMsg s.data.toList = (m, 0)) := hide (by rw [unhide HL]; simp only [readMsg]; rw [if_neg (unhide HK'), unhide HD]; simp only []; rw [if_neg (by simp), if_neg h1])
    clear h0 h1 hlen
    go_wp2_with fail
    go_end0
    have hs3 := (unhide HS2).still (unhide HM)
    exact ⟨hs3.moved, .inl ⟨rfl, m, _, unhide HE, b1, d1, b2, d2, hs3, (unhide HI).1.keep (unhide HM) fun _ _ => id, (unhide HI).2.keep (unhide HM) fun _ _ => id, (unhide HN).1, (unhide HN).2⟩⟩
  · have h2 : 1 + u < s.size := by
      unfold endOf at h0
      rw [if_neg (by simp)] at h0
      by_cases hlt : 1 + u < s.size
      · exact hlt
      · rw [if_neg hlt] at h0; omega
    have h1 : u < (s.data.toList.drop 1).length := by rw [hlen]; omega
    have h8 : endOf s (1 + u) 0 = 8 := by unfold endOf; rw [if_neg (by simp), if_pos h2]
    have HE : Hid (readMsg s.data.toList = (MsgV.zero, 8)) := hide (by rw [unhide HL]; simp only [readMsg]; rw [if_neg (unhide HK'), unhide HD]; simp only []; rw [if_neg (by simp), if_pos h1])
    have H8 := hide h8
    clear h0 h1 h2 hlen h8
    go_wp2_with fail
    exact ⟨rfl, ((unhide HS2).still (unhide HM)).moved, .inr ⟨by rw [unhide HE, unhide H8], by rw [unhide HE]; decide⟩⟩
end Go.Proofs.YtkbmbcmcnpeabaaDoor

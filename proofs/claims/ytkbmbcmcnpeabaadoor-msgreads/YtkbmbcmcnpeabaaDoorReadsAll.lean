/- The document's own Read: what any bytes are read as. Condition: no more than 2^40 bytes. -/
import Derived.Test.YtkbmbcmcnpeabaaDoorRefRdA
import Derived.Test.YtkbmbcmcnpeabaaDoorRefRdC
import Derived.Test.YtkbmbcmcnpeabaaDoorRefRdG
import Derived.Test.YtkbmbcmcnpeabaaDoorFCalls
import Derived.Test.YtkbmbcmcnpeabaaDoorRefSameC
import Derived.Test.YtkbmbcmcnpeabaaDoorDataOf
import Derived.Test.YtkbmbcmcnpeabaaDoorAwake
import Derived.Test.YtkbmbcmcnpeabaaDoorFFrame
import Derived.ChangeOld
import Derived.Below
namespace Go.Proofs.YtkbmbcmcnpeabaaDoor
open Pk Go.RowKit

theorem refread_any (s : ByteArray) (hs : s.size ≤ 1099511627776) (w : World) : Calls Tryd.prog 14 #[.string s] w (RPost s w) := by
  cases hl : s.data.toList with
  | nil => exact refread_empty s hs w hl
  | cons c t =>
    by_cases hk : 1 ≤ c.toNat ∧ c.toNat ≤ 14
    · have : c.toNat = 1 ∨ c.toNat = 2 ∨ c.toNat = 3 ∨ c.toNat = 4 ∨ c.toNat = 5 ∨ c.toNat = 6 ∨ c.toNat = 7 ∨ c.toNat = 8 ∨ c.toNat = 9 ∨ c.toNat = 10 ∨ c.toNat = 11 ∨ c.toNat = 12 ∨ c.toNat = 13 ∨ c.toNat = 14 := by omega
      rcases this with h | h | h | h | h | h | h | h | h | h | h | h | h | h
      · exact refread_1 s t hs w (by rw [hl, show c = 1 from UInt8.toNat_inj.1 h])
      · exact refread_2 s t hs w (by rw [hl, show c = 2 from UInt8.toNat_inj.1 h])
      · exact refread_3 s t hs w (by rw [hl, show c = 3 from UInt8.toNat_inj.1 h])
      · exact refread_4 s t hs w (by rw [hl, show c = 4 from UInt8.toNat_inj.1 h])
      · exact refread_5 s t hs w (by rw [hl, show c = 5 from UInt8.toNat_inj.1 h])
      · exact refread_6 s t hs w (by rw [hl, show c = 6 from UInt8.toNat_inj.1 h])
      · exact refread_7 s t hs w (by rw [hl, show c = 7 from UInt8.toNat_inj.1 h])
      · exact refread_8 s t hs w (by rw [hl, show c = 8 from UInt8.toNat_inj.1 h])
      · exact refread_9 s t hs w (by rw [hl, show c = 9 from UInt8.toNat_inj.1 h])
      · exact refread_10 s t hs w (by rw [hl, show c = 10 from UInt8.toNat_inj.1 h])
      · exact refread_11 s t hs w (by rw [hl, show c = 11 from UInt8.toNat_inj.1 h])
      · exact refread_12 s t hs w (by rw [hl, show c = 12 from UInt8.toNat_inj.1 h])
      · exact refread_13 s t hs w (by rw [hl, show c = 13 from UInt8.toNat_inj.1 h])
      · exact refread_14 s t hs w (by rw [hl, show c = 14 from UInt8.toNat_inj.1 h])
    · exact refread_none s c t hs w hl hk
end Go.Proofs.YtkbmbcmcnpeabaaDoor

namespace Go.Proofs.YtkbmbcmcnpeabaaDoor.Fm
open Crc Go.RowKit

theorem ref_put_any (s : ByteArray) (w : World) (hs : s.size ≤ maxLen) :
    Calls Tryd.prog 11 #[.string s] w fun e w' => e = .returned (.tuple #[.string ⟨(putOf s.data.toList).1.toArray⟩, .int .i64 (((putOf s.data.toList).2 : Nat) : Int)]) ∧ Below w.heap.size w w' := by
  by_cases hl : (16384 : Int) < (s.size : Int)
  · have e1 : putOf s.data.toList = ([], 3) := if_pos (by rw [text_len]; omega)
    rw [e1]
    go_enter Tryd.func11, Tryd.ntmps11
    go_wp2_with fail
    go_ret2
    exact ⟨rfl, Below.refl _ _⟩
  · have e1 : putOf s.data.toList = (frameOf s.data.toList, 0) := if_neg (by rw [text_len]; omega)
    have E1 := hide e1
    clear e1
    have hm : (s.size : Int) % 4294967296 = (s.size : Int) := by omega
    go_enter Tryd.func11, Tryd.ntmps11
    go_wp2_with fail
    refine (ref_four_nat s.size (by omega) _).mono ?_
    rintro e w1 ⟨rfl, m⟩
    have B := hide m
    clear m
    obtain ⟨h, hh⟩ : ∃ h : ByteArray, h = ⟨(headOf s.size).toArray⟩ := ⟨_, rfl⟩
    have hs4 : h.size = 4 := by rw [hh]; rfl
    rw [← hh]
    have H := hide hh
    clear hh
    go_wp2_with fail
    refine (ref_crc_any _ _ (by unfold maxLen; omega)).mono ?_
    rintro e w2 ⟨rfl, rfl⟩
    go_wp2_with fail
    refine (ref_four_any _ _).mono ?_
    rintro e w2 ⟨rfl, m⟩
    replace B := hide ((unhide B).trans (m.mono (unhide B).size))
    clear m
    obtain ⟨h2, hh⟩ : ∃ h2 : ByteArray, h2 = ⟨(four (crc h.data.toList)).toArray⟩ := ⟨_, rfl⟩
    have hs5 : h2.size = 4 := by rw [hh]; rfl
    rw [← hh]
    have H2 := hide hh
    clear hh
    go_wp2_with fail
    refine (ref_crc_any _ _ hs).mono ?_
    rintro e w3 ⟨rfl, rfl⟩
    go_wp2_with fail
    refine (ref_four_any _ _).mono ?_
    rintro e w3 ⟨rfl, m⟩
    replace B := hide ((unhide B).trans (m.mono (unhide B).size))
    clear m
    obtain ⟨h3, hh⟩ : ∃ h3 : ByteArray, h3 = ⟨(four (crc s.data.toList)).toArray⟩ := ⟨_, rfl⟩
    have hs6 : h3.size = 4 := by rw [hh]; rfl
    rw [← hh]
    have H3 := hide hh
    clear hh
    go_wp2_with fail
    go_ret2
    rw [unhide E1, frame_text (unhide H) (unhide H2) (unhide H3)]
    exact ⟨rfl, unhide B⟩

theorem ref_next_out (s : ByteArray) (at_ : Int) (w : World) (ho : at_ < 0 ∨ (s.size : Int) < at_) :
    Calls Tryd.prog 17 #[.string s, .int .i64 at_] w fun e w' => e = .returned (.tuple #[.string ⟨#[]⟩, .int .i64 0, .int .i64 1]) ∧ Below w.heap.size w w' := by
  by_cases h0 : at_ < 0
  · have d0 : decide (at_ < 0) = true := decide_eq_true h0
    go_enter Tryd.func17, Tryd.ntmps17
    go_wp2_with fail
    go_ret3
    exact ⟨rfl, Below.refl _ _⟩
  · have h1 : (s.size : Int) < at_ := by omega
    have d0 : decide (at_ < 0) = false := decide_eq_false h0
    have d1 : decide ((s.size : Int) < at_) = true := decide_eq_true h1
    go_enter Tryd.func17, Tryd.ntmps17
    go_wp2_with fail
    go_ret3
    exact ⟨rfl, Below.refl _ _⟩

theorem same_ne {a : List UInt8} {b : ByteArray} (h : (!a == b.toList) = true) : a ≠ b.data.toList := by
  rw [ByteArray.toList_eq] at h
  simpa using h
theorem same_eq {a : List UInt8} {b : ByteArray} (h : (!a == b.toList) = false) : a = b.data.toList := by
  rw [ByteArray.toList_eq] at h
  simpa using h

theorem wraps4 (a b c d : UInt8) : wrap64 (wrap64 (wrap64 (wrap64 (a.toNat : Int) + wrap64 (256 * wrap64 (b.toNat : Int))) + wrap64 (65536 * wrap64 (c.toNat : Int))) + wrap64 (16777216 * wrap64 (d.toNat : Int)))
    = ((a.toNat + 256 * b.toNat + 65536 * c.toNat + 16777216 * d.toNat : Nat) : Int) := by
  have ha := a.toNat_lt
  have hb := b.toNat_lt
  have hc := c.toNat_lt
  have hd := d.toNat_lt
  have key : ∀ x : Int, 0 ≤ x → x < 9223372036854775808 → wrap64 x = x := fun x h0 h1 => by unfold wrap64; omega
  rw [key (a.toNat : Int) (by omega) (by omega), key (b.toNat : Int) (by omega) (by omega), key (c.toNat : Int) (by omega) (by omega), key (d.toNat : Int) (by omega) (by omega),
    key (256 * (b.toNat : Int)) (by omega) (by omega), key (65536 * (c.toNat : Int)) (by omega) (by omega), key (16777216 * (d.toNat : Int)) (by omega) (by omega),
    key ((a.toNat : Int) + 256 * (b.toNat : Int)) (by omega) (by omega), key ((a.toNat : Int) + 256 * (b.toNat : Int) + 65536 * (c.toNat : Int)) (by omega) (by omega), key _ (by omega) (by omega)]
  omega

set_option maxHeartbeats 1000000 in
theorem ref_next_any (s : ByteArray) (k : Nat) (w : World) (hs : s.size ≤ maxLen) (hk : k ≤ s.size) :
    Calls Tryd.prog 17 #[.string s, .int .i64 (k : Int)] w fun e w' => e = .returned (.tuple #[.string ⟨(nextAt s.data.toList k).1.toArray⟩, .int .i64 (((nextAt s.data.toList k).2.1 : Nat) : Int), .int .i64 (((nextAt s.data.toList k).2.2 : Nat) : Int)]) ∧ Below w.heap.size w w' := by
  have HS := hide hs
  unfold maxLen at hs
  have h0 : ¬ (k : Int) < 0 := by omega
  have h1 : ¬ (s.size : Int) < (k : Int) := by omega
  have h1' : (k : Int) ≤ (s.size : Int) := by omega
  have d0 : decide ((k : Int) < 0) = false := decide_eq_false h0
  have d1 : decide ((s.size : Int) < (k : Int)) = false := decide_eq_false h1
  obtain ⟨t, ht⟩ : ∃ t : ByteArray, s.extract k s.size = t := ⟨_, rfl⟩
  have hrest : t.data.toList = s.data.toList.drop k := by rw [← ht]; exact rest_list s k
  have htl : t.size = s.size - k := by rw [← text_len, hrest, List.length_drop, text_len]
  have e1 : nextAt s.data.toList k = ((nextOf t.data.toList).1, if (nextOf t.data.toList).2.2 = 0 then k + (nextOf t.data.toList).2.1 else 0, (nextOf t.data.toList).2.2) := by rw [hrest]; rfl
  have E1 := hide e1
  have Htl := hide htl
  clear e1 hrest htl
  by_cases h8 : (t.size : Int) < 8
  · go_enter Tryd.func17, Tryd.ntmps17
    go_wp2_with fail
    go_ret3
    have e : nextOf t.data.toList = ([], 0, 7) := if_pos (by rw [text_len]; omega)
    rw [unhide E1, e]
    exact ⟨rfl, Below.refl _ _⟩
  · have l4' : (4 : Int) ≤ (t.size : Int) := by omega
    have l8' : (8 : Int) ≤ (t.size : Int) := by omega
    have hts : t.size ≤ maxLen := by have := unhide Htl; unfold maxLen; omega
    obtain ⟨St, hst⟩ : ∃ St : World → Prop, St = fun w' => Below w.heap.size w w' := ⟨_, rfl⟩
    have st : St w.drew := by rw [hst]; exact (Below.refl _ _).drew
    have sC := hide (show ∀ (u : ByteArray), u.size ≤ maxLen → ∀ p : SW St, Calls Tryd.prog 34 #[.string u] p.w fun e w'' => e = .returned (.int .u32 (((crc u.data.toList).toNat : Nat) : Int)) ∧ ∃ q : SW St, w'' = q.w from fun u hu ⟨w', h⟩ =>
      (ref_crc_any u w' hu).mono fun e w'' ⟨he, hw⟩ => ⟨he, ⟨w', h⟩, hw⟩)
    have sF := hide (show ∀ (c : BitVec 32) (p : SW St), Calls Tryd.prog 33 #[.int .u32 (c.toNat : Int)] p.w fun e w'' => e = .returned (.string ⟨(four c).toArray⟩) ∧ ∃ q : SW St, w'' = q.w from fun c ⟨w', h⟩ => by
      have h' : Below w.heap.size w w' := by rw [hst] at h; exact h
      exact (ref_four_any c w').mono fun e w'' ⟨he, m⟩ => ⟨he, ⟨w'', by rw [hst]; exact h'.trans (m.mono h'.size)⟩, rfl⟩)
    have Hst := hide hst
    clear hst
    have HT := hide hts
    clear hts
    go_enter Tryd.func17, Tryd.ntmps17
    go_wp2_with fail
    have ne : Nonempty (SW St) := ⟨⟨_, st⟩⟩
    refine wp_region_sw (St := St) (by kernel_rfl) (by kernel_rfl) st ?_
    repeat (go_big_quiet_step (first | (go_at_call 34; exact unhide sC _ (cut_max _ _ _ (unhide HT)) _) | (go_at_call 33; exact unhide sF _ _)))
    refine wpQuiet_nil ?_
    rintro w9 ⟨⟨_, st9⟩, rfl⟩
    have B := hide (show Below w.heap.size w w9 by rw [unhide Hst] at st9; exact st9)
    clear st9
    have q0 : 0 < t.size := by omega
    have q1 : (1 : Int) < (t.size : Int) := by omega
    have q2 : (2 : Int) < (t.size : Int) := by omega
    have q3 : (3 : Int) < (t.size : Int) := by omega
    go_wp2_with fail
    · go_ret3
      have hx := same_ne ‹(!four (crc (List.take 4 t.data.toList)) == (t.extract 4 8).toList) = true›
      have e : nextOf t.data.toList = ([], 0, 9) := by
        rw [cut_list] at hx
        unfold nextOf
        rw [if_neg (by rw [text_len]; omega), if_pos hx]
      rw [unhide E1, e]
      exact ⟨rfl, unhide B⟩
    · have hx := hide (same_eq ‹(!four (crc (List.take 4 t.data.toList)) == (t.extract 4 8).toList) = false›)
      go_quiet (fail)
      rw [wraps4, ← le4_at t (by omega)]
      have hb4 := le4_lt (t.data.toList.take 4)
      generalize hn : le4 (t.data.toList.take 4) = n at *
      have Hn := hide hn
      clear hn
      replace B := hide (below_drewN (unhide B) nq)
      by_cases hbig : (16384 : Int) < (n : Int)
      · go_wp2_with fail
        go_ret3
        have e : nextOf t.data.toList = ([], 0, 3) := by
          have hx' := unhide hx
          rw [cut_list] at hx'
          unfold nextOf
          rw [if_neg (by rw [text_len]; omega), if_neg (fun h => h hx'), unhide Hn, if_pos (by omega)]
        rw [unhide E1, e]
        exact ⟨rfl, unhide B⟩
      · by_cases hsh : (t.size : Int) < (n : Int) + 12
        · go_wp2_with fail
          go_ret3
          have e : nextOf t.data.toList = ([], 0, 7) := by
            have hx' := unhide hx
            rw [cut_list] at hx'
            unfold nextOf
            rw [if_neg (by rw [text_len]; omega), if_neg (fun h => h hx'), unhide Hn, if_neg (by omega), text_len, if_pos (by omega)]
          rw [unhide E1, e]
          exact ⟨rfl, unhide B⟩
        · have t8 : ((8 : Int) + (n : Int)).toNat = 8 + n := by omega
          have t12 : ((12 : Int) + (n : Int)).toNat = 12 + n := by omega
          have u8 : (8 : Int) + (n : Int) ≤ (t.size : Int) := by omega
          have u12 : (12 : Int) + (n : Int) ≤ (t.size : Int) := by omega
          have v8 : (8 : Int) ≤ (8 : Int) + (n : Int) := by omega
          have v12 : (8 : Int) + (n : Int) ≤ (12 : Int) + (n : Int) := by omega
          go_wp2_with fail
          have st2 : St (w9.drewN nq).drew := by rw [unhide Hst]; exact (unhide B).drew
          refine wp_region_sw (St := St) (by kernel_rfl) (by kernel_rfl) st2 ?_
          repeat (go_big_quiet_step (first | (go_at_call 34; exact unhide sC _ (cut_max _ _ _ (unhide HT)) _) | (go_at_call 33; exact unhide sF _ _)))
          refine wpQuiet_nil ?_
          rintro w8 ⟨⟨_, st8⟩, rfl⟩
          replace B := hide (show Below w.heap.size w w8 by rw [unhide Hst] at st8; exact st8)
          clear st8
          have hsz := unhide Htl
          have sum1 : wrap64 (wrap64 ((k : Int) + 12) + (n : Int)) = ((k + (n + 12) : Nat) : Int) := by unfold wrap64; omega
          have S1 := hide sum1
          clear sum1
          have Hsz := hide hsz
          clear hsz
          go_wp2_with fail
          · go_ret3
            have hy := same_ne ‹(!four (crc (List.take n (List.drop 8 t.data.toList))) == (t.extract (8 + n) (12 + n)).toList) = true›
            have e : nextOf t.data.toList = ([], 0, 9) := by
              have hx' := unhide hx
              rw [cut_list] at hx' hy
              rw [show 12 + n - (8 + n) = 4 by omega] at hy
              unfold nextOf
              rw [if_neg (by rw [text_len]; omega), if_neg (fun h => h hx'), unhide Hn, if_neg (by omega), text_len, if_neg (by omega), if_pos hy]
            rw [unhide E1, e]
            exact ⟨rfl, unhide B⟩
          · go_ret3
            have hy := same_eq ‹(!four (crc (List.take n (List.drop 8 t.data.toList))) == (t.extract (8 + n) (12 + n)).toList) = false›
            have e : nextOf t.data.toList = ((t.data.toList.drop 8).take n, n + 12, 0) := by
              have hx' := unhide hx
              rw [cut_list] at hx' hy
              rw [show 12 + n - (8 + n) = 4 by omega] at hy
              unfold nextOf
              rw [if_neg (by rw [text_len]; omega), if_neg (fun h => h hx'), unhide Hn, if_neg (by omega), text_len, if_neg (by omega), if_neg (fun h => h hy)]
            have eb : (⟨((t.data.toList.drop 8).take n).toArray⟩ : ByteArray) = t.extract 8 (8 + n) := bytes_ext (by rw [cut_list, show 8 + n - 8 = n by omega])
            rw [unhide E1, e]
            simp only [if_true]
            rw [eb, ← unhide S1]
            exact ⟨rfl, unhide B⟩
end Go.Proofs.YtkbmbcmcnpeabaaDoor.Fm

namespace Go.Proofs.YtkbmbcmcnpeabaaDoor
open Pk Go.RowKit

theorem read_len {l : List UInt8} {m : MsgV} {E : Nat} (h : readMsg l = (m, E)) : m.owner.length ≤ maxLen ∧ m.set.length ≤ maxLen := by
  rcases msg_fault l with h0 | h0
  · have e : readMsg l = (m, 0) := by rw [h]; rw [h] at h0; exact Prod.ext rfl h0
    have r := (msg_just e).1
    have h1 := r.ok.owner.1
    have h2 := r.ok.set.1
    unfold maxLen
    omega
  · rw [h] at h0
    have : m = MsgV.zero := h0
    rw [this]
    exact ⟨Nat.zero_le _, Nat.zero_le _⟩
theorem whole_next (l : List UInt8) :
    ((Fm.nextAt l 0).2.2 ≠ 0 → ofMsg l = (MsgV.zero, (Fm.nextAt l 0).2.2)) ∧ ((Fm.nextAt l 0).2.2 = 0 → (Fm.nextAt l 0).2.1 ≠ l.length → ofMsg l = (MsgV.zero, 8)) ∧ ((Fm.nextAt l 0).2.2 = 0 → (Fm.nextAt l 0).2.1 = l.length → ofMsg l = readMsg (Fm.nextAt l 0).1) := by
  have e : Fm.nextAt l 0 = ((Fm.Crc.nextOf l).1, if (Fm.Crc.nextOf l).2.2 = 0 then 0 + (Fm.Crc.nextOf l).2.1 else 0, (Fm.Crc.nextOf l).2.2) := rfl
  rw [e]
  refine ⟨fun h => ?_, fun h h1 => ?_, fun h h1 => ?_⟩
  · have h' : (Fm.Crc.nextOf l).2.2 ≠ 0 := h
    have ew : Fm.Crc.wholeOf l = ([], (Fm.Crc.nextOf l).2.2) := by unfold Fm.Crc.wholeOf; rw [if_pos h']
    unfold ofMsg
    rw [ew, if_pos h']
  · have h' : (Fm.Crc.nextOf l).2.2 = 0 := h
    have h1' : (Fm.Crc.nextOf l).2.1 ≠ l.length := by
      have : (if (Fm.Crc.nextOf l).2.2 = 0 then 0 + (Fm.Crc.nextOf l).2.1 else 0) ≠ l.length := h1
      rw [if_pos h'] at this; omega
    have ew : Fm.Crc.wholeOf l = ([], 8) := by unfold Fm.Crc.wholeOf; rw [if_neg (fun hh => hh h'), if_pos h1']
    unfold ofMsg
    rw [ew, if_pos (by decide)]
  · have h' : (Fm.Crc.nextOf l).2.2 = 0 := h
    have h1' : (Fm.Crc.nextOf l).2.1 = l.length := by
      have : (if (Fm.Crc.nextOf l).2.2 = 0 then 0 + (Fm.Crc.nextOf l).2.1 else 0) = l.length := h1
      rw [if_pos h'] at this; omega
    have ew : Fm.Crc.wholeOf l = ((Fm.Crc.nextOf l).1, 0) := by unfold Fm.Crc.wholeOf; rw [if_neg (fun hh => hh h'), if_neg (fun hh => hh h1')]
    unfold ofMsg
    rw [ew, if_neg (fun hh => hh rfl)]
theorem of_len {l : List UInt8} {m : MsgV} {E : Nat} (h : ofMsg l = (m, E)) : m.owner.length ≤ maxLen ∧ m.set.length ≤ maxLen := by
  unfold ofMsg at h
  split at h
  · have : m = MsgV.zero := (congrArg Prod.fst h).symm
    rw [this]
    exact ⟨Nat.zero_le _, Nat.zero_le _⟩
  · exact read_len h
theorem next_len (s : ByteArray) : (Fm.nextAt s.data.toList 0).1.length ≤ s.size := by
  show (Fm.Crc.nextOf s.data.toList).1.length ≤ s.size
  unfold Fm.Crc.nextOf
  repeat' split
  all_goals first | exact Nat.zero_le _ | (simp only [List.length_take, List.length_drop]; have : s.data.toList.length = s.size := rfl; omega)
set_option maxHeartbeats 16000000 in
set_option maxRecDepth 100000 in
theorem reads_said (s : ByteArray) (w : World) (_ : s.size ≤ maxLen) (hT : Fm.Tab w) :
    Calls Tryd.prog 4 #[.string s] w fun e w' => e = .returned (.bool true) ∧ Below w.heap.size w w' := by
  have HT := hide hT
  have fin : ∀ w', Moved (fun _ => False) w w' → Below w.heap.size w w' := fun w' h => h.below (fun _ f => f.elim) (Nat.le_refl _)
  have FIN := hide fin
  clear hT fin
  go_enter Tryd.func4, Tryd.ntmps4
  go_wp2_with fail
  refine (awake_any w).mono ?_
  rintro e w1 ⟨rfl, hm⟩
  have MV := hide hm
  clear hm
  by_cases hb : (20000 : Int) < (s.size : Int)
  · go_wp2_with fail
    go_ret
    exact ⟨rfl, unhide FIN _ (unhide MV)⟩
  have hs : s.size ≤ 1099511627776 := by omega
  have hsm : s.size ≤ maxLen := by unfold maxLen; omega
  obtain ⟨m, E, hr⟩ : ∃ m E, readMsg s.data.toList = (m, E) := ⟨_, _, rfl⟩
  obtain ⟨p, g, hp⟩ : ∃ p g, ofMsg s.data.toList = (p, g) := ⟨_, _, rfl⟩
  have hr1 := read_any s hs w1
  have hr2 := fun u => refread_any s hs u
  have hr3 := fun u (h : Fm.Tab u) => ofMsg_any s hs u h
  have hr4 := fun u => Fm.ref_next_any s 0 u hsm (Nat.zero_le _)
  unfold RPost at hr2
  rw [hr] at hr1
  simp only [hr] at hr2
  simp only [hp] at hr3
  have H1 := hide hr1
  have H2 := hide hr2
  have H3 := hide hr3
  have H4 := hide hr4
  have HL := hide (read_len hr)
  have HLp := hide (of_len hp)
  have HNX := hide (whole_next s.data.toList)
  have HNL := hide (next_len s)
  have HP := hide hp
  have HS := hide hs
  have HSZ : Hid (s.data.toList.length = s.size) := hide rfl
  obtain ⟨bd, tt, H, hn⟩ : ∃ bd tt H, Fm.nextAt s.data.toList 0 = (bd, tt, H) := ⟨_, _, _, rfl⟩
  rw [hn] at HNX HNL
  rw [unhide HP] at HNX
  replace H4 : Hid (∀ u, Calls Tryd.prog 17 #[.string s, .int .i64 0] u fun e w' => e = .returned (.tuple #[.string ⟨bd.toArray⟩, .int .i64 (tt : Int), .int .i64 (H : Int)]) ∧ Below u.heap.size u w') := hide fun u => by
    have := unhide H4 u
    rw [hn] at this
    exact this
  clear hr1 hr2 hr3 hr4 hr hp hs hsm hn HP
  go_wp2_with fail
  refine (unhide H1).mono ?_
  rintro e v1 ⟨hm, xa, ya, xb, yb, rfl, i1, i2, -⟩
  replace MV := hide ((unhide MV).trans hm fun _ f => f.elim)
  obtain ⟨u1, hu, hrow, hmf, hth⟩ := keep_at v1 m xa xb ya yb
  have U1 := hide hu
  have T1 := hide hth
  have R1 := hide hrow
  have J1 := hide (And.intro (i1.keep hmf fun _ _ => id) (i2.keep hmf fun _ _ => id))
  replace MV := hide ((unhide MV).trans hmf fun _ f => f.elim)
  clear hm hu hmf hth hrow i1 i2 H1
  dsimp only
  go_wp2_with (refine wpList_store_mid rfl 29 (.tmp 3) (.tmp 21) rfl v1.heap.size 0 (msgCells m xa ya xb yb).toArray rfl rfl (unhide T1) (by kernel_rfl) (cells_one m xa xb ya yb) ?_; change wpList _ _ _ _ _ (World.setCells _ v1.heap.size 0 (msgCells m xa ya xb yb)); rw [unhide U1]; clear T1 U1)
  generalize v1.heap.size = B1 at *
  refine (unhide H2 u1).mono ?_
  rintro e v2 ⟨hm, xc, yc, xd, yd, rfl, i1, i2, -⟩
  replace MV := hide ((unhide MV).trans hm fun _ f => f.elim)
  obtain ⟨u2, hu, hrow, hmf, hth⟩ := keep_at v2 m xc xd yc yd
  have U2 := hide hu
  have T2 := hide hth
  have R2 := hide hrow
  have mm := hm.trans hmf (G := fun _ => False) fun _ f => f.elim
  replace R1 := hide ((unhide R1).keep mm id)
  replace J1 := hide (And.intro ((unhide J1).1.keep mm fun _ _ => id) ((unhide J1).2.keep mm fun _ _ => id))
  have J2 := hide (And.intro (i1.keep hmf fun _ _ => id) (i2.keep hmf fun _ _ => id))
  replace MV := hide ((unhide MV).trans hmf fun _ f => f.elim)
  clear hm hu hmf hth hrow i1 i2 H2 mm
  dsimp only
  go_upto_region 7 with (refine wpList_store_mid rfl 29 (.tmp 5) (.tmp 26) rfl v2.heap.size 0 (msgCells m xc yc xd yd).toArray rfl rfl (unhide T2) (by kernel_rfl) (cells_one m xc xd yc yd) ?_; change wpList _ _ _ _ _ (World.setCells _ v2.heap.size 0 (msgCells m xc yc xd yd)); rw [unhide U2]; clear T2 U2)
  generalize v2.heap.size = B2 at *
  go_wp2_with (first | (refine wpList_load_on rfl 29 (.tmp 3) rfl B1 0 rfl (msgCells m xa ya xb yb) _ (unhide R1).range Tryd.underlying29 rfl (by kernel_rfl) ?_) | (refine wpList_load_on rfl 29 (.tmp 5) rfl B2 0 rfl (msgCells m xc yc xd yd) _ (unhide R2).range Tryd.underlying29 rfl (by kernel_rfl) ?_))
  refine (refsame_any m m xa xb xc xd ya yb yc yd u2 (unhide J1).1 (unhide J1).2 (unhide J2).1 (unhide J2).2 (unhide HL).1 (unhide HL).2 (unhide HL).1 (unhide HL).2).mono ?_
  rintro e w3 ⟨rfl, hm⟩
  rw [(sameMsg_iff m m).2 rfl]
  replace MV := hide ((unhide MV).trans hm fun _ f => f.elim)
  clear hm J1 J2 R1 R2 HL
  go_wp2_with fail
  refine (unhide H3 w3 (tab_moved (unhide HT) (unhide MV))).mono ?_
  rintro e v3 ⟨hm, xa, ya, xb, yb, rfl, i1, i2⟩
  replace MV := hide ((unhide MV).trans hm fun _ f => f.elim)
  obtain ⟨u3, hu, hrow, hmf, hth⟩ := keep_at v3 p xa xb ya yb
  have U1 := hide hu
  have T1 := hide hth
  have R1 := hide hrow
  have J1 := hide (And.intro (i1.keep hmf fun _ _ => id) (i2.keep hmf fun _ _ => id))
  replace MV := hide ((unhide MV).trans hmf fun _ f => f.elim)
  clear hm hu hmf hth hrow i1 i2 H3
  dsimp only
  go_wp2_with (refine wpList_store_mid rfl 29 (.tmp 7) (.tmp 40) rfl v3.heap.size 0 (msgCells p xa ya xb yb).toArray rfl rfl (unhide T1) (by kernel_rfl) (cells_one p xa xb ya yb) ?_; change wpList _ _ _ _ _ (World.setCells _ v3.heap.size 0 (msgCells p xa ya xb yb)); rw [unhide U1]; clear T1 U1)
  generalize v3.heap.size = B3 at *
  refine (unhide H4 u3).mono ?_
  rintro e v4 ⟨rfl, hbl⟩
  have hm := Moved.of_below (F := fun _ => False) hbl
  obtain ⟨u4, hu⟩ : ∃ u, u = v4.alloc (.cells (msgCells MsgV.zero none 0 none 0).toArray 29) := ⟨_, rfl⟩
  have hmf : Moved (fun _ => False) v4 u4 := by rw [hu]; exact (Moved.refl _ _).alloc _
  have R4 : Hid (RowAt u4 v4.heap.size (msgCells MsgV.zero none 0 none 0)) := hide (by rw [hu]; exact row_new _ _ _)
  replace R1 := hide ((unhide R1).keep hm id)
  replace J1 := hide (And.intro ((unhide J1).1.keep hm fun _ _ => id) ((unhide J1).2.keep hm fun _ _ => id))
  replace MV := hide ((unhide MV).trans hm fun _ f => f.elim)
  have M4 := hide hmf
  have U4 := hide hu
  clear hm hu hmf hbl H4
  go_upto_region 12 with fail
  change Code.wp _ _ _ _ (v4.alloc (.cells (msgCells MsgV.zero none 0 none 0).toArray 29))
  rw [← unhide U4]
  clear U4
  generalize hB4 : v4.heap.size = B4 at *
  have HB4 := hide hB4
  clear hB4
  by_cases h0 : H = 0
  · by_cases h1 : tt = s.size
    · have e1 := (unhide HNX).2.2 h0 (h1.trans (unhide HSZ).symm)
      subst h0
      subst h1
      have hrd := refread_any ⟨bd.toArray⟩ (by show bd.toArray.size ≤ _; simp only [List.size_toArray]; have := unhide HNL; have := unhide HS; simp only at *; omega) u4
      unfold RPost at hrd
      rw [show readMsg (⟨bd.toArray⟩ : ByteArray).data.toList = (p, g) from e1.symm] at hrd
      have HRD := hide hrd
      clear hrd e1 HNX
      go_wp2_with fail
      refine (unhide HRD).mono ?_
      rintro e v5 ⟨hm, xc, yc, xd, yd, rfl, i1, i2, i3⟩
      dsimp only
      obtain ⟨u5, hu⟩ : ∃ u, v5.setCells B4 0 (msgCells p xc yc xd yd) = u := ⟨_, rfl⟩
      have hr4 := (unhide R4).keep hm id
      have hms : Moved (fun j => j = B4) v5 u5 := by rw [← hu]; exact setCells_moved v5 B4 0 (msgCells p xc yc xd yd)
      have T2 := hide hr4.there
      have U2 := hide hu
      have R5 : Hid (RowAt u5 B4 (msgCells p xc yc xd yd)) := hide (by rw [← hu]; exact hr4.put (msgCells p xc yc xd yd) rfl)
      have h4 := (unhide R4).lt
      have J5 := hide (And.intro (ints_beside i1 hms fun y hy h => by have := i3 y (.inl hy); omega) (ints_beside i2 hms fun y hy h => by have := i3 y (.inr hy); omega))
      have mall : Moved (fun _ => False) v4 u5 := ((unhide M4).trans hm fun _ f => f.elim).trans hms fun i hi => .inr (by have := unhide HB4; omega)
      replace R1 := hide ((unhide R1).keep mall id)
      replace J1 := hide (And.intro ((unhide J1).1.keep mall fun _ _ => id) ((unhide J1).2.keep mall fun _ _ => id))
      replace MV := hide ((unhide MV).trans mall fun _ f => f.elim)
      clear hm hu hms hr4 h4 mall i1 i2 i3 R4 M4 HRD
      go_upto_region 16 with (refine wpList_store_mid rfl 29 (.tmp 12) (.tmp 61) rfl B4 0 (msgCells p xc yc xd yd).toArray rfl rfl (unhide T2) (by kernel_rfl) (cells_one p xc xd yc yd) ?_; change wpList _ _ _ _ _ (World.setCells _ B4 0 (msgCells p xc yc xd yd)); rw [unhide U2]; clear T2 U2)
      go_wp2_with (first | (refine wpList_load_on rfl 29 (.tmp 7) rfl B3 0 rfl (msgCells p xa ya xb yb) _ (unhide R1).range Tryd.underlying29 rfl (by kernel_rfl) ?_) | (refine wpList_load_on rfl 29 (.tmp 12) rfl B4 0 rfl (msgCells p xc yc xd yd) _ (unhide R5).range Tryd.underlying29 rfl (by kernel_rfl) ?_))
      refine (refsame_any p p xa xb xc xd ya yb yc yd u5 (unhide J1).1 (unhide J1).2 (unhide J5).1 (unhide J5).2 (unhide HLp).1 (unhide HLp).2 (unhide HLp).1 (unhide HLp).2).mono ?_
      rintro e w9 ⟨rfl, hm⟩
      rw [(sameMsg_iff p p).2 rfl]
      go_wp2_with fail
      go_ret
      exact ⟨rfl, unhide FIN _ ((unhide MV).trans hm fun _ f => f.elim)⟩
    · have e1 := (unhide HNX).2.1 h0 (fun h => h1 (h.trans (unhide HSZ)))
      subst h0
      have h1' : ¬ ((tt : Int) = (s.size : Int)) := by omega
      replace R1 := hide ((unhide R1).keep (unhide M4) id)
      replace J1 := hide (And.intro ((unhide J1).1.keep (unhide M4) fun _ _ => id) ((unhide J1).2.keep (unhide M4) fun _ _ => id))
      replace MV := hide ((unhide MV).trans (unhide M4) fun _ f => f.elim)
      obtain ⟨rfl, rfl⟩ : p = MsgV.zero ∧ g = 8 := ⟨congrArg Prod.fst e1, congrArg Prod.snd e1⟩
      clear e1 HNX h1
      go_wp2_with (first | (refine wpList_load_on rfl 29 (.tmp 7) rfl B3 0 rfl (msgCells MsgV.zero xa ya xb yb) _ (unhide R1).range Tryd.underlying29 rfl (by kernel_rfl) ?_) | (refine wpList_load_on rfl 29 (.tmp 12) rfl B4 0 rfl (msgCells MsgV.zero none 0 none 0) _ (unhide R4).range Tryd.underlying29 rfl (by kernel_rfl) ?_))
      refine (refsame_any MsgV.zero MsgV.zero xa xb none none ya yb 0 0 u4 (unhide J1).1 (unhide J1).2 (ints_nil _ _) (ints_nil _ _) (unhide HLp).1 (unhide HLp).2 (unhide HLp).1 (unhide HLp).2).mono ?_
      rintro e w9 ⟨rfl, hm⟩
      rw [(sameMsg_iff MsgV.zero MsgV.zero).2 rfl]
      go_wp2_with fail
      go_ret
      exact ⟨rfl, unhide FIN _ ((unhide MV).trans hm fun _ f => f.elim)⟩
  · have e1 := (unhide HNX).1 h0
    have h0' : ¬ ((H : Int) = 0) := by omega
    replace R1 := hide ((unhide R1).keep (unhide M4) id)
    replace J1 := hide (And.intro ((unhide J1).1.keep (unhide M4) fun _ _ => id) ((unhide J1).2.keep (unhide M4) fun _ _ => id))
    replace MV := hide ((unhide MV).trans (unhide M4) fun _ f => f.elim)
    obtain ⟨rfl, hg⟩ : p = MsgV.zero ∧ g = H := ⟨congrArg Prod.fst e1, congrArg Prod.snd e1⟩
    subst hg
    clear e1 HNX h0
    go_wp2_with (first | (refine wpList_load_on rfl 29 (.tmp 7) rfl B3 0 rfl (msgCells MsgV.zero xa ya xb yb) _ (unhide R1).range Tryd.underlying29 rfl (by kernel_rfl) ?_) | (refine wpList_load_on rfl 29 (.tmp 12) rfl B4 0 rfl (msgCells MsgV.zero none 0 none 0) _ (unhide R4).range Tryd.underlying29 rfl (by kernel_rfl) ?_))
    refine (refsame_any MsgV.zero MsgV.zero xa xb none none ya yb 0 0 u4 (unhide J1).1 (unhide J1).2 (ints_nil _ _) (ints_nil _ _) (unhide HLp).1 (unhide HLp).2 (unhide HLp).1 (unhide HLp).2).mono ?_
    rintro e w9 ⟨rfl, hm⟩
    rw [(sameMsg_iff MsgV.zero MsgV.zero).2 rfl]
    go_wp2_with fail
    go_ret
    exact ⟨rfl, unhide FIN _ ((unhide MV).trans hm fun _ f => f.elim)⟩
end Go.Proofs.YtkbmbcmcnpeabaaDoor

namespace Go.Proofs.YtkbmbcmcnpeabaaDoor.msgReads
open Go.ChangeShapes Go.WideShapes Go.ChangeAt Go.RowKit
open Go.ChangeMaps (open_string shut_string)
open Fm

theorem laidOut : laidOutB Tryd.prog = true := by kernel_rfl

set_option maxRecDepth 100000 in
theorem contract (H : Type) (enc : TypeId × Value → H) (W : World) (base : Nat) (args : Array Value) (ds gs : List (DataW H)) (before : List MemPlace)
    (hval : ∀ (j : Nat) t v, Tryd.f4.params[j]? = some t → args[j]? = some v → Value.okWide Tryd.prog W .any base t v)
    (hW : DataW.Whole enc Tryd.prog Tryd.f4.params.toList Rows.msgReadsSpec.vars false W args.toList ds gs before) (hL : laidMetH Tryd.prog Rows.msgReadsRow.laid W) :
    Calls Tryd.prog 4 args W fun e W' => ∃ v, e = .returned v ∧ Rows.msgReadsSpec.post enc Tryd.prog Tryd.f4 false true false false W args v W' := by
  have hW' := hW
  obtain ⟨p, q, hA0, hV, rfl, hfz, hnd⟩ := hW
  have hA : DataW.TrodAll enc Tryd.prog W 0 (fun _ => true) true Tryd.f4.params.toList args.toList ds p := hA0
  rw [Tryd.params4] at hA hval
  obtain ⟨v0, vs0, d0, ds0, p0, q0, hargs, rfl, rfl, h0, r0⟩ := trodAll_cons hA
  obtain ⟨rfl, rfl, rfl⟩ := trodAll_nil r0
  obtain rfl : args = #[v0] := by cases args; simp_all
  obtain ⟨rfl, rfl⟩ := trodVars_none hV
  obtain ⟨s0, rfl, rfl, rfl, w0⟩ := open_string Tryd.underlying9 (hval 0 9 v0 rfl rfl) h0
  clear hA0
  refine (reads_said s0 W w0 (tab_of_laid hL)).mono fun e W' ⟨he, bel⟩ => ?_
  subst he
  exact ⟨_, rfl, _, _, _, [], _, [], hW', trodAll_mk1 (shut_bool Tryd.underlying4 _), (trodAll_cons_mk (shut_string Tryd.underlying9 w0) trodAll_mk0), rfl, bel.frame _, fun h => by cases h⟩

theorem laid_met (os : Os) : laidMet Tryd.prog Rows.msgReadsRow.laid ((layTab (World.holding Tryd.prog os ⟨#[], #[], []⟩)).forCall (fun _ _ => 0) ⟨#[], #[.string ⟨#[]⟩], []⟩).memory :=
  laidMet_of_run' 8 (by kernel_rfl) (by kernel_rfl)
theorem reads (os : Os) {H : Type} (enc : TypeId × Value → H) : ∃ places, DataW.whole enc Tryd.prog ((layTab (World.holding Tryd.prog os ⟨#[], #[], []⟩)).forCall (fun _ _ => 0) ⟨#[], #[.string ⟨#[]⟩], []⟩).memory Tryd.f4.params.toList Rows.msgReadsSpec.vars false (#[.string ⟨#[]⟩] : Array Value).toList 8 = some ([.lit (.string [])], [], places) :=
  ⟨[], by kernel_rfl⟩

set_option maxRecDepth 100000 in
theorem lifted (os : Os) (started : os.Started) (H : Type) (enc : TypeId × Value → H) (F : Stop.Interp) :
    ReturnsInHanded {} Tryd.checked os 4 .any ((OpenSpec.ofChange Rows.msgReadsSpec).preRow enc Tryd.prog Tryd.f4 Rows.msgReadsRow.domain false Rows.msgReadsRow.laid) (((OpenSpec.ofChange Rows.msgReadsSpec).at F).post enc Tryd.prog Tryd.f4 false true false false) := by
  obtain ⟨places, hx⟩ := reads os enc
  refine returnsInHanded_of_row (C := Tryd.checked) (s := OpenSpec.ofChange Rows.msgReadsSpec) own started (by kernel_rfl) Tryd.func4
    (witness_row_at (enc := enc) (C := Tryd.checked) false (layTab (World.holding Tryd.prog os ⟨#[], #[], []⟩)) #[.string ⟨#[]⟩] rfl (by kernel_rfl) (by kernel_rfl) (by kernel_rfl)
      (OpenSpec.preRow_of_cond 8 hx (by kernel_rfl) (fun k hk => by cases hk) (by kernel_rfl) (laid_met os))) ?_
  intro W base args ds gs before hval hW _ _ _ hL _ _
  exact contract H enc W base args ds gs before hval hW hL

theorem said : Rows.MsgReadsSaid :=
  OpenClaim.holds_of_cond 4 Tryd.f4 rfl rfl rfl rfl rfl rfl rfl ⟨rfl, rfl, rfl, rfl, rfl⟩ rfl rfl rfl rfl rfl (by kernel_rfl) Tryd.func4 (by kernel_rfl)
    (of_decide_eq_true (by kernel_rfl)) (by unfold Func.isWrapper; first | (rw [if_pos (by decide +kernel)]; kernel_rfl) | (rw [if_neg (by decide +kernel)]; exact ⟨rfl, rfl⟩))
    (fun os started H enc _ F => by rw [OpenClaim.pre_eq_preRow]; exact lifted os started H enc F)

theorem plain (f : FuncId) (fn : Func) (hf : Tryd.pinned.checked.prog.funcNamed Rows.msgReadsRow.func = some f) (hfn : Tryd.pinned.checked.prog.funcs[f]? = some fn) :
    true = Tryd.pinned.checked.prog.looks [] ∧ ∀ (j : Nat) t, fn.params[j]? = some t → Tryd.pinned.checked.prog.wantsStandIn t = false := by
  obtain rfl : f = 4 := Option.some.inj ((show Tryd.prog.funcNamed Rows.msgReadsRow.func = some 4 by kernel_rfl).symm.trans hf) |>.symm
  obtain rfl : fn = Tryd.f4 := (Option.some.inj (Tryd.func4.symm.trans hfn)).symm
  refine ⟨by kernel_rfl, fun j t ht => ?_⟩
  rw [Tryd.params4] at ht
  have hm := Array.mem_of_getElem? ht
  simp only [List.mem_toArray, List.mem_cons, List.not_mem_nil, or_false] at hm
  subst hm
  exact (show Tryd.prog.wantsStandIn 9 = false by kernel_rfl)

theorem card : Rows.MsgReadsCardSaid :=
  Claim7.holds_tied_plain_at .later [] _ _ _ _ said (fun _ h => by cases h) (by kernel_rfl) (fun _ h => by cases h) msgReads_row_tie rfl ⟨rfl, rfl⟩ (by kernel_rfl) rfl plain (by kernel_rfl)
end Go.Proofs.YtkbmbcmcnpeabaaDoor.msgReads
namespace Go.Proofs.YtkbmbcmcnpeabaaDoor
theorem msgReads_card : Rows.MsgReadsCardSaid := msgReads.card
end Go.Proofs.YtkbmbcmcnpeabaaDoor

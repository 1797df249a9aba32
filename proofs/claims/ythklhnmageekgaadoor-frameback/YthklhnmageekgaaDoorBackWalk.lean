/- What FrameBack does, for any texts, any place and any cut: it answers true, and nothing that was there has turned. Condition: the table's sixteen cells hold its numbers. -/
import Derived.Test.YthklhnmageekgaaDoorApartWalk
namespace Go.Proofs.YthklhnmageekgaaDoor
open Crc Go.RowKit

theorem body_text (s : ByteArray) : (⟨s.data.toList.toArray⟩ : ByteArray) = s := bytes_ext rfl
/-- What was framed is read back, whatever stands ahead of it and behind. -/
theorem back_at (a b c : List UInt8) (h : b.length ≤ 16384) : nextAt (a ++ frameOf b ++ c) a.length = (b, a.length + (b.length + 12), 0) := by
  unfold nextAt
  rw [List.append_assoc, List.drop_left, frame_back b c h]
  rfl
theorem cut_at (b : List UInt8) (h : b.length ≤ 16384) (k : Nat) (hk : k < (frameOf b).length) : nextAt ((frameOf b).take k) 0 = ([], 0, 7) ∧ wholeOf ((frameOf b).take k) = ([], 7) := by
  have e := frame_cut b h k hk
  refine ⟨?_, ?_⟩
  · unfold nextAt
    rw [List.drop_zero, e]; rfl
  · unfold wholeOf
    rw [e]; rfl

set_option maxRecDepth 100000 in
set_option maxHeartbeats 1000000 in
theorem back_bad (body ahead behind b : ByteArray) (at_ cut : Int) (w : World) (hT : Tab w) (h1 : ¬ (16384 : Int) < (body.size : Int)) (h2 : ¬ (16384 : Int) < (ahead.size : Int)) (h3 : ¬ (16384 : Int) < (behind.size : Int)) (h4 : ¬ (16384 : Int) < (b.size : Int))
    (n3 : Int) (h0 : (n3 != 0) = true)
    (hN1 : ∀ w', Tab w' → Calls Tryd.prog 11 #[.string b, .int .i64 at_] w' fun e w'' => e = .returned (.tuple #[.string ⟨#[]⟩, .int .i64 0, .int .i64 n3]) ∧ Below w'.heap.size w' w'') :
    Calls Tryd.prog 5 #[.string body, .string ahead, .string behind, .string b, .int .i64 at_, .int .i64 cut] w fun e w' => e = .returned (.bool true) ∧ Below w.heap.size w w' := by
  have HT : Hid (Tab w) := hide hT
  have N1 := hide hN1
  clear hT hN1
  have d1 : decide ((16384 : Int) < (body.size : Int)) = false := decide_eq_false h1
  have d2 : decide ((16384 : Int) < (ahead.size : Int)) = false := decide_eq_false h2
  have d3 : decide ((16384 : Int) < (behind.size : Int)) = false := decide_eq_false h3
  have d4 : decide ((16384 : Int) < (b.size : Int)) = false := decide_eq_false h4
  have P := hide (put_is h1)
  obtain ⟨f, hf⟩ : ∃ f : ByteArray, f = ⟨(frameOf body.data.toList).toArray⟩ := ⟨_, rfl⟩
  have sf := frame_size hf
  have lf := frame_list hf
  have F := hide hf
  have xs : (ahead ++ f ++ behind).size = ahead.size + f.size + behind.size := by rw [ByteArray.size_append, ByteArray.size_append]
  have xl : nextAt (ahead ++ f ++ behind).data.toList ahead.size = (body.data.toList, ahead.size + f.size, 0) := by
    have e := back_at ahead.data.toList body.data.toList behind.data.toList (by rw [text_len]; omega)
    rw [text_len, text_len, ← sf] at e
    rw [← e, ByteArray.data_append, Array.toList_append, ByteArray.data_append, Array.toList_append, lf]
  have XL := hide (And.intro (show (ahead ++ f ++ behind).size ≤ maxLen by unfold maxLen; omega) (And.intro (show ahead.size ≤ (ahead ++ f ++ behind).size by omega) xl))
  have hto : (ahead.size : Int) + (f.size : Int) = ((ahead.size + f.size : Nat) : Int) := by omega
  have hfb : (f.size : Int) ≤ 16396 := by omega
  generalize hat : ((ahead.size + f.size : Nat) : Int) = r at *
  have Hat := hide hat
  by_cases c0 : 0 ≤ cut
  · by_cases c1 : cut < (f.size : Int)
    · obtain ⟨k, hk⟩ : ∃ k : Nat, cut = (k : Int) := ⟨cut.toNat, by omega⟩
      subst hk
      have C : Hid (nextAt (f.extract 0 k).data.toList 0 = ([], 0, 7) ∧ wholeOf (f.extract 0 k).data.toList = ([], 7)) := hide (by
        have e := cut_at body.data.toList (by rw [text_len]; omega) k (by rw [← lf, text_len]; omega)
        rw [cut_list, lf]
        exact e)
      have k0 : decide ((0 : Int) ≤ (k : Int)) = true := decide_eq_true c0
      have k1 : decide ((k : Int) < (f.size : Int)) = true := decide_eq_true c1
      have k2 : (k : Int) ≤ (f.size : Int) := by omega
      clear hf lf sf xs xl hat
      go_enter Tryd.func5, Tryd.ntmps5
      go_wp2_with fail
      refine (awake_any _ (unhide HT)).mono ?_
      rintro e w1 ⟨rfl, m⟩
      have B := hide m
      clear m
      go_wp2_with fail
      refine (put_any body _ (by unfold maxLen; omega) ((unhide HT).below (unhide B))).mono ?_
      rintro e w2 ⟨rfl, m⟩
      replace B := hide ((unhide B).trans (m.mono (unhide B).size))
      clear m
      rw [(unhide P), ← unhide F]
      go_wp2_with fail
      refine (next_any _ ahead.size _ (unhide XL).1 (unhide XL).2.1 ((unhide HT).below (unhide B))).mono ?_
      rintro e w3 ⟨rfl, m⟩
      replace B := hide ((unhide B).trans (m.mono (unhide B).size))
      clear m
      rw [(unhide XL).2.2, body_text]
      go_wp2_with fail
      refine (next_any _ 0 _ (cut_max _ _ _ (by unfold maxLen; omega)) (by omega) ((unhide HT).below (unhide B))).mono ?_
      rintro e w4 ⟨rfl, m⟩
      replace B := hide ((unhide B).trans (m.mono (unhide B).size))
      clear m
      rw [(unhide C).1]
      go_wp2_with fail
      refine (whole_any _ _ (cut_max _ _ _ (by unfold maxLen; omega)) ((unhide HT).below (unhide B))).mono ?_
      rintro e w5 ⟨rfl, m⟩
      replace B := hide ((unhide B).trans (m.mono (unhide B).size))
      clear m
      rw [(unhide C).2]
      go_wp2_with fail
      refine (unhide N1 _ ((unhide HT).below (unhide B))).mono ?_
      rintro e w6 ⟨rfl, m⟩
      replace B := hide ((unhide B).trans (m.mono (unhide B).size))
      clear m
      go_wp2_with fail
      go_ret
      exact ⟨rfl, unhide B⟩
    · have k0 : decide ((0 : Int) ≤ cut) = true := decide_eq_true c0
      have k1 : decide (cut < (f.size : Int)) = false := decide_eq_false c1
      clear hf lf sf xs xl hat
      go_enter Tryd.func5, Tryd.ntmps5
      go_wp2_with fail
      refine (awake_any _ (unhide HT)).mono ?_
      rintro e w1 ⟨rfl, m⟩
      have B := hide m
      clear m
      go_wp2_with fail
      refine (put_any body _ (by unfold maxLen; omega) ((unhide HT).below (unhide B))).mono ?_
      rintro e w2 ⟨rfl, m⟩
      replace B := hide ((unhide B).trans (m.mono (unhide B).size))
      clear m
      rw [(unhide P), ← unhide F]
      go_wp2_with fail
      refine (next_any _ ahead.size _ (unhide XL).1 (unhide XL).2.1 ((unhide HT).below (unhide B))).mono ?_
      rintro e w3 ⟨rfl, m⟩
      replace B := hide ((unhide B).trans (m.mono (unhide B).size))
      clear m
      rw [(unhide XL).2.2, body_text]
      go_wp2_with fail
      refine (unhide N1 _ ((unhide HT).below (unhide B))).mono ?_
      rintro e w6 ⟨rfl, m⟩
      replace B := hide ((unhide B).trans (m.mono (unhide B).size))
      clear m
      go_wp2_with fail
      go_ret
      exact ⟨rfl, unhide B⟩
  · have k0 : decide ((0 : Int) ≤ cut) = false := decide_eq_false c0
    clear hf lf sf xs xl hat
    go_enter Tryd.func5, Tryd.ntmps5
    go_wp2_with fail
    refine (awake_any _ (unhide HT)).mono ?_
    rintro e w1 ⟨rfl, m⟩
    have B := hide m
    clear m
    go_wp2_with fail
    refine (put_any body _ (by unfold maxLen; omega) ((unhide HT).below (unhide B))).mono ?_
    rintro e w2 ⟨rfl, m⟩
    replace B := hide ((unhide B).trans (m.mono (unhide B).size))
    clear m
    rw [(unhide P), ← unhide F]
    go_wp2_with fail
    refine (next_any _ ahead.size _ (unhide XL).1 (unhide XL).2.1 ((unhide HT).below (unhide B))).mono ?_
    rintro e w3 ⟨rfl, m⟩
    replace B := hide ((unhide B).trans (m.mono (unhide B).size))
    clear m
    rw [(unhide XL).2.2, body_text]
    go_wp2_with fail
    refine (unhide N1 _ ((unhide HT).below (unhide B))).mono ?_
    rintro e w6 ⟨rfl, m⟩
    replace B := hide ((unhide B).trans (m.mono (unhide B).size))
    clear m
    go_wp2_with fail
    go_ret
    exact ⟨rfl, unhide B⟩

set_option maxRecDepth 100000 in
set_option maxHeartbeats 1000000 in
theorem back_good (body ahead behind b : ByteArray) (at_ cut : Int) (w : World) (hT : Tab w) (h1 : ¬ (16384 : Int) < (body.size : Int)) (h2 : ¬ (16384 : Int) < (ahead.size : Int)) (h3 : ¬ (16384 : Int) < (behind.size : Int)) (h4 : ¬ (16384 : Int) < (b.size : Int))
    (t : ByteArray) (at0 up : Nat) (hat_ : at_ = (at0 : Int)) (ht : t.size ≤ 16384) (hup : up = at0 + (t.size + 12)) (hle : up ≤ b.size) (hcut : ((b.extract at0 up).data.toList = frameOf t.data.toList))
    (hN1 : ∀ w', Tab w' → Calls Tryd.prog 11 #[.string b, .int .i64 at_] w' fun e w'' => e = .returned (.tuple #[.string t, .int .i64 (up : Int), .int .i64 0]) ∧ Below w'.heap.size w' w'') :
    Calls Tryd.prog 5 #[.string body, .string ahead, .string behind, .string b, .int .i64 at_, .int .i64 cut] w fun e w' => e = .returned (.bool true) ∧ Below w.heap.size w w' := by
  subst hat_
  obtain ⟨again, hg⟩ : ∃ again : ByteArray, again = ⟨(frameOf t.data.toList).toArray⟩ := ⟨_, rfl⟩
  have sg := frame_size hg
  have lg := frame_list hg
  have OK_ : Hid (t.size ≤ maxLen ∧ putOf t.data.toList = (frameOf t.data.toList, 0)) := hide ⟨by unfold maxLen; omega, put_is (by omega)⟩
  have heq : ((b.extract at0 up).toList == again.toList) = true := by
    rw [ByteArray.toList_eq, ByteArray.toList_eq, hcut, lg]; exact beq_self_eq_true _
  have u1 : (up : Int) - (at0 : Int) = (again.size : Int) := by omega
  have u2 : (at0 : Int) ≤ (up : Int) := by omega
  have u3 : (up : Int) ≤ (b.size : Int) := by omega
  have HG := hide hg
  clear hcut sg lg hg ht hup hle
  have HT : Hid (Tab w) := hide hT
  have N1 := hide hN1
  clear hT hN1
  have d1 : decide ((16384 : Int) < (body.size : Int)) = false := decide_eq_false h1
  have d2 : decide ((16384 : Int) < (ahead.size : Int)) = false := decide_eq_false h2
  have d3 : decide ((16384 : Int) < (behind.size : Int)) = false := decide_eq_false h3
  have d4 : decide ((16384 : Int) < (b.size : Int)) = false := decide_eq_false h4
  have P := hide (put_is h1)
  obtain ⟨f, hf⟩ : ∃ f : ByteArray, f = ⟨(frameOf body.data.toList).toArray⟩ := ⟨_, rfl⟩
  have sf := frame_size hf
  have lf := frame_list hf
  have F := hide hf
  have xs : (ahead ++ f ++ behind).size = ahead.size + f.size + behind.size := by rw [ByteArray.size_append, ByteArray.size_append]
  have xl : nextAt (ahead ++ f ++ behind).data.toList ahead.size = (body.data.toList, ahead.size + f.size, 0) := by
    have e := back_at ahead.data.toList body.data.toList behind.data.toList (by rw [text_len]; omega)
    rw [text_len, text_len, ← sf] at e
    rw [← e, ByteArray.data_append, Array.toList_append, ByteArray.data_append, Array.toList_append, lf]
  have XL := hide (And.intro (show (ahead ++ f ++ behind).size ≤ maxLen by unfold maxLen; omega) (And.intro (show ahead.size ≤ (ahead ++ f ++ behind).size by omega) xl))
  have hto : (ahead.size : Int) + (f.size : Int) = ((ahead.size + f.size : Nat) : Int) := by omega
  have hfb : (f.size : Int) ≤ 16396 := by omega
  generalize hat : ((ahead.size + f.size : Nat) : Int) = r at *
  have Hat := hide hat
  by_cases c0 : 0 ≤ cut
  · by_cases c1 : cut < (f.size : Int)
    · obtain ⟨k, hk⟩ : ∃ k : Nat, cut = (k : Int) := ⟨cut.toNat, by omega⟩
      subst hk
      have C : Hid (nextAt (f.extract 0 k).data.toList 0 = ([], 0, 7) ∧ wholeOf (f.extract 0 k).data.toList = ([], 7)) := hide (by
        have e := cut_at body.data.toList (by rw [text_len]; omega) k (by rw [← lf, text_len]; omega)
        rw [cut_list, lf]
        exact e)
      have k0 : decide ((0 : Int) ≤ (k : Int)) = true := decide_eq_true c0
      have k1 : decide ((k : Int) < (f.size : Int)) = true := decide_eq_true c1
      have k2 : (k : Int) ≤ (f.size : Int) := by omega
      clear hf lf sf xs xl hat
      go_enter Tryd.func5, Tryd.ntmps5
      go_wp2_with fail
      refine (awake_any _ (unhide HT)).mono ?_
      rintro e w1 ⟨rfl, m⟩
      have B := hide m
      clear m
      go_wp2_with fail
      refine (put_any body _ (by unfold maxLen; omega) ((unhide HT).below (unhide B))).mono ?_
      rintro e w2 ⟨rfl, m⟩
      replace B := hide ((unhide B).trans (m.mono (unhide B).size))
      clear m
      rw [(unhide P), ← unhide F]
      go_wp2_with fail
      refine (next_any _ ahead.size _ (unhide XL).1 (unhide XL).2.1 ((unhide HT).below (unhide B))).mono ?_
      rintro e w3 ⟨rfl, m⟩
      replace B := hide ((unhide B).trans (m.mono (unhide B).size))
      clear m
      rw [(unhide XL).2.2, body_text]
      go_wp2_with fail
      refine (next_any _ 0 _ (cut_max _ _ _ (by unfold maxLen; omega)) (by omega) ((unhide HT).below (unhide B))).mono ?_
      rintro e w4 ⟨rfl, m⟩
      replace B := hide ((unhide B).trans (m.mono (unhide B).size))
      clear m
      rw [(unhide C).1]
      go_wp2_with fail
      refine (whole_any _ _ (cut_max _ _ _ (by unfold maxLen; omega)) ((unhide HT).below (unhide B))).mono ?_
      rintro e w5 ⟨rfl, m⟩
      replace B := hide ((unhide B).trans (m.mono (unhide B).size))
      clear m
      rw [(unhide C).2]
      go_wp2_with fail
      refine (unhide N1 _ ((unhide HT).below (unhide B))).mono ?_
      rintro e w6 ⟨rfl, m⟩
      replace B := hide ((unhide B).trans (m.mono (unhide B).size))
      clear m
      go_wp2_with fail
      refine (put_any t _ (unhide OK_).1 ((unhide HT).below (unhide B))).mono ?_
      rintro e w7 ⟨rfl, m⟩
      replace B := hide ((unhide B).trans (m.mono (unhide B).size))
      clear m
      rw [(unhide OK_).2, ← unhide HG]
      go_wp2_with fail
      go_ret
      exact ⟨rfl, unhide B⟩
    · have k0 : decide ((0 : Int) ≤ cut) = true := decide_eq_true c0
      have k1 : decide (cut < (f.size : Int)) = false := decide_eq_false c1
      clear hf lf sf xs xl hat
      go_enter Tryd.func5, Tryd.ntmps5
      go_wp2_with fail
      refine (awake_any _ (unhide HT)).mono ?_
      rintro e w1 ⟨rfl, m⟩
      have B := hide m
      clear m
      go_wp2_with fail
      refine (put_any body _ (by unfold maxLen; omega) ((unhide HT).below (unhide B))).mono ?_
      rintro e w2 ⟨rfl, m⟩
      replace B := hide ((unhide B).trans (m.mono (unhide B).size))
      clear m
      rw [(unhide P), ← unhide F]
      go_wp2_with fail
      refine (next_any _ ahead.size _ (unhide XL).1 (unhide XL).2.1 ((unhide HT).below (unhide B))).mono ?_
      rintro e w3 ⟨rfl, m⟩
      replace B := hide ((unhide B).trans (m.mono (unhide B).size))
      clear m
      rw [(unhide XL).2.2, body_text]
      go_wp2_with fail
      refine (unhide N1 _ ((unhide HT).below (unhide B))).mono ?_
      rintro e w6 ⟨rfl, m⟩
      replace B := hide ((unhide B).trans (m.mono (unhide B).size))
      clear m
      go_wp2_with fail
      refine (put_any t _ (unhide OK_).1 ((unhide HT).below (unhide B))).mono ?_
      rintro e w7 ⟨rfl, m⟩
      replace B := hide ((unhide B).trans (m.mono (unhide B).size))
      clear m
      rw [(unhide OK_).2, ← unhide HG]
      go_wp2_with fail
      go_ret
      exact ⟨rfl, unhide B⟩
  · have k0 : decide ((0 : Int) ≤ cut) = false := decide_eq_false c0
    clear hf lf sf xs xl hat
    go_enter Tryd.func5, Tryd.ntmps5
    go_wp2_with fail
    refine (awake_any _ (unhide HT)).mono ?_
    rintro e w1 ⟨rfl, m⟩
    have B := hide m
    clear m
    go_wp2_with fail
    refine (put_any body _ (by unfold maxLen; omega) ((unhide HT).below (unhide B))).mono ?_
    rintro e w2 ⟨rfl, m⟩
    replace B := hide ((unhide B).trans (m.mono (unhide B).size))
    clear m
    rw [(unhide P), ← unhide F]
    go_wp2_with fail
    refine (next_any _ ahead.size _ (unhide XL).1 (unhide XL).2.1 ((unhide HT).below (unhide B))).mono ?_
    rintro e w3 ⟨rfl, m⟩
    replace B := hide ((unhide B).trans (m.mono (unhide B).size))
    clear m
    rw [(unhide XL).2.2, body_text]
    go_wp2_with fail
    refine (unhide N1 _ ((unhide HT).below (unhide B))).mono ?_
    rintro e w6 ⟨rfl, m⟩
    replace B := hide ((unhide B).trans (m.mono (unhide B).size))
    clear m
    go_wp2_with fail
    refine (put_any t _ (unhide OK_).1 ((unhide HT).below (unhide B))).mono ?_
    rintro e w7 ⟨rfl, m⟩
    replace B := hide ((unhide B).trans (m.mono (unhide B).size))
    clear m
    rw [(unhide OK_).2, ← unhide HG]
    go_wp2_with fail
    go_ret
    exact ⟨rfl, unhide B⟩

theorem back_far (body ahead behind b : ByteArray) (at_ cut : Int) (w : World) (hT : Tab w) (h : (16384 : Int) < (body.size : Int) ∨ (16384 : Int) < (ahead.size : Int) ∨ (16384 : Int) < (behind.size : Int) ∨ (16384 : Int) < (b.size : Int)) :
    Calls Tryd.prog 5 #[.string body, .string ahead, .string behind, .string b, .int .i64 at_, .int .i64 cut] w fun e w' => e = .returned (.bool true) ∧ Below w.heap.size w w' := by
  have HT : Hid (Tab w) := hide hT
  clear hT
  by_cases h0 : (16384 : Int) < (body.size : Int)
  · have d0 : decide ((16384 : Int) < (body.size : Int)) = true := decide_eq_true h0
    go_enter Tryd.func5, Tryd.ntmps5
    go_wp2_with fail
    refine (awake_any _ (unhide HT)).mono ?_
    rintro e w1 ⟨rfl, m⟩
    have B := hide m
    clear m
    go_wp2_with fail
    go_ret
    exact ⟨rfl, unhide B⟩
  · have d0 : decide ((16384 : Int) < (body.size : Int)) = false := decide_eq_false h0
    by_cases h1 : (16384 : Int) < (ahead.size : Int)
    · have d1 : decide ((16384 : Int) < (ahead.size : Int)) = true := decide_eq_true h1
      go_enter Tryd.func5, Tryd.ntmps5
      go_wp2_with fail
      refine (awake_any _ (unhide HT)).mono ?_
      rintro e w1 ⟨rfl, m⟩
      have B := hide m
      clear m
      go_wp2_with fail
      go_ret
      exact ⟨rfl, unhide B⟩
    · have d1 : decide ((16384 : Int) < (ahead.size : Int)) = false := decide_eq_false h1
      by_cases h2 : (16384 : Int) < (behind.size : Int)
      · have d2 : decide ((16384 : Int) < (behind.size : Int)) = true := decide_eq_true h2
        go_enter Tryd.func5, Tryd.ntmps5
        go_wp2_with fail
        refine (awake_any _ (unhide HT)).mono ?_
        rintro e w1 ⟨rfl, m⟩
        have B := hide m
        clear m
        go_wp2_with fail
        go_ret
        exact ⟨rfl, unhide B⟩
      · have d2 : decide ((16384 : Int) < (behind.size : Int)) = false := decide_eq_false h2
        have h3 : (16384 : Int) < (b.size : Int) := by omega
        have d3 : decide ((16384 : Int) < (b.size : Int)) = true := decide_eq_true h3
        go_enter Tryd.func5, Tryd.ntmps5
        go_wp2_with fail
        refine (awake_any _ (unhide HT)).mono ?_
        rintro e w1 ⟨rfl, m⟩
        have B := hide m
        clear m
        go_wp2_with fail
        go_ret
        exact ⟨rfl, unhide B⟩
theorem back_any (body ahead behind b : ByteArray) (at_ cut : Int) (w : World) (_h1 : body.size ≤ maxLen) (_h2 : ahead.size ≤ maxLen) (_h3 : behind.size ≤ maxLen) (hb : b.size ≤ maxLen) (_h4 : -9223372036854775808 ≤ at_ ∧ at_ ≤ 9223372036854775807) (_h5 : -9223372036854775808 ≤ cut ∧ cut ≤ 9223372036854775807) (hT : Tab w) :
    Calls Tryd.prog 5 #[.string body, .string ahead, .string behind, .string b, .int .i64 at_, .int .i64 cut] w fun e w' => e = .returned (.bool true) ∧ Below w.heap.size w w' := by
  by_cases h : (16384 : Int) < (body.size : Int) ∨ (16384 : Int) < (ahead.size : Int) ∨ (16384 : Int) < (behind.size : Int) ∨ (16384 : Int) < (b.size : Int)
  · exact back_far body ahead behind b at_ cut w hT h
  · have g1 : ¬ (16384 : Int) < (body.size : Int) := by omega
    have g2 : ¬ (16384 : Int) < (ahead.size : Int) := by omega
    have g3 : ¬ (16384 : Int) < (behind.size : Int) := by omega
    have g4 : ¬ (16384 : Int) < (b.size : Int) := by omega
    by_cases h3 : at_ < 0 ∨ (b.size : Int) < at_
    · exact back_bad body ahead behind b at_ cut w hT g1 g2 g3 g4 1 rfl (fun w' _ => next_out b at_ w' h3)
    · obtain ⟨k, rfl⟩ : ∃ k : Nat, at_ = (k : Int) := ⟨at_.toNat, by omega⟩
      by_cases hf : (nextOf (b.data.toList.drop k)).2.2 = 0
      · obtain ⟨x, n, e⟩ : ∃ x n, nextOf (b.data.toList.drop k) = (x, n, 0) := ⟨_, _, Prod.ext rfl (Prod.ext rfl hf)⟩
        obtain ⟨hx, hn, hl, htk⟩ := frame_again e
        have e1 : nextAt b.data.toList k = (x, k + n, 0) := by unfold nextAt; rw [e]; rfl
        have hN := fun w' (t : Tab w') => next_any b k w' hb (by omega) t
        rw [e1] at hN
        rw [frameOf_length] at hn
        rw [List.length_drop, text_len] at hl
        have hxs : (⟨x.toArray⟩ : ByteArray).size = x.length := rfl
        refine back_good body ahead behind b k cut w hT g1 g2 g3 g4 ⟨x.toArray⟩ k (k + n) rfl (by omega) (by omega) (by omega) ?_ hN
        rw [cut_list, show k + n - k = n by omega, htk]
      · have hft := (next_fault (b.data.toList.drop k)).resolve_left hf
        have e1 : nextAt b.data.toList k = ([], 0, (nextOf (b.data.toList.drop k)).2.2) := by unfold nextAt; rw [hft.1, if_neg hf]
        have hN := fun w' (t : Tab w') => next_any b k w' hb (by omega) t
        rw [e1] at hN
        exact back_bad body ahead behind b k cut w hT g1 g2 g3 g4 _ (by simpa using hf) hN
end Go.Proofs.YthklhnmageekgaaDoor

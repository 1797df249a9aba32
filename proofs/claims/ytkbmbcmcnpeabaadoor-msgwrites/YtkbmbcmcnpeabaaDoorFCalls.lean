/- What the program's Put, Next and Whole answer: the frame, and what stands at a place, by the plain functions. Condition: the table's sixteen cells hold its numbers. -/
import Derived.Test.YtkbmbcmcnpeabaaDoorFParts
namespace Go.Proofs.YtkbmbcmcnpeabaaDoor.Fm
open Crc Go.RowKit

theorem rest_list (s : ByteArray) (k : Nat) : (s.extract k s.size).data.toList = s.data.toList.drop k := by
  rw [cut_list, List.take_of_length_le (by simp)]
theorem next_parts (l : List UInt8) : nextOf l = if (lenOf l).2 ≠ 0 then ([], 0, (lenOf l).2) else if (bodOf (l.drop 8) (lenOf l).1).2 ≠ 0 then ([], 0, (bodOf (l.drop 8) (lenOf l).1).2) else ((bodOf (l.drop 8) (lenOf l).1).1, (lenOf l).1 + 12, 0) := by
  unfold nextOf lenOf
  by_cases h1 : l.length < 8
  · simp [h1]
  · rw [if_neg h1, if_neg h1]
    by_cases h2 : four (crc (l.take 4)) ≠ (l.drop 4).take 4
    · rw [if_pos h2, if_pos h2]; simp
    · rw [if_neg h2, if_neg h2]
      by_cases h3 : 16384 < le4 (l.take 4)
      · rw [if_pos h3, if_pos h3]; simp
      · rw [if_neg h3, if_neg h3]
        simp only [ne_eq, not_true_eq_false, if_false]
        generalize le4 (l.take 4) = n at *
        have hl : (l.drop 8).length = l.length - 8 := List.length_drop
        by_cases h4 : l.length < n + 12
        · have e : bodOf (l.drop 8) n = ([], 7) := if_pos (by omega)
          rw [if_pos h4, e]; simp
        · have h4' : ¬ (l.drop 8).length < n + 4 := by omega
          rw [if_neg h4]
          by_cases h5 : four (crc ((l.drop 8).take n)) = (l.drop (8 + n)).take 4
          · have e : bodOf (l.drop 8) n = ((l.drop 8).take n, 0) := by
              unfold bodOf
              rw [if_neg h4', List.drop_drop, if_neg (fun h => h h5)]
            rw [if_neg (fun h => h h5), e]; simp
          · have e : bodOf (l.drop 8) n = ([], 9) := by
              unfold bodOf
              rw [if_neg h4', List.drop_drop, if_pos h5]
            rw [if_pos h5, e]; simp
theorem lenOf_le (l : List UInt8) : (lenOf l).1 ≤ 16384 := by
  unfold lenOf
  repeat' split
  all_goals simp
  omega
theorem lenOf_ok {l : List UInt8} (h : (lenOf l).2 = 0) : 8 ≤ l.length := by
  unfold lenOf at h
  by_cases h1 : l.length < 8
  · rw [if_pos h1] at h; simp at h
  · omega
theorem bodOf_ok {l : List UInt8} {n : Nat} (h : (bodOf l n).2 = 0) : n + 4 ≤ l.length := by
  unfold bodOf at h
  by_cases h1 : l.length < n + 4
  · rw [if_pos h1] at h; simp at h
  · omega
/-- What Next tells at a place: the body, the place behind it, an error. -/
def nextAt (l : List UInt8) (k : Nat) : List UInt8 × Nat × Nat := ((nextOf (l.drop k)).1, if (nextOf (l.drop k)).2.2 = 0 then k + (nextOf (l.drop k)).2.1 else 0, (nextOf (l.drop k)).2.2)

set_option maxHeartbeats 400000 in
theorem next_out (s : ByteArray) (at_ : Int) (w : World) (ho : at_ < 0 ∨ (s.size : Int) < at_) :
    Calls Tryd.prog 66 #[.string s, .int .i64 at_] w fun e w' => e = .returned (.tuple #[.string ⟨#[]⟩, .int .i64 0, .int .i64 1]) ∧ Below w.heap.size w w' := by
  by_cases h0 : at_ < 0
  · have d0 : decide (at_ < 0) = true := decide_eq_true h0
    go_enter Tryd.func66, Tryd.ntmps66
    go_wp2_with fail
    go_ret3
    exact ⟨rfl, Below.refl _ _⟩
  · have h1 : (s.size : Int) < at_ := by omega
    have d0 : decide (at_ < 0) = false := decide_eq_false h0
    have d1 : decide ((s.size : Int) < at_) = true := decide_eq_true h1
    go_enter Tryd.func66, Tryd.ntmps66
    go_wp2_with fail
    go_ret3
    exact ⟨rfl, Below.refl _ _⟩

set_option maxHeartbeats 400000 in
theorem next_any (s : ByteArray) (k : Nat) (w : World) (hs : s.size ≤ maxLen) (hk : k ≤ s.size) (hT : Tab w) :
    Calls Tryd.prog 66 #[.string s, .int .i64 (k : Int)] w fun e w' => e = .returned (.tuple #[.string ⟨(nextAt s.data.toList k).1.toArray⟩, .int .i64 (((nextAt s.data.toList k).2.1 : Nat) : Int), .int .i64 (((nextAt s.data.toList k).2.2 : Nat) : Int)]) ∧ Below w.heap.size w w' := by
  have HT : Hid (Tab w) := hide hT
  have HS := hide hs
  clear hT
  unfold maxLen at hs
  have h0 : ¬ (k : Int) < 0 := by omega
  have h1 : ¬ (s.size : Int) < (k : Int) := by omega
  have h1' : (k : Int) ≤ (s.size : Int) := by omega
  have d0 : decide ((k : Int) < 0) = false := decide_eq_false h0
  have d1 : decide ((s.size : Int) < (k : Int)) = false := decide_eq_false h1
  have hrest := rest_list s k
  have hl : (s.data.toList.drop k).length = s.size - k := by rw [List.length_drop, text_len]
  go_enter Tryd.func66, Tryd.ntmps66
  go_wp2_with fail
  refine (lengthOf_any _ _ (cut_max _ _ _ (unhide HS)) (unhide HT)).mono ?_
  rintro e w1 ⟨rfl, m⟩
  have B := hide m
  clear m
  rw [hrest]
  generalize hL : s.data.toList.drop k = l at *
  obtain ⟨n, hn⟩ : ∃ n, n = (lenOf l).1 := ⟨_, rfl⟩
  obtain ⟨f, hf⟩ : ∃ f, f = (lenOf l).2 := ⟨_, rfl⟩
  have hn2 : n ≤ 16384 := by rw [hn]; exact lenOf_le l
  by_cases h8 : f = 0
  · subst h8
    have h8l : 8 ≤ l.length := lenOf_ok hf.symm
    have hk8 : (k : Int) + 8 ≤ (s.size : Int) := by omega
    have hsum : IntKind.i64.wrap ((k : Int) + 8) = (k : Int) + 8 := by rw [IntKind.wrap_i64]; omega
    have hto : ((k : Int) + 8).toNat = k + 8 := by omega
    rw [← hn, ← hf]
    have hrest8 := rest_list s (k + 8)
    have hL8 : s.data.toList.drop (k + 8) = l.drop 8 := by rw [← hL, List.drop_drop]
    rw [hL8] at hrest8
    have Hx := hide (And.intro hn (And.intro hf (And.intro hL hL8)))
    clear hn hf hL hL8 hrest
    go_wp2_with fail
    refine (bodyOf_any _ n _ (cut_max _ _ _ (unhide HS)) hn2 ((unhide HT).below (unhide B))).mono ?_
    rintro e w2 ⟨rfl, m⟩
    replace B := hide ((unhide B).trans (m.mono (unhide B).size))
    clear m
    rw [hrest8]
    obtain ⟨b, hb⟩ : ∃ b, b = (bodOf (l.drop 8) n).1 := ⟨_, rfl⟩
    obtain ⟨g, hg⟩ : ∃ g, g = (bodOf (l.drop 8) n).2 := ⟨_, rfl⟩
    rw [← hb, ← hg]
    by_cases h0g : g = 0
    · subst h0g
      have hbl := bodOf_ok hg.symm
      rw [List.length_drop] at hbl
      have e0 : nextOf l = (b, n + 12, 0) := by
        rw [next_parts, ← (unhide Hx).2.1, ← (unhide Hx).1, ← hg, ← hb]; simp
      have e1 : nextAt s.data.toList k = (b, k + (n + 12), 0) := by
        unfold nextAt
        rw [(unhide Hx).2.2.1, e0]; simp
      have E1 := hide e1
      clear e1 e0
      have s2 : IntKind.i64.wrap ((k : Int) + 8 + (n : Int)) = (k : Int) + 8 + (n : Int) := by rw [IntKind.wrap_i64]; omega
      have s3 : IntKind.i64.wrap ((k : Int) + 8 + (n : Int) + 4) = ((k + (n + 12) : Nat) : Int) := by rw [IntKind.wrap_i64]; omega
      have s4 : (k : Int) + 8 + (n : Int) + 4 = ((k + (n + 12) : Nat) : Int) := by omega
      clear hb hg
      go_wp2_with fail
      go_ret3
      rw [unhide E1]
      exact ⟨rfl, unhide B⟩
    · have e0 : nextOf l = ([], 0, g) := by
        rw [next_parts, ← (unhide Hx).2.1, ← (unhide Hx).1, ← hg]; simp [h0g]
      have e1 : nextAt s.data.toList k = ([], 0, g) := by
        unfold nextAt
        rw [(unhide Hx).2.2.1, e0]; simp [h0g]
      have E1 := hide e1
      clear e1 e0
      have hne : (((g : Nat) : Int) != 0) = true := by simp; omega
      clear hb hg
      go_wp2_with fail
      go_ret3
      rw [unhide E1]
      exact ⟨rfl, unhide B⟩
  · have e0 : nextOf l = ([], 0, f) := by
      rw [next_parts, ← hf]; simp [h8]
    have e1 : nextAt s.data.toList k = ([], 0, f) := by
      unfold nextAt
      rw [hL, e0]; simp [h8]
    rw [← hn, ← hf]
    have E1 := hide e1
    clear e1 e0
    have hne : (((f : Nat) : Int) != 0) = true := by simp; omega
    clear hn hf
    go_wp2_with fail
    go_ret3
    rw [unhide E1]
    exact ⟨rfl, unhide B⟩

theorem whole_any (s : ByteArray) (w : World) (hs : s.size ≤ maxLen) (hT : Tab w) :
    Calls Tryd.prog 47 #[.string s] w fun e w' => e = .returned (.tuple #[.string ⟨(wholeOf s.data.toList).1.toArray⟩, .int .i64 (((wholeOf s.data.toList).2 : Nat) : Int)]) ∧ Below w.heap.size w w' := by
  have HT : Hid (Tab w) := hide hT
  clear hT
  obtain ⟨b, hb⟩ : ∃ b, b = (nextOf s.data.toList).1 := ⟨_, rfl⟩
  obtain ⟨k, hk⟩ : ∃ k, k = (nextOf s.data.toList).2.1 := ⟨_, rfl⟩
  obtain ⟨f, hf⟩ : ∃ f, f = (nextOf s.data.toList).2.2 := ⟨_, rfl⟩
  have e0 : nextOf s.data.toList = (b, k, f) := by rw [hb, hk, hf]
  have hz : (((0 : Nat)) : Int) = 0 := rfl
  have E := hide e0
  clear hb hk hf
  by_cases h0 : f = 0
  · subst h0
    have hle := (frame_again e0).2.2.1
    rw [text_len] at hle
    have e1 : nextAt s.data.toList 0 = (b, k, 0) := by
      unfold nextAt
      rw [List.drop_zero, e0]; simp
    clear e0
    by_cases h1 : (k : Int) < (s.size : Int)
    · go_enter Tryd.func47, Tryd.ntmps47
      go_wp2_with fail
      refine (next_any s 0 _ hs (by omega) (unhide HT)).mono ?_
      rintro e w1 ⟨rfl, m⟩
      have B := hide m
      clear m
      rw [e1]
      clear e1
      go_wp2_with fail
      go_ret2
      have e2 : wholeOf s.data.toList = ([], 8) := by
        unfold wholeOf
        rw [unhide E, if_neg (by simp), if_pos (by rw [text_len]; simp only []; omega)]
      rw [e2]
      exact ⟨rfl, unhide B⟩
    · go_enter Tryd.func47, Tryd.ntmps47
      go_wp2_with fail
      refine (next_any s 0 _ hs (by omega) (unhide HT)).mono ?_
      rintro e w1 ⟨rfl, m⟩
      have B := hide m
      clear m
      rw [e1]
      clear e1
      go_wp2_with fail
      go_ret2
      have e2 : wholeOf s.data.toList = (b, 0) := by
        unfold wholeOf
        rw [unhide E, if_neg (by simp), if_neg (by rw [text_len]; simp only []; omega)]
      rw [e2]
      exact ⟨rfl, unhide B⟩
  · have hne : (((f : Nat) : Int) != 0) = true := by simp; omega
    have e1 : nextAt s.data.toList 0 = (b, 0, f) := by
      unfold nextAt
      rw [List.drop_zero, e0]; simp [h0]
    clear e0
    go_enter Tryd.func47, Tryd.ntmps47
    go_wp2_with fail
    refine (next_any s 0 _ hs (by omega) (unhide HT)).mono ?_
    rintro e w1 ⟨rfl, m⟩
    have B := hide m
    clear m
    rw [e1]
    clear e1
    go_wp2_with fail
    go_ret2
    have e2 : wholeOf s.data.toList = ([], f) := by
      unfold wholeOf
      rw [unhide E, if_pos (by simpa using h0)]
    rw [e2]
    exact ⟨rfl, unhide B⟩

theorem written_nat (n : Nat) (hn : n < 4294967296) (w : World) :
    Calls Tryd.prog 58 #[.int .u32 (n : Int)] w fun e w' => e = .returned (.string ⟨(headOf n).toArray⟩) ∧ Below w.heap.size w w' := by
  have h := written_any (BitVec.ofNat 32 n) w
  rw [show (((BitVec.ofNat 32 n).toNat : Nat) : Int) = (n : Int) by rw [BitVec.toNat_ofNat]; omega] at h
  exact h
theorem ref_four_nat (n : Nat) (hn : n < 4294967296) (w : World) :
    Calls Tryd.prog 33 #[.int .u32 (n : Int)] w fun e w' => e = .returned (.string ⟨(headOf n).toArray⟩) ∧ Below w.heap.size w w' := by
  have h := ref_four_any (BitVec.ofNat 32 n) w
  rw [show (((BitVec.ofNat 32 n).toNat : Nat) : Int) = (n : Int) by rw [BitVec.toNat_ofNat]; omega] at h
  exact h
theorem frame_text {s h h2 h3 : ByteArray} (H : h = ⟨(headOf s.size).toArray⟩) (H2 : h2 = ⟨(four (crc h.data.toList)).toArray⟩) (H3 : h3 = ⟨(four (crc s.data.toList)).toArray⟩) : (⟨(frameOf s.data.toList).toArray⟩ : ByteArray) = h ++ h2 ++ s ++ h3 := by
  apply bytes_ext
  rw [H3, H2, H]
  unfold frameOf
  rw [text_len]
  simp [ByteArray.data_append, List.append_assoc]
/-- A text's frame, or what is wrong. -/
def putOf (l : List UInt8) : List UInt8 × Nat := if 16384 < l.length then ([], 3) else (frameOf l, 0)
theorem put_any (s : ByteArray) (w : World) (hs : s.size ≤ maxLen) (hT : Tab w) :
    Calls Tryd.prog 32 #[.string s] w fun e w' => e = .returned (.tuple #[.string ⟨(putOf s.data.toList).1.toArray⟩, .int .i64 (((putOf s.data.toList).2 : Nat) : Int)]) ∧ Below w.heap.size w w' := by
  have HT : Hid (Tab w) := hide hT
  clear hT
  by_cases hl : (16384 : Int) < (s.size : Int)
  · have e1 : putOf s.data.toList = ([], 3) := if_pos (by rw [text_len]; omega)
    rw [e1]
    go_enter Tryd.func32, Tryd.ntmps32
    go_wp2_with fail
    go_ret2
    exact ⟨rfl, Below.refl _ _⟩
  · have e1 : putOf s.data.toList = (frameOf s.data.toList, 0) := if_neg (by rw [text_len]; omega)
    have E1 := hide e1
    clear e1
    have hm : (s.size : Int) % 4294967296 = (s.size : Int) := by omega
    go_enter Tryd.func32, Tryd.ntmps32
    go_wp2_with fail
    refine (written_nat s.size (by omega) _).mono ?_
    rintro e w1 ⟨rfl, m⟩
    have B := hide m
    clear m
    obtain ⟨h, hh⟩ : ∃ h : ByteArray, h = ⟨(headOf s.size).toArray⟩ := ⟨_, rfl⟩
    have hs4 : h.size = 4 := by rw [hh]; rfl
    rw [← hh]
    have H := hide hh
    clear hh
    go_wp2_with fail
    refine (sumOf_any _ _ (by unfold maxLen; omega) ((unhide HT).below (unhide B))).mono ?_
    rintro e w2 ⟨rfl, m⟩
    replace B := hide ((unhide B).trans (m.mono (unhide B).size))
    clear m
    obtain ⟨h2, hh⟩ : ∃ h2 : ByteArray, h2 = ⟨(four (crc h.data.toList)).toArray⟩ := ⟨_, rfl⟩
    have hs5 : h2.size = 4 := by rw [hh]; rfl
    rw [← hh]
    have H2 := hide hh
    clear hh
    go_wp2_with fail
    refine (sumOf_any _ _ hs ((unhide HT).below (unhide B))).mono ?_
    rintro e w3 ⟨rfl, m⟩
    replace B := hide ((unhide B).trans (m.mono (unhide B).size))
    clear m
    obtain ⟨h3, hh⟩ : ∃ h3 : ByteArray, h3 = ⟨(four (crc s.data.toList)).toArray⟩ := ⟨_, rfl⟩
    have hs6 : h3.size = 4 := by rw [hh]; rfl
    rw [← hh]
    have H3 := hide hh
    clear hh
    go_wp2_with fail
    go_ret2
    rw [unhide E1, frame_text (unhide H) (unhide H2) (unhide H3)]
    exact ⟨rfl, unhide B⟩

theorem whole_back (b : List UInt8) (h : b.length ≤ 16384) : wholeOf (frameOf b) = (b, 0) := by
  have e := frame_back b [] h
  rw [List.append_nil] at e
  unfold wholeOf
  rw [e, if_neg (by simp), if_neg (by rw [frameOf_length]; simp)]
end Go.Proofs.YtkbmbcmcnpeabaaDoor.Fm

/- What the document's own Put and Next answer: the frame, and what stands at a place, by the plain functions. No conditions. -/
import Derived.Test.YthklhnmageekgaaDoorCalls
namespace Go.Proofs.YthklhnmageekgaaDoor
open Crc Go.RowKit

theorem ref_put_any (s : ByteArray) (w : World) (hs : s.size ≤ maxLen) :
    Calls Tryd.prog 14 #[.string s] w fun e w' => e = .returned (.tuple #[.string ⟨(putOf s.data.toList).1.toArray⟩, .int .i64 (((putOf s.data.toList).2 : Nat) : Int)]) ∧ Below w.heap.size w w' := by
  by_cases hl : (16384 : Int) < (s.size : Int)
  · have e1 : putOf s.data.toList = ([], 3) := if_pos (by rw [text_len]; omega)
    rw [e1]
    go_enter Tryd.func14, Tryd.ntmps14
    go_wp2_with fail
    go_ret2
    exact ⟨rfl, Below.refl _ _⟩
  · have e1 : putOf s.data.toList = (frameOf s.data.toList, 0) := if_neg (by rw [text_len]; omega)
    have E1 := hide e1
    clear e1
    have hm : (s.size : Int) % 4294967296 = (s.size : Int) := by omega
    go_enter Tryd.func14, Tryd.ntmps14
    go_wp2_with fail
    refine (ref_four_nat s.size (by omega) _).mono ?_
    rintro e w1 ⟨rfl, m⟩
    have B := hide m
    clear m
    obtain ⟨h, hh⟩ : ∃ h : ByteArray, h = ⟨(headOf s.size).toArray⟩ := ⟨_, rfl⟩
    have hs4 : h.size = 4 := by rw [hh]; rfl
    rw [← hh]
    have H := hide hh
    clear hh
    go_wp2_with fail
    refine (ref_crc_any _ _ (by unfold maxLen; omega)).mono ?_
    rintro e w2 ⟨rfl, rfl⟩
    go_wp2_with fail
    refine (ref_four_any _ _).mono ?_
    rintro e w2 ⟨rfl, m⟩
    replace B := hide ((unhide B).trans (m.mono (unhide B).size))
    clear m
    obtain ⟨h2, hh⟩ : ∃ h2 : ByteArray, h2 = ⟨(four (crc h.data.toList)).toArray⟩ := ⟨_, rfl⟩
    have hs5 : h2.size = 4 := by rw [hh]; rfl
    rw [← hh]
    have H2 := hide hh
    clear hh
    go_wp2_with fail
    refine (ref_crc_any _ _ hs).mono ?_
    rintro e w3 ⟨rfl, rfl⟩
    go_wp2_with fail
    refine (ref_four_any _ _).mono ?_
    rintro e w3 ⟨rfl, m⟩
    replace B := hide ((unhide B).trans (m.mono (unhide B).size))
    clear m
    obtain ⟨h3, hh⟩ : ∃ h3 : ByteArray, h3 = ⟨(four (crc s.data.toList)).toArray⟩ := ⟨_, rfl⟩
    have hs6 : h3.size = 4 := by rw [hh]; rfl
    rw [← hh]
    have H3 := hide hh
    clear hh
    go_wp2_with fail
    go_ret2
    rw [unhide E1, frame_text (unhide H) (unhide H2) (unhide H3)]
    exact ⟨rfl, unhide B⟩

theorem ref_next_out (s : ByteArray) (at_ : Int) (w : World) (ho : at_ < 0 ∨ (s.size : Int) < at_) :
    Calls Tryd.prog 15 #[.string s, .int .i64 at_] w fun e w' => e = .returned (.tuple #[.string ⟨#[]⟩, .int .i64 0, .int .i64 1]) ∧ Below w.heap.size w w' := by
  by_cases h0 : at_ < 0
  · have d0 : decide (at_ < 0) = true := decide_eq_true h0
    go_enter Tryd.func15, Tryd.ntmps15
    go_wp2_with fail
    go_ret3
    exact ⟨rfl, Below.refl _ _⟩
  · have h1 : (s.size : Int) < at_ := by omega
    have d0 : decide (at_ < 0) = false := decide_eq_false h0
    have d1 : decide ((s.size : Int) < at_) = true := decide_eq_true h1
    go_enter Tryd.func15, Tryd.ntmps15
    go_wp2_with fail
    go_ret3
    exact ⟨rfl, Below.refl _ _⟩

theorem same_ne {a : List UInt8} {b : ByteArray} (h : (!a == b.toList) = true) : a ≠ b.data.toList := by
  rw [ByteArray.toList_eq] at h
  simpa using h
theorem same_eq {a : List UInt8} {b : ByteArray} (h : (!a == b.toList) = false) : a = b.data.toList := by
  rw [ByteArray.toList_eq] at h
  simpa using h

theorem wraps4 (a b c d : UInt8) : wrap64 (wrap64 (wrap64 (wrap64 (a.toNat : Int) + wrap64 (256 * wrap64 (b.toNat : Int))) + wrap64 (65536 * wrap64 (c.toNat : Int))) + wrap64 (16777216 * wrap64 (d.toNat : Int)))
    = ((a.toNat + 256 * b.toNat + 65536 * c.toNat + 16777216 * d.toNat : Nat) : Int) := by
  have ha := a.toNat_lt
  have hb := b.toNat_lt
  have hc := c.toNat_lt
  have hd := d.toNat_lt
  have key : ∀ x : Int, 0 ≤ x → x < 9223372036854775808 → wrap64 x = x := fun x h0 h1 => by unfold wrap64; omega
  rw [key (a.toNat : Int) (by omega) (by omega), key (b.toNat : Int) (by omega) (by omega), key (c.toNat : Int) (by omega) (by omega), key (d.toNat : Int) (by omega) (by omega),
    key (256 * (b.toNat : Int)) (by omega) (by omega), key (65536 * (c.toNat : Int)) (by omega) (by omega), key (16777216 * (d.toNat : Int)) (by omega) (by omega),
    key ((a.toNat : Int) + 256 * (b.toNat : Int)) (by omega) (by omega), key ((a.toNat : Int) + 256 * (b.toNat : Int) + 65536 * (c.toNat : Int)) (by omega) (by omega), key _ (by omega) (by omega)]
  omega

set_option maxHeartbeats 1000000 in
theorem ref_next_any (s : ByteArray) (k : Nat) (w : World) (hs : s.size ≤ maxLen) (hk : k ≤ s.size) :
    Calls Tryd.prog 15 #[.string s, .int .i64 (k : Int)] w fun e w' => e = .returned (.tuple #[.string ⟨(nextAt s.data.toList k).1.toArray⟩, .int .i64 (((nextAt s.data.toList k).2.1 : Nat) : Int), .int .i64 (((nextAt s.data.toList k).2.2 : Nat) : Int)]) ∧ Below w.heap.size w w' := by
  have HS := hide hs
  unfold maxLen at hs
  have h0 : ¬ (k : Int) < 0 := by omega
  have h1 : ¬ (s.size : Int) < (k : Int) := by omega
  have h1' : (k : Int) ≤ (s.size : Int) := by omega
  have d0 : decide ((k : Int) < 0) = false := decide_eq_false h0
  have d1 : decide ((s.size : Int) < (k : Int)) = false := decide_eq_false h1
  obtain ⟨t, ht⟩ : ∃ t : ByteArray, s.extract k s.size = t := ⟨_, rfl⟩
  have hrest : t.data.toList = s.data.toList.drop k := by rw [← ht]; exact rest_list s k
  have htl : t.size = s.size - k := by rw [← text_len, hrest, List.length_drop, text_len]
  have e1 : nextAt s.data.toList k = ((nextOf t.data.toList).1, if (nextOf t.data.toList).2.2 = 0 then k + (nextOf t.data.toList).2.1 else 0, (nextOf t.data.toList).2.2) := by rw [hrest]; rfl
  have E1 := hide e1
  have Htl := hide htl
  clear e1 hrest htl
  by_cases h8 : (t.size : Int) < 8
  · go_enter Tryd.func15, Tryd.ntmps15
    go_wp2_with fail
    go_ret3
    have e : nextOf t.data.toList = ([], 0, 7) := if_pos (by rw [text_len]; omega)
    rw [unhide E1, e]
    exact ⟨rfl, Below.refl _ _⟩
  · have l4' : (4 : Int) ≤ (t.size : Int) := by omega
    have l8' : (8 : Int) ≤ (t.size : Int) := by omega
    have hts : t.size ≤ maxLen := by have := unhide Htl; unfold maxLen; omega
    obtain ⟨St, hst⟩ : ∃ St : World → Prop, St = fun w' => Below w.heap.size w w' := ⟨_, rfl⟩
    have st : St w.drew := by rw [hst]; exact (Below.refl _ _).drew
    have sC := hide (show ∀ (u : ByteArray), u.size ≤ maxLen → ∀ p : SW St, Calls Tryd.prog 12 #[.string u] p.w fun e w'' => e = .returned (.int .u32 (((crc u.data.toList).toNat : Nat) : Int)) ∧ ∃ q : SW St, w'' = q.w from fun u hu ⟨w', h⟩ =>
      (ref_crc_any u w' hu).mono fun e w'' ⟨he, hw⟩ => ⟨he, ⟨w', h⟩, hw⟩)
    have sF := hide (show ∀ (c : BitVec 32) (p : SW St), Calls Tryd.prog 21 #[.int .u32 (c.toNat : Int)] p.w fun e w'' => e = .returned (.string ⟨(four c).toArray⟩) ∧ ∃ q : SW St, w'' = q.w from fun c ⟨w', h⟩ => by
      have h' : Below w.heap.size w w' := by rw [hst] at h; exact h
      exact (ref_four_any c w').mono fun e w'' ⟨he, m⟩ => ⟨he, ⟨w'', by rw [hst]; exact h'.trans (m.mono h'.size)⟩, rfl⟩)
    have Hst := hide hst
    clear hst
    have HT := hide hts
    clear hts
    go_enter Tryd.func15, Tryd.ntmps15
    go_wp2_with fail
    have ne : Nonempty (SW St) := ⟨⟨_, st⟩⟩
    refine wp_region_sw (St := St) (by kernel_rfl) (by kernel_rfl) st ?_
    repeat (go_big_quiet_step (first | (go_at_call 12; exact unhide sC _ (cut_max _ _ _ (unhide HT)) _) | (go_at_call 21; exact unhide sF _ _)))
    refine wpQuiet_nil ?_
    rintro w9 ⟨⟨_, st9⟩, rfl⟩
    have B := hide (show Below w.heap.size w w9 by rw [unhide Hst] at st9; exact st9)
    clear st9
    have q0 : 0 < t.size := by omega
    have q1 : (1 : Int) < (t.size : Int) := by omega
    have q2 : (2 : Int) < (t.size : Int) := by omega
    have q3 : (3 : Int) < (t.size : Int) := by omega
    go_wp2_with fail
    · go_ret3
      have hx := same_ne ‹(!four (crc (List.take 4 t.data.toList)) == (t.extract 4 8).toList) = true›
      have e : nextOf t.data.toList = ([], 0, 9) := by
        rw [cut_list] at hx
        unfold nextOf
        rw [if_neg (by rw [text_len]; omega), if_pos hx]
      rw [unhide E1, e]
      exact ⟨rfl, unhide B⟩
    · have hx := hide (same_eq ‹(!four (crc (List.take 4 t.data.toList)) == (t.extract 4 8).toList) = false›)
      go_quiet (fail)
      rw [wraps4, ← le4_at t (by omega)]
      have hb4 := le4_lt (t.data.toList.take 4)
      generalize hn : le4 (t.data.toList.take 4) = n at *
      have Hn := hide hn
      clear hn
      replace B := hide (below_drewN (unhide B) nq)
      by_cases hbig : (16384 : Int) < (n : Int)
      · go_wp2_with fail
        go_ret3
        have e : nextOf t.data.toList = ([], 0, 3) := by
          have hx' := unhide hx
          rw [cut_list] at hx'
          unfold nextOf
          rw [if_neg (by rw [text_len]; omega), if_neg (fun h => h hx'), unhide Hn, if_pos (by omega)]
        rw [unhide E1, e]
        exact ⟨rfl, unhide B⟩
      · by_cases hsh : (t.size : Int) < (n : Int) + 12
        · go_wp2_with fail
          go_ret3
          have e : nextOf t.data.toList = ([], 0, 7) := by
            have hx' := unhide hx
            rw [cut_list] at hx'
            unfold nextOf
            rw [if_neg (by rw [text_len]; omega), if_neg (fun h => h hx'), unhide Hn, if_neg (by omega), text_len, if_pos (by omega)]
          rw [unhide E1, e]
          exact ⟨rfl, unhide B⟩
        · have t8 : ((8 : Int) + (n : Int)).toNat = 8 + n := by omega
          have t12 : ((12 : Int) + (n : Int)).toNat = 12 + n := by omega
          have u8 : (8 : Int) + (n : Int) ≤ (t.size : Int) := by omega
          have u12 : (12 : Int) + (n : Int) ≤ (t.size : Int) := by omega
          have v8 : (8 : Int) ≤ (8 : Int) + (n : Int) := by omega
          have v12 : (8 : Int) + (n : Int) ≤ (12 : Int) + (n : Int) := by omega
          go_wp2_with fail
          have st2 : St (w9.drewN nq).drew := by rw [unhide Hst]; exact (unhide B).drew
          refine wp_region_sw (St := St) (by kernel_rfl) (by kernel_rfl) st2 ?_
          repeat (go_big_quiet_step (first | (go_at_call 12; exact unhide sC _ (cut_max _ _ _ (unhide HT)) _) | (go_at_call 21; exact unhide sF _ _)))
          refine wpQuiet_nil ?_
          rintro w8 ⟨⟨_, st8⟩, rfl⟩
          replace B := hide (show Below w.heap.size w w8 by rw [unhide Hst] at st8; exact st8)
          clear st8
          have hsz := unhide Htl
          have sum1 : wrap64 (wrap64 ((k : Int) + 12) + (n : Int)) = ((k + (n + 12) : Nat) : Int) := by unfold wrap64; omega
          have S1 := hide sum1
          clear sum1
          have Hsz := hide hsz
          clear hsz
          go_wp2_with fail
          · go_ret3
            have hy := same_ne ‹(!four (crc (List.take n (List.drop 8 t.data.toList))) == (t.extract (8 + n) (12 + n)).toList) = true›
            have e : nextOf t.data.toList = ([], 0, 9) := by
              have hx' := unhide hx
              rw [cut_list] at hx' hy
              rw [show 12 + n - (8 + n) = 4 by omega] at hy
              unfold nextOf
              rw [if_neg (by rw [text_len]; omega), if_neg (fun h => h hx'), unhide Hn, if_neg (by omega), text_len, if_neg (by omega), if_pos hy]
            rw [unhide E1, e]
            exact ⟨rfl, unhide B⟩
          · go_ret3
            have hy := same_eq ‹(!four (crc (List.take n (List.drop 8 t.data.toList))) == (t.extract (8 + n) (12 + n)).toList) = false›
            have e : nextOf t.data.toList = ((t.data.toList.drop 8).take n, n + 12, 0) := by
              have hx' := unhide hx
              rw [cut_list] at hx' hy
              rw [show 12 + n - (8 + n) = 4 by omega] at hy
              unfold nextOf
              rw [if_neg (by rw [text_len]; omega), if_neg (fun h => h hx'), unhide Hn, if_neg (by omega), text_len, if_neg (by omega), if_neg (fun h => h hy)]
            have eb : (⟨((t.data.toList.drop 8).take n).toArray⟩ : ByteArray) = t.extract 8 (8 + n) := bytes_ext (by rw [cut_list, show 8 + n - 8 = n by omega])
            rw [unhide E1, e]
            simp only [if_true]
            rw [eb, ← unhide S1]
            exact ⟨rfl, unhide B⟩
end Go.Proofs.YthklhnmageekgaaDoor

/- What FrameReads does, for any two texts and any place: it answers true, and nothing that was there has turned. Condition: the table's sixteen cells hold its numbers. -/
import Derived.Test.YthklhnmageekgaaDoorRef
namespace Go.Proofs.YthklhnmageekgaaDoor
open Crc Go.RowKit

theorem next_zero (l : List UInt8) : nextAt l 0 = ((nextOf l).1, if (nextOf l).2.2 = 0 then (nextOf l).2.1 else 0, (nextOf l).2.2) := by
  unfold nextAt
  rw [List.drop_zero]
  simp

set_option maxRecDepth 100000 in
set_option maxHeartbeats 1000000 in
theorem reads_near (body b : ByteArray) (at_ : Int) (n1 : ByteArray) (n2 n3 : Int) (w : World) (hT : Tab w) (h1 : ¬ (70000 : Int) < (body.size : Int)) (h2 : ¬ (70000 : Int) < (b.size : Int))
    (hN1 : ∀ w', Tab w' → Calls Tryd.prog 11 #[.string b, .int .i64 at_] w' fun e w'' => e = .returned (.tuple #[.string n1, .int .i64 n2, .int .i64 n3]) ∧ Below w'.heap.size w' w'')
    (hN2 : ∀ w', Calls Tryd.prog 15 #[.string b, .int .i64 at_] w' fun e w'' => e = .returned (.tuple #[.string n1, .int .i64 n2, .int .i64 n3]) ∧ Below w'.heap.size w' w'') :
    Calls Tryd.prog 4 #[.string body, .string b, .int .i64 at_] w fun e w' => e = .returned (.bool true) ∧ Below w.heap.size w w' := by
  have HT : Hid (Tab w) := hide hT
  have N1 := hide hN1
  have N2 := hide hN2
  clear hT hN1 hN2
  have d1 : decide ((70000 : Int) < (body.size : Int)) = false := decide_eq_false h1
  have d2 : decide ((70000 : Int) < (b.size : Int)) = false := decide_eq_false h2
  obtain ⟨p, hp⟩ : ∃ p : ByteArray, p = ⟨(putOf body.data.toList).1.toArray⟩ := ⟨_, rfl⟩
  obtain ⟨q, hq⟩ : ∃ q : Int, q = (((putOf body.data.toList).2 : Nat) : Int) := ⟨_, rfl⟩
  have P := hide (And.intro hp hq)
  clear hp hq
  obtain ⟨x, hx⟩ : ∃ x, x = (nextOf b.data.toList).1 := ⟨_, rfl⟩
  obtain ⟨k, hk⟩ : ∃ k, k = (nextOf b.data.toList).2.1 := ⟨_, rfl⟩
  obtain ⟨f, hf⟩ : ∃ f, f = (nextOf b.data.toList).2.2 := ⟨_, rfl⟩
  have e0 : nextOf b.data.toList = (x, k, f) := by rw [hx, hk, hf]
  have hfault := next_fault b.data.toList
  rw [e0] at hfault
  have e1 := next_zero b.data.toList
  rw [e0] at e1
  have e2 : wholeOf b.data.toList = if f ≠ 0 then ([], f) else if k ≠ b.data.toList.length then ([], 8) else (x, 0) := by unfold wholeOf; rw [e0]
  rw [text_len] at e2
  clear e0 hx hk hf
  by_cases h0 : f = 0
  · subst h0
    rw [if_pos rfl] at e1
    rw [if_neg (fun h => h rfl)] at e2
    have X := hide e1
    have hz : (((0 : Nat) : Int) == 0) = true := rfl
    by_cases hkl : k = b.size
    · rw [if_neg (fun h => h hkl)] at e2
      have W := hide e2
      clear e1 e2 hfault
      have dk : (((k : Nat) : Int) != (b.size : Int)) = false := by simp; omega
      have dk' : (((k : Nat) : Int) == (b.size : Int)) = true := by simp; omega
      go_enter Tryd.func4, Tryd.ntmps4
      go_wp2_with fail
      refine (awake_any _ (unhide HT)).mono ?_
      rintro e w1 ⟨rfl, m⟩
      have B := hide m
      clear m
      go_wp2_with fail
      refine (put_any body _ (by unfold maxLen; omega) ((unhide HT).below (unhide B))).mono ?_
      rintro e w2 ⟨rfl, m⟩
      replace B := hide ((unhide B).trans (m.mono (unhide B).size))
      clear m
      rw [← (unhide P).1, ← (unhide P).2]
      go_wp2_with fail
      refine (ref_put_any body _ (by unfold maxLen; omega)).mono ?_
      rintro e w3 ⟨rfl, m⟩
      replace B := hide ((unhide B).trans (m.mono (unhide B).size))
      clear m
      rw [← (unhide P).1, ← (unhide P).2]
      go_wp2_with fail
      refine (unhide N1 _ ((unhide HT).below (unhide B))).mono ?_
      rintro e w4 ⟨rfl, m⟩
      replace B := hide ((unhide B).trans (m.mono (unhide B).size))
      clear m
      go_wp2_with fail
      refine (unhide N2 _).mono ?_
      rintro e w5 ⟨rfl, m⟩
      replace B := hide ((unhide B).trans (m.mono (unhide B).size))
      clear m
      go_wp2_with fail
      refine (whole_any b _ (by unfold maxLen; omega) ((unhide HT).below (unhide B))).mono ?_
      rintro e w6 ⟨rfl, m⟩
      replace B := hide ((unhide B).trans (m.mono (unhide B).size))
      clear m
      rw [unhide W]
      go_wp2_with fail
      refine (ref_next_any b 0 _ (by unfold maxLen; omega) (by omega)).mono ?_
      rintro e w7 ⟨rfl, m⟩
      replace B := hide ((unhide B).trans (m.mono (unhide B).size))
      clear m
      rw [unhide X]
      go_wp2_with fail
      go_ret
      exact ⟨rfl, unhide B⟩
    · rw [if_pos hkl] at e2
      have W := hide e2
      clear e1 e2 hfault
      have dk : (((k : Nat) : Int) != (b.size : Int)) = true := by simp; omega
      have dk' : (((k : Nat) : Int) == (b.size : Int)) = false := by simp; omega
      go_enter Tryd.func4, Tryd.ntmps4
      go_wp2_with fail
      refine (awake_any _ (unhide HT)).mono ?_
      rintro e w1 ⟨rfl, m⟩
      have B := hide m
      clear m
      go_wp2_with fail
      refine (put_any body _ (by unfold maxLen; omega) ((unhide HT).below (unhide B))).mono ?_
      rintro e w2 ⟨rfl, m⟩
      replace B := hide ((unhide B).trans (m.mono (unhide B).size))
      clear m
      rw [← (unhide P).1, ← (unhide P).2]
      go_wp2_with fail
      refine (ref_put_any body _ (by unfold maxLen; omega)).mono ?_
      rintro e w3 ⟨rfl, m⟩
      replace B := hide ((unhide B).trans (m.mono (unhide B).size))
      clear m
      rw [← (unhide P).1, ← (unhide P).2]
      go_wp2_with fail
      refine (unhide N1 _ ((unhide HT).below (unhide B))).mono ?_
      rintro e w4 ⟨rfl, m⟩
      replace B := hide ((unhide B).trans (m.mono (unhide B).size))
      clear m
      go_wp2_with fail
      refine (unhide N2 _).mono ?_
      rintro e w5 ⟨rfl, m⟩
      replace B := hide ((unhide B).trans (m.mono (unhide B).size))
      clear m
      go_wp2_with fail
      refine (whole_any b _ (by unfold maxLen; omega) ((unhide HT).below (unhide B))).mono ?_
      rintro e w6 ⟨rfl, m⟩
      replace B := hide ((unhide B).trans (m.mono (unhide B).size))
      clear m
      rw [unhide W]
      go_wp2_with fail
      refine (ref_next_any b 0 _ (by unfold maxLen; omega) (by omega)).mono ?_
      rintro e w7 ⟨rfl, m⟩
      replace B := hide ((unhide B).trans (m.mono (unhide B).size))
      clear m
      rw [unhide X]
      go_wp2_with fail
      go_ret
      exact ⟨rfl, unhide B⟩
  · rw [if_neg h0] at e1
    rw [if_pos h0] at e2
    have hxe : x = [] := (hfault.resolve_left h0).1
    subst hxe
    have X := hide e1
    have W := hide e2
    clear e1 e2 hfault
    have dk : (((f : Nat) : Int) == 0) = false := by simp; omega
    go_enter Tryd.func4, Tryd.ntmps4
    go_wp2_with fail
    refine (awake_any _ (unhide HT)).mono ?_
    rintro e w1 ⟨rfl, m⟩
    have B := hide m
    clear m
    go_wp2_with fail
    refine (put_any body _ (by unfold maxLen; omega) ((unhide HT).below (unhide B))).mono ?_
    rintro e w2 ⟨rfl, m⟩
    replace B := hide ((unhide B).trans (m.mono (unhide B).size))
    clear m
    rw [← (unhide P).1, ← (unhide P).2]
    go_wp2_with fail
    refine (ref_put_any body _ (by unfold maxLen; omega)).mono ?_
    rintro e w3 ⟨rfl, m⟩
    replace B := hide ((unhide B).trans (m.mono (unhide B).size))
    clear m
    rw [← (unhide P).1, ← (unhide P).2]
    go_wp2_with fail
    refine (unhide N1 _ ((unhide HT).below (unhide B))).mono ?_
    rintro e w4 ⟨rfl, m⟩
    replace B := hide ((unhide B).trans (m.mono (unhide B).size))
    clear m
    go_wp2_with fail
    refine (unhide N2 _).mono ?_
    rintro e w5 ⟨rfl, m⟩
    replace B := hide ((unhide B).trans (m.mono (unhide B).size))
    clear m
    go_wp2_with fail
    refine (whole_any b _ (by unfold maxLen; omega) ((unhide HT).below (unhide B))).mono ?_
    rintro e w6 ⟨rfl, m⟩
    replace B := hide ((unhide B).trans (m.mono (unhide B).size))
    clear m
    rw [unhide W]
    go_wp2_with fail
    refine (ref_next_any b 0 _ (by unfold maxLen; omega) (by omega)).mono ?_
    rintro e w7 ⟨rfl, m⟩
    replace B := hide ((unhide B).trans (m.mono (unhide B).size))
    clear m
    rw [unhide X]
    go_wp2_with fail
    go_ret
    exact ⟨rfl, unhide B⟩

theorem reads_far (body b : ByteArray) (at_ : Int) (w : World) (hT : Tab w) (h : (70000 : Int) < (body.size : Int) ∨ (70000 : Int) < (b.size : Int)) :
    Calls Tryd.prog 4 #[.string body, .string b, .int .i64 at_] w fun e w' => e = .returned (.bool true) ∧ Below w.heap.size w w' := by
  have HT : Hid (Tab w) := hide hT
  clear hT
  by_cases h1 : (70000 : Int) < (body.size : Int)
  · have d1 : decide ((70000 : Int) < (body.size : Int)) = true := decide_eq_true h1
    go_enter Tryd.func4, Tryd.ntmps4
    go_wp2_with fail
    refine (awake_any _ (unhide HT)).mono ?_
    rintro e w1 ⟨rfl, m⟩
    have B := hide m
    clear m
    go_wp2_with fail
    go_ret
    exact ⟨rfl, unhide B⟩
  · have h2 : (70000 : Int) < (b.size : Int) := h.resolve_left h1
    have d1 : decide ((70000 : Int) < (body.size : Int)) = false := decide_eq_false h1
    have d2 : decide ((70000 : Int) < (b.size : Int)) = true := decide_eq_true h2
    go_enter Tryd.func4, Tryd.ntmps4
    go_wp2_with fail
    refine (awake_any _ (unhide HT)).mono ?_
    rintro e w1 ⟨rfl, m⟩
    have B := hide m
    clear m
    go_wp2_with fail
    go_ret
    exact ⟨rfl, unhide B⟩
theorem reads_any (body b : ByteArray) (at_ : Int) (w : World) (_ha : body.size ≤ maxLen) (hb : b.size ≤ maxLen) (_hc : -9223372036854775808 ≤ at_ ∧ at_ ≤ 9223372036854775807) (hT : Tab w) :
    Calls Tryd.prog 4 #[.string body, .string b, .int .i64 at_] w fun e w' => e = .returned (.bool true) ∧ Below w.heap.size w w' := by
  by_cases h1 : (70000 : Int) < (body.size : Int)
  · exact reads_far body b at_ w hT (.inl h1)
  · by_cases h2 : (70000 : Int) < (b.size : Int)
    · exact reads_far body b at_ w hT (.inr h2)
    · by_cases h3 : at_ < 0 ∨ (b.size : Int) < at_
      · exact reads_near body b at_ _ _ _ w hT h1 h2 (fun w' _ => next_out b at_ w' h3) (fun w' => ref_next_out b at_ w' h3)
      · obtain ⟨k, rfl⟩ : ∃ k : Nat, at_ = (k : Int) := ⟨at_.toNat, by omega⟩
        exact reads_near body b k _ _ _ w hT h1 h2 (fun w' t => next_any b k w' hb (by omega) t) (fun w' => ref_next_any b k w' hb (by omega))
end Go.Proofs.YthklhnmageekgaaDoor

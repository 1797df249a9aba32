/- SpanParts' walk: each moment lies in just one window; what is over stays so; windows are over in their row. -/
import Derived.Test.YtjmbiljeincocaaWakes
namespace Go.Proofs.Ytjmbiljeincocaa
open Go.RowKit

theorem right_no {x : Int} (h : ¬ (0 ≤ x ∧ x ≤ 1099511627776)) : rightI x = false := by unfold rightI; exact decide_eq_false h
theorem over_no {s m : Int} (h : ¬ isOver s m) : overI s m = false := by unfold overI; exact decide_eq_false h

set_option maxHeartbeats 8000000 in
theorem parts_any (a m l : Int) (w : World) (_ : i64 a) (_ : i64 m) (_ : i64 l) : Calls Try.prog 5 #[.int .i64 a, .int .i64 m, .int .i64 l] w fun e w' => e = .returned (.bool true) ∧ Below w.heap.size w w' := by
  by_cases h : 0 ≤ a ∧ a ≤ 1099511627776
  · have hr := hide (rightI_iff.2 h)
    obtain ⟨s, hs⟩ : ∃ s, startI a = s := ⟨_, rfl⟩
    have hs1 : s = a - a % 10 := by rw [← hs, startI_right h]
    have HS := hide hs
    have HL : Hid (lateI a m = overI s m) := hide (by unfold lateI; rw [hs])
    have HE : Hid (endI s = s + 10) := hide (by unfold endI; rw [if_pos (by omega)])
    have c1 : ¬ a < s := by omega
    have c2 : ¬ 10 ≤ a - s := by omega
    have c3 : Int.tmod s 10 = 0 := by rw [Int.tmod_eq_emod_of_nonneg (by omega)]; omega
    have e2 := Go.IntWalk.i64_in (a - s) (by omega)
    have e3 := Go.IntWalk.i64_in (s + 10) (by omega)
    have e4 := Go.IntWalk.i64_in (s - 10) (by omega)
    obtain ⟨bm, hm⟩ : ∃ b, rightI m = b := ⟨_, rfl⟩
    obtain ⟨bl, hl⟩ : ∃ b, rightI l = b := ⟨_, rfl⟩
    obtain ⟨bo, ho⟩ : ∃ b, overI s m = b := ⟨_, rfl⟩
    obtain ⟨bk, hk⟩ : ∃ b, overI s l = b := ⟨_, rfl⟩
    obtain ⟨bt, ht⟩ : ∃ b, overI (s - 10) m = b := ⟨_, rfl⟩
    have C1 : bo = true → bm = true := fun e => by subst e; rw [← hm]; exact rightI_iff.2 (overI_iff.1 ho).2.1
    have C2 : bm = true → bo = false → m - a < 15 ∧ IntKind.i64.wrap (m - a) = m - a := fun e e' => by
      subst e e'
      have k1 := rightI_iff.1 hm
      have k2 : ¬ isOver s m := of_decide_eq_false ho
      unfold isOver at k2
      exact ⟨by omega, Go.IntWalk.i64_in _ (by omega)⟩
    have C3 : bl = true → m ≤ l → bo = true → bk = true := fun e e1 e2 => by
      subst e e2
      have k1 := rightI_iff.1 hl
      have k2 := overI_iff.1 ho
      rw [← hk]
      exact overI_iff.2 ⟨k2.1, k1, by have := k2.2.2; omega⟩
    have C4 : ¬ s < 10 → bo = true → bt = true := fun e1 e2 => by
      subst e2
      have k2 := overI_iff.1 ho
      unfold isOver at k2
      rw [← ht]
      exact overI_iff.2 ⟨by omega, k2.2.1, by omega⟩
    replace HL := hide ((unhide HL).trans ho)
    replace hm := hide hm
    replace hl := hide hl
    replace ho := hide ho
    replace hk := hide hk
    replace ht := hide ht
    clear h hs hs1
    replace C1 := hide C1
    replace C2 := hide C2
    replace C3 := hide C3
    replace C4 := hide C4
    cases bm
    · cases bo
      · by_cases hml : m ≤ l
        · by_cases h10 : s < 10
          · cases bl
            · go_enter Try.func5, Try.ntmps5
              go_wp2_with (first
                | (go_at_call 9; refine (right_any _ _).mono ?_; rintro e w' ⟨rfl, rfl⟩; first | rw [unhide hr] | rw [unhide hm] | rw [unhide hl])
                | (go_at_call 11; refine (start_any _ _).mono ?_; rintro e w' ⟨rfl, rfl⟩; rw [unhide HS])
                | (go_at_call 13; refine (end_any _ _).mono ?_; rintro e w' ⟨rfl, rfl⟩; rw [unhide HE])
                | (go_at_call 15; refine (over_any _ _ _).mono ?_; rintro e w' ⟨rfl, rfl⟩; first | rw [unhide ho] | rw [unhide hk] | rw [unhide ht])
                | (go_at_call 17; refine (late_any _ _ _).mono ?_; rintro e w' ⟨rfl, rfl⟩; rw [unhide HL])
                | (go_at_call 19; refine (wakes_any _).mono ?_; rintro e w2 ⟨rfl, hB⟩))
              go_ret
              exact ⟨rfl, hB⟩
            · go_enter Try.func5, Try.ntmps5
              go_wp2_with (first
                | (go_at_call 9; refine (right_any _ _).mono ?_; rintro e w' ⟨rfl, rfl⟩; first | rw [unhide hr] | rw [unhide hm] | rw [unhide hl])
                | (go_at_call 11; refine (start_any _ _).mono ?_; rintro e w' ⟨rfl, rfl⟩; rw [unhide HS])
                | (go_at_call 13; refine (end_any _ _).mono ?_; rintro e w' ⟨rfl, rfl⟩; rw [unhide HE])
                | (go_at_call 15; refine (over_any _ _ _).mono ?_; rintro e w' ⟨rfl, rfl⟩; first | rw [unhide ho] | rw [unhide hk] | rw [unhide ht])
                | (go_at_call 17; refine (late_any _ _ _).mono ?_; rintro e w' ⟨rfl, rfl⟩; rw [unhide HL])
                | (go_at_call 19; refine (wakes_any _).mono ?_; rintro e w2 ⟨rfl, hB⟩))
              go_ret
              exact ⟨rfl, hB⟩
          · cases bl
            · go_enter Try.func5, Try.ntmps5
              go_wp2_with (first
                | (go_at_call 9; refine (right_any _ _).mono ?_; rintro e w' ⟨rfl, rfl⟩; first | rw [unhide hr] | rw [unhide hm] | rw [unhide hl])
                | (go_at_call 11; refine (start_any _ _).mono ?_; rintro e w' ⟨rfl, rfl⟩; rw [unhide HS])
                | (go_at_call 13; refine (end_any _ _).mono ?_; rintro e w' ⟨rfl, rfl⟩; rw [unhide HE])
                | (go_at_call 15; refine (over_any _ _ _).mono ?_; rintro e w' ⟨rfl, rfl⟩; first | rw [unhide ho] | rw [unhide hk] | rw [unhide ht])
                | (go_at_call 17; refine (late_any _ _ _).mono ?_; rintro e w' ⟨rfl, rfl⟩; rw [unhide HL])
                | (go_at_call 19; refine (wakes_any _).mono ?_; rintro e w2 ⟨rfl, hB⟩))
              go_ret
              exact ⟨rfl, hB⟩
            · go_enter Try.func5, Try.ntmps5
              go_wp2_with (first
                | (go_at_call 9; refine (right_any _ _).mono ?_; rintro e w' ⟨rfl, rfl⟩; first | rw [unhide hr] | rw [unhide hm] | rw [unhide hl])
                | (go_at_call 11; refine (start_any _ _).mono ?_; rintro e w' ⟨rfl, rfl⟩; rw [unhide HS])
                | (go_at_call 13; refine (end_any _ _).mono ?_; rintro e w' ⟨rfl, rfl⟩; rw [unhide HE])
                | (go_at_call 15; refine (over_any _ _ _).mono ?_; rintro e w' ⟨rfl, rfl⟩; first | rw [unhide ho] | rw [unhide hk] | rw [unhide ht])
                | (go_at_call 17; refine (late_any _ _ _).mono ?_; rintro e w' ⟨rfl, rfl⟩; rw [unhide HL])
                | (go_at_call 19; refine (wakes_any _).mono ?_; rintro e w2 ⟨rfl, hB⟩))
              go_ret
              exact ⟨rfl, hB⟩
        · by_cases h10 : s < 10
          · cases bl
            · go_enter Try.func5, Try.ntmps5
              go_wp2_with (first
                | (go_at_call 9; refine (right_any _ _).mono ?_; rintro e w' ⟨rfl, rfl⟩; first | rw [unhide hr] | rw [unhide hm] | rw [unhide hl])
                | (go_at_call 11; refine (start_any _ _).mono ?_; rintro e w' ⟨rfl, rfl⟩; rw [unhide HS])
                | (go_at_call 13; refine (end_any _ _).mono ?_; rintro e w' ⟨rfl, rfl⟩; rw [unhide HE])
                | (go_at_call 15; refine (over_any _ _ _).mono ?_; rintro e w' ⟨rfl, rfl⟩; first | rw [unhide ho] | rw [unhide hk] | rw [unhide ht])
                | (go_at_call 17; refine (late_any _ _ _).mono ?_; rintro e w' ⟨rfl, rfl⟩; rw [unhide HL])
                | (go_at_call 19; refine (wakes_any _).mono ?_; rintro e w2 ⟨rfl, hB⟩))
              go_ret
              exact ⟨rfl, hB⟩
            · go_enter Try.func5, Try.ntmps5
              go_wp2_with (first
                | (go_at_call 9; refine (right_any _ _).mono ?_; rintro e w' ⟨rfl, rfl⟩; first | rw [unhide hr] | rw [unhide hm] | rw [unhide hl])
                | (go_at_call 11; refine (start_any _ _).mono ?_; rintro e w' ⟨rfl, rfl⟩; rw [unhide HS])
                | (go_at_call 13; refine (end_any _ _).mono ?_; rintro e w' ⟨rfl, rfl⟩; rw [unhide HE])
                | (go_at_call 15; refine (over_any _ _ _).mono ?_; rintro e w' ⟨rfl, rfl⟩; first | rw [unhide ho] | rw [unhide hk] | rw [unhide ht])
                | (go_at_call 17; refine (late_any _ _ _).mono ?_; rintro e w' ⟨rfl, rfl⟩; rw [unhide HL])
                | (go_at_call 19; refine (wakes_any _).mono ?_; rintro e w2 ⟨rfl, hB⟩))
              go_ret
              exact ⟨rfl, hB⟩
          · cases bl
            · go_enter Try.func5, Try.ntmps5
              go_wp2_with (first
                | (go_at_call 9; refine (right_any _ _).mono ?_; rintro e w' ⟨rfl, rfl⟩; first | rw [unhide hr] | rw [unhide hm] | rw [unhide hl])
                | (go_at_call 11; refine (start_any _ _).mono ?_; rintro e w' ⟨rfl, rfl⟩; rw [unhide HS])
                | (go_at_call 13; refine (end_any _ _).mono ?_; rintro e w' ⟨rfl, rfl⟩; rw [unhide HE])
                | (go_at_call 15; refine (over_any _ _ _).mono ?_; rintro e w' ⟨rfl, rfl⟩; first | rw [unhide ho] | rw [unhide hk] | rw [unhide ht])
                | (go_at_call 17; refine (late_any _ _ _).mono ?_; rintro e w' ⟨rfl, rfl⟩; rw [unhide HL])
                | (go_at_call 19; refine (wakes_any _).mono ?_; rintro e w2 ⟨rfl, hB⟩))
              go_ret
              exact ⟨rfl, hB⟩
            · go_enter Try.func5, Try.ntmps5
              go_wp2_with (first
                | (go_at_call 9; refine (right_any _ _).mono ?_; rintro e w' ⟨rfl, rfl⟩; first | rw [unhide hr] | rw [unhide hm] | rw [unhide hl])
                | (go_at_call 11; refine (start_any _ _).mono ?_; rintro e w' ⟨rfl, rfl⟩; rw [unhide HS])
                | (go_at_call 13; refine (end_any _ _).mono ?_; rintro e w' ⟨rfl, rfl⟩; rw [unhide HE])
                | (go_at_call 15; refine (over_any _ _ _).mono ?_; rintro e w' ⟨rfl, rfl⟩; first | rw [unhide ho] | rw [unhide hk] | rw [unhide ht])
                | (go_at_call 17; refine (late_any _ _ _).mono ?_; rintro e w' ⟨rfl, rfl⟩; rw [unhide HL])
                | (go_at_call 19; refine (wakes_any _).mono ?_; rintro e w2 ⟨rfl, hB⟩))
              go_ret
              exact ⟨rfl, hB⟩
      · cases unhide C1 rfl
    · cases bo
      · by_cases hml : m ≤ l
        · by_cases h10 : s < 10
          · cases bl
            · obtain ⟨q1, q2⟩ := unhide C2 rfl rfl
              go_enter Try.func5, Try.ntmps5
              go_wp2_with (first
                | (go_at_call 9; refine (right_any _ _).mono ?_; rintro e w' ⟨rfl, rfl⟩; first | rw [unhide hr] | rw [unhide hm] | rw [unhide hl])
                | (go_at_call 11; refine (start_any _ _).mono ?_; rintro e w' ⟨rfl, rfl⟩; rw [unhide HS])
                | (go_at_call 13; refine (end_any _ _).mono ?_; rintro e w' ⟨rfl, rfl⟩; rw [unhide HE])
                | (go_at_call 15; refine (over_any _ _ _).mono ?_; rintro e w' ⟨rfl, rfl⟩; first | rw [unhide ho] | rw [unhide hk] | rw [unhide ht])
                | (go_at_call 17; refine (late_any _ _ _).mono ?_; rintro e w' ⟨rfl, rfl⟩; rw [unhide HL])
                | (go_at_call 19; refine (wakes_any _).mono ?_; rintro e w2 ⟨rfl, hB⟩))
              go_ret
              exact ⟨rfl, hB⟩
            · obtain ⟨q1, q2⟩ := unhide C2 rfl rfl
              go_enter Try.func5, Try.ntmps5
              go_wp2_with (first
                | (go_at_call 9; refine (right_any _ _).mono ?_; rintro e w' ⟨rfl, rfl⟩; first | rw [unhide hr] | rw [unhide hm] | rw [unhide hl])
                | (go_at_call 11; refine (start_any _ _).mono ?_; rintro e w' ⟨rfl, rfl⟩; rw [unhide HS])
                | (go_at_call 13; refine (end_any _ _).mono ?_; rintro e w' ⟨rfl, rfl⟩; rw [unhide HE])
                | (go_at_call 15; refine (over_any _ _ _).mono ?_; rintro e w' ⟨rfl, rfl⟩; first | rw [unhide ho] | rw [unhide hk] | rw [unhide ht])
                | (go_at_call 17; refine (late_any _ _ _).mono ?_; rintro e w' ⟨rfl, rfl⟩; rw [unhide HL])
                | (go_at_call 19; refine (wakes_any _).mono ?_; rintro e w2 ⟨rfl, hB⟩))
              go_ret
              exact ⟨rfl, hB⟩
          · cases bl
            · obtain ⟨q1, q2⟩ := unhide C2 rfl rfl
              go_enter Try.func5, Try.ntmps5
              go_wp2_with (first
                | (go_at_call 9; refine (right_any _ _).mono ?_; rintro e w' ⟨rfl, rfl⟩; first | rw [unhide hr] | rw [unhide hm] | rw [unhide hl])
                | (go_at_call 11; refine (start_any _ _).mono ?_; rintro e w' ⟨rfl, rfl⟩; rw [unhide HS])
                | (go_at_call 13; refine (end_any _ _).mono ?_; rintro e w' ⟨rfl, rfl⟩; rw [unhide HE])
                | (go_at_call 15; refine (over_any _ _ _).mono ?_; rintro e w' ⟨rfl, rfl⟩; first | rw [unhide ho] | rw [unhide hk] | rw [unhide ht])
                | (go_at_call 17; refine (late_any _ _ _).mono ?_; rintro e w' ⟨rfl, rfl⟩; rw [unhide HL])
                | (go_at_call 19; refine (wakes_any _).mono ?_; rintro e w2 ⟨rfl, hB⟩))
              go_ret
              exact ⟨rfl, hB⟩
            · obtain ⟨q1, q2⟩ := unhide C2 rfl rfl
              go_enter Try.func5, Try.ntmps5
              go_wp2_with (first
                | (go_at_call 9; refine (right_any _ _).mono ?_; rintro e w' ⟨rfl, rfl⟩; first | rw [unhide hr] | rw [unhide hm] | rw [unhide hl])
                | (go_at_call 11; refine (start_any _ _).mono ?_; rintro e w' ⟨rfl, rfl⟩; rw [unhide HS])
                | (go_at_call 13; refine (end_any _ _).mono ?_; rintro e w' ⟨rfl, rfl⟩; rw [unhide HE])
                | (go_at_call 15; refine (over_any _ _ _).mono ?_; rintro e w' ⟨rfl, rfl⟩; first | rw [unhide ho] | rw [unhide hk] | rw [unhide ht])
                | (go_at_call 17; refine (late_any _ _ _).mono ?_; rintro e w' ⟨rfl, rfl⟩; rw [unhide HL])
                | (go_at_call 19; refine (wakes_any _).mono ?_; rintro e w2 ⟨rfl, hB⟩))
              go_ret
              exact ⟨rfl, hB⟩
        · by_cases h10 : s < 10
          · cases bl
            · obtain ⟨q1, q2⟩ := unhide C2 rfl rfl
              go_enter Try.func5, Try.ntmps5
              go_wp2_with (first
                | (go_at_call 9; refine (right_any _ _).mono ?_; rintro e w' ⟨rfl, rfl⟩; first | rw [unhide hr] | rw [unhide hm] | rw [unhide hl])
                | (go_at_call 11; refine (start_any _ _).mono ?_; rintro e w' ⟨rfl, rfl⟩; rw [unhide HS])
                | (go_at_call 13; refine (end_any _ _).mono ?_; rintro e w' ⟨rfl, rfl⟩; rw [unhide HE])
                | (go_at_call 15; refine (over_any _ _ _).mono ?_; rintro e w' ⟨rfl, rfl⟩; first | rw [unhide ho] | rw [unhide hk] | rw [unhide ht])
                | (go_at_call 17; refine (late_any _ _ _).mono ?_; rintro e w' ⟨rfl, rfl⟩; rw [unhide HL])
                | (go_at_call 19; refine (wakes_any _).mono ?_; rintro e w2 ⟨rfl, hB⟩))
              go_ret
              exact ⟨rfl, hB⟩
            · obtain ⟨q1, q2⟩ := unhide C2 rfl rfl
              go_enter Try.func5, Try.ntmps5
              go_wp2_with (first
                | (go_at_call 9; refine (right_any _ _).mono ?_; rintro e w' ⟨rfl, rfl⟩; first | rw [unhide hr] | rw [unhide hm] | rw [unhide hl])
                | (go_at_call 11; refine (start_any _ _).mono ?_; rintro e w' ⟨rfl, rfl⟩; rw [unhide HS])
                | (go_at_call 13; refine (end_any _ _).mono ?_; rintro e w' ⟨rfl, rfl⟩; rw [unhide HE])
                | (go_at_call 15; refine (over_any _ _ _).mono ?_; rintro e w' ⟨rfl, rfl⟩; first | rw [unhide ho] | rw [unhide hk] | rw [unhide ht])
                | (go_at_call 17; refine (late_any _ _ _).mono ?_; rintro e w' ⟨rfl, rfl⟩; rw [unhide HL])
                | (go_at_call 19; refine (wakes_any _).mono ?_; rintro e w2 ⟨rfl, hB⟩))
              go_ret
              exact ⟨rfl, hB⟩
          · cases bl
            · obtain ⟨q1, q2⟩ := unhide C2 rfl rfl
              go_enter Try.func5, Try.ntmps5
              go_wp2_with (first
                | (go_at_call 9; refine (right_any _ _).mono ?_; rintro e w' ⟨rfl, rfl⟩; first | rw [unhide hr] | rw [unhide hm] | rw [unhide hl])
                | (go_at_call 11; refine (start_any _ _).mono ?_; rintro e w' ⟨rfl, rfl⟩; rw [unhide HS])
                | (go_at_call 13; refine (end_any _ _).mono ?_; rintro e w' ⟨rfl, rfl⟩; rw [unhide HE])
                | (go_at_call 15; refine (over_any _ _ _).mono ?_; rintro e w' ⟨rfl, rfl⟩; first | rw [unhide ho] | rw [unhide hk] | rw [unhide ht])
                | (go_at_call 17; refine (late_any _ _ _).mono ?_; rintro e w' ⟨rfl, rfl⟩; rw [unhide HL])
                | (go_at_call 19; refine (wakes_any _).mono ?_; rintro e w2 ⟨rfl, hB⟩))
              go_ret
              exact ⟨rfl, hB⟩
            · obtain ⟨q1, q2⟩ := unhide C2 rfl rfl
              go_enter Try.func5, Try.ntmps5
              go_wp2_with (first
                | (go_at_call 9; refine (right_any _ _).mono ?_; rintro e w' ⟨rfl, rfl⟩; first | rw [unhide hr] | rw [unhide hm] | rw [unhide hl])
                | (go_at_call 11; refine (start_any _ _).mono ?_; rintro e w' ⟨rfl, rfl⟩; rw [unhide HS])
                | (go_at_call 13; refine (end_any _ _).mono ?_; rintro e w' ⟨rfl, rfl⟩; rw [unhide HE])
                | (go_at_call 15; refine (over_any _ _ _).mono ?_; rintro e w' ⟨rfl, rfl⟩; first | rw [unhide ho] | rw [unhide hk] | rw [unhide ht])
                | (go_at_call 17; refine (late_any _ _ _).mono ?_; rintro e w' ⟨rfl, rfl⟩; rw [unhide HL])
                | (go_at_call 19; refine (wakes_any _).mono ?_; rintro e w2 ⟨rfl, hB⟩))
              go_ret
              exact ⟨rfl, hB⟩
      · by_cases hml : m ≤ l
        · by_cases h10 : s < 10
          · cases bl
            · go_enter Try.func5, Try.ntmps5
              go_wp2_with (first
                | (go_at_call 9; refine (right_any _ _).mono ?_; rintro e w' ⟨rfl, rfl⟩; first | rw [unhide hr] | rw [unhide hm] | rw [unhide hl])
                | (go_at_call 11; refine (start_any _ _).mono ?_; rintro e w' ⟨rfl, rfl⟩; rw [unhide HS])
                | (go_at_call 13; refine (end_any _ _).mono ?_; rintro e w' ⟨rfl, rfl⟩; rw [unhide HE])
                | (go_at_call 15; refine (over_any _ _ _).mono ?_; rintro e w' ⟨rfl, rfl⟩; first | rw [unhide ho] | rw [unhide hk] | rw [unhide ht])
                | (go_at_call 17; refine (late_any _ _ _).mono ?_; rintro e w' ⟨rfl, rfl⟩; rw [unhide HL])
                | (go_at_call 19; refine (wakes_any _).mono ?_; rintro e w2 ⟨rfl, hB⟩))
              go_ret
              exact ⟨rfl, hB⟩
            · obtain rfl := unhide C3 rfl hml rfl
              go_enter Try.func5, Try.ntmps5
              go_wp2_with (first
                | (go_at_call 9; refine (right_any _ _).mono ?_; rintro e w' ⟨rfl, rfl⟩; first | rw [unhide hr] | rw [unhide hm] | rw [unhide hl])
                | (go_at_call 11; refine (start_any _ _).mono ?_; rintro e w' ⟨rfl, rfl⟩; rw [unhide HS])
                | (go_at_call 13; refine (end_any _ _).mono ?_; rintro e w' ⟨rfl, rfl⟩; rw [unhide HE])
                | (go_at_call 15; refine (over_any _ _ _).mono ?_; rintro e w' ⟨rfl, rfl⟩; first | rw [unhide ho] | rw [unhide hk] | rw [unhide ht])
                | (go_at_call 17; refine (late_any _ _ _).mono ?_; rintro e w' ⟨rfl, rfl⟩; rw [unhide HL])
                | (go_at_call 19; refine (wakes_any _).mono ?_; rintro e w2 ⟨rfl, hB⟩))
              go_ret
              exact ⟨rfl, hB⟩
          · cases bl
            · obtain rfl := unhide C4 h10 rfl
              go_enter Try.func5, Try.ntmps5
              go_wp2_with (first
                | (go_at_call 9; refine (right_any _ _).mono ?_; rintro e w' ⟨rfl, rfl⟩; first | rw [unhide hr] | rw [unhide hm] | rw [unhide hl])
                | (go_at_call 11; refine (start_any _ _).mono ?_; rintro e w' ⟨rfl, rfl⟩; rw [unhide HS])
                | (go_at_call 13; refine (end_any _ _).mono ?_; rintro e w' ⟨rfl, rfl⟩; rw [unhide HE])
                | (go_at_call 15; refine (over_any _ _ _).mono ?_; rintro e w' ⟨rfl, rfl⟩; first | rw [unhide ho] | rw [unhide hk] | rw [unhide ht])
                | (go_at_call 17; refine (late_any _ _ _).mono ?_; rintro e w' ⟨rfl, rfl⟩; rw [unhide HL])
                | (go_at_call 19; refine (wakes_any _).mono ?_; rintro e w2 ⟨rfl, hB⟩))
              go_ret
              exact ⟨rfl, hB⟩
            · obtain rfl := unhide C3 rfl hml rfl
              obtain rfl := unhide C4 h10 rfl
              go_enter Try.func5, Try.ntmps5
              go_wp2_with (first
                | (go_at_call 9; refine (right_any _ _).mono ?_; rintro e w' ⟨rfl, rfl⟩; first | rw [unhide hr] | rw [unhide hm] | rw [unhide hl])
                | (go_at_call 11; refine (start_any _ _).mono ?_; rintro e w' ⟨rfl, rfl⟩; rw [unhide HS])
                | (go_at_call 13; refine (end_any _ _).mono ?_; rintro e w' ⟨rfl, rfl⟩; rw [unhide HE])
                | (go_at_call 15; refine (over_any _ _ _).mono ?_; rintro e w' ⟨rfl, rfl⟩; first | rw [unhide ho] | rw [unhide hk] | rw [unhide ht])
                | (go_at_call 17; refine (late_any _ _ _).mono ?_; rintro e w' ⟨rfl, rfl⟩; rw [unhide HL])
                | (go_at_call 19; refine (wakes_any _).mono ?_; rintro e w2 ⟨rfl, hB⟩))
              go_ret
              exact ⟨rfl, hB⟩
        · by_cases h10 : s < 10
          · cases bl
            · go_enter Try.func5, Try.ntmps5
              go_wp2_with (first
                | (go_at_call 9; refine (right_any _ _).mono ?_; rintro e w' ⟨rfl, rfl⟩; first | rw [unhide hr] | rw [unhide hm] | rw [unhide hl])
                | (go_at_call 11; refine (start_any _ _).mono ?_; rintro e w' ⟨rfl, rfl⟩; rw [unhide HS])
                | (go_at_call 13; refine (end_any _ _).mono ?_; rintro e w' ⟨rfl, rfl⟩; rw [unhide HE])
                | (go_at_call 15; refine (over_any _ _ _).mono ?_; rintro e w' ⟨rfl, rfl⟩; first | rw [unhide ho] | rw [unhide hk] | rw [unhide ht])
                | (go_at_call 17; refine (late_any _ _ _).mono ?_; rintro e w' ⟨rfl, rfl⟩; rw [unhide HL])
                | (go_at_call 19; refine (wakes_any _).mono ?_; rintro e w2 ⟨rfl, hB⟩))
              go_ret
              exact ⟨rfl, hB⟩
            · go_enter Try.func5, Try.ntmps5
              go_wp2_with (first
                | (go_at_call 9; refine (right_any _ _).mono ?_; rintro e w' ⟨rfl, rfl⟩; first | rw [unhide hr] | rw [unhide hm] | rw [unhide hl])
                | (go_at_call 11; refine (start_any _ _).mono ?_; rintro e w' ⟨rfl, rfl⟩; rw [unhide HS])
                | (go_at_call 13; refine (end_any _ _).mono ?_; rintro e w' ⟨rfl, rfl⟩; rw [unhide HE])
                | (go_at_call 15; refine (over_any _ _ _).mono ?_; rintro e w' ⟨rfl, rfl⟩; first | rw [unhide ho] | rw [unhide hk] | rw [unhide ht])
                | (go_at_call 17; refine (late_any _ _ _).mono ?_; rintro e w' ⟨rfl, rfl⟩; rw [unhide HL])
                | (go_at_call 19; refine (wakes_any _).mono ?_; rintro e w2 ⟨rfl, hB⟩))
              go_ret
              exact ⟨rfl, hB⟩
          · cases bl
            · obtain rfl := unhide C4 h10 rfl
              go_enter Try.func5, Try.ntmps5
              go_wp2_with (first
                | (go_at_call 9; refine (right_any _ _).mono ?_; rintro e w' ⟨rfl, rfl⟩; first | rw [unhide hr] | rw [unhide hm] | rw [unhide hl])
                | (go_at_call 11; refine (start_any _ _).mono ?_; rintro e w' ⟨rfl, rfl⟩; rw [unhide HS])
                | (go_at_call 13; refine (end_any _ _).mono ?_; rintro e w' ⟨rfl, rfl⟩; rw [unhide HE])
                | (go_at_call 15; refine (over_any _ _ _).mono ?_; rintro e w' ⟨rfl, rfl⟩; first | rw [unhide ho] | rw [unhide hk] | rw [unhide ht])
                | (go_at_call 17; refine (late_any _ _ _).mono ?_; rintro e w' ⟨rfl, rfl⟩; rw [unhide HL])
                | (go_at_call 19; refine (wakes_any _).mono ?_; rintro e w2 ⟨rfl, hB⟩))
              go_ret
              exact ⟨rfl, hB⟩
            · obtain rfl := unhide C4 h10 rfl
              go_enter Try.func5, Try.ntmps5
              go_wp2_with (first
                | (go_at_call 9; refine (right_any _ _).mono ?_; rintro e w' ⟨rfl, rfl⟩; first | rw [unhide hr] | rw [unhide hm] | rw [unhide hl])
                | (go_at_call 11; refine (start_any _ _).mono ?_; rintro e w' ⟨rfl, rfl⟩; rw [unhide HS])
                | (go_at_call 13; refine (end_any _ _).mono ?_; rintro e w' ⟨rfl, rfl⟩; rw [unhide HE])
                | (go_at_call 15; refine (over_any _ _ _).mono ?_; rintro e w' ⟨rfl, rfl⟩; first | rw [unhide ho] | rw [unhide hk] | rw [unhide ht])
                | (go_at_call 17; refine (late_any _ _ _).mono ?_; rintro e w' ⟨rfl, rfl⟩; rw [unhide HL])
                | (go_at_call 19; refine (wakes_any _).mono ?_; rintro e w2 ⟨rfl, hB⟩))
              go_ret
              exact ⟨rfl, hB⟩
  · have hr := hide (right_no h)
    have hs := hide (startI_wrong h)
    have HL : Hid (lateI a m = false) := hide (by unfold lateI; rw [startI_wrong h]; exact over_no (fun k => by unfold isOver at k; omega))
    clear h
    go_enter Try.func5, Try.ntmps5
    go_wp2_with fail
    refine (right_any _ _).mono ?_
    rintro e w' ⟨rfl, rfl⟩
    rw [unhide hr]
    go_wp2_with fail
    refine (start_any _ _).mono ?_
    rintro e w' ⟨rfl, rfl⟩
    rw [unhide hs]
    go_wp2_with fail
    refine (late_any _ _ _).mono ?_
    rintro e w' ⟨rfl, rfl⟩
    rw [unhide HL]
    go_wp2_with fail
    refine (wakes_any _).mono ?_
    rintro e w2 ⟨rfl, hB⟩
    go_wp2
    go_ret
    exact ⟨rfl, hB⟩
end Go.Proofs.Ytjmbiljeincocaa

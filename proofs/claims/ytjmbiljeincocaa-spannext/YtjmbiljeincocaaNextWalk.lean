/- SpanNext's walk: windows stand side by side; no window is over ahead of the one ahead of it, nor a moment late that a later one is not. -/
import Derived.Test.YtjmbiljeincocaaWakes
namespace Go.Proofs.Ytjmbiljeincocaa
open Go.RowKit

theorem right_no' {x : Int} (h : ¬ (0 ≤ x ∧ x ≤ 1099511627776)) : rightI x = false := by unfold rightI; exact decide_eq_false h

set_option maxHeartbeats 8000000 in
theorem next_any (a o m : Int) (w : World) (_ : i64 a) (_ : i64 o) (_ : i64 m) : Calls Try.prog 8 #[.int .i64 a, .int .i64 o, .int .i64 m] w fun e w' => e = .returned (.bool true) ∧ Below w.heap.size w w' := by
  by_cases h : 0 ≤ a ∧ a ≤ 1099511627776
  · have hr := hide (rightI_iff.2 h)
    obtain ⟨s, hs⟩ : ∃ s, startI a = s := ⟨_, rfl⟩
    have hs1 : s = a - a % 10 := by rw [← hs, startI_right h]
    have HS := hide hs
    have HS2 : Hid (startI s = s) := hide (by rw [startI_right (by omega)]; omega)
    have HE : Hid (endI s = s + 10) := hide (by unfold endI; rw [if_pos (by omega)])
    have e3 := Go.IntWalk.i64_in (s + 10) (by omega)
    have e4 := Go.IntWalk.i64_in (s + 10 - 1) (by omega)
    have e5 := Go.IntWalk.i64_in (s + 10 + 5) (by omega)
    have HL0 : lateI a m = overI s m := by unfold lateI; rw [hs]
    obtain ⟨be, he⟩ : ∃ b, rightI (s + 10) = b := ⟨_, rfl⟩
    obtain ⟨bm, hm⟩ : ∃ b, rightI m = b := ⟨_, rfl⟩
    obtain ⟨bo, ho⟩ : ∃ b, rightI o = b := ⟨_, rfl⟩
    obtain ⟨bv, hv⟩ : ∃ b, overI s m = b := ⟨_, rfl⟩
    obtain ⟨lo, hlo⟩ : ∃ b, lateI o m = b := ⟨_, rfl⟩
    have C0 : be = true → startI (s + 10) = s + 10 ∧ startI (s + 10 - 1) = s := fun e => by
      subst e
      have k := rightI_iff.1 he
      rw [startI_right k, startI_right (by omega)]
      omega
    have C1 : bv = true → bm = true := fun e => by subst e; rw [← hm]; exact rightI_iff.2 (overI_iff.1 hv).2.1
    have C2 : bm = true → bv = false → m < s + 10 + 5 := fun e e' => by
      subst e e'
      have k1 := rightI_iff.1 hm
      have k2 : ¬ isOver s m := of_decide_eq_false hv
      unfold isOver at k2
      omega
    have C3 : bv = true → s + 10 + 5 ≤ m := fun e => by
      subst e
      have k2 := (overI_iff.1 hv).2.2
      omega
    have C4 : a ≤ o → lo = true → bv = true := fun e1 e2 => by
      subst e2
      unfold lateI at hlo
      have k := overI_iff.1 hlo
      unfold isOver at k
      by_cases k2 : 0 ≤ o ∧ o ≤ 1099511627776
      · rw [startI_right k2] at k
        rw [← hv]
        exact overI_iff.2 ⟨by omega, k.2.1, by omega⟩
      · rw [startI_wrong k2] at k; omega
    have HL := hide (HL0.trans hv)
    replace he := hide he
    replace hm := hide hm
    replace ho := hide ho
    replace hv := hide hv
    replace hlo := hide hlo
    replace C0 := hide C0
    replace C1 := hide C1
    replace C2 := hide C2
    replace C3 := hide C3
    replace C4 := hide C4
    clear h hs hs1 HL0
    cases be
    · cases bm
      · cases bv
        · cases bo
          · have HS3 := HS2
            have HS4 := HS2
            go_enter Try.func8, Try.ntmps8
            go_wp2_with (first
              | (go_at_call 9; refine (right_any _ _).mono ?_; rintro e w' ⟨rfl, rfl⟩; first | rw [unhide hr] | rw [unhide hm] | rw [unhide ho] | rw [unhide he])
              | (go_at_call 11; refine (start_any _ _).mono ?_; rintro e w' ⟨rfl, rfl⟩; first | rw [unhide HS] | rw [unhide HS2] | rw [unhide HS3] | rw [unhide HS4])
              | (go_at_call 13; refine (end_any _ _).mono ?_; rintro e w' ⟨rfl, rfl⟩; rw [unhide HE])
              | (go_at_call 15; refine (over_any _ _ _).mono ?_; rintro e w' ⟨rfl, rfl⟩; rw [unhide hv])
              | (go_at_call 17; refine (late_any _ _ _).mono ?_; rintro e w' ⟨rfl, rfl⟩; first | rw [unhide HL] | rw [unhide hlo])
              | (go_at_call 19; refine (wakes_any _).mono ?_; rintro e w2 ⟨rfl, hB⟩))
            go_ret
            exact ⟨rfl, hB⟩
          · by_cases hao : a ≤ o
            · cases lo
              · have HS3 := HS2
                have HS4 := HS2
                go_enter Try.func8, Try.ntmps8
                go_wp2_with (first
                  | (go_at_call 9; refine (right_any _ _).mono ?_; rintro e w' ⟨rfl, rfl⟩; first | rw [unhide hr] | rw [unhide hm] | rw [unhide ho] | rw [unhide he])
                  | (go_at_call 11; refine (start_any _ _).mono ?_; rintro e w' ⟨rfl, rfl⟩; first | rw [unhide HS] | rw [unhide HS2] | rw [unhide HS3] | rw [unhide HS4])
                  | (go_at_call 13; refine (end_any _ _).mono ?_; rintro e w' ⟨rfl, rfl⟩; rw [unhide HE])
                  | (go_at_call 15; refine (over_any _ _ _).mono ?_; rintro e w' ⟨rfl, rfl⟩; rw [unhide hv])
                  | (go_at_call 17; refine (late_any _ _ _).mono ?_; rintro e w' ⟨rfl, rfl⟩; first | rw [unhide HL] | rw [unhide hlo])
                  | (go_at_call 19; refine (wakes_any _).mono ?_; rintro e w2 ⟨rfl, hB⟩))
                go_ret
                exact ⟨rfl, hB⟩
              · cases unhide C4 hao rfl
            · have HS3 := HS2
              have HS4 := HS2
              go_enter Try.func8, Try.ntmps8
              go_wp2_with (first
                | (go_at_call 9; refine (right_any _ _).mono ?_; rintro e w' ⟨rfl, rfl⟩; first | rw [unhide hr] | rw [unhide hm] | rw [unhide ho] | rw [unhide he])
                | (go_at_call 11; refine (start_any _ _).mono ?_; rintro e w' ⟨rfl, rfl⟩; first | rw [unhide HS] | rw [unhide HS2] | rw [unhide HS3] | rw [unhide HS4])
                | (go_at_call 13; refine (end_any _ _).mono ?_; rintro e w' ⟨rfl, rfl⟩; rw [unhide HE])
                | (go_at_call 15; refine (over_any _ _ _).mono ?_; rintro e w' ⟨rfl, rfl⟩; rw [unhide hv])
                | (go_at_call 17; refine (late_any _ _ _).mono ?_; rintro e w' ⟨rfl, rfl⟩; first | rw [unhide HL] | rw [unhide hlo])
                | (go_at_call 19; refine (wakes_any _).mono ?_; rintro e w2 ⟨rfl, hB⟩))
              go_ret
              exact ⟨rfl, hB⟩
        · cases unhide C1 rfl
      · cases bv
        · cases bo
          · have HS3 := HS2
            have HS4 := HS2
            have q := unhide C2 rfl rfl
            go_enter Try.func8, Try.ntmps8
            go_wp2_with (first
              | (go_at_call 9; refine (right_any _ _).mono ?_; rintro e w' ⟨rfl, rfl⟩; first | rw [unhide hr] | rw [unhide hm] | rw [unhide ho] | rw [unhide he])
              | (go_at_call 11; refine (start_any _ _).mono ?_; rintro e w' ⟨rfl, rfl⟩; first | rw [unhide HS] | rw [unhide HS2] | rw [unhide HS3] | rw [unhide HS4])
              | (go_at_call 13; refine (end_any _ _).mono ?_; rintro e w' ⟨rfl, rfl⟩; rw [unhide HE])
              | (go_at_call 15; refine (over_any _ _ _).mono ?_; rintro e w' ⟨rfl, rfl⟩; rw [unhide hv])
              | (go_at_call 17; refine (late_any _ _ _).mono ?_; rintro e w' ⟨rfl, rfl⟩; first | rw [unhide HL] | rw [unhide hlo])
              | (go_at_call 19; refine (wakes_any _).mono ?_; rintro e w2 ⟨rfl, hB⟩))
            go_ret
            exact ⟨by simp [q], hB⟩
          · by_cases hao : a ≤ o
            · cases lo
              · have HS3 := HS2
                have HS4 := HS2
                have q := unhide C2 rfl rfl
                go_enter Try.func8, Try.ntmps8
                go_wp2_with (first
                  | (go_at_call 9; refine (right_any _ _).mono ?_; rintro e w' ⟨rfl, rfl⟩; first | rw [unhide hr] | rw [unhide hm] | rw [unhide ho] | rw [unhide he])
                  | (go_at_call 11; refine (start_any _ _).mono ?_; rintro e w' ⟨rfl, rfl⟩; first | rw [unhide HS] | rw [unhide HS2] | rw [unhide HS3] | rw [unhide HS4])
                  | (go_at_call 13; refine (end_any _ _).mono ?_; rintro e w' ⟨rfl, rfl⟩; rw [unhide HE])
                  | (go_at_call 15; refine (over_any _ _ _).mono ?_; rintro e w' ⟨rfl, rfl⟩; rw [unhide hv])
                  | (go_at_call 17; refine (late_any _ _ _).mono ?_; rintro e w' ⟨rfl, rfl⟩; first | rw [unhide HL] | rw [unhide hlo])
                  | (go_at_call 19; refine (wakes_any _).mono ?_; rintro e w2 ⟨rfl, hB⟩))
                go_ret
                exact ⟨by simp [q], hB⟩
              · cases unhide C4 hao rfl
            · have HS3 := HS2
              have HS4 := HS2
              have q := unhide C2 rfl rfl
              go_enter Try.func8, Try.ntmps8
              go_wp2_with (first
                | (go_at_call 9; refine (right_any _ _).mono ?_; rintro e w' ⟨rfl, rfl⟩; first | rw [unhide hr] | rw [unhide hm] | rw [unhide ho] | rw [unhide he])
                | (go_at_call 11; refine (start_any _ _).mono ?_; rintro e w' ⟨rfl, rfl⟩; first | rw [unhide HS] | rw [unhide HS2] | rw [unhide HS3] | rw [unhide HS4])
                | (go_at_call 13; refine (end_any _ _).mono ?_; rintro e w' ⟨rfl, rfl⟩; rw [unhide HE])
                | (go_at_call 15; refine (over_any _ _ _).mono ?_; rintro e w' ⟨rfl, rfl⟩; rw [unhide hv])
                | (go_at_call 17; refine (late_any _ _ _).mono ?_; rintro e w' ⟨rfl, rfl⟩; first | rw [unhide HL] | rw [unhide hlo])
                | (go_at_call 19; refine (wakes_any _).mono ?_; rintro e w2 ⟨rfl, hB⟩))
              go_ret
              exact ⟨by simp [q], hB⟩
        · cases bo
          · have HS3 := HS2
            have HS4 := HS2
            have q := unhide C3 rfl
            go_enter Try.func8, Try.ntmps8
            go_wp2_with (first
              | (go_at_call 9; refine (right_any _ _).mono ?_; rintro e w' ⟨rfl, rfl⟩; first | rw [unhide hr] | rw [unhide hm] | rw [unhide ho] | rw [unhide he])
              | (go_at_call 11; refine (start_any _ _).mono ?_; rintro e w' ⟨rfl, rfl⟩; first | rw [unhide HS] | rw [unhide HS2] | rw [unhide HS3] | rw [unhide HS4])
              | (go_at_call 13; refine (end_any _ _).mono ?_; rintro e w' ⟨rfl, rfl⟩; rw [unhide HE])
              | (go_at_call 15; refine (over_any _ _ _).mono ?_; rintro e w' ⟨rfl, rfl⟩; rw [unhide hv])
              | (go_at_call 17; refine (late_any _ _ _).mono ?_; rintro e w' ⟨rfl, rfl⟩; first | rw [unhide HL] | rw [unhide hlo])
              | (go_at_call 19; refine (wakes_any _).mono ?_; rintro e w2 ⟨rfl, hB⟩))
            go_ret
            exact ⟨rfl, hB⟩
          · by_cases hao : a ≤ o
            · cases lo
              · have HS3 := HS2
                have HS4 := HS2
                have q := unhide C3 rfl
                go_enter Try.func8, Try.ntmps8
                go_wp2_with (first
                  | (go_at_call 9; refine (right_any _ _).mono ?_; rintro e w' ⟨rfl, rfl⟩; first | rw [unhide hr] | rw [unhide hm] | rw [unhide ho] | rw [unhide he])
                  | (go_at_call 11; refine (start_any _ _).mono ?_; rintro e w' ⟨rfl, rfl⟩; first | rw [unhide HS] | rw [unhide HS2] | rw [unhide HS3] | rw [unhide HS4])
                  | (go_at_call 13; refine (end_any _ _).mono ?_; rintro e w' ⟨rfl, rfl⟩; rw [unhide HE])
                  | (go_at_call 15; refine (over_any _ _ _).mono ?_; rintro e w' ⟨rfl, rfl⟩; rw [unhide hv])
                  | (go_at_call 17; refine (late_any _ _ _).mono ?_; rintro e w' ⟨rfl, rfl⟩; first | rw [unhide HL] | rw [unhide hlo])
                  | (go_at_call 19; refine (wakes_any _).mono ?_; rintro e w2 ⟨rfl, hB⟩))
                go_ret
                exact ⟨rfl, hB⟩
              · have HS3 := HS2
                have HS4 := HS2
                have q := unhide C3 rfl
                go_enter Try.func8, Try.ntmps8
                go_wp2_with (first
                  | (go_at_call 9; refine (right_any _ _).mono ?_; rintro e w' ⟨rfl, rfl⟩; first | rw [unhide hr] | rw [unhide hm] | rw [unhide ho] | rw [unhide he])
                  | (go_at_call 11; refine (start_any _ _).mono ?_; rintro e w' ⟨rfl, rfl⟩; first | rw [unhide HS] | rw [unhide HS2] | rw [unhide HS3] | rw [unhide HS4])
                  | (go_at_call 13; refine (end_any _ _).mono ?_; rintro e w' ⟨rfl, rfl⟩; rw [unhide HE])
                  | (go_at_call 15; refine (over_any _ _ _).mono ?_; rintro e w' ⟨rfl, rfl⟩; rw [unhide hv])
                  | (go_at_call 17; refine (late_any _ _ _).mono ?_; rintro e w' ⟨rfl, rfl⟩; first | rw [unhide HL] | rw [unhide hlo])
                  | (go_at_call 19; refine (wakes_any _).mono ?_; rintro e w2 ⟨rfl, hB⟩))
                go_ret
                exact ⟨rfl, hB⟩
            · have HS3 := HS2
              have HS4 := HS2
              have q := unhide C3 rfl
              go_enter Try.func8, Try.ntmps8
              go_wp2_with (first
                | (go_at_call 9; refine (right_any _ _).mono ?_; rintro e w' ⟨rfl, rfl⟩; first | rw [unhide hr] | rw [unhide hm] | rw [unhide ho] | rw [unhide he])
                | (go_at_call 11; refine (start_any _ _).mono ?_; rintro e w' ⟨rfl, rfl⟩; first | rw [unhide HS] | rw [unhide HS2] | rw [unhide HS3] | rw [unhide HS4])
                | (go_at_call 13; refine (end_any _ _).mono ?_; rintro e w' ⟨rfl, rfl⟩; rw [unhide HE])
                | (go_at_call 15; refine (over_any _ _ _).mono ?_; rintro e w' ⟨rfl, rfl⟩; rw [unhide hv])
                | (go_at_call 17; refine (late_any _ _ _).mono ?_; rintro e w' ⟨rfl, rfl⟩; first | rw [unhide HL] | rw [unhide hlo])
                | (go_at_call 19; refine (wakes_any _).mono ?_; rintro e w2 ⟨rfl, hB⟩))
              go_ret
              exact ⟨rfl, hB⟩
    · cases bm
      · cases bv
        · cases bo
          · have HS3 := hide (unhide C0 rfl).1
            have HS4 := hide (unhide C0 rfl).2
            go_enter Try.func8, Try.ntmps8
            go_wp2_with (first
              | (go_at_call 9; refine (right_any _ _).mono ?_; rintro e w' ⟨rfl, rfl⟩; first | rw [unhide hr] | rw [unhide hm] | rw [unhide ho] | rw [unhide he])
              | (go_at_call 11; refine (start_any _ _).mono ?_; rintro e w' ⟨rfl, rfl⟩; first | rw [unhide HS] | rw [unhide HS2] | rw [unhide HS3] | rw [unhide HS4])
              | (go_at_call 13; refine (end_any _ _).mono ?_; rintro e w' ⟨rfl, rfl⟩; rw [unhide HE])
              | (go_at_call 15; refine (over_any _ _ _).mono ?_; rintro e w' ⟨rfl, rfl⟩; rw [unhide hv])
              | (go_at_call 17; refine (late_any _ _ _).mono ?_; rintro e w' ⟨rfl, rfl⟩; first | rw [unhide HL] | rw [unhide hlo])
              | (go_at_call 19; refine (wakes_any _).mono ?_; rintro e w2 ⟨rfl, hB⟩))
            go_ret
            exact ⟨rfl, hB⟩
          · by_cases hao : a ≤ o
            · cases lo
              · have HS3 := hide (unhide C0 rfl).1
                have HS4 := hide (unhide C0 rfl).2
                go_enter Try.func8, Try.ntmps8
                go_wp2_with (first
                  | (go_at_call 9; refine (right_any _ _).mono ?_; rintro e w' ⟨rfl, rfl⟩; first | rw [unhide hr] | rw [unhide hm] | rw [unhide ho] | rw [unhide he])
                  | (go_at_call 11; refine (start_any _ _).mono ?_; rintro e w' ⟨rfl, rfl⟩; first | rw [unhide HS] | rw [unhide HS2] | rw [unhide HS3] | rw [unhide HS4])
                  | (go_at_call 13; refine (end_any _ _).mono ?_; rintro e w' ⟨rfl, rfl⟩; rw [unhide HE])
                  | (go_at_call 15; refine (over_any _ _ _).mono ?_; rintro e w' ⟨rfl, rfl⟩; rw [unhide hv])
                  | (go_at_call 17; refine (late_any _ _ _).mono ?_; rintro e w' ⟨rfl, rfl⟩; first | rw [unhide HL] | rw [unhide hlo])
                  | (go_at_call 19; refine (wakes_any _).mono ?_; rintro e w2 ⟨rfl, hB⟩))
                go_ret
                exact ⟨rfl, hB⟩
              · cases unhide C4 hao rfl
            · have HS3 := hide (unhide C0 rfl).1
              have HS4 := hide (unhide C0 rfl).2
              go_enter Try.func8, Try.ntmps8
              go_wp2_with (first
                | (go_at_call 9; refine (right_any _ _).mono ?_; rintro e w' ⟨rfl, rfl⟩; first | rw [unhide hr] | rw [unhide hm] | rw [unhide ho] | rw [unhide he])
                | (go_at_call 11; refine (start_any _ _).mono ?_; rintro e w' ⟨rfl, rfl⟩; first | rw [unhide HS] | rw [unhide HS2] | rw [unhide HS3] | rw [unhide HS4])
                | (go_at_call 13; refine (end_any _ _).mono ?_; rintro e w' ⟨rfl, rfl⟩; rw [unhide HE])
                | (go_at_call 15; refine (over_any _ _ _).mono ?_; rintro e w' ⟨rfl, rfl⟩; rw [unhide hv])
                | (go_at_call 17; refine (late_any _ _ _).mono ?_; rintro e w' ⟨rfl, rfl⟩; first | rw [unhide HL] | rw [unhide hlo])
                | (go_at_call 19; refine (wakes_any _).mono ?_; rintro e w2 ⟨rfl, hB⟩))
              go_ret
              exact ⟨rfl, hB⟩
        · cases unhide C1 rfl
      · cases bv
        · cases bo
          · have HS3 := hide (unhide C0 rfl).1
            have HS4 := hide (unhide C0 rfl).2
            have q := unhide C2 rfl rfl
            go_enter Try.func8, Try.ntmps8
            go_wp2_with (first
              | (go_at_call 9; refine (right_any _ _).mono ?_; rintro e w' ⟨rfl, rfl⟩; first | rw [unhide hr] | rw [unhide hm] | rw [unhide ho] | rw [unhide he])
              | (go_at_call 11; refine (start_any _ _).mono ?_; rintro e w' ⟨rfl, rfl⟩; first | rw [unhide HS] | rw [unhide HS2] | rw [unhide HS3] | rw [unhide HS4])
              | (go_at_call 13; refine (end_any _ _).mono ?_; rintro e w' ⟨rfl, rfl⟩; rw [unhide HE])
              | (go_at_call 15; refine (over_any _ _ _).mono ?_; rintro e w' ⟨rfl, rfl⟩; rw [unhide hv])
              | (go_at_call 17; refine (late_any _ _ _).mono ?_; rintro e w' ⟨rfl, rfl⟩; first | rw [unhide HL] | rw [unhide hlo])
              | (go_at_call 19; refine (wakes_any _).mono ?_; rintro e w2 ⟨rfl, hB⟩))
            go_ret
            exact ⟨by simp [q], hB⟩
          · by_cases hao : a ≤ o
            · cases lo
              · have HS3 := hide (unhide C0 rfl).1
                have HS4 := hide (unhide C0 rfl).2
                have q := unhide C2 rfl rfl
                go_enter Try.func8, Try.ntmps8
                go_wp2_with (first
                  | (go_at_call 9; refine (right_any _ _).mono ?_; rintro e w' ⟨rfl, rfl⟩; first | rw [unhide hr] | rw [unhide hm] | rw [unhide ho] | rw [unhide he])
                  | (go_at_call 11; refine (start_any _ _).mono ?_; rintro e w' ⟨rfl, rfl⟩; first | rw [unhide HS] | rw [unhide HS2] | rw [unhide HS3] | rw [unhide HS4])
                  | (go_at_call 13; refine (end_any _ _).mono ?_; rintro e w' ⟨rfl, rfl⟩; rw [unhide HE])
                  | (go_at_call 15; refine (over_any _ _ _).mono ?_; rintro e w' ⟨rfl, rfl⟩; rw [unhide hv])
                  | (go_at_call 17; refine (late_any _ _ _).mono ?_; rintro e w' ⟨rfl, rfl⟩; first | rw [unhide HL] | rw [unhide hlo])
                  | (go_at_call 19; refine (wakes_any _).mono ?_; rintro e w2 ⟨rfl, hB⟩))
                go_ret
                exact ⟨by simp [q], hB⟩
              · cases unhide C4 hao rfl
            · have HS3 := hide (unhide C0 rfl).1
              have HS4 := hide (unhide C0 rfl).2
              have q := unhide C2 rfl rfl
              go_enter Try.func8, Try.ntmps8
              go_wp2_with (first
                | (go_at_call 9; refine (right_any _ _).mono ?_; rintro e w' ⟨rfl, rfl⟩; first | rw [unhide hr] | rw [unhide hm] | rw [unhide ho] | rw [unhide he])
                | (go_at_call 11; refine (start_any _ _).mono ?_; rintro e w' ⟨rfl, rfl⟩; first | rw [unhide HS] | rw [unhide HS2] | rw [unhide HS3] | rw [unhide HS4])
                | (go_at_call 13; refine (end_any _ _).mono ?_; rintro e w' ⟨rfl, rfl⟩; rw [unhide HE])
                | (go_at_call 15; refine (over_any _ _ _).mono ?_; rintro e w' ⟨rfl, rfl⟩; rw [unhide hv])
                | (go_at_call 17; refine (late_any _ _ _).mono ?_; rintro e w' ⟨rfl, rfl⟩; first | rw [unhide HL] | rw [unhide hlo])
                | (go_at_call 19; refine (wakes_any _).mono ?_; rintro e w2 ⟨rfl, hB⟩))
              go_ret
              exact ⟨by simp [q], hB⟩
        · cases bo
          · have HS3 := hide (unhide C0 rfl).1
            have HS4 := hide (unhide C0 rfl).2
            have q := unhide C3 rfl
            go_enter Try.func8, Try.ntmps8
            go_wp2_with (first
              | (go_at_call 9; refine (right_any _ _).mono ?_; rintro e w' ⟨rfl, rfl⟩; first | rw [unhide hr] | rw [unhide hm] | rw [unhide ho] | rw [unhide he])
              | (go_at_call 11; refine (start_any _ _).mono ?_; rintro e w' ⟨rfl, rfl⟩; first | rw [unhide HS] | rw [unhide HS2] | rw [unhide HS3] | rw [unhide HS4])
              | (go_at_call 13; refine (end_any _ _).mono ?_; rintro e w' ⟨rfl, rfl⟩; rw [unhide HE])
              | (go_at_call 15; refine (over_any _ _ _).mono ?_; rintro e w' ⟨rfl, rfl⟩; rw [unhide hv])
              | (go_at_call 17; refine (late_any _ _ _).mono ?_; rintro e w' ⟨rfl, rfl⟩; first | rw [unhide HL] | rw [unhide hlo])
              | (go_at_call 19; refine (wakes_any _).mono ?_; rintro e w2 ⟨rfl, hB⟩))
            go_ret
            exact ⟨rfl, hB⟩
          · by_cases hao : a ≤ o
            · cases lo
              · have HS3 := hide (unhide C0 rfl).1
                have HS4 := hide (unhide C0 rfl).2
                have q := unhide C3 rfl
                go_enter Try.func8, Try.ntmps8
                go_wp2_with (first
                  | (go_at_call 9; refine (right_any _ _).mono ?_; rintro e w' ⟨rfl, rfl⟩; first | rw [unhide hr] | rw [unhide hm] | rw [unhide ho] | rw [unhide he])
                  | (go_at_call 11; refine (start_any _ _).mono ?_; rintro e w' ⟨rfl, rfl⟩; first | rw [unhide HS] | rw [unhide HS2] | rw [unhide HS3] | rw [unhide HS4])
                  | (go_at_call 13; refine (end_any _ _).mono ?_; rintro e w' ⟨rfl, rfl⟩; rw [unhide HE])
                  | (go_at_call 15; refine (over_any _ _ _).mono ?_; rintro e w' ⟨rfl, rfl⟩; rw [unhide hv])
                  | (go_at_call 17; refine (late_any _ _ _).mono ?_; rintro e w' ⟨rfl, rfl⟩; first | rw [unhide HL] | rw [unhide hlo])
                  | (go_at_call 19; refine (wakes_any _).mono ?_; rintro e w2 ⟨rfl, hB⟩))
                go_ret
                exact ⟨rfl, hB⟩
              · have HS3 := hide (unhide C0 rfl).1
                have HS4 := hide (unhide C0 rfl).2
                have q := unhide C3 rfl
                go_enter Try.func8, Try.ntmps8
                go_wp2_with (first
                  | (go_at_call 9; refine (right_any _ _).mono ?_; rintro e w' ⟨rfl, rfl⟩; first | rw [unhide hr] | rw [unhide hm] | rw [unhide ho] | rw [unhide he])
                  | (go_at_call 11; refine (start_any _ _).mono ?_; rintro e w' ⟨rfl, rfl⟩; first | rw [unhide HS] | rw [unhide HS2] | rw [unhide HS3] | rw [unhide HS4])
                  | (go_at_call 13; refine (end_any _ _).mono ?_; rintro e w' ⟨rfl, rfl⟩; rw [unhide HE])
                  | (go_at_call 15; refine (over_any _ _ _).mono ?_; rintro e w' ⟨rfl, rfl⟩; rw [unhide hv])
                  | (go_at_call 17; refine (late_any _ _ _).mono ?_; rintro e w' ⟨rfl, rfl⟩; first | rw [unhide HL] | rw [unhide hlo])
                  | (go_at_call 19; refine (wakes_any _).mono ?_; rintro e w2 ⟨rfl, hB⟩))
                go_ret
                exact ⟨rfl, hB⟩
            · have HS3 := hide (unhide C0 rfl).1
              have HS4 := hide (unhide C0 rfl).2
              have q := unhide C3 rfl
              go_enter Try.func8, Try.ntmps8
              go_wp2_with (first
                | (go_at_call 9; refine (right_any _ _).mono ?_; rintro e w' ⟨rfl, rfl⟩; first | rw [unhide hr] | rw [unhide hm] | rw [unhide ho] | rw [unhide he])
                | (go_at_call 11; refine (start_any _ _).mono ?_; rintro e w' ⟨rfl, rfl⟩; first | rw [unhide HS] | rw [unhide HS2] | rw [unhide HS3] | rw [unhide HS4])
                | (go_at_call 13; refine (end_any _ _).mono ?_; rintro e w' ⟨rfl, rfl⟩; rw [unhide HE])
                | (go_at_call 15; refine (over_any _ _ _).mono ?_; rintro e w' ⟨rfl, rfl⟩; rw [unhide hv])
                | (go_at_call 17; refine (late_any _ _ _).mono ?_; rintro e w' ⟨rfl, rfl⟩; first | rw [unhide HL] | rw [unhide hlo])
                | (go_at_call 19; refine (wakes_any _).mono ?_; rintro e w2 ⟨rfl, hB⟩))
              go_ret
              exact ⟨rfl, hB⟩
  · have hr := hide (right_no' h)
    have HE : Hid (endI a = -1) := hide (by unfold endI; rw [if_neg (by omega)])
    clear h
    go_enter Try.func8, Try.ntmps8
    go_wp2_with (first
      | (go_at_call 9; refine (right_any _ _).mono ?_; rintro e w' ⟨rfl, rfl⟩; rw [unhide hr])
      | (go_at_call 13; refine (end_any _ _).mono ?_; rintro e w' ⟨rfl, rfl⟩; rw [unhide HE])
      | (go_at_call 19; refine (wakes_any _).mono ?_; rintro e w2 ⟨rfl, hB⟩))
    go_ret
    exact ⟨rfl, hB⟩
end Go.Proofs.Ytjmbiljeincocaa

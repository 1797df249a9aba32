/- What the program's Right, Start, End, Over, Late and firstOpen answer: the plain ones; the world is the same. Conditions: all numbers are int64's. -/
import Derived.Test.YtigmhljaoicdbaaGreatGCmp
import Derived.Handy
import Derived.WalkKit
import Derived.IntWalk
import Derived.RegionTactic
import Derived.WalkSmall
namespace Go.Proofs.YtigmhljaoicdbaaGreat.Sp
open Go.RowKit

theorem right_any (x : Int) (w : World) : Calls Tryz.prog 64 #[.int .i64 x] w fun e w' => e = .returned (.bool (rightI x)) ∧ w' = w := by
  unfold rightI
  by_cases h1 : 0 ≤ x
  · by_cases h2 : x ≤ 1099511627776
    · rw [decide_eq_true ⟨h1, h2⟩]
      go_enter Tryz.func64, Tryz.ntmps64
      go_wp2
      go_ret
      exact ⟨rfl, rfl⟩
    · rw [decide_eq_false (by omega)]
      go_enter Tryz.func64, Tryz.ntmps64
      go_wp2
      go_ret
      exact ⟨rfl, rfl⟩
  · rw [decide_eq_false (by omega)]
    go_enter Tryz.func64, Tryz.ntmps64
    go_wp2
    go_ret
    exact ⟨rfl, rfl⟩

theorem start_any (x : Int) (w : World) : Calls Tryz.prog 104 #[.int .i64 x] w fun e w' => e = .returned (.int .i64 (startI x)) ∧ w' = w := by
  by_cases h : 0 ≤ x ∧ x ≤ 1099511627776
  · rw [startI_right h]
    have hr := hide (rightI_iff.2 h)
    have e1 : Int.tmod x 10 = x % 10 := Int.tmod_eq_emod_of_nonneg h.1
    have e2 := Go.IntWalk.i64_in (x % 10) (by omega)
    have e3 := Go.IntWalk.i64_in (x - x % 10) (by omega)
    go_enter Tryz.func104, Tryz.ntmps104
    go_wp2_with fail
    refine (right_any _ _).mono ?_
    rintro e w' ⟨rfl, rfl⟩
    rw [unhide hr]
    go_wp2
    go_ret
    exact ⟨rfl, rfl⟩
  · rw [startI_wrong h]
    have hr : Hid (rightI x = false) := hide (by unfold rightI; exact decide_eq_false h)
    clear h
    go_enter Tryz.func104, Tryz.ntmps104
    go_wp2_with fail
    refine (right_any _ _).mono ?_
    rintro e w' ⟨rfl, rfl⟩
    rw [unhide hr]
    go_wp2
    go_ret
    exact ⟨rfl, rfl⟩

theorem end_any (x : Int) (w : World) : Calls Tryz.prog 86 #[.int .i64 x] w fun e w' => e = .returned (.int .i64 (endI x)) ∧ w' = w := by
  unfold endI
  by_cases h : 0 ≤ x ∧ x ≤ 1099511627776
  · have hr := hide (rightI_iff.2 h)
    have hs := hide (startI_right h)
    by_cases h10 : x % 10 = 0
    · rw [if_pos ⟨h.1, h.2, h10⟩]
      have e2 := Go.IntWalk.i64_in (x + 10) (by omega)
      clear h
      go_enter Tryz.func86, Tryz.ntmps86
      go_wp2_with fail
      refine (right_any _ _).mono ?_
      rintro e w' ⟨rfl, rfl⟩
      rw [unhide hr]
      go_wp2_with fail
      refine (start_any _ _).mono ?_
      rintro e w' ⟨rfl, rfl⟩
      rw [unhide hs, h10, Int.sub_zero]
      go_wp2
      go_ret
      exact ⟨rfl, rfl⟩
    · rw [if_neg (by omega)]
      have e2 : ¬ (x - x % 10 = x) := by omega
      clear h
      go_enter Tryz.func86, Tryz.ntmps86
      go_wp2_with fail
      refine (right_any _ _).mono ?_
      rintro e w' ⟨rfl, rfl⟩
      rw [unhide hr]
      go_wp2_with fail
      refine (start_any _ _).mono ?_
      rintro e w' ⟨rfl, rfl⟩
      rw [unhide hs]
      go_wp2
      go_ret
      exact ⟨rfl, rfl⟩
  · rw [if_neg (by omega)]
    have hr : Hid (rightI x = false) := hide (by unfold rightI; exact decide_eq_false h)
    clear h
    go_enter Tryz.func86, Tryz.ntmps86
    go_wp2_with fail
    refine (right_any _ _).mono ?_
    rintro e w' ⟨rfl, rfl⟩
    rw [unhide hr]
    go_wp2
    go_ret
    exact ⟨rfl, rfl⟩

theorem over_any (s m : Int) (w : World) : Calls Tryz.prog 65 #[.int .i64 s, .int .i64 m] w fun e w' => e = .returned (.bool (overI s m)) ∧ w' = w := by
  by_cases h : 0 ≤ s ∧ s ≤ 1099511627776 ∧ s % 10 = 0
  · have he : Hid (endI s = s + 10) := hide (by unfold endI; rw [if_pos h])
    have e1 : 0 ≤ s + 10 := by omega
    by_cases hm : 0 ≤ m ∧ m ≤ 1099511627776
    · have hr := hide (rightI_iff.2 hm)
      have e2 := Go.IntWalk.i64_in (s + 10 + 5) (by omega)
      by_cases ho : s + 15 ≤ m
      · have e3 : s + 10 + 5 ≤ m := by omega
        rw [overI_iff.2 ⟨h, hm, ho⟩]
        clear h hm ho
        go_enter Tryz.func65, Tryz.ntmps65
        go_wp2_with fail
        refine (end_any _ _).mono ?_
        rintro e w' ⟨rfl, rfl⟩
        rw [unhide he]
        go_wp2_with fail
        refine (right_any _ _).mono ?_
        rintro e w' ⟨rfl, rfl⟩
        rw [unhide hr]
        go_wp2
        go_ret
        exact ⟨rfl, rfl⟩
      · have e3 : ¬ s + 10 + 5 ≤ m := by omega
        have eo : overI s m = false := by unfold overI; exact decide_eq_false (fun k => ho k.2.2)
        rw [eo]
        clear h hm ho eo
        go_enter Tryz.func65, Tryz.ntmps65
        go_wp2_with fail
        refine (end_any _ _).mono ?_
        rintro e w' ⟨rfl, rfl⟩
        rw [unhide he]
        go_wp2_with fail
        refine (right_any _ _).mono ?_
        rintro e w' ⟨rfl, rfl⟩
        rw [unhide hr]
        go_wp2
        go_ret
        exact ⟨by simp [e3], rfl⟩
    · have hr : Hid (rightI m = false) := hide (by unfold rightI; exact decide_eq_false hm)
      have eo : overI s m = false := by unfold overI; exact decide_eq_false (fun k => hm k.2.1)
      rw [eo]
      clear h hm eo
      go_enter Tryz.func65, Tryz.ntmps65
      go_wp2_with fail
      refine (end_any _ _).mono ?_
      rintro e w' ⟨rfl, rfl⟩
      rw [unhide he]
      go_wp2_with fail
      refine (right_any _ _).mono ?_
      rintro e w' ⟨rfl, rfl⟩
      rw [unhide hr]
      go_wp2
      go_ret
      exact ⟨rfl, rfl⟩
  · have he : Hid (endI s = -1) := hide (by unfold endI; rw [if_neg h])
    have eo : overI s m = false := by unfold overI; exact decide_eq_false (fun k => h k.1)
    rw [eo]
    clear h eo
    go_enter Tryz.func65, Tryz.ntmps65
    go_wp2_with fail
    refine (end_any _ _).mono ?_
    rintro e w' ⟨rfl, rfl⟩
    rw [unhide he]
    go_wp2
    go_ret
    exact ⟨rfl, rfl⟩

end Go.Proofs.YtigmhljaoicdbaaGreat.Sp

/- slices.Equal over two rows of numbers. No conditions but that the rows are no longer than a slice can be. -/
import Derived.Test.YtkbmbcmcnpeabaaDoorWrL
import Derived.Deep.RegionWith
namespace Go.Proofs.YtkbmbcmcnpeabaaDoor
open Pk Go.RowKit

theorem Moved.drewN {F : Nat → Prop} {a b : World} (h : Moved F a b) (n : Nat) : Moved F a (b.drewN n) := by
  first
    | exact ⟨h.os, h.tape, h.output, h.size, h.block⟩
    | (induction n with
       | zero => exact h
       | succ n ih => exact ih.drew)

set_option maxHeartbeats 1000000 in
theorem equal_any {w : World} (xs ys : List Int) (a b : Option Addr) (c d : Nat) (hX : Ints w a xs) (hY : Ints w b ys) (hx : xs.length ≤ maxLen) :
    Calls Tryd.prog 48 #[.slice a xs.length c, .slice b ys.length d] w fun e w' => e = .returned (.bool (decide (xs = ys))) ∧ Moved (fun _ => False) w w' := by
  unfold maxLen at hx
  by_cases hl : xs.length = ys.length
  · rw [← hl]
    have HX := hide hX
    have HY := hide hY
    have HL := hide hl
    clear hX hY hl
    generalize hz : xs.length = n at *
    have HZ := hide hz
    clear hz
    go_enter Tryd.func48, Tryd.ntmps48
    go_wp2_with fail
    go_loopw [13] (fun t wr => ∃ k : Nat, k ≤ n ∧ t = .int .i64 (k : Int) ∧ xs.take k = ys.take k ∧ Moved (fun _ => False) w wr) (fun t _ => n - (intOf t).toNat)
    case atStart => exact ⟨0, by omega, rfl, by simp, Moved.refl _ _⟩
    case round =>
      obtain ⟨k, hk, rfl, heq, hm⟩ := hrel
      have HE := hide heq
      have HM := hide hm
      clear heq hm
      by_cases hlt : k < n
      · have hkx : k < xs.length := by rw [unhide HZ]; exact hlt
        have hky : k < ys.length := by rw [← unhide HL]; exact hlt
        obtain ⟨x, hxa, hcx⟩ := (unhide HX) k hkx
        obtain ⟨y, hyb, hcy⟩ := (unhide HY) k hky
        have hcx' := ((unhide HM).cell (World.block_lt_of_cell? _ _ hcx) id).trans hcx
        have hcy' := ((unhide HM).cell (World.block_lt_of_cell? _ _ hcy) id).trans hcy
        subst hxa hyb
        have TX := hide (take_snoc' xs k hkx)
        have TY := hide (take_snoc' ys k hky)
        generalize xs.getD k 0 = u at *
        generalize ys.getD k 0 = v at *
        clear hcx hcy hkx hky
        have HD : ∀ n, Hid (Moved (fun _ => False) w (wr.drewN n)) := fun n => hide ((unhide HM).drewN n)
        by_cases huv : u = v
        · subst huv
          go_wp2_with fail
          go_quiet (fail)
          go_wp2_with fail
          go_roundw
          case rel => exact ⟨k + 1, by omega, by go_num, by rw [unhide TX, unhide TY, unhide HE], unhide (HD _)⟩
          case measure => simp [intOf]; omega
        · have hne : xs ≠ ys := fun h => huv (by
            have h1 := unhide TX
            rw [h, unhide TY] at h1
            simpa using (List.append_inj' h1 rfl).2.symm)
          have HN := hide hne
          clear hne
          go_wp2_with fail
          go_quiet (fail)
          go_wp2_with fail
          go_ret
          refine ⟨?_, unhide (HD _)⟩
          rw [decide_eq_false (unhide HN)]
          rfl
      · have hkn : k = n := by omega
        subst hkn
        have hfull : xs = ys := by
          have := unhide HE
          rwa [List.take_of_length_le (by have := unhide HZ; omega), List.take_of_length_le (by have := unhide HL; omega)] at this
        have HF := hide hfull
        clear hfull
        go_wp2_with fail
        go_ret
        refine ⟨?_, unhide HM⟩
        rw [decide_eq_true (unhide HF)]
        rfl
  · have hne : xs ≠ ys := fun h => hl (by rw [h])
    have HN := hide hne
    clear hX hY hne
    generalize xs.length = n at *
    generalize ys.length = m at *
    have hl' : ¬ (n : Int) = m := by omega
    go_enter Tryd.func48, Tryd.ntmps48
    go_wp2_with fail
    go_ret
    refine ⟨?_, Moved.refl _ _⟩
    rw [decide_eq_false (unhide HN)]
    rfl
end Go.Proofs.YtkbmbcmcnpeabaaDoor

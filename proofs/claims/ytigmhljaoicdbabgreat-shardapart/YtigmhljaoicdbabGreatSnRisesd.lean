/- Which of two entries stands ahead, as the program tells. No conditions. -/
import Derived.Test.YtigmhljaoicdbabGreatGSnTwind
namespace Go.Proofs.YtigmhljaoicdbabGreat.Sn
open Go.RowKit

theorem nan_any (x : Int) (w : World) : Calls Tryz.prog 108 #[.int .i64 x] w fun e w' => e = .returned (.bool false) ∧ w' = w := by
  go_enter Tryz.func108, Tryz.ntmps108
  go_wp2
  go_ret
  exact ⟨rfl, rfl⟩
def cmpI (x y : Int) : Int := if x < y then -1 else if y < x then 1 else 0
def orI (x y : Int) : Int := if x ≠ 0 then x else if y ≠ 0 then y else 0
theorem or_any {w : World} {g c : Nat} {x y : Int} (h0 : w.cell? ⟨g, 0, none⟩ = some (.int .i64 x)) (h1 : w.cell? ⟨g, 1, none⟩ = some (.int .i64 y)) :
    Calls Tryz.prog 59 #[.slice (some ⟨g, 0, none⟩) 2 c] w fun e w' => e = .returned (.int .i64 (orI x y)) ∧ w' = w := by
  by_cases hx : x = 0
  · by_cases hy : y = 0
    · have hd : Hid (orI x y = 0) := hide (by unfold orI; rw [if_neg (by simp [hx]), if_neg (by simp [hy])])
      subst hx
      subst hy
      go_enter Tryz.func59, Tryz.ntmps59
      go_wp2_with fail
      refine wp_loop_rounds 3 ?_
      rw [rounds_succ]
      go_wp2_with fail
      rw [rounds_succ]
      go_wp2_with fail
      rw [rounds_succ]
      go_wp2_with fail
      go_ret
      exact ⟨by rw [unhide hd]; rfl, rfl⟩
    · have hd : Hid (orI x y = y) := hide (by unfold orI; rw [if_neg (by simp [hx]), if_pos hy])
      subst hx
      go_enter Tryz.func59, Tryz.ntmps59
      go_wp2_with fail
      refine wp_loop_rounds 3 ?_
      rw [rounds_succ]
      go_wp2_with fail
      rw [rounds_succ]
      go_wp2_with fail
      go_ret
      exact ⟨by rw [unhide hd]; rfl, rfl⟩
  · have hd : Hid (orI x y = x) := hide (by unfold orI; rw [if_pos hx])
    go_enter Tryz.func59, Tryz.ntmps59
    go_wp2_with fail
    refine wp_loop_rounds 3 ?_
    rw [rounds_succ]
    go_wp2_with fail
    go_ret
    exact ⟨by rw [unhide hd]; rfl, rfl⟩
theorem or_cmp (x y : Ent) : decide (orI (cmpI x.src y.src) (cmpI x.seq y.seq) < 0) = ahead x y := by
  unfold ahead
  rw [decide_eq_decide]
  unfold orI cmpI
  by_cases h1 : x.src < y.src
  · simp [h1]
  · by_cases h2 : y.src < x.src
    · simp [h1, h2]; omega
    · have e : x.src = y.src := by omega
      rw [e]
      by_cases h3 : x.seq < y.seq
      · simp [h3]
      · by_cases h4 : y.seq < x.seq
        · simp [h3, h4]
        · simp [h3, h4]
end Go.Proofs.YtigmhljaoicdbabGreat.Sn

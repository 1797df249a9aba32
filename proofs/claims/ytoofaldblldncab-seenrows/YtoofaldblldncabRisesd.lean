/- Which of two entries stands ahead, as the program tells. No conditions. -/
import Derived.Test.YtoofaldblldncabTwind
import Derived.Test.YtoofaldblldncabOfMath
namespace Go.Proofs.Ytoofaldblldncab
open Go.RowKit

theorem nan_any (x : Int) (w : World) : Calls Try.prog 45 #[.int .i64 x] w fun e w' => e = .returned (.bool false) ∧ w' = w := by
  go_enter Try.func45, Try.ntmps45
  go_wp2
  go_ret
  exact ⟨rfl, rfl⟩
def cmpI (x y : Int) : Int := if x < y then -1 else if y < x then 1 else 0
def orI (x y : Int) : Int := if x ≠ 0 then x else if y ≠ 0 then y else 0
theorem or_cmp (x y : Ent) : decide (orI (cmpI x.src y.src) (cmpI x.seq y.seq) < 0) = ahead x y := by
  unfold ahead
  rw [decide_eq_decide]
  unfold orI cmpI
  by_cases h1 : x.src < y.src
  · simp [h1]
  · by_cases h2 : y.src < x.src
    · simp [h1, h2]; omega
    · have e : x.src = y.src := by omega
      rw [e]
      by_cases h3 : x.seq < y.seq
      · simp [h3]
      · by_cases h4 : y.seq < x.seq
        · simp [h3, h4]
        · simp [h3, h4]
end Go.Proofs.Ytoofaldblldncab

/- What the document's Plus and Bucket answer: the plain ones; the world stays. Conditions: all numbers are int64's. -/
import Derived.Test.YtigmhljaoicdbaaGreatCalls
namespace Go.Proofs.YtigmhljaoicdbaaGreat
open Go.RowKit

set_option maxRecDepth 100000 in
theorem ref_plus_any (a b : Int) (w : World) (ha : i64 a) (hb : i64 b) :
    Calls Tryz.prog 107 #[.int .i64 a, .int .i64 b] w fun e w' => e = .returned (.int .i64 (plus a b)) ∧ w' = w := by
  unfold i64 at ha hb
  by_cases h1 : 0 < b ∧ 9223372036854775807 - b < a
  · obtain ⟨h1, h2⟩ := h1
    have e : plus a b = 9223372036854775807 := by unfold plus cl; rw [if_pos (by omega)]
    rw [e]
    have h3 := Go.IntWalk.i64_in (9223372036854775807 - b) (by omega)
    go_enter Tryz.func107, Tryz.ntmps107
    go_wp2
    go_ret
    exact ⟨rfl, rfl⟩
  · by_cases h2 : b < 0 ∧ a < -9223372036854775808 - b
    · obtain ⟨h2, h3⟩ := h2
      have e : plus a b = -9223372036854775808 := by unfold plus cl; rw [if_neg (by omega), if_pos (by omega)]
      rw [e]
      have h4 := Go.IntWalk.i64_in (-9223372036854775808 - b) (by omega)
      have h5 : ¬ 0 < b := by omega
      go_enter Tryz.func107, Tryz.ntmps107
      go_wp2
      go_ret
      exact ⟨rfl, rfl⟩
    · have e : plus a b = a + b := by apply plus_id; unfold i64; omega
      rw [e]
      have h4 := Go.IntWalk.i64_in (a + b) (by omega)
      rcases (by omega : b = 0 ∨ 0 < b ∨ b < 0) with rfl | hp | hn
      · rw [Int.add_zero] at *
        go_enter Tryz.func107, Tryz.ntmps107
        go_wp2
        go_ret
        exact ⟨rfl, rfl⟩
      · have h5 := Go.IntWalk.i64_in (9223372036854775807 - b) (by omega)
        have h6 : ¬ 9223372036854775807 - b < a := by omega
        have h7 : ¬ b < 0 := by omega
        clear h1 h2
        go_enter Tryz.func107, Tryz.ntmps107
        go_wp2
        go_ret
        exact ⟨rfl, rfl⟩
      · have h5 := Go.IntWalk.i64_in (-9223372036854775808 - b) (by omega)
        have h6 : ¬ a < -9223372036854775808 - b := by omega
        have h7 : ¬ 0 < b := by omega
        clear h1 h2
        go_enter Tryz.func107, Tryz.ntmps107
        go_wp2
        go_ret
        exact ⟨rfl, rfl⟩

set_option maxRecDepth 100000 in
theorem ref_bucket_any (v : Int) (w : World) :
    Calls Tryz.prog 108 #[.int .i64 v] w fun e w' => e = .returned (.int .i64 (bucket v)) ∧ w' = w := by
  unfold bucket
  by_cases h0 : v < 0
  · rw [if_pos h0]
    go_enter Tryz.func108, Tryz.ntmps108
    go_wp2
    go_ret
    exact ⟨rfl, rfl⟩
  · rw [if_neg h0]
    by_cases h1 : v < 10
    · rw [if_pos h1]
      go_enter Tryz.func108, Tryz.ntmps108
      go_wp2
      go_ret
      exact ⟨rfl, rfl⟩
    · rw [if_neg h1]
      by_cases h2 : v < 100
      · rw [if_pos h2]
        go_enter Tryz.func108, Tryz.ntmps108
        go_wp2
        go_ret
        exact ⟨rfl, rfl⟩
      · rw [if_neg h2]
        go_enter Tryz.func108, Tryz.ntmps108
        go_wp2
        go_ret
        exact ⟨rfl, rfl⟩

end Go.Proofs.YtigmhljaoicdbaaGreat

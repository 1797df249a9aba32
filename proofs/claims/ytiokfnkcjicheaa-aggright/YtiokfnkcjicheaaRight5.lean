/- What AggRight does, for every list: it answers true, and nothing that was there has turned. Conditions: none. -/
import Derived.Test.YtiokfnkcjicheaaRightWalk
namespace Go.Proofs.Ytiokfnkcjicheaa
open Go.RowKit

theorem rightlaw_long (a : Option Addr) (cap : Nat) (n : Nat) (at_ : Int) (w : World) (g : (1000 : Int) < (n : Int)) :
    Calls Try.prog 5 #[.slice a n cap, .int .i64 at_] w fun e w' => e = .returned (.bool true) ∧ Below w.heap.size w w' := by
  go_enter Try.func5, Try.ntmps5
  go_wp2_with fail
  refine (awake_any _).mono ?_
  rintro e w14 ⟨rfl, hb⟩
  go_wp2_with fail
  go_ret
  exact ⟨rfl, hb⟩
theorem rightlaw_any (a : Option Addr) (len cap : Nat) (xs : List Int) (at_ : Int) (w : World) (h : IntsIn w a len xs) (hcap : len ≤ cap ∧ cap ≤ maxLen) (hat : i64 at_) :
    Calls Try.prog 5 #[.slice a len cap, .int .i64 at_] w fun e w' => e = .returned (.bool true) ∧ Below w.heap.size w w' := by
  obtain rfl := h.len
  by_cases g : (1000 : Int) < (xs.length : Int)
  · exact rightlaw_long a cap _ at_ w g
  · exact rightlaw_main a cap xs at_ w h hcap hat g
end Go.Proofs.Ytiokfnkcjicheaa

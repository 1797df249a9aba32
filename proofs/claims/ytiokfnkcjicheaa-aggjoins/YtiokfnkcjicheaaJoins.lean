/- What AggJoins does, for any input: it answers true, and nothing that was there has turned. No conditions. -/
import Derived.Test.YtiokfnkcjicheaaJoinsWalk
namespace Go.Proofs.Ytiokfnkcjicheaa
open Go.RowKit

set_option maxHeartbeats 1000000 in
theorem joins_long (a1 a2 a3 : Option Addr) (n1 n2 n3 c1 c2 c3 : Nat) (w : World) (b1 : n1 ≤ 2 ^ 63 - 1) (b2 : n2 ≤ 2 ^ 63 - 1) (b3 : n3 ≤ 2 ^ 63 - 1)
    (h : (300 : Int) < (n1 : Int) ∨ (300 : Int) < (n2 : Int) ∨ (300 : Int) < (n3 : Int)) :
    Calls Try.prog 8 #[.slice a1 n1 c1, .slice a2 n2 c2, .slice a3 n3 c3] w fun e w' => e = .returned (.bool true) ∧ Below w.heap.size w w' := by
  by_cases g1 : (300 : Int) < (n1 : Int)
  · clear h
    go_enter Try.func8, Try.ntmps8
    go_wp2_with fail
    refine (awake_any _).mono ?_
    rintro e w1 ⟨rfl, hb⟩
    go_wp2_with fail
    go_ret
    exact ⟨rfl, hb⟩
  · by_cases g2 : (300 : Int) < (n2 : Int)
    · clear h
      go_enter Try.func8, Try.ntmps8
      go_wp2_with fail
      refine (awake_any _).mono ?_
      rintro e w1 ⟨rfl, hb⟩
      go_wp2_with fail
      go_ret
      exact ⟨rfl, hb⟩
    · have g3 : (300 : Int) < (n3 : Int) := by omega
      clear h
      go_enter Try.func8, Try.ntmps8
      go_wp2_with fail
      refine (awake_any _).mono ?_
      rintro e w1 ⟨rfl, hb⟩
      go_wp2_with fail
      go_ret
      exact ⟨rfl, hb⟩
theorem joins_any (a1 : Option Addr) (n1 c1 : Nat) (ks : List Int) (a2 : Option Addr) (n2 c2 : Nat) (ls : List Int) (a3 : Option Addr) (n3 c3 : Nat) (ms : List Int) (w : World) (h1 : IntsIn w a1 n1 ks) (h2 : IntsIn w a2 n2 ls) (h3 : IntsIn w a3 n3 ms) :
    Calls Try.prog 8 #[.slice a1 n1 c1, .slice a2 n2 c2, .slice a3 n3 c3] w fun e w' => e = .returned (.bool true) ∧ Below w.heap.size w w' := by
  have e1 := h1.len
  have e2 := h2.len
  have e3 := h3.len
  subst e1
  subst e2
  subst e3
  by_cases h : (300 : Int) < (ks.length : Int) ∨ (300 : Int) < (ls.length : Int) ∨ (300 : Int) < (ms.length : Int)
  · exact joins_long a1 a2 a3 _ _ _ c1 c2 c3 w h1.max h2.max h3.max h
  · exact joins_main a1 a2 a3 c1 c2 c3 ks ls ms w h1 h2 h3 (fun g => h (.inl g)) (fun g => h (.inr (.inl g))) (fun g => h (.inr (.inr g)))
end Go.Proofs.Ytiokfnkcjicheaa

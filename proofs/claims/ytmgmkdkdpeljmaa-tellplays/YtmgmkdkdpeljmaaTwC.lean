/- What TellPlays does: it answers true, and nothing that was there has turned. No conditions. -/
import Derived.Test.YtmgmkdkdpeljmaaTwA
import Derived.Test.YtmgmkdkdpeljmaaTwB
import Derived.Test.YtmgmkdkdpeljmaaRows
import Derived.WalkKit
import Derived.ProofKit
import Derived.OpenShut
import Derived.ChangeOld
import Derived.Below
import Derived.Test.YtmgmkdkdpeljmaaR4
namespace Go.Proofs.Ytmgmkdkdpeljmaa
open Go.RowKit
set_option maxRecDepth 100000 in
set_option maxHeartbeats 2000000 in
theorem tplaysw_any (m : Int) (ao : Option Addr) (lo co : Nat) (o : List (Win AggV)) (a : Option Addr) (len cap : Nat) (z : List ActL) (w : World) (ho : IsOuts w ao lo co o) (hz : IsActL w a len cap z) :
    Calls Try.prog 4 #[.int .i64 m, .slice ao lo co, .slice a len cap] w fun e w' => e = .returned (.bool true) ∧ Below w.heap.size w w' := by
  obtain rfl := ho.size_
  have GRL := hide (greatL_any a len cap z w hz)
  have GRW := hide (greatW_any ao o.length co o w ho)
  have WK := hide twakes_any
  cases hg1 : tooGreatL z with
  | true =>
    rw [hg1] at GRL
    clear hg1 hz ho GRW
    go_enter Try.func4, Try.ntmps4
    go_upto_region 2 with fail
    refine (unhide GRL).mono ?_
    rintro e v' ⟨rfl, hw⟩
    rw [hw]
    clear hw v' GRL
    go_wp2_with fail
    refine (unhide WK _).mono ?_
    rintro e v' ⟨rfl, hb⟩
    go_wp2_with fail
    go_ret
    exact ⟨rfl, hb⟩
  | false =>
    cases hg2 : tooGreatW o with
    | true =>
      rw [hg1] at GRL
      rw [hg2] at GRW
      clear hg1 hg2 hz ho
      go_enter Try.func4, Try.ntmps4
      go_upto_region 2 with fail
      refine (unhide GRL).mono ?_
      rintro e v' ⟨rfl, hw⟩
      rw [hw]
      clear hw v' GRL
      go_upto_region 2 with fail
      refine (unhide GRW).mono ?_
      rintro e v' ⟨rfl, hw⟩
      rw [hw]
      clear hw v' GRW
      go_wp2_with fail
      refine (unhide WK _).mono ?_
      rintro e v' ⟨rfl, hb⟩
      go_wp2_with fail
      go_ret
      exact ⟨rfl, hb⟩
    | false =>
      have hmost : o.length ≤ 1000 := by
        unfold tooGreatW at hg2
        simp at hg2
        omega
      by_cases h0 : (ofL m o).2 = 0
      · exact tplaysw_ok m ao co o a len cap z w ho hz hg1 hg2 hmost h0
      · exact tplaysw_no m ao co o a len cap z w ho hz hg1 hg2 hmost h0
end Go.Proofs.Ytmgmkdkdpeljmaa

namespace Go.Proofs.Ytmgmkdkdpeljmaa.tellPlays
open Go.ChangeShapes Go.WideShapes Go.ChangeAt Go.RowKit
open Go.ChangeMaps (open_string shut_string)

theorem own : ownKnob Try.prog.godebug = none := by kernel_rfl
theorem laidOut : laidOutB Try.prog = true := by kernel_rfl

set_option maxRecDepth 100000 in
theorem lifted (os : Os) (started : os.Started) (H : Type) (enc : TypeId × Value → H) :
    ReturnsInHanded {} Try.checked os 4 .any (Rows.tellPlaysSpec.pre6 enc Try.prog Try.f4 Rows.tellPlaysRow.domain false) (Rows.tellPlaysSpec.post enc Try.prog Try.f4 false true false false) := by
  refine returnsInHanded_of_change (C := Try.checked) own started (by kernel_rfl) Try.func4
    (ChangeSpec.witness6 (enc := enc) (C := Try.checked) false ⟨#[], #[.int .i64 0, .slice none 0 0, .slice none 0 0], []⟩ 8 (by kernel_rfl) (by kernel_rfl) (by kernel_rfl) (by kernel_rfl)) ?_
  intro W base args ds gs before hval0 hW hcnd _
  have hval : ∀ (j : Nat) t v, Try.f4.params[j]? = some t → args[j]? = some v → Value.okWide Try.prog W .any base t v := hval0
  have hW' := hW
  obtain ⟨p, q, hA0, hV, rfl, hfz, hnd⟩ := hW
  have hA : DataW.TrodAll enc Try.prog W 0 (fun _ => true) true Try.f4.params.toList args.toList ds p := hA0
  rw [Try.params4] at hA hval
  obtain ⟨v0, vs0, d0, ds0, p0, q0, hargs, rfl, rfl, h0, r0⟩ := trodAll_cons hA
  obtain ⟨v1, vs1, d1, ds1, p1, q1, rfl, rfl, rfl, h1, r1⟩ := trodAll_cons r0
  obtain ⟨v2, vs2, d2, ds2, p2, q2, rfl, rfl, rfl, h2, r2⟩ := trodAll_cons r1
  obtain ⟨rfl, rfl, rfl⟩ := trodAll_nil r2
  obtain rfl : args = #[v0, v1, v2] := by cases args; simp_all
  obtain ⟨rfl, rfl⟩ := trodVars_none hV
  obtain ⟨x0, rfl, rfl, rfl, w0⟩ := open_int Try.underlying2 (hval 0 2 v0 rfl rfl) h0
  obtain ⟨a1, len1, cap1, rfl⟩ := okWide_slice Try.underlying28 (hval 1 28 v1 rfl rfl)
  have k1 := h1
  have lt1 : ∀ x ∈ p1, x.block < W.heap.size := by obtain ⟨m, hm⟩ := k1; exact DataW.trod_lt m _ _ _ hm
  obtain ⟨z1, w1⟩ := outs_of h1
  obtain ⟨a2, len2, cap2, rfl⟩ := okWide_slice Try.underlying42 (hval 2 42 v2 rfl rfl)
  have k2 := h2
  have lt2 : ∀ x ∈ p2, x.block < W.heap.size := by obtain ⟨m, hm⟩ := k2; exact DataW.trod_lt m _ _ _ hm
  obtain ⟨z2, w2⟩ := actLs_of h2
  clear hA0 hval0
  refine (tplaysw_any x0 a1 len1 cap1 z1 a2 len2 cap2 z2 W w1 w2).mono fun e W' ⟨he, bel⟩ => ?_
  subst he
  exact ⟨_, rfl, _, _, _, [], _, [], hW', trodAll_mk1 (shut_bool Try.underlying4 _), (trodAll_cons_mk (shut_int Try.underlying2 w0) (trodAll_cons_mk (Below.trod laidOut (by kernel_rfl) (of_decide_eq_true (by kernel_rfl)) k1 bel lt1) (trodAll_cons_mk (Below.trod laidOut (by kernel_rfl) (of_decide_eq_true (by kernel_rfl)) k2 bel lt2) trodAll_mk0))), rfl, bel.frame _, fun h => by cases h⟩

theorem over : Rows.tellPlaysRow.holds Try.pinned (OpenSpec.ofChange Rows.tellPlaysSpec) :=
  OpenClaim.holds_of_wide 4 Try.f4 rfl rfl rfl rfl rfl rfl rfl ⟨rfl, rfl, rfl, rfl, rfl⟩ rfl rfl rfl rfl rfl (by kernel_rfl) Try.func4 (by kernel_rfl)
    (of_decide_eq_true (by kernel_rfl)) (by unfold Func.isWrapper; first | (rw [if_pos (by decide +kernel)]; kernel_rfl) | (rw [if_neg (by decide +kernel)]; exact ⟨rfl, rfl⟩))
    (fun os started H enc _ => lifted os started H enc)
end Go.Proofs.Ytmgmkdkdpeljmaa.tellPlays
namespace Go.Proofs.Ytmgmkdkdpeljmaa
theorem tellPlays_holds : Rows.TellPlaysSaid := tellPlays.over
end Go.Proofs.Ytmgmkdkdpeljmaa

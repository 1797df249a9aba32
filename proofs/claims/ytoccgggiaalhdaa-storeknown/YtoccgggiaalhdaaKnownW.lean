/- What StoreKnown does: it answers true, and nothing that was there has turned. No conditions. -/
import Derived.Test.YtoccgggiaalhdaaKnownM
namespace Go.Proofs.Ytoccgggiaalhdaa
open Go.RowKit
attribute [local irreducible] kn2 kn3 kn4 kk kkl wk1
set_option maxRecDepth 100000 in
set_option maxHeartbeats 8000000 in
theorem stknown_any (w : World) : Calls Try.prog 7 #[] w fun e w' => e = .returned (.bool true) ∧ Below w.heap.size w w' := by
  have hw0 := Here.new (Below.refl w.heap.size w) (R := []) (fun _ h => by cases h)
  have WK := hide wakes_any
  go_enter Try.func7, Try.ntmps7
  go_upto_region 2 with (first | (go_at_call 11; refine hw0.mono ?_; rintro e v1 ⟨rfl, HERE⟩; clear hw0; generalize w.heap.size = p0 at HERE ⊢; replace HERE := hide HERE))
  go_upto_region 3 with fail
  refine (kp1 (unhide HERE)).mono ?_
  rintro e v' ⟨rfl, HE⟩
  clear HERE
  have HERE := hide HE
  clear HE
  go_upto_region 3 with fail
  refine (kp2 (unhide HERE)).mono ?_
  rintro e v' ⟨rfl, HE⟩
  clear HERE
  have HERE := hide HE
  clear HE
  go_upto_region 3 with fail
  refine (kp3 (unhide HERE)).mono ?_
  rintro e v' ⟨rfl, HE⟩
  clear HERE
  have HERE := hide HE
  clear HE
  go_upto_region 3 with fail
  refine (kp4 (unhide HERE)).mono ?_
  rintro e v' ⟨rfl, HE⟩
  clear HERE
  have HERE := hide HE
  clear HE
  go_upto_region 3 with fail
  go_upto_region 4 with (first | (go_at_call 24; refine (kall (unhide HERE)).mono ?_; rintro e v6 ⟨g, cp, rfl, HE⟩; clear HERE; have HERE := hide HE; clear HE))
  have c00 : v6.cell? ⟨g, 0, none⟩ = some (.string ⟨#[97]⟩) := krow (unhide HERE) kr0 0 _ rfl
  have c01 : v6.cell? ⟨g, 1, none⟩ = some (.int .i64 0) := krow (unhide HERE) kr0 1 _ rfl
  have c10 : v6.cell? ⟨g, 10, none⟩ = some (.string ⟨#[97]⟩) := krow (unhide HERE) kr1 0 _ rfl
  have c11 : v6.cell? ⟨g, 11, none⟩ = some (.int .i64 10) := krow (unhide HERE) kr1 1 _ rfl
  have c20 : v6.cell? ⟨g, 20, none⟩ = some (.string ⟨#[98]⟩) := krow (unhide HERE) kr2 0 _ rfl
  have c23 : v6.cell? ⟨g, 23, none⟩ = some (.int .i64 6) := krow (unhide HERE) kr2 3 _ rfl
  go_upto_region 5 with fail
  clear c00 c01 c10 c11 c20 c23
  go_upto_region 6 with fail
  refine (ktake1 (unhide HERE)).mono ?_
  rintro e v' ⟨a, c, rfl, HE⟩
  clear HERE
  have HERE := hide HE
  clear HE
  go_upto_region 6 with fail
  refine (ktake2 (unhide HERE)).mono ?_
  rintro e v' ⟨a2, c2, rfl, HE⟩
  clear HERE
  have HERE := hide HE
  clear HE
  go_upto_region 6 with fail
  refine (klen (unhide HERE)).mono ?_
  rintro e v' ⟨rfl, hw⟩
  rw [hw]
  clear hw v'
  go_upto_region 6 with fail
  go_upto_region 7 with fail
  refine (kp5 (unhide HERE)).mono ?_
  rintro e v' ⟨rfl, HE⟩
  clear HERE
  have HERE := hide HE
  clear HE
  go_upto_region 7 with fail
  refine (kp6 (unhide HERE)).mono ?_
  rintro e v' ⟨rfl, HE⟩
  clear HERE
  have HERE := hide HE
  clear HE
  go_upto_region 7 with (refine wpList_load_on rfl 32 (.tmp 104) rfl g 2 rfl [.int .i64 1, .int .i64 2, .int .i64 2, .int .i64 2, .int .i64 0, .int .i64 1, .int .i64 0, .int .i64 0] _ (kagg (unhide HERE)) Try.underlying32 rfl (by kernel_rfl) ?_)
  refine (ks1 (unhide HERE)).mono ?_
  rintro e v' ⟨rfl, HE⟩
  clear HERE
  have HERE := hide HE
  clear HE
  go_upto_region 7 with (refine wpList_load_on rfl 34 (.tmp 113) rfl g 10 rfl [.string ⟨#[97]⟩, .int .i64 10, .int .i64 1, .int .i64 7, .int .i64 7, .int .i64 7, .int .i64 0, .int .i64 1, .int .i64 0, .int .i64 0] _ (kout (unhide HERE)) Try.underlying34 rfl (by kernel_rfl) ?_)
  refine (ks2 (unhide HERE)).mono ?_
  rintro e v' ⟨rfl, HE⟩
  clear HERE
  have HERE := hide HE
  clear HE
  go_upto_region 7 with fail
  refine (ks3 (unhide HERE)).mono ?_
  rintro e v' ⟨rfl, HE⟩
  clear HERE
  have HERE := hide HE
  clear HE
  go_upto_region 7 with fail
  go_upto_region 8 with (first | (go_at_call 11; refine (knew (unhide HERE)).mono ?_; rintro e v9 ⟨rfl, HE⟩; clear HERE; have HERE := hide HE; clear HE))
  generalize v'.heap.size = q at HERE ⊢
  go_wp2_with fail
  go_loopw [8] (fun i wr => ∃ j : Nat, i = .int .i64 (j : Int) ∧ j ≤ 32 ∧ Here w wr q (kk j) [(some ⟨g, 0, none⟩, cp, kn4)]) (fun i _ => 32 - (intOf i).toNat)
  case atStart => exact ⟨0, rfl, by omega, unhide HERE⟩
  case round =>
    obtain ⟨j, rfl, hj, hr⟩ := hrel
    have HR := hide hr
    clear hr HERE
    by_cases h1 : j < 32
    · have g1 : (j : Int) < 32 := by omega
      have hwj : IntKind.i64.wrap ((j : Int) + 1) = (j : Int) + 1 := Go.IntWalk.i64_in _ (by omega)
      have hwm : IntKind.i64.wrap (10 * (j : Int)) = 10 * (j : Int) := Go.IntWalk.i64_in _ (by omega)
      go_wp2_with fail
      refine (kpi h1 (unhide HR)).mono ?_
      rintro e v' ⟨rfl, HE⟩
      have HN := hide HE
      clear HE HR
      go_wp2_with fail
      exact ⟨⟨j + 1, rfl, by omega, unhide HN⟩, by simp [intOf]; omega⟩
    · have g1 : ¬ (j : Int) < 32 := by omega
      have hje : j = 32 := by omega
      subst hje
      have HERE := hide (unhide HR)
      clear HR
      go_upto_region 13 with fail
      go_upto_region 14 with fail
      refine (kp7 (unhide HERE)).mono ?_
      rintro e v' ⟨rfl, HE⟩
      clear HERE
      have HERE := hide HE
      clear HE
      go_upto_region 14 with fail
      refine (kp8 (unhide HERE)).mono ?_
      rintro e v' ⟨rfl, HE⟩
      clear HERE
      have HERE := hide HE
      clear HE
      go_upto_region 14 with (refine wpList_load_on rfl 32 (.tmp 146) rfl g 2 rfl [.int .i64 1, .int .i64 2, .int .i64 2, .int .i64 2, .int .i64 0, .int .i64 1, .int .i64 0, .int .i64 0] _ (kagg (unhide HERE)) Try.underlying32 rfl (by kernel_rfl) ?_)
      refine (ks4 (unhide HERE)).mono ?_
      rintro e v' ⟨rfl, HE⟩
      clear HERE
      have HERE := hide HE
      clear HE
      go_upto_region 14 with fail
      refine (kklen (unhide HERE)).mono ?_
      rintro e v' ⟨rfl, hw⟩
      rw [hw]
      clear hw v'
      go_upto_region 14 with fail
      have BEL := hide (unhide HERE).bel
      clear HERE
      go_wp2_with fail
      refine (unhide WK _).mono ?_
      rintro e v' ⟨rfl, hb⟩
      go_wp2_with fail
      go_ret
      exact ⟨rfl, (unhide BEL).trans (hb.mono (unhide BEL).size)⟩
end Go.Proofs.Ytoccgggiaalhdaa

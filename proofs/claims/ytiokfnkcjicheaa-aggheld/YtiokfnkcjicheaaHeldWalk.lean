/- What AggHeld does, for any input: it answers true, and nothing that was there has turned. No conditions. -/
import Derived.Test.YtiokfnkcjicheaaAwake
namespace Go.Proofs.Ytiokfnkcjicheaa
open Go.RowKit

theorem plus_le {a b c : Int} (h : b ≤ c) : plus a b ≤ plus a c := by
  unfold plus cl
  repeat' split
  all_goals omega
set_option maxHeartbeats 2000000 in
theorem held_any (a b c : Int) (w : World) (ha : -9223372036854775808 ≤ a ∧ a ≤ 9223372036854775807) (hb : -9223372036854775808 ≤ b ∧ b ≤ 9223372036854775807) (hc : -9223372036854775808 ≤ c ∧ c ≤ 9223372036854775807) :
    Calls Try.prog 6 #[.int .i64 a, .int .i64 b, .int .i64 c] w fun e w' => e = .returned (.bool true) ∧ Below w.heap.size w w' := by
  have HA : Hid (i64 a) := hide ha
  have HB : Hid (i64 b) := hide hb
  have HC : Hid (i64 c) := hide hc
  obtain ⟨s, hs⟩ : ∃ s, s = plus a b := ⟨_, rfl⟩
  have HS := hide hs
  have hs1 : s = if 9223372036854775807 < a + b then 9223372036854775807 else if a + b < -9223372036854775808 then -9223372036854775808 else a + b := hs
  have E1 : Hid (plus b a = s) := hide (by rw [hs, plus_comm])
  have E2 : Hid (plus a 0 = a) := hide (plus_zero ha)
  have E3 : Hid (b ≤ c → s ≤ plus a c) := hide (fun h => by rw [hs]; exact plus_le h)
  have I0 : Hid (i64 0) := hide (by unfold i64; omega)
  clear hs
  rcases Int.lt_or_le a 0 with h1 | h1
  · have h1' : ¬ 0 ≤ a := by omega
    rcases Int.lt_or_le b 0 with h2 | h2
    · have h2' : ¬ 0 ≤ b := by omega
      have n1 : ¬ a < s := by rw [hs1]; split <;> (try split) <;> omega
      rcases Int.lt_or_le (-9223372036854775808) s with h3 | h3
      · have e : s = a + b := by rw [hs1] at h3 ⊢; split at h3 <;> (try split at h3) <;> (split <;> (try split)) <;> omega
        have h4 : ¬ s = -9223372036854775808 := by omega
        have hw : IntKind.i64.wrap (s - a) = b := by rw [Go.IntWalk.i64_in (s - a) (by omega)]; omega
        clear hs1 ha hb hc
        have HE := hide e
        clear e
        go_enter Try.func6, Try.ntmps6
        go_wp2_with fail
        refine (plus_any _ _ _ (unhide HA) (unhide HB)).mono ?_
        rintro e w1 ⟨rfl, rfl⟩
        rw [← unhide HS]
        go_wp2_with fail
        refine (plus_any _ _ _ (unhide HB) (unhide HA)).mono ?_
        rintro e w1 ⟨rfl, rfl⟩
        rw [unhide E1]
        go_wp2_with fail
        refine (plus_any _ _ _ (unhide HA) (unhide I0)).mono ?_
        rintro e w1 ⟨rfl, rfl⟩
        rw [unhide E2]
        rcases Int.lt_or_le c b with hcb | hcb
        · go_wp2_with fail
          refine (awake_any _).mono ?_
          rintro e w1 ⟨rfl, bel⟩
          go_wp2_with fail
          go_ret
          first | exact ⟨rfl, bel⟩ | (refine ⟨congrArg (fun b => Ending.returned (Value.bool b)) (?_ : _ = true), bel⟩; have he := unhide HE; simp; omega)
        · have hcb' : ¬ c < b := by omega
          have hle := unhide E3 hcb
          go_wp2_with fail
          refine (plus_any _ _ _ (unhide HA) (unhide HC)).mono ?_
          rintro e w1 ⟨rfl, rfl⟩
          go_wp2_with fail
          refine (awake_any _).mono ?_
          rintro e w1 ⟨rfl, bel⟩
          go_wp2_with fail
          go_ret
          first | exact ⟨rfl, bel⟩ | (refine ⟨congrArg (fun b => Ending.returned (Value.bool b)) (?_ : _ = true), bel⟩; have he := unhide HE; simp; omega)
      · have e : s = -9223372036854775808 := by rw [hs1] at h3 ⊢; split at h3 <;> (try split at h3) <;> (split <;> (try split)) <;> omega
        have h3' : ¬ -9223372036854775808 < s := by omega
        have hw : IntKind.i64.wrap (-9223372036854775808 - a) = -9223372036854775808 - a := Go.IntWalk.i64_in _ (by omega)
        have h5 : ¬ (-9223372036854775808 - a) < b := by rw [hs1] at e; split at e <;> (try split at e) <;> omega
        clear hs1 ha hb hc h3
        have HE := hide e
        clear e
        go_enter Try.func6, Try.ntmps6
        go_wp2_with fail
        refine (plus_any _ _ _ (unhide HA) (unhide HB)).mono ?_
        rintro e w1 ⟨rfl, rfl⟩
        rw [← unhide HS]
        go_wp2_with fail
        refine (plus_any _ _ _ (unhide HB) (unhide HA)).mono ?_
        rintro e w1 ⟨rfl, rfl⟩
        rw [unhide E1]
        go_wp2_with fail
        refine (plus_any _ _ _ (unhide HA) (unhide I0)).mono ?_
        rintro e w1 ⟨rfl, rfl⟩
        rw [unhide E2]
        rcases Int.lt_or_le c b with hcb | hcb
        · go_wp2_with fail
          refine (awake_any _).mono ?_
          rintro e w1 ⟨rfl, bel⟩
          go_wp2_with fail
          go_ret
          first | exact ⟨rfl, bel⟩ | (refine ⟨congrArg (fun b => Ending.returned (Value.bool b)) (?_ : _ = true), bel⟩; have he := unhide HE; simp; omega)
        · have hcb' : ¬ c < b := by omega
          have hle := unhide E3 hcb
          go_wp2_with fail
          refine (plus_any _ _ _ (unhide HA) (unhide HC)).mono ?_
          rintro e w1 ⟨rfl, rfl⟩
          go_wp2_with fail
          refine (awake_any _).mono ?_
          rintro e w1 ⟨rfl, bel⟩
          go_wp2_with fail
          go_ret
          first | exact ⟨rfl, bel⟩ | (refine ⟨congrArg (fun b => Ending.returned (Value.bool b)) (?_ : _ = true), bel⟩; have he := unhide HE; simp; omega)
    · have e : s = a + b := by rw [hs1]; split <;> (try split) <;> omega
      have h2' : ¬ b < 0 := by omega
      have hw : IntKind.i64.wrap (s - a) = b := by rw [Go.IntWalk.i64_in (s - a) (by omega)]; omega
      clear hs1 ha hb hc
      have HE := hide e
      clear e
      go_enter Try.func6, Try.ntmps6
      go_wp2_with fail
      refine (plus_any _ _ _ (unhide HA) (unhide HB)).mono ?_
      rintro e w1 ⟨rfl, rfl⟩
      rw [← unhide HS]
      go_wp2_with fail
      refine (plus_any _ _ _ (unhide HB) (unhide HA)).mono ?_
      rintro e w1 ⟨rfl, rfl⟩
      rw [unhide E1]
      go_wp2_with fail
      refine (plus_any _ _ _ (unhide HA) (unhide I0)).mono ?_
      rintro e w1 ⟨rfl, rfl⟩
      rw [unhide E2]
      rcases Int.lt_or_le c b with hcb | hcb
      · go_wp2_with fail
        refine (awake_any _).mono ?_
        rintro e w1 ⟨rfl, bel⟩
        go_wp2_with fail
        go_ret
        first | exact ⟨rfl, bel⟩ | (refine ⟨congrArg (fun b => Ending.returned (Value.bool b)) (?_ : _ = true), bel⟩; have he := unhide HE; simp; omega)
      · have hcb' : ¬ c < b := by omega
        have hle := unhide E3 hcb
        go_wp2_with fail
        refine (plus_any _ _ _ (unhide HA) (unhide HC)).mono ?_
        rintro e w1 ⟨rfl, rfl⟩
        go_wp2_with fail
        refine (awake_any _).mono ?_
        rintro e w1 ⟨rfl, bel⟩
        go_wp2_with fail
        go_ret
        first | exact ⟨rfl, bel⟩ | (refine ⟨congrArg (fun b => Ending.returned (Value.bool b)) (?_ : _ = true), bel⟩; have he := unhide HE; simp; omega)
  · have h1' : ¬ a < 0 := by omega
    rcases Int.lt_or_le b 0 with h2 | h2
    · have h2' : ¬ 0 ≤ b := by omega
      have e : s = a + b := by rw [hs1]; split <;> (try split) <;> omega
      have hw : IntKind.i64.wrap (s - a) = b := by rw [Go.IntWalk.i64_in (s - a) (by omega)]; omega
      clear hs1 ha hb hc
      have HE := hide e
      clear e
      go_enter Try.func6, Try.ntmps6
      go_wp2_with fail
      refine (plus_any _ _ _ (unhide HA) (unhide HB)).mono ?_
      rintro e w1 ⟨rfl, rfl⟩
      rw [← unhide HS]
      go_wp2_with fail
      refine (plus_any _ _ _ (unhide HB) (unhide HA)).mono ?_
      rintro e w1 ⟨rfl, rfl⟩
      rw [unhide E1]
      go_wp2_with fail
      refine (plus_any _ _ _ (unhide HA) (unhide I0)).mono ?_
      rintro e w1 ⟨rfl, rfl⟩
      rw [unhide E2]
      rcases Int.lt_or_le c b with hcb | hcb
      · go_wp2_with fail
        refine (awake_any _).mono ?_
        rintro e w1 ⟨rfl, bel⟩
        go_wp2_with fail
        go_ret
        first | exact ⟨rfl, bel⟩ | (refine ⟨congrArg (fun b => Ending.returned (Value.bool b)) (?_ : _ = true), bel⟩; have he := unhide HE; simp; omega)
      · have hcb' : ¬ c < b := by omega
        have hle := unhide E3 hcb
        go_wp2_with fail
        refine (plus_any _ _ _ (unhide HA) (unhide HC)).mono ?_
        rintro e w1 ⟨rfl, rfl⟩
        go_wp2_with fail
        refine (awake_any _).mono ?_
        rintro e w1 ⟨rfl, bel⟩
        go_wp2_with fail
        go_ret
        first | exact ⟨rfl, bel⟩ | (refine ⟨congrArg (fun b => Ending.returned (Value.bool b)) (?_ : _ = true), bel⟩; have he := unhide HE; simp; omega)
    · have n1 : ¬ s < a := by rw [hs1]; split <;> (try split) <;> omega
      rcases Int.lt_or_le s 9223372036854775807 with h3 | h3
      · have e : s = a + b := by rw [hs1] at h3 ⊢; split at h3 <;> (try split at h3) <;> (split <;> (try split)) <;> omega
        have h4 : ¬ s = 9223372036854775807 := by omega
        have hw : IntKind.i64.wrap (s - a) = b := by rw [Go.IntWalk.i64_in (s - a) (by omega)]; omega
        clear hs1 ha hb hc
        have HE := hide e
        clear e
        go_enter Try.func6, Try.ntmps6
        go_wp2_with fail
        refine (plus_any _ _ _ (unhide HA) (unhide HB)).mono ?_
        rintro e w1 ⟨rfl, rfl⟩
        rw [← unhide HS]
        go_wp2_with fail
        refine (plus_any _ _ _ (unhide HB) (unhide HA)).mono ?_
        rintro e w1 ⟨rfl, rfl⟩
        rw [unhide E1]
        go_wp2_with fail
        refine (plus_any _ _ _ (unhide HA) (unhide I0)).mono ?_
        rintro e w1 ⟨rfl, rfl⟩
        rw [unhide E2]
        rcases Int.lt_or_le c b with hcb | hcb
        · go_wp2_with fail
          refine (awake_any _).mono ?_
          rintro e w1 ⟨rfl, bel⟩
          go_wp2_with fail
          go_ret
          first | exact ⟨rfl, bel⟩ | (refine ⟨congrArg (fun b => Ending.returned (Value.bool b)) (?_ : _ = true), bel⟩; have he := unhide HE; simp; omega)
        · have hcb' : ¬ c < b := by omega
          have hle := unhide E3 hcb
          go_wp2_with fail
          refine (plus_any _ _ _ (unhide HA) (unhide HC)).mono ?_
          rintro e w1 ⟨rfl, rfl⟩
          go_wp2_with fail
          refine (awake_any _).mono ?_
          rintro e w1 ⟨rfl, bel⟩
          go_wp2_with fail
          go_ret
          first | exact ⟨rfl, bel⟩ | (refine ⟨congrArg (fun b => Ending.returned (Value.bool b)) (?_ : _ = true), bel⟩; have he := unhide HE; simp; omega)
      · have e : s = 9223372036854775807 := by rw [hs1] at h3 ⊢; split at h3 <;> (try split at h3) <;> (split <;> (try split)) <;> omega
        have h3' : ¬ s < 9223372036854775807 := by omega
        have hw : IntKind.i64.wrap (9223372036854775807 - a) = 9223372036854775807 - a := Go.IntWalk.i64_in _ (by omega)
        have h5 : ¬ b < 9223372036854775807 - a := by rw [hs1] at e; split at e <;> (try split at e) <;> omega
        clear hs1 ha hb hc h3
        have HE := hide e
        clear e
        go_enter Try.func6, Try.ntmps6
        go_wp2_with fail
        refine (plus_any _ _ _ (unhide HA) (unhide HB)).mono ?_
        rintro e w1 ⟨rfl, rfl⟩
        rw [← unhide HS]
        go_wp2_with fail
        refine (plus_any _ _ _ (unhide HB) (unhide HA)).mono ?_
        rintro e w1 ⟨rfl, rfl⟩
        rw [unhide E1]
        go_wp2_with fail
        refine (plus_any _ _ _ (unhide HA) (unhide I0)).mono ?_
        rintro e w1 ⟨rfl, rfl⟩
        rw [unhide E2]
        rcases Int.lt_or_le c b with hcb | hcb
        · go_wp2_with fail
          refine (awake_any _).mono ?_
          rintro e w1 ⟨rfl, bel⟩
          go_wp2_with fail
          go_ret
          first | exact ⟨rfl, bel⟩ | (refine ⟨congrArg (fun b => Ending.returned (Value.bool b)) (?_ : _ = true), bel⟩; have he := unhide HE; simp; omega)
        · have hcb' : ¬ c < b := by omega
          have hle := unhide E3 hcb
          go_wp2_with fail
          refine (plus_any _ _ _ (unhide HA) (unhide HC)).mono ?_
          rintro e w1 ⟨rfl, rfl⟩
          go_wp2_with fail
          refine (awake_any _).mono ?_
          rintro e w1 ⟨rfl, bel⟩
          go_wp2_with fail
          go_ret
          first | exact ⟨rfl, bel⟩ | (refine ⟨congrArg (fun b => Ending.returned (Value.bool b)) (?_ : _ = true), bel⟩; have he := unhide HE; simp; omega)
end Go.Proofs.Ytiokfnkcjicheaa

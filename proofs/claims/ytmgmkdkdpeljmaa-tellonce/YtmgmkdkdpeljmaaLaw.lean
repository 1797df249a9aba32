/- An aggregate that is right stays so behind a value: what a store leans on holds of the aggregates and the spans. No conditions. -/
import Derived.Test.YtmgmkdkdpeljmaaPutS
import Derived.Test.YtmgmkdkdpeljmaaStoreSum
namespace Go.Proofs.Ytmgmkdkdpeljmaa
theorem cl_up {x : Int} (h : 0 ≤ x) : (x ≤ 9223372036854775807 ∧ cl x = x) ∨ (9223372036854775807 < x ∧ cl x = 9223372036854775807) := by
  unfold cl
  by_cases h1 : 9223372036854775807 < x
  · rw [if_pos h1]; exact .inr ⟨h1, rfl⟩
  · rw [if_neg h1, if_neg (by omega)]; exact .inl ⟨by omega, rfl⟩
theorem neg4_iff (a : AggV) : neg4 a = false ↔ 0 ≤ a.h0 ∧ 0 ≤ a.h1 ∧ 0 ≤ a.h2 ∧ 0 ≤ a.h3 := by unfold neg4; simp; omega
theorem held4_iff (a : AggV) : held4 a = true ↔ a.h0 = 9223372036854775807 ∨ a.h1 = 9223372036854775807 ∨ a.h2 = 9223372036854775807 ∨ a.h3 = 9223372036854775807 := by unfold held4; simp [or_assoc]
theorem all4_is {a : AggV} (h : 0 ≤ a.h0 ∧ 0 ≤ a.h1 ∧ 0 ≤ a.h2 ∧ 0 ≤ a.h3) : (a.h0 + a.h1 + a.h2 + a.h3 ≤ 9223372036854775807 ∧ all4 a = a.h0 + a.h1 + a.h2 + a.h3) ∨ (9223372036854775807 < a.h0 + a.h1 + a.h2 + a.h3 ∧ all4 a = 9223372036854775807) := by
  obtain ⟨k0, k1, k2, k3⟩ := h
  unfold all4 plus
  have e0 := cl_up (x := 0 + a.h0) (by omega)
  have e1 := cl_up (x := cl (0 + a.h0) + a.h1) (by omega)
  have e2 := cl_up (x := cl (cl (0 + a.h0) + a.h1) + a.h2) (by omega)
  have e3 := cl_up (x := cl (cl (cl (0 + a.h0) + a.h1) + a.h2) + a.h3) (by omega)
  omega
theorem bucket_min (x y : Int) : bucket (min x y) = min (bucket x) (bucket y) := by unfold bucket; rcases Int.le_total x y with h | h <;> simp only [Int.min_eq_left h, Int.min_eq_right h] <;> (repeat' split) <;> omega
theorem bucket_max (x y : Int) : bucket (max x y) = max (bucket x) (bucket y) := by unfold bucket; rcases Int.le_total x y with h | h <;> simp only [Int.max_eq_left h, Int.max_eq_right h] <;> (repeat' split) <;> omega
theorem hist_iff (a : AggV) : rightHist a = true ↔ (0 ≤ a.h0 ∧ 0 ≤ a.h1 ∧ 0 ≤ a.h2 ∧ 0 ≤ a.h3) ∧ (held4 a = true ∨ (all4 a = a.count ∧ first4 a = bucket a.mn ∧ last4 a = bucket a.mx)) := by
  rw [← neg4_iff]
  unfold rightHist
  cases neg4 a <;> cases held4 a <;> simp [and_assoc]
set_option maxHeartbeats 2000000 in
theorem hist_put {a : AggV} {v : Int} (hc : 1 ≤ a.count) (h : rightHist a = true) : rightHist (put a v) = true := by
  obtain ⟨hn, hr⟩ := (hist_iff a).1 h
  obtain ⟨c, s, mn, mx, h0, h1, h2, h3⟩ := a
  dsimp only at hn hc
  have hb := bucket_le v
  obtain ⟨d0, e0⟩ : ∃ d, d = at1 v 0 := ⟨_, rfl⟩
  obtain ⟨d1, e1⟩ : ∃ d, d = at1 v 1 := ⟨_, rfl⟩
  obtain ⟨d2, e2⟩ : ∃ d, d = at1 v 2 := ⟨_, rfl⟩
  obtain ⟨d3, e3⟩ : ∃ d, d = at1 v 3 := ⟨_, rfl⟩
  have hp : put ⟨c, s, mn, mx, h0, h1, h2, h3⟩ v = ⟨cl (c + 1), plus s v, min mn v, max mx v, cl (h0 + d0), cl (h1 + d1), cl (h2 + d2), cl (h3 + d3)⟩ := by
    unfold put join least great one plus
    simp only [e0, e1, e2, e3, show ¬ c = 0 by omega, if_false, show ¬ (1 : Int) = 0 by decide]
  have hd : (bucket v = 0 ∧ d0 = 1 ∧ d1 = 0 ∧ d2 = 0 ∧ d3 = 0) ∨ (bucket v = 1 ∧ d0 = 0 ∧ d1 = 1 ∧ d2 = 0 ∧ d3 = 0) ∨ (bucket v = 2 ∧ d0 = 0 ∧ d1 = 0 ∧ d2 = 1 ∧ d3 = 0) ∨ (bucket v = 3 ∧ d0 = 0 ∧ d1 = 0 ∧ d2 = 0 ∧ d3 = 1) := by
    rw [e0, e1, e2, e3]
    unfold at1
    have : bucket v = 0 ∨ bucket v = 1 ∨ bucket v = 2 ∨ bucket v = 3 := by omega
    rcases this with k | k | k | k <;> rw [k] <;> simp
  clear e0 e1 e2 e3
  rw [hp]
  have f0 := cl_up (x := h0 + d0) (by omega)
  have f1 := cl_up (x := h1 + d1) (by omega)
  have f2 := cl_up (x := h2 + d2) (by omega)
  have f3 := cl_up (x := h3 + d3) (by omega)
  have fc := cl_up (x := c + 1) (by omega)
  have hA := all4_is (a := ⟨c, s, mn, mx, h0, h1, h2, h3⟩) hn
  rw [hist_iff]
  have hsum : d0 + d1 + d2 + d3 = 1 := by omega
  have n0 : 0 ≤ cl (h0 + d0) := by clear f1 f2 f3 fc hA; omega
  have n1 : 0 ≤ cl (h1 + d1) := by clear f0 f2 f3 fc hA; omega
  have n2 : 0 ≤ cl (h2 + d2) := by clear f0 f1 f3 fc hA; omega
  have n3 : 0 ≤ cl (h3 + d3) := by clear f0 f1 f2 fc hA; omega
  refine ⟨⟨n0, n1, n2, n3⟩, ?_⟩
  have hB := all4_is (a := ⟨cl (c + 1), plus s v, min mn v, max mx v, cl (h0 + d0), cl (h1 + d1), cl (h2 + d2), cl (h3 + d3)⟩) ⟨n0, n1, n2, n3⟩
  by_cases hh : held4 ⟨cl (c + 1), plus s v, min mn v, max mx v, cl (h0 + d0), cl (h1 + d1), cl (h2 + d2), cl (h3 + d3)⟩ = true
  · exact .inl hh
  · rw [held4_iff] at hh
    rw [held4_iff] at hr
    dsimp only at hA hB hr hh ⊢
    refine .inr ?_
    have g0 : cl (h0 + d0) = h0 + d0 ∧ h0 + d0 < 9223372036854775807 := by
      rcases f0 with ⟨k, e⟩ | ⟨k, e⟩
      · exact ⟨e, by have : ¬ cl (h0 + d0) = 9223372036854775807 := fun h => hh (.inl h); rw [e] at this; clear f1 f2 f3 fc hA hB hd hr; omega⟩
      · exact absurd (.inl e) hh
    have g1 : cl (h1 + d1) = h1 + d1 ∧ h1 + d1 < 9223372036854775807 := by
      rcases f1 with ⟨k, e⟩ | ⟨k, e⟩
      · exact ⟨e, by have : ¬ cl (h1 + d1) = 9223372036854775807 := fun h => hh (.inr (.inl h)); rw [e] at this; clear f0 f2 f3 fc hA hB hd hr; omega⟩
      · exact absurd (.inr (.inl e)) hh
    have g2 : cl (h2 + d2) = h2 + d2 ∧ h2 + d2 < 9223372036854775807 := by
      rcases f2 with ⟨k, e⟩ | ⟨k, e⟩
      · exact ⟨e, by have : ¬ cl (h2 + d2) = 9223372036854775807 := fun h => hh (.inr (.inr (.inl h))); rw [e] at this; clear f0 f1 f3 fc hA hB hd hr; omega⟩
      · exact absurd (.inr (.inr (.inl e))) hh
    have g3 : cl (h3 + d3) = h3 + d3 ∧ h3 + d3 < 9223372036854775807 := by
      rcases f3 with ⟨k, e⟩ | ⟨k, e⟩
      · exact ⟨e, by have : ¬ cl (h3 + d3) = 9223372036854775807 := fun h => hh (.inr (.inr (.inr h))); rw [e] at this; clear f0 f1 f2 fc hA hB hd hr; omega⟩
      · exact absurd (.inr (.inr (.inr e))) hh
    clear f0 f1 f2 f3 n0 n1 n2 n3 hh
    rw [g0.1, g1.1, g2.1, g3.1] at hB ⊢
    replace g0 := g0.2
    replace g1 := g1.2
    replace g2 := g2.2
    replace g3 := g3.2
    have hr' : all4 ⟨c, s, mn, mx, h0, h1, h2, h3⟩ = c ∧ first4 ⟨c, s, mn, mx, h0, h1, h2, h3⟩ = bucket mn ∧ last4 ⟨c, s, mn, mx, h0, h1, h2, h3⟩ = bucket mx := hr.resolve_left (by
      have d0' : 0 ≤ d0 := by clear hA hB; omega
      have d1' : 0 ≤ d1 := by clear hA hB; omega
      have d2' : 0 ≤ d2 := by clear hA hB; omega
      have d3' : 0 ≤ d3 := by clear hA hB; omega
      clear hA hB hd
      rintro (h | h | h | h) <;> omega)
    obtain ⟨r1, r2, r3⟩ := hr'
    clear hr hp h
    refine ⟨?_, ?_, ?_⟩
    · clear hd r2 r3 g0 g1 g2 g3
      omega
    · rw [bucket_min]
      unfold first4 at r2 ⊢
      dsimp only at r2 ⊢
      clear fc hA hB r1 r3 g0 g1 g2 g3 hsum
      rcases hd with ⟨k, rfl, rfl, rfl, rfl⟩ | ⟨k, rfl, rfl, rfl, rfl⟩ | ⟨k, rfl, rfl, rfl, rfl⟩ | ⟨k, rfl, rfl, rfl, rfl⟩ <;> rw [k] <;> (repeat' split) <;> (repeat' split at r2) <;> omega
    · rw [bucket_max]
      unfold last4 at r3 ⊢
      dsimp only at r3 ⊢
      clear fc hA hB r1 r2 g0 g1 g2 g3 hsum
      have hm := bucket_le mx
      rcases hd with ⟨k, rfl, rfl, rfl, rfl⟩ | ⟨k, rfl, rfl, rfl, rfl⟩ | ⟨k, rfl, rfl, rfl, rfl⟩ | ⟨k, rfl, rfl, rfl, rfl⟩ <;> rw [k] <;> (repeat' split) <;> (repeat' split at r3) <;> omega
theorem ok_put {a : AggV} {v : Int} (h : SO.ok a = true) : SO.ok (put a v) = true := by
  have h' : right a = true ∧ 1 ≤ a.count := by simpa [SO] using h
  obtain ⟨h1, hc⟩ := h'
  have hcnt : 1 ≤ (put a v).count := by
    have := cl_up (x := a.count + 1) (by omega)
    show 1 ≤ cl (a.count + 1)
    omega
  have hmn : (put a v).mn = min a.mn v := by unfold put join least one; simp only [show ¬ a.count = 0 by omega, if_false, show ¬ (1 : Int) = 0 by decide]
  have hmx : (put a v).mx = max a.mx v := by unfold put join great one; simp only [show ¬ a.count = 0 by omega, if_false, show ¬ (1 : Int) = 0 by decide]
  unfold right at h1
  rw [if_neg (show ¬ a.count = 0 by omega)] at h1
  simp only [Bool.and_eq_true, decide_eq_true_eq] at h1
  have hh := hist_put (v := v) hc h1.2
  have : right (put a v) = true := by
    unfold right
    rw [if_neg (by omega), hmn, hmx, hh]
    simp only [Bool.and_true, Bool.and_eq_true, decide_eq_true_eq]
    exact ⟨by omega, by omega⟩
  show (right (put a v) && decide (1 ≤ (put a v).count)) = true
  rw [this, decide_eq_true hcnt]; rfl
theorem ok_first (v : Int) : SO.ok (put zero v) = true := by
  have hz : put zero v = of [v] := rfl
  have h := is_right (is_of [v] (by simp)) (by simp)
  have hcnt : (put zero v).count = 1 := rfl
  show (right (put zero v) && decide (1 ≤ (put zero v).count)) = true
  rw [hz, h, ← hz, hcnt]; rfl
theorem so_law : SO.Law i64 where
  start := fun a h => by
    have hr := Sp.rightI_iff.1 (show Sp.rightI a = true from h)
    show decide (0 ≤ Sp.endI (Sp.startI a)) = true
    rw [Sp.startI_right hr]
    refine decide_eq_true ?_
    unfold Sp.endI
    rw [if_pos (by omega)]
    omega
  first := fun v _ => ok_first v
  more := fun _ _ h _ => ok_put h
end Go.Proofs.Ytmgmkdkdpeljmaa

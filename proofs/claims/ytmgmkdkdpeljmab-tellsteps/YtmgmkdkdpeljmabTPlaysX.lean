/- Layer 10's acts, done to a line beside blocks that are to stay: what it is then, and what was told. Conditions: the line has at most 32 windows, whose numbers are 64 bits wide; there are at most a million acts. -/
import Derived.Test.YtmgmkdkdpeljmabTActs
import Derived.Test.YtmgmkdkdpeljmabTHereX
namespace Go.Proofs.Ytmgmkdkdpeljmab
open Go.RowKit
set_option maxRecDepth 100000 in
set_option maxHeartbeats 4000000 in
theorem tplaysx_any {w0 z0 v : World} {X : Nat → Prop} {p : Nat} {L0 : LineV} (h : HLX w0 z0 X v p L0 []) (hm : Mild L0.row) (a : Option Addr) (len cap : Nat) (z : List ActL) (hz : IsActL w0 a len cap z) (hlen : len ≤ 1000000) :
    Calls Try.prog 8 #[.pointer (some ⟨p, 0, none⟩), .slice a len cap] v fun e v' => ∃ at_ ct, e = .returned (.slice at_ (playL (L0, []) z).2.length ct) ∧ HLX w0 z0 X v' p (playL (L0, []) z).1 [(at_, ct, (playL (L0, []) z).2)] ∧ Mild (playL (L0, []) z).1.row ∧ (playL (L0, []) z).2.length ≤ 32 * len := by
  have HZ := hide hz
  have H0 := hide h.nil
  have M0 := hide hm
  clear hz h hm
  go_enter Try.func8, Try.ntmps8
  go_wp2_with fail
  go_loopw [5, 6] (fun t i wr => ∃ (k : Nat) (ta : Option Addr) (tc : Nat), i = .int .i64 (k : Int) ∧ k ≤ len ∧ t = .slice ta (playL (L0, []) (z.take k)).2.length tc ∧ HLX w0 z0 X wr p (playL (L0, []) (z.take k)).1 [(ta, tc, (playL (L0, []) (z.take k)).2)] ∧ Mild (playL (L0, []) (z.take k)).1.row ∧ (playL (L0, []) (z.take k)).2.length ≤ 32 * k) (fun _ i _ => len - (intOf i).toNat)
  case atStart => exact ⟨0, none, 0, rfl, by omega, by rw [List.take_zero]; rfl, by rw [List.take_zero]; exact unhide H0, by rw [List.take_zero]; exact unhide M0, by rw [List.take_zero]; exact Nat.zero_le _⟩
  case round =>
    obtain ⟨k, ta, tc, rfl, hk, rfl, hh, hmm, htl⟩ := hrel
    have HR := hide hh
    have HMM := hide hmm
    clear hh hmm H0 M0
    by_cases hlt : k < len
    · have g1 : (k : Int) < (len : Int) := by omega
      have hk0 : (0 : Int) ≤ (k : Int) := by omega
      have hml := (unhide HZ).max
      unfold maxLen at hml
      have hwk : IntKind.i64.wrap ((k : Int) + 1) = (k : Int) + 1 := Go.IntWalk.i64_in _ (by omega)
      have hzw : IsActL wr a len cap z := (unhide HZ).below (unhide HR).bel
      obtain ⟨b, o, rfl, hat, ok, hbl⟩ := hzw.at_ k hlt
      have HS1 : Hid (playL (L0, []) (z.take (k + 1)) = actL (playL (L0, []) (z.take k)) (z.getD k ActL.none_)) := hide (by rw [takeL_snoc (by rw [(unhide HZ).size_]; exact hlt), playL_snoc])
      have HM := hide (mild_actL (unhide HMM) ok)
      have KEEP : Hid (∀ u, Below w0.heap.size w0 u → ActLAt u b (o + k * 4) (z.getD k ActL.none_)) := hide fun u hu => by
        obtain ⟨b', o', e', ha, _, _⟩ := ((unhide HZ).below hu).at_ k hlt
        cases e'; exact ha
      have HAT := hide hat
      have HOK := hide ok
      clear hat ok hzw
      generalize z.getD k ActL.none_ = y at *
      generalize playL (L0, []) (z.take k) = S at *
      obtain ⟨L, T⟩ := S
      obtain ⟨yd, yk, ya, yn⟩ := y
      dsimp only at HR HMM htl
      have HTL := hide htl
      clear htl
      have hc0 : wr.cell? ⟨b, o + k * 4, none⟩ = some (.int .u8 (yd : Int)) := (unhide HAT).c0
      have hc1 : wr.cell? ⟨b, o + k * 4 + 1, none⟩ = some (.string ⟨yk.toArray⟩) := (unhide HAT).c1
      have hc2 : wr.cell? ⟨b, o + k * 4 + 2, none⟩ = some (.int .i64 ya) := (unhide HAT).c2
      have hc3 : wr.cell? ⟨b, o + k * 4 + 3, none⟩ = some (.int .i64 yn) := (unhide HAT).c3
      by_cases e0 : yd = 0
      · subst e0
        replace hc0 : wr.cell? ⟨b, o + k * 4, none⟩ = some (.int .u8 0) := hc0
        have hact : Hid (actL (L, T) ⟨0, yk, ya, yn⟩ = ((putL L yk ya yn).1, T)) := hide rfl
        rw [unhide hact] at HM HS1
        have CS : Calls Try.prog 11 #[.pointer (some ⟨p, 0, none⟩), .string ⟨yk.toArray⟩, .int .i64 ya, .int .i64 yn] wr.drew _ := ((unhide HR).below ((Below.refl _ _).drew)).put (unhide HMM) yk ya yn (unhide HOK).n
        have HCS := hide CS
        clear CS hact
        go_upto_region 7 with fail
        obtain ⟨CL, hCL⟩ : ∃ CL : World → Prop, CL = fun v => v.cell? ⟨b, o + k * 4 + 1, none⟩ = some (.string ⟨yk.toArray⟩) ∧ v.cell? ⟨b, o + k * 4 + 2, none⟩ = some (.int .i64 ya) ∧ v.cell? ⟨b, o + k * 4 + 3, none⟩ = some (.int .i64 yn) := ⟨_, rfl⟩
        have un : ∀ v, CL v → v.cell? ⟨b, o + k * 4 + 1, none⟩ = some (.string ⟨yk.toArray⟩) ∧ v.cell? ⟨b, o + k * 4 + 2, none⟩ = some (.int .i64 ya) ∧ v.cell? ⟨b, o + k * 4 + 3, none⟩ = some (.int .i64 yn) := fun v k => by rw [hCL] at k; exact k
        have base : CL wr.drew := by rw [hCL]; exact ⟨hc1, hc2, hc3⟩
        have q1 : ∀ q : SW CL, q.w.cell? ⟨b, o + k * 4 + 1, none⟩ = some (.string ⟨yk.toArray⟩) := fun q => (un _ q.ok).1
        have q2 : ∀ q : SW CL, q.w.cell? ⟨b, o + k * 4 + 2, none⟩ = some (.int .i64 ya) := fun q => (un _ q.ok).2.1
        have q3 : ∀ q : SW CL, q.w.cell? ⟨b, o + k * 4 + 3, none⟩ = some (.int .i64 yn) := fun q => (un _ q.ok).2.2
        have CLN : Hid (∀ u, Below w0.heap.size w0 u → CL u) := hide fun u hu => by rw [hCL]; exact ⟨(unhide KEEP u hu).c1, (unhide KEEP u hu).c2, (unhide KEEP u hu).c3⟩
        clear hCL un hc0 hc1 hc2 hc3
        refine wp_region_chain (S := CL) [true, true, true, true, true, true, true, true, true, true, true, true, true, true, true, true, false] [false, false, false, false, false, false, false, false, false, false, false, false, false, false, false, false, true] (by kernel_rfl) (by kernel_rfl) (by kernel_rfl) base ?_
        apply Exists.intro
        apply And.intro
        · intro q
          have n0 : Nonempty (SK CL q.w) := ⟨⟨q, rfl⟩⟩
          simp only [pickM]
          repeat (go_big_quiet_step (fail))
          exact wpQuiet_nil rfl
        · simp only [pickZ]
          refine chain_call 11 #[.pointer (some ⟨p, 0, none⟩), .string ⟨yk.toArray⟩, .int .i64 ya, .int .i64 yn] rfl (by simp [go_sem]) ?_
          refine (unhide HCS).mono ?_
          rintro e v' ⟨rfl, he⟩
          have HE := hide he
          clear he
          refine ⟨_, rfl, unhide CLN _ (unhide HE).bel, ?_⟩
          simp only [chainM]
          go_simp
          clear q1 q2 q3 base
          go_wp2_with fail
          exact ⟨⟨k + 1, ta, tc, rfl, by omega, by rw [unhide HS1], by rw [unhide HS1]; exact unhide HE, by rw [unhide HS1]; exact unhide HM, by rw [unhide HS1]; have := unhide HTL; show T.length ≤ _; omega⟩, by simp [intOf]; omega⟩
      · have n0 : ¬ (yd : Int) = 0 := by omega
        by_cases e1 : yd = 1
        · subst e1
          replace hc0 : wr.cell? ⟨b, o + k * 4, none⟩ = some (.int .u8 1) := hc0
          have hact : Hid (actL (L, T) ⟨1, yk, ya, yn⟩ = ((markL L ya).1, T ++ (markL L ya).2.2)) := hide rfl
          rw [unhide hact] at HM HS1
          have HCS := hide ((unhide HR).mark (unhide HMM) ya)
          have HML := hide (mild_markL (unhide HMM) ya).2
          generalize markL L ya = M at *
          obtain ⟨L', cd, O⟩ := M
          dsimp only at HM HS1 HCS HML
          clear hact
          go_upto_region 10 with fail
          refine (unhide HCS).mono ?_
          rintro e v' ⟨a1, c1, rfl, he⟩
          obtain ⟨a', c', v2, hap, hg⟩ := he.grow (by have := unhide HTL; have := unhide HML; omega) 29
          have HAP := hide hap
          have HG := hide hg
          have HN : Hid ((T ++ O).length ≤ 32 * (k + 1)) := hide (by rw [List.length_append]; have := unhide HTL; have := unhide HML; omega)
          clear he hap hg HCS hc0 hc1 hc2 hc3
          go_wp2_with (first | (at_builtin; refine wpList_app rfl _ _ 29 29 29 rfl rfl rfl rfl (unhide HAP) ?_))
          exact ⟨⟨k + 1, a', c', rfl, by omega, by rw [unhide HS1]; simp, by rw [unhide HS1]; exact unhide HG, by rw [unhide HS1]; exact unhide HM, by rw [unhide HS1]; exact unhide HN⟩, by simp [intOf]; omega⟩
        · have n1 : ¬ (yd : Int) = 1 := by omega
          have hact : Hid (actL (L, T) ⟨yd, yk, ya, yn⟩ = (L, T)) := hide (by unfold actL; rw [if_neg e0, if_neg e1])
          rw [unhide hact] at HM HS1
          have HE := HR
          clear hact
          go_wp2_with fail
          exact ⟨⟨k + 1, ta, tc, rfl, by omega, by rw [unhide HS1], by rw [unhide HS1]; exact unhide HE, by rw [unhide HS1]; exact unhide HM, by rw [unhide HS1]; have := unhide HTL; show T.length ≤ _; omega⟩, by simp [intOf]; omega⟩
    · have g1 : ¬ (k : Int) < (len : Int) := by omega
      have hke : k = len := by omega
      subst hke
      have htk : z.take k = z := List.take_of_length_le (by rw [(unhide HZ).size_]; exact Nat.le_refl _)
      rw [htk] at HR HMM htl
      rw [htk]
      have HTL := hide htl
      clear htl
      go_wp2_with fail
      go_ret
      exact ⟨ta, tc, rfl, unhide HR, unhide HMM, unhide HTL⟩
end Go.Proofs.Ytmgmkdkdpeljmab

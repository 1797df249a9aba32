/- The statements' acts, done to a store. Conditions: a store has at most 32 windows, whose numbers are 64 bits wide. -/
import Derived.Test.YtmgmkdkdpeljmaaActs
namespace Go.Proofs.Ytmgmkdkdpeljmaa
open Go.RowKit
structure Mild (l : List (Win AggV)) : Prop where
  rise : Rise l
  most : l.length ≤ 32
  ins_ : ∀ a ∈ l, a.agg.In
theorem mild_nil : Mild [] := ⟨List.Pairwise.nil, Nat.zero_le _, fun _ h => by cases h⟩
theorem mild_ins {l : List (Win AggV)} {x : Win AggV} (h : Mild l) (hx : x.agg.In) (hl : (look l x.key x.start).isSome = true ∨ l.length < 32) : Mild (ins x l) := by
  refine ⟨ins_rise h.rise, ?_, fun a ha => ?_⟩
  · rw [ins_len h.rise]
    have := h.most
    split
    · exact this
    · rename_i hn
      rcases hl with k | k
      · exact absurd k hn
      · omega
  · rcases ins_mem ha with rfl | ha
    · exact hx
    · exact h.ins_ a ha
theorem mild_put {l : List (Win AggV)} (h : Mild l) {k : List UInt8} {a v : Int} (hv : i64 v) : Mild (putS SO l k a v).1 := by
  rcases put_ways (O := SO) l k a v with ⟨_, e⟩ | ⟨hk, ⟨x, hx, e⟩ | ⟨hx, ⟨_, e⟩ | ⟨hl, e⟩⟩⟩
  · rw [e]; exact h
  · rw [e]; exact mild_ins h (put_in (h.ins_ _ (look_some hx)) hv) (.inl (by rw [hx]; rfl))
  · rw [e]; exact h
  · rw [e]; exact mild_ins h (put_in zero_in hv) (.inr (by omega))
theorem mild_set {l : List (Win AggV)} (h : Mild l) {x : Win AggV} (hx : x.agg.In) : Mild (setS SO l x).1 := by
  rcases set_ways (O := SO) l x with ⟨_, e⟩ | ⟨hk, ⟨_, e⟩ | ⟨_, ⟨_, e⟩ | ⟨hl, e⟩⟩⟩
  · rw [e]; exact h
  · rw [e]; exact h
  · rw [e]; exact h
  · rw [e]; exact mild_ins h hx (.inr (by omega))
theorem mild_take {l : List (Win AggV)} (h : Mild l) (m : Int) : Mild (takeS SO l m).1 := ⟨rise_filter h.rise, Nat.le_trans (List.length_filter_le _ _) h.most, fun a ha => h.ins_ a (List.mem_filter.1 ha).1⟩
theorem mild_act {l : List (Win AggV)} (h : Mild l) {p : ActZ} (hp : p.Ok) : Mild (actS SO l p) := by
  unfold actS
  split
  · exact mild_put h hp.n
  · split
    · exact mild_set h hp.outa
    · split
      · exact mild_take h _
      · exact h
theorem take_snoc {z : List ActZ} {k : Nat} (hk : k < z.length) : z.take (k + 1) = z.take k ++ [z.getD k ActZ.none_] := by
  rw [List.take_add_one, List.getD_eq_getElem?_getD, List.getElem?_eq_getElem hk]; rfl
set_option maxRecDepth 100000 in
set_option maxHeartbeats 4000000 in
theorem plays_any {w0 v : World} {p : Nat} {l0 : List (Win AggV)} {R : List Held} (h : Here w0 v p l0 R) (hm : Mild l0) (a : Option Addr) (len cap : Nat) (z : List ActZ) (hz : IsActs w0 a len cap z) :
    Calls Try.prog 12 #[.pointer (some ⟨p, 0, none⟩), .slice a len cap] v fun e v' => e = .returned (.tuple #[]) ∧ Here w0 v' p (playS SO l0 z) R ∧ Mild (playS SO l0 z) := by
  have HZ := hide hz
  have H0 := hide h
  have M0 := hide hm
  clear hz h hm
  go_enter Try.func12, Try.ntmps12
  go_wp2_with fail
  go_loopw [4] (fun i wr => ∃ k : Nat, i = .int .i64 (k : Int) ∧ k ≤ len ∧ Here w0 wr p (playS SO l0 (z.take k)) R ∧ Mild (playS SO l0 (z.take k))) (fun i _ => len - (intOf i).toNat)
  case atStart => exact ⟨0, rfl, by omega, by rw [List.take_zero]; exact unhide H0, by rw [List.take_zero]; exact unhide M0⟩
  case round =>
    obtain ⟨k, rfl, hk, hh, hmm⟩ := hrel
    have HR := hide hh
    have HMM := hide hmm
    clear hh hmm H0 M0
    by_cases hlt : k < len
    · have g1 : (k : Int) < (len : Int) := by omega
      have hk0 : (0 : Int) ≤ (k : Int) := by omega
      have hml := (unhide HZ).max
      unfold maxLen at hml
      have hwk : IntKind.i64.wrap ((k : Int) + 1) = (k : Int) + 1 := Go.IntWalk.i64_in _ (by omega)
      have hzw : IsActs wr a len cap z := (unhide HZ).below (unhide HR).bel
      obtain ⟨b, o, rfl, hat, ok, hbl⟩ := hzw.at_ k hlt
      have hb0 : Hid (b < w0.heap.size) := hide (by obtain ⟨b', o', e', _, _, hl'⟩ := (unhide HZ).at_ k hlt; cases e'; exact hl')
      have HS1 : Hid (playS SO l0 (z.take (k + 1)) = actS SO (playS SO l0 (z.take k)) (z.getD k ActZ.none_)) := hide (by rw [take_snoc (by rw [(unhide HZ).size_]; exact hlt), play_snoc])
      have HM := hide (by rw [unhide HS1]; exact mild_act (unhide HMM) ok : Mild (playS SO l0 (z.take (k + 1))))
      rw [unhide HS1] at HM
      have KEEP : Hid (∀ u, Below w0.heap.size w0 u → ActAt u b (o + k * 14) (z.getD k ActZ.none_)) := hide fun u hu => by
        obtain ⟨b', o', e', ha, _, _⟩ := ((unhide HZ).below hu).at_ k hlt
        cases e'; exact ha
      have HAT := hide hat
      have HOK := hide ok
      clear hat ok hzw
      generalize z.getD k ActZ.none_ = y at *
      generalize playS SO l0 (z.take k) = l at *
      obtain ⟨yd, yk, ya, yn, ⟨xk, xs, ⟨g0, g1', g2, g3, g4, g5, g6, g7⟩⟩⟩ := y
      have hc0 : wr.cell? ⟨b, o + k * 14, none⟩ = some (.int .u8 (yd : Int)) := (unhide HAT).c0
      have hc1 : wr.cell? ⟨b, o + k * 14 + 1, none⟩ = some (.string ⟨yk.toArray⟩) := (unhide HAT).c1
      have hc2 : wr.cell? ⟨b, o + k * 14 + 2, none⟩ = some (.int .i64 ya) := (unhide HAT).c2
      have hc3 : wr.cell? ⟨b, o + k * 14 + 3, none⟩ = some (.int .i64 yn) := (unhide HAT).c3
      have RO : Hid (wr.rangeAt b (o + k * 14 + 4) [.string ⟨xk.toArray⟩, .int .i64 xs, .int .i64 g0, .int .i64 g1', .int .i64 g2, .int .i64 g3, .int .i64 g4, .int .i64 g5, .int .i64 g6, .int .i64 g7]) := hide (unhide HAT).out
      by_cases e0 : yd = 0
      · subst e0
        replace hc0 : wr.cell? ⟨b, o + k * 14, none⟩ = some (.int .u8 0) := hc0
        have hact : Hid (actS SO l ⟨0, yk, ya, yn, ⟨xk, xs, ⟨g0, g1', g2, g3, g4, g5, g6, g7⟩⟩⟩ = (putS SO l yk ya yn).1) := hide rfl
        rw [unhide hact] at HM HS1
        have CS : Calls Try.prog 15 #[.pointer (some ⟨p, 0, none⟩), .string ⟨yk.toArray⟩, .int .i64 ya, .int .i64 yn] wr.drew _ := ((unhide HR).below ((Below.refl _ _).drew)).put (unhide HMM).most (unhide HMM).ins_ yk ya yn (unhide HOK).n
        have HCS := hide CS
        clear CS
        go_upto_region 5 with fail
        obtain ⟨CL, hCL⟩ : ∃ CL : World → Prop, CL = fun v => v.cell? ⟨b, o + k * 14 + 1, none⟩ = some (.string ⟨yk.toArray⟩) ∧ v.cell? ⟨b, o + k * 14 + 2, none⟩ = some (.int .i64 ya) ∧ v.cell? ⟨b, o + k * 14 + 3, none⟩ = some (.int .i64 yn) := ⟨_, rfl⟩
        have un : ∀ v, CL v → v.cell? ⟨b, o + k * 14 + 1, none⟩ = some (.string ⟨yk.toArray⟩) ∧ v.cell? ⟨b, o + k * 14 + 2, none⟩ = some (.int .i64 ya) ∧ v.cell? ⟨b, o + k * 14 + 3, none⟩ = some (.int .i64 yn) := fun v k => by rw [hCL] at k; exact k
        have base : CL wr.drew := by rw [hCL]; exact ⟨hc1, hc2, hc3⟩
        have q1 : ∀ q : SW CL, q.w.cell? ⟨b, o + k * 14 + 1, none⟩ = some (.string ⟨yk.toArray⟩) := fun q => (un _ q.ok).1
        have q2 : ∀ q : SW CL, q.w.cell? ⟨b, o + k * 14 + 2, none⟩ = some (.int .i64 ya) := fun q => (un _ q.ok).2.1
        have q3 : ∀ q : SW CL, q.w.cell? ⟨b, o + k * 14 + 3, none⟩ = some (.int .i64 yn) := fun q => (un _ q.ok).2.2
        have CLN : Hid (∀ u, Below w0.heap.size w0 u → CL u) := hide fun u hu => by rw [hCL]; exact ⟨(unhide KEEP u hu).c1, (unhide KEEP u hu).c2, (unhide KEEP u hu).c3⟩
        clear hCL un hc0 hc1 hc2 hc3
        refine wp_region_chain (S := CL) [true, true, true, true, true, true, true, true, true, true, true, true, true, true, true, true, false] [false, false, false, false, false, false, false, false, false, false, false, false, false, false, false, false, true] (by kernel_rfl) (by kernel_rfl) (by kernel_rfl) base ?_
        apply Exists.intro
        apply And.intro
        · intro q
          have n0 : Nonempty (SK CL q.w) := ⟨⟨q, rfl⟩⟩
          simp only [pickM]
          repeat (go_big_quiet_step (fail))
          exact wpQuiet_nil rfl
        · simp only [pickZ]
          refine chain_call 15 #[.pointer (some ⟨p, 0, none⟩), .string ⟨yk.toArray⟩, .int .i64 ya, .int .i64 yn] rfl (by simp [go_sem]) ?_
          refine (unhide HCS).mono ?_
          rintro e v' ⟨rfl, he⟩
          have HE := hide he
          clear he
          refine ⟨_, rfl, unhide CLN _ (unhide HE).bel, ?_⟩
          simp only [chainM]
          go_simp
          clear q1 q2 q3 base
          go_wp2_with fail
          exact ⟨⟨k + 1, rfl, by omega, by rw [unhide HS1]; exact unhide HE, by rw [unhide HS1]; exact unhide HM⟩, by simp [intOf]; omega⟩
      · have n0 : ¬ (yd : Int) = 0 := by omega
        by_cases e1 : yd = 1
        · subst e1
          have hact : Hid (actS SO l ⟨1, yk, ya, yn, ⟨xk, xs, ⟨g0, g1', g2, g3, g4, g5, g6, g7⟩⟩⟩ = (setS SO l ⟨xk, xs, ⟨g0, g1', g2, g3, g4, g5, g6, g7⟩⟩).1) := hide rfl
          rw [unhide hact] at HM HS1
          have CS := (unhide HR).set (unhide HMM).most ⟨xk, xs, ⟨g0, g1', g2, g3, g4, g5, g6, g7⟩⟩ (unhide HOK).outa ⟨(unhide HOK).outk, (unhide HOK).outs⟩
          have HCS := hide CS
          simp only [outV_eq] at HCS
          clear CS
          go_wp2_with (first | (refine wpList_load_on rfl 38 (.tmp 41) rfl b (o + k * 14 + 4) rfl [.string ⟨xk.toArray⟩, .int .i64 xs, .int .i64 g0, .int .i64 g1', .int .i64 g2, .int .i64 g3, .int .i64 g4, .int .i64 g5, .int .i64 g6, .int .i64 g7] _ (unhide RO) Try.underlying38 rfl (by kernel_rfl) ?_))
          refine (unhide HCS).mono ?_
          rintro e v' ⟨rfl, he⟩
          have HE := hide he
          clear he
          go_wp2_with fail
          exact ⟨⟨k + 1, rfl, by omega, by rw [unhide HS1]; exact unhide HE, by rw [unhide HS1]; exact unhide HM⟩, by simp [intOf]; omega⟩
        · have n1 : ¬ (yd : Int) = 1 := by omega
          by_cases e2 : yd = 2
          · subst e2
            have hact : Hid (actS SO l ⟨2, yk, ya, yn, ⟨xk, xs, ⟨g0, g1', g2, g3, g4, g5, g6, g7⟩⟩⟩ = (takeS SO l ya).1) := hide rfl
            rw [unhide hact] at HM HS1
            have HCS := hide ((unhide HR).taken (Nat.le_trans (unhide HMM).most (by omega)) ya)
            go_wp2_with fail
            refine (unhide HCS).mono ?_
            rintro e v' ⟨aa, cc, rfl, he⟩
            have HE := hide (he.drop (fun r hr => List.mem_cons_of_mem _ hr) : Here w0 v' p _ R)
            clear he
            go_wp2_with fail
            exact ⟨⟨k + 1, rfl, by omega, by rw [unhide HS1]; exact unhide HE, by rw [unhide HS1]; exact unhide HM⟩, by simp [intOf]; omega⟩
          · have n2 : ¬ (yd : Int) = 2 := by omega
            have hact : Hid (actS SO l ⟨yd, yk, ya, yn, ⟨xk, xs, ⟨g0, g1', g2, g3, g4, g5, g6, g7⟩⟩⟩ = l) := hide (by unfold actS; rw [if_neg e0, if_neg e1, if_neg e2])
            rw [unhide hact] at HM HS1
            have HE := HR
            go_wp2_with fail
            exact ⟨⟨k + 1, rfl, by omega, by rw [unhide HS1]; exact unhide HE, by rw [unhide HS1]; exact unhide HM⟩, by simp [intOf]; omega⟩
    · have g1 : ¬ (k : Int) < (len : Int) := by omega
      have hke : k = len := by omega
      subst hke
      have htk : z.take k = z := List.take_of_length_le (by rw [(unhide HZ).size_]; exact Nat.le_refl _)
      rw [htk] at HR HMM
      go_wp2_with fail
      first | go_end0 | skip
      exact ⟨rfl, unhide HR, unhide HMM⟩
end Go.Proofs.Ytmgmkdkdpeljmaa

/- Each number up to one either came or is missing: the walk of the statement's own function. No conditions but those of the row. -/
import Derived.Test.YtdmjkbcjljnleaaActs
namespace Go.Proofs.Ytdmjkbcjljnleaa
open Go.RowKit

theorem miss_prefix (s : AckV) {n u : Int} (h0 : 0 ≤ n) (h : n ≤ u) : ∃ t, s.miss u = s.miss n ++ t := by
  obtain ⟨k, hk⟩ : ∃ k : Nat, u = n + k := ⟨(u - n).toNat, by omega⟩
  subst hk
  clear h
  induction k with
  | zero => exact ⟨[], by simp⟩
  | succ k ih =>
    obtain ⟨t, ht⟩ := ih
    have e : n + ((k + 1 : Nat) : Int) - 1 = n + (k : Int) := by omega
    cases hc : s.has (n + ((k + 1 : Nat) : Int)) with
    | true => exact ⟨t, by rw [miss_had s (by omega) hc, e, ht]⟩
    | false => exact ⟨t ++ [n + ((k + 1 : Nat) : Int)], by rw [miss_next s (by omega) hc, e, ht, List.append_assoc]⟩
theorem miss_at (s : AckV) {n u : Int} (h0 : 1 ≤ n) (h : n ≤ u) (hf : s.has n = false) : (s.miss u)[(s.miss (n - 1)).length]? = some n := by
  obtain ⟨t, ht⟩ := miss_prefix s (show 0 ≤ n by omega) h
  rw [ht, miss_next s h0 hf, List.append_assoc, List.getElem?_append_right (Nat.le_refl _)]
  simp
theorem miss_nil {s : AckV} (hs : Fine s) (u : Int) : s.miss u = [] ↔ u ≤ s.low := by
  constructor
  · intro h
    by_cases hu : u ≤ s.low
    · exact hu
    · have h0 := hs.lo
      have hf : s.has (s.low + 1) = false := by
        cases hc : s.has (s.low + 1) with
        | false => rfl
        | true =>
          rcases has_iff.1 hc with e | e
          · omega
          · have := (hs.beh _ e).1; omega
      have := miss_at s (n := s.low + 1) (u := u) (by omega) (by omega) hf
      rw [h] at this
      simp at this
  · exact miss_low s
set_option maxRecDepth 100000 in
set_option maxHeartbeats 4000000 in
theorem missW_any (a : Option Addr) (c : Nat) (l : List ActM) (upto : Int) (w : World) (hz : l.length ≤ maxLen) (hl : ActK.At w a l) (hin : ∀ x ∈ l, x.In w) (hu : i64 upto) :
    Calls Try.prog 6 #[.slice a l.length c, .int .i64 upto] w fun e w' => e = .returned (.bool true) ∧ Below w.heap.size w w' := by
  have A := hide (awake_any w)
  have HL := hide hl
  have HI := hide hin
  have HZ := hide hz
  have HU := hide hu
  clear hl hin hz hu
  go_enter Try.func6, Try.ntmps6
  go_wp2_with fail
  refine (unhide A).mono ?_
  rintro e w1 ⟨rfl, b1⟩
  have H1 := hide ((HR.start w).below b1)
  have G := hide (great_any ((unhide HL).below (Nat.le_refl _) b1) (c := c) (unhide HZ))
  clear b1
  go_wp2_with fail
  refine (unhide G).mono ?_
  rintro e w' ⟨rfl, hw'⟩
  rw [hw']
  clear hw'
  cases hg : great l with
  | true =>
    clear hg
    go_wp2_with fail
    go_ret
    exact ⟨rfl, (unhide H1).bel⟩
  | false =>
    have HM := hide (mild_of hg)
    clear hg
    go_wp2_with fail
    refine (after_any (unhide H1) (unhide HL) (unhide HI) (unhide HM)).mono ?_
    rintro e w2 ⟨p, m, rfl, h2⟩
    have F := hide (after_fine l)
    have T := hide (after_total (unhide HM))
    obtain ⟨s, hs⟩ : ∃ s, s = after l := ⟨_, rfl⟩
    rw [← hs] at h2 F T
    obtain ⟨u, hue⟩ : ∃ u, u = min upto 300 := ⟨_, rfl⟩
    rw [← hue]
    have hu3 : u ≤ 300 := by omega
    have hulo : -9223372036854775808 ≤ u := by have := (unhide HU).1; omega
    have H2 := hide h2
    clear h2 hue hs
    have hmin : min u 1048576 = u := by omega
    have MS := hide ((unhide H2).missing List.mem_cons_self (upto := u) (by have := (unhide F).lo; omega))
    rw [hmin] at MS
    go_wp2_with fail
    refine (unhide MS).mono ?_
    rintro e w3 ⟨b, d, rfl, h3⟩
    have H3 := hide h3
    have FL := hide (fun h => (miss_nil (unhide F) u).1 h)
    clear h3 MS
    have HLEN : Hid ((s.miss u).length ≤ 300) := hide (by
      by_cases h : u ≤ s.low
      · rw [miss_low s h]; simp
      · have := miss_length s (unhide F).lo u (by omega); have := (unhide F).lo; omega)
    go_wp2_with fail
    go_loopw [7, 8] (fun k i wr => ∃ n : Int, i = .int .i64 n ∧ 1 ≤ n ∧ (n ≤ u + 1 ∨ n = 1) ∧ k = .int .i64 ((s.miss (n - 1)).length : Int) ∧ HR w wr (hRow IntK b d (s.miss u) :: hAck p m s :: [])) (fun _ i _ => (u + 1 - RowKit.intOf i).toNat)
    case atStart => exact ⟨1, rfl, by omega, .inr rfl, by rw [show (1 : Int) - 1 = 0 by omega, miss_low s (unhide F).lo]; rfl, unhide H3⟩
    case round =>
      obtain ⟨n, rfl, hn1, hn2, rfl, hr⟩ := hrel
      clear H3
      have HRR := hide hr
      clear hr
      by_cases hlt : n ≤ u
      · have hwn : IntKind.i64.wrap (n + 1) = n + 1 := Go.IntWalk.i64_in _ (by omega)
        have e1 : n + 1 - 1 = n := by omega
        have hh := (unhide HRR).has (p := p) (m := m) (s := s) (List.mem_cons_of_mem _ List.mem_cons_self) (n := n) (by unfold i64; omega)
        cases hf : s.has n with
        | true =>
          rw [hf] at hh
          have NX := hide (miss_had s hn1 hf)
          clear hf
          go_wp2_with fail
          refine hh.mono ?_
          rintro e w4 ⟨rfl, h4⟩
          have H4 := hide h4
          clear hh h4
          go_wp2_with fail
          exact ⟨⟨n + 1, rfl, by omega, .inl (by omega), by rw [e1, unhide NX], unhide H4⟩, by simp [RowKit.intOf]; omega⟩
        | false =>
          rw [hf] at hh
          have NX := hide (miss_next s hn1 hf)
          have AT := miss_at s hn1 hlt hf
          have hlm : (s.miss (n - 1)).length < (s.miss u).length := (List.getElem?_eq_some_iff.1 AT).1
          have hwk : IntKind.i64.wrap (((s.miss (n - 1)).length : Int) + 1) = ((s.miss (n - 1)).length : Int) + 1 := Go.IntWalk.i64_in _ (by have := unhide HLEN; omega)
          clear hf
          go_wp2_with fail
          refine hh.mono ?_
          rintro e w4 ⟨rfl, h4⟩
          have H4 := hide h4
          obtain ⟨g, o, rfl, hg, hrg⟩ := (h4.row List.mem_cons_self).cell intK_law AT
          have z0 := hrg 0 (.int .i64 n) rfl
          simp only [IntK, Nat.mul_one, Nat.add_zero] at z0
          have EN : Hid ((s.miss n).length = (s.miss (n - 1)).length + 1) := hide (by rw [unhide NX, List.length_append]; rfl)
          have g0 : (0 : Int) ≤ ((s.miss (n - 1)).length : Int) := by omega
          have g1 : ((s.miss (n - 1)).length : Int) < ((s.miss u).length : Int) := by omega
          clear hh h4 AT hg hrg NX
          go_wp2_with fail
          exact ⟨⟨n + 1, rfl, by omega, .inl (by omega), by rw [e1, unhide EN]; rfl, unhide H4⟩, by simp [RowKit.intOf]; omega⟩
      · have hend : s.miss (n - 1) = s.miss u := by
          rcases hn2 with e | e
          · rw [show n - 1 = u by omega]
          · rw [miss_low s (by have := (unhide F).lo; omega), miss_low s (by have := (unhide F).lo; omega)]
        rw [hend]
        clear hend
        have wh := fun (v : World) (h : HR w v (hRow IntK b d (s.miss u) :: hAck p m s :: [])) => h.whole (p := p) (m := m) (s := s) (List.mem_cons_of_mem _ List.mem_cons_self) u
        have lw := fun (v : World) (h : HR w v (hRow IntK b d (s.miss u) :: hAck p m s :: [])) => h.low (p := p) (m := m) (s := s) (List.mem_cons_of_mem _ List.mem_cons_self)
        rw [show min u 2147483647 = u by omega] at wh
        have W1 := hide (wh _ (unhide HRR))
        have L1 := hide (lw _ (unhide HRR))
        clear wh lw
        have L : (s.miss u).length = 0 ↔ u ≤ s.low := by rw [← miss_nil (unhide F) u, List.length_eq_zero_iff]
        clear FL HLEN hn2 hn1
        by_cases hq : u ≤ s.low
        · have hd : Hid (decide (u ≤ s.low) = true) := hide (decide_eq_true hq)
          rw [L.2 hq]
          rw [unhide hd] at W1
          clear L
          by_cases h1 : u < 1
          · go_wp2_with fail
            refine (unhide W1).mono ?_
            rintro e w' ⟨rfl, hw'⟩
            rw [hw']
            clear hw'
            go_wp2_with fail
            go_ret
            exact ⟨rfl, (unhide HRR).bel⟩
          · go_wp2_with fail
            refine (unhide W1).mono ?_
            rintro e w' ⟨rfl, hw'⟩
            rw [hw']
            clear hw'
            go_wp2_with fail
            refine (unhide W1).mono ?_
            rintro e w' ⟨rfl, hw'⟩
            rw [hw']
            clear hw'
            go_wp2_with fail
            refine (unhide L1).mono ?_
            rintro e w' ⟨rfl, hw'⟩
            rw [hw']
            clear hw'
            go_wp2_with fail
            go_ret
            exact ⟨rfl, (unhide HRR).bel⟩
        · have hd : Hid (decide (u ≤ s.low) = false) := hide (decide_eq_false hq)
          have hl0 : ¬ (s.miss u).length = 0 := fun e => hq (L.1 e)
          have hl1 : ¬ ((s.miss u).length : Int) = 0 := by omega
          rw [unhide hd] at W1
          generalize (s.miss u).length = x at *
          have hl2 : (x == 0) = false := by simpa using hl0
          have hl3 : ((x : Int) == 0) = false := by simpa using hl1
          have hd1 : decide (u < 1) = false := decide_eq_false (by have := (unhide F).lo; omega)
          have hd2 : decide (u ≤ s.low) = false := decide_eq_false hq
          have h1 : ¬ u < 1 := by have := (unhide F).lo; omega
          clear L
          go_wp2_with fail
          refine (unhide W1).mono ?_
          rintro e w' ⟨rfl, hw'⟩
          rw [hw']
          clear hw'
          go_wp2_with fail
          refine (unhide W1).mono ?_
          rintro e w' ⟨rfl, hw'⟩
          rw [hw']
          clear hw'
          go_wp2_with fail
          refine (unhide L1).mono ?_
          rintro e w' ⟨rfl, hw'⟩
          rw [hw']
          clear hw'
          go_wp2_with fail
          go_ret
          exact ⟨rfl, (unhide HRR).bel⟩
end Go.Proofs.Ytdmjkbcjljnleaa

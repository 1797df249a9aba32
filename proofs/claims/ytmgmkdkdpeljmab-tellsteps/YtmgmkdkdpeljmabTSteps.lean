/- What TellSteps does: it answers true, and nothing that was there has turned. No conditions. -/
import Derived.Test.YtmgmkdkdpeljmabTPlaysX
import Derived.Test.YtmgmkdkdpeljmabTPlays
import Derived.Test.YtmgmkdkdpeljmabTWakes
import Derived.Test.YtmgmkdkdpeljmabTQuiet
import Derived.Test.YtmgmkdkdpeljmabOf
namespace Go.Proofs.Ytmgmkdkdpeljmab
open Go.RowKit
structure IntsIn (w : World) (a : Option Addr) (len : Nat) (xs : List Int) : Prop where
  len : len = xs.length
  max : xs.length ≤ maxLen
  row : Ints w a xs
  all : ∀ v ∈ xs, i64 v
theorem ints_arg {H : Type} {enc : TypeId × Value → H} {w : World} {base : Nat} {spare : Nat → Bool} {held : Bool} {a : Option Addr} {len cap : Nat} {d : DataW H} {pl : List MemPlace} (h : DataW.Trod enc Try.prog w base spare held 40 (.slice a len cap) d pl) :
    ∃ xs : List Int, IntsIn w a len xs := by
  obtain ⟨fuel, hf⟩ := h
  rcases Go.ChangeShapes.open_ints Try.underlying40 Try.underlying2 mcells2 hf with ⟨hcs, _⟩ | ⟨ad, l, c, zs, hcs, _, hl, hm, hz, _, hc, hwf⟩
  · have e : [Value.slice a len cap] = [.slice none 0 0] := hcs
    simp only [List.cons.injEq, Value.slice.injEq, and_true] at e
    obtain ⟨rfl, rfl, rfl⟩ := e
    exact ⟨[], rfl, Nat.zero_le _, fun i hi => by simp at hi, fun v hv => by simp at hv⟩
  · have e : [Value.slice a len cap] = [.slice (some ad) l c] := hcs
    simp only [List.cons.injEq, Value.slice.injEq, and_true] at e
    obtain ⟨rfl, rfl, rfl⟩ := e
    have hle : len ≤ zs.length := by rw [hz]; split <;> omega
    have hlen : (zs.take len).length = len := by rw [List.length_take]; omega
    refine ⟨zs.take len, hlen.symm, by omega, fun i hi => ⟨ad, rfl, ?_⟩, fun v hv => ?_⟩
    · rw [hc i (by omega)]
      simp only [List.getD_eq_getElem?_getD, List.getElem?_take_of_lt (show i < len by omega)]
    · have := bounds_i64 (hwf v (List.mem_of_mem_take hv)); unfold i64; omega
set_option maxRecDepth 100000 in
set_option maxHeartbeats 8000000 in
theorem tsteps_any (a : Option Addr) (len cap : Nat) (z : List ActL) (b : Option Addr) (len2 cap2 : Nat) (xs : List Int) (w : World) (hz : IsActL w a len cap z) (hx : IntsIn w b len2 xs) :
    Calls Try.prog 4 #[.slice a len cap, .slice b len2 cap2] w fun e w' => e = .returned (.bool true) ∧ Below w.heap.size w w' := by
  have HZ := hide hz
  have HX := hide hx
  have GR := hide (greatL_any a len cap z w hz)
  have WK := hide twakes_any
  have hw0 := hide (HL.new (Below.refl w.heap.size w))
  clear hz hx
  by_cases hg : tooGreatL z = true
  · rw [hg] at GR
    go_enter Try.func4, Try.ntmps4
    go_wp2_with fail
    refine (unhide GR).mono ?_
    rintro e v' ⟨rfl, hw⟩
    rw [hw]
    clear hw v'
    go_wp2_with fail
    refine (unhide WK _).mono ?_
    rintro e v' ⟨rfl, hb⟩
    go_wp2_with fail
    go_ret
    exact ⟨rfl, hb⟩
  · have hl1 := hide (short_acts (unhide HZ) hg)
    rw [Bool.eq_false_iff.2 hg] at GR
    by_cases h50 : (50 : Int) < (len2 : Int)
    · go_enter Try.func4, Try.ntmps4
      go_wp2_with fail
      refine (unhide GR).mono ?_
      rintro e v' ⟨rfl, hw⟩
      rw [hw]
      clear hw v'
      go_wp2_with fail
      refine (unhide WK _).mono ?_
      rintro e v' ⟨rfl, hb⟩
      go_wp2_with fail
      go_ret
      exact ⟨rfl, hb⟩
    · by_cases h00 : len2 = 0
      · subst h00
        go_enter Try.func4, Try.ntmps4
        go_wp2_with fail
        refine (unhide GR).mono ?_
        rintro e v' ⟨rfl, hw⟩
        rw [hw]
        clear hw v'
        go_wp2_with fail
        refine (unhide WK _).mono ?_
        rintro e v' ⟨rfl, hb⟩
        go_wp2_with fail
        go_ret
        exact ⟨rfl, hb⟩
      · have hn0 : ((len2 : Int) == 0) = false := by simp; omega
        have hd50 : decide ((50 : Int) < (len2 : Int)) = false := decide_eq_false h50
        have hlx : len2 = xs.length := (unhide HX).len
        have HLX' := hide hlx
        have INT : Hid (∀ u, Below w.heap.size w u → Ints u b xs) := hide fun u hu => (unhide HX).row.keep hu
        obtain ⟨ad, had, _⟩ := (unhide HX).row 0 (by omega)
        subst had
        have CELL : Hid (∀ u, Below w.heap.size w u → ∀ k, k < len2 → u.cell? (ad.add k) = some (.int .i64 (xs.getD k 0))) := hide fun u hu k hk => by
          obtain ⟨x, hx, hc⟩ := unhide INT u hu k (by rw [← unhide HLX']; exact hk)
          cases hx; exact hc
        clear hlx INT
        go_enter Try.func4, Try.ntmps4
        go_upto_region 3 with fail
        refine (unhide GR).mono ?_
        rintro e v' ⟨rfl, hw⟩
        rw [hw]
        clear hw v'
        go_upto_region 3 with fail
        go_upto_region 4 with fail
        refine (unhide hw0).mono ?_
        rintro e u1 ⟨p0, rfl, HE⟩
        have HS := hide HE
        clear HE hw0 GR hg
        go_upto_region 5 with fail
        refine (tplays_any (unhide HS) mild_nil a len cap z (unhide HZ) (Nat.le_trans (unhide hl1) (by omega))).mono ?_
        rintro e u2 ⟨ta, tc, rfl, HE, hm, _⟩
        have ML := hide hm
        have GL := hide (goodL_plays (unhide HZ) goodL_new [])
        clear HS
        have HS := hide (HE.drop (R' := []) (fun _ h => by cases h))
        clear HE hm
        generalize (playL (newL, []) z).2.length = tn at *
        generalize (playL (newL, []) z).1 = L at *
        go_upto_region 6 with fail
        refine ((unhide HS).twin).mono ?_
        rintro e u3 ⟨q, rfl, HE, hb⟩
        obtain ⟨FT, hT⟩ := HE
        obtain ⟨FL0, hL⟩ := unhide HS
        have hL3 := hL.below hb
        have START := hide (HLX.nil (HLX.start (X := FT) hL3.st hL3.big hL3.bel (fun k hk => ⟨hT.st.lt k hk, fun f => by have h1 := hL.st.lt k f; have h2 := hT.big k hk; omega⟩)))
        have HTs := hide hT.st
        have HTb : Hid (∀ k, FT k → w.heap.size ≤ k) := hide fun k hk => Nat.le_trans hL.bel.size (hT.big k hk)
        have B3 := hide hL3.bel
        clear hT hL hL3 hb HS
        obtain ⟨x0, hx0⟩ : ∃ x0, x0 = xs.getD 0 0 := ⟨_, rfl⟩
        have c0 : u3.cell? ad = some (.int .i64 x0) := by
          have := unhide CELL u3 (unhide B3) 0 (by omega)
          rw [hx0]
          simpa [Addr.add] using this
        have HX0 := hide hx0
        clear hx0
        have g0 : (0 : Int) < (len2 : Int) := by omega
        go_upto_region 7 with fail
        clear c0 g0
        go_wp2_with fail
        go_loopw [7, 8, 9] (fun mo t i wr => ∃ (k : Nat) (ta : Option Addr) (tc : Nat) (Lk : LineV) (Tk : List (Win AggV)) (mst : Int), i = .int .i64 (k : Int) ∧ k ≤ len2 ∧ mo = .int .i64 mst ∧ t = .slice ta Tk.length tc ∧ HLX w u3 FT wr p0 Lk [(ta, tc, Tk)] ∧ Mild Lk.row ∧ Tk.length ≤ 32 * k ∧ Hid (Steps L x0 k Lk Tk mst)) (fun _ _ i _ => len2 - (intOf i).toNat)
        case atStart => exact ⟨0, none, 0, L, [], x0, rfl, Nat.zero_le _, rfl, rfl, unhide START, unhide ML, Nat.zero_le _, hide (steps_zero L x0)⟩
        case round =>
          obtain ⟨k, ta, tc, Lk, Tk, mst, rfl, hk, rfl, rfl, hh, hmm, htl, HST0⟩ := hrel
          have HR := hide hh
          have HMM := hide hmm
          have HTL := hide htl
          clear hh hmm htl START
          by_cases hlt : k < len2
          · have g1 : (k : Int) < (len2 : Int) := by omega
            have hk0 : (0 : Int) ≤ (k : Int) := by omega
            have hwk : IntKind.i64.wrap ((k : Int) + 1) = (k : Int) + 1 := Go.IntWalk.i64_in _ (by omega)
            have HC : Hid (∀ u, Below w.heap.size w u → u.cell? (ad.add k) = some (.int .i64 (xs.getD k 0))) := hide fun u hu => unhide CELL u hu k hlt
            have HST := hide (steps_next (unhide GL) (unhide HST0) (xs.getD k 0) (fun h => by rw [h]; exact (unhide HX0).symm))
            clear HST0
            generalize xs.getD k 0 = x at *
            have c1 : wr.cell? (ad.add k) = some (.int .i64 x) := unhide HC wr (unhide HR).bel
            have HCS := hide ((unhide HR).mark (unhide HMM) x)
            have HML := hide (mild_markL (unhide HMM) x).2
            have HM := hide (mild_markL (unhide HMM) x).1
            generalize markL Lk x = M at *
            obtain ⟨L', cd, O⟩ := M
            dsimp only at HCS HML HM HST
            go_upto_region 12 with fail
            refine (unhide HCS).mono ?_
            rintro e v1 ⟨a1, c1', rfl, he⟩
            obtain ⟨a', c', v2, hap, hgr⟩ := he.grow (by have := unhide HTL; have := unhide HML; omega) 29
            have HAP := hide hap
            have HG := hide hgr
            have HN : Hid ((Tk ++ O).length ≤ 32 * (k + 1)) := hide (by rw [List.length_append]; have := unhide HTL; have := unhide HML; omega)
            clear he hap hgr HCS c1 HR
            go_upto_region 13 with (first | (at_builtin; refine wpList_app rfl _ _ 29 29 29 rfl rfl rfl rfl (unhide HAP) ?_))
            have c2 : v2.cell? (ad.add k) = some (.int .i64 x) := unhide HC v2 (unhide HG).bel
            have CX := hide (fun u => Sp.right_any x u)
            have CM := hide (fun u => Sp.right_any mst u)
            cases hrx : Sp.rightI x with
            | false =>
              have e : moreMost mst x = false := by unfold moreMost; rw [hrx]; rfl
              rw [e, if_neg (by simp)] at HST
              rw [hrx] at CX
              clear e hrx HAP
              go_wp2_with fail
              refine (unhide CX _).mono ?_
              rintro e v' ⟨rfl, hw⟩
              rw [hw]
              clear hw v'
              go_wp2_with fail
              exact ⟨⟨k + 1, a', c', L', Tk ++ O, mst, rfl, by omega, rfl, by simp, unhide HG, unhide HM, unhide HN, HST⟩, by simp [intOf]; omega⟩
            | true =>
              rw [hrx] at CX
              cases hrm : Sp.rightI mst with
              | false =>
                have e : moreMost mst x = true := by unfold moreMost; rw [hrx, hrm]; rfl
                rw [e, if_pos rfl] at HST
                rw [hrm] at CM
                clear e hrx hrm HAP
                go_wp2_with fail
                refine (unhide CX _).mono ?_
                rintro e v' ⟨rfl, hw⟩
                rw [hw]
                clear hw v'
                go_wp2_with fail
                refine (unhide CM _).mono ?_
                rintro e v' ⟨rfl, hw⟩
                rw [hw]
                clear hw v'
                go_wp2_with fail
                exact ⟨⟨k + 1, a', c', L', Tk ++ O, x, rfl, by omega, rfl, by simp, unhide HG, unhide HM, unhide HN, HST⟩, by simp [intOf]; omega⟩
              | true =>
                rw [hrm] at CM
                by_cases hm2 : mst < x
                · have e : moreMost mst x = true := by unfold moreMost; rw [hrx, hrm, decide_eq_true hm2]; rfl
                  rw [e, if_pos rfl] at HST
                  clear e hrx hrm HAP
                  go_wp2_with fail
                  refine (unhide CX _).mono ?_
                  rintro e v' ⟨rfl, hw⟩
                  rw [hw]
                  clear hw v'
                  go_wp2_with fail
                  refine (unhide CM _).mono ?_
                  rintro e v' ⟨rfl, hw⟩
                  rw [hw]
                  clear hw v'
                  go_wp2_with fail
                  exact ⟨⟨k + 1, a', c', L', Tk ++ O, x, rfl, by omega, rfl, by simp, unhide HG, unhide HM, unhide HN, HST⟩, by simp [intOf]; omega⟩
                · have e : moreMost mst x = false := by unfold moreMost; rw [hrx, hrm, decide_eq_false hm2]; rfl
                  rw [e, if_neg (by simp)] at HST
                  have hd : decide (mst < x) = false := decide_eq_false hm2
                  clear e hrx hrm HAP
                  go_wp2_with fail
                  refine (unhide CX _).mono ?_
                  rintro e v' ⟨rfl, hw⟩
                  rw [hw]
                  clear hw v'
                  go_wp2_with fail
                  refine (unhide CM _).mono ?_
                  rintro e v' ⟨rfl, hw⟩
                  rw [hw]
                  clear hw v'
                  go_wp2_with fail
                  exact ⟨⟨k + 1, a', c', L', Tk ++ O, mst, rfl, by omega, rfl, by simp, unhide HG, unhide HM, unhide HN, HST⟩, by simp [intOf]; omega⟩
          · have g1 : ¬ (k : Int) < (len2 : Int) := by omega
            obtain ⟨e1, e2⟩ := steps_end (unhide HST0) (by omega)
            obtain ⟨FL, h3⟩ := unhide HR
            have rt := h3.here.rows _ List.mem_cons_self
            have hX2 : ∀ j, (FL j ∨ (Value.slice ta Tk.length tc).ownBlock = some j) → j < wr.heap.size ∧ ¬ FT j := by
              rintro j (hj | hj)
              · exact ⟨h3.here.st.lt j hj, fun f => (h3.apart j f).2.1 hj⟩
              · exact ⟨(row_lt rt.1 j hj).2, fun f => (h3.apart j f).2.2 _ List.mem_cons_self hj⟩
            have XT := HLX.start (w0 := w) (X := fun j => FL j ∨ (Value.slice ta Tk.length tc).ownBlock = some j) ((unhide HTs).keep h3.stay (fun i hi f => hi f)) (unhide HTb) h3.here.bel hX2
            have CP := XT.mark (unhide ML) mst
            have ht32 : Tk.length ≤ 32 := by rw [e2]; exact (mild_markL (unhide ML) mst).2
            rw [← e1, ← e2] at CP
            have HCP := hide CP
            have HL3 := hide h3.here.st
            have HLb := hide h3.here.big
            have HRT := hide rt.1
            clear CP XT hX2 rt h3 HR HST0 e1 e2
            generalize (markL L mst).2.1 = cd at *
            go_upto_region 16 with fail
            refine (unhide HCP).mono ?_
            rintro e v1 ⟨a1, c1, rfl, HE⟩
            obtain ⟨FT4, h4⟩ := HE
            have hrow : OutK.Row v1 w.heap.size ta tc Tk := row_moved (unhide HRT) h4.stay (fun i hi k hk e => hi (.inr (e ▸ hk)))
            have HLL : Hid (HL w v1 p0 Lk []) := hide ⟨FL, (unhide HL3).keep h4.stay (fun i hi f => hi (.inl f)), unhide HLb, h4.here.bel, fun r hr => by cases hr⟩
            have HTT : Hid (HL w v1 q Lk [(a1, c1, Tk)]) := hide ⟨FT4, h4.here⟩
            have SM := hide (same_self (c := tc) (d := c1) (Held.lay (w0 := w) (r := (ta, tc, Tk)) hrow (by show Tk.length ≤ 1000; omega)) (Held.lay (r := (a1, c1, Tk)) ((unhide HTT).row List.mem_cons_self) (by show Tk.length ≤ 1000; omega)))
            clear h4 hrow HCP HL3 HLb HRT
            go_wp2_with fail
            refine (unhide SM).mono ?_
            rintro e v2 ⟨rfl, hb⟩
            have HL2 := hide ((unhide HLL).below hb)
            have HT2 := hide (((unhide HTT).below hb).drop (R' := []) (fun _ h => by cases h))
            have AL := hide (unhide HL2).at_
            have AT := hide (unhide HT2).at_
            clear hb SM HLL HTT
            go_wp2_with fail
            refine (unhide AL).mono ?_
            rintro e v' ⟨rfl, hw⟩
            rw [hw]
            clear hw v'
            go_wp2_with fail
            refine (unhide AT).mono ?_
            rintro e v' ⟨rfl, hw⟩
            rw [hw]
            clear hw v' AL AT
            go_wp2_with fail
            refine ((unhide HL2).open_ (unhide HMM)).mono ?_
            rintro e v3 ⟨a6, c6, rfl, HE, hb⟩
            have HL3 := hide HE
            have HT3 := hide ((unhide HT2).below hb)
            clear HE hb HL2 HT2
            go_wp2_with fail
            refine ((unhide HT3).open_ (unhide HMM)).mono ?_
            rintro e v4 ⟨a7, c7, rfl, HE, hb⟩
            have HT4 := hide HE
            have HL4 := hide ((unhide HL3).below hb)
            clear HE hb HL3 HT3
            have SM := hide (same_self (c := c6) (d := c7) (Held.lay (r := (a6, c6, Lk.row)) ((unhide HL4).row List.mem_cons_self) (Nat.le_trans (unhide HMM).most (by omega))) (Held.lay (r := (a7, c7, Lk.row)) ((unhide HT4).row List.mem_cons_self) (Nat.le_trans (unhide HMM).most (by omega))))
            go_wp2_with fail
            refine (unhide SM).mono ?_
            rintro e v5 ⟨rfl, hb⟩
            have BEL := hide ((unhide HT4).below hb).bel
            clear hb SM HT4 HL4
            go_wp2_with fail
            refine (unhide WK _).mono ?_
            rintro e v' ⟨rfl, hb⟩
            go_wp2_with fail
            go_ret
            exact ⟨rfl, (unhide BEL).trans (hb.mono (unhide BEL).size)⟩
end Go.Proofs.Ytmgmkdkdpeljmab

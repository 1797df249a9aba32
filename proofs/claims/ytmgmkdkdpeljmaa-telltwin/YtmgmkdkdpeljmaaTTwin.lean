/- What TellTwin does: it answers true, and nothing that was there has turned. No conditions. -/
import Derived.Test.YtmgmkdkdpeljmaaTPlaysX
import Derived.Test.YtmgmkdkdpeljmaaTPlays
import Derived.Test.YtmgmkdkdpeljmaaTOf
import Derived.Test.YtmgmkdkdpeljmaaTWakes
namespace Go.Proofs.Ytmgmkdkdpeljmaa
open Go.RowKit
theorem goodL_plays {w : World} {a : Option Addr} {len cap : Nat} {z : List ActL} {L : LineV} (h : IsActL w a len cap z) (hg : GoodL L) (T : List (Win AggV)) : GoodL (playL (L, T) z).1 := goodL_play hg (fun p hp => (h.ok p hp).n)
theorem short_acts {w : World} {a : Option Addr} {len cap : Nat} {z : List ActL} (h : IsActL w a len cap z) (hg : ¬ tooGreatL z = true) : len ≤ 200 := by
  refine Nat.le_of_not_lt fun hl => hg ?_
  unfold tooGreatL
  rw [h.size_, decide_eq_true hl, Bool.true_or]
theorem putL_len {L : LineV} (h : Good SO L.row) {k : List UInt8} {a n : Int} : (putL L k a n).1.row.length ≤ L.row.length + 1 := by
  rcases putL_ways L k a n with ⟨_, e⟩ | ⟨_, ⟨_, e⟩ | ⟨_, ⟨_, e⟩ | ⟨_, e⟩⟩⟩
  · rw [e]; exact Nat.le_succ _
  · rw [e]; exact Nat.le_succ _
  · rw [e]; exact (put_apart h).2.1
  · rw [e]; exact Nat.le_succ _
theorem told_len : ∀ {z : List ActL} {s : LineV × List (Win AggV)}, GoodL s.1 → (∀ a ∈ z, i64 a.n) → (playL s z).2.length + (playL s z).1.row.length ≤ s.2.length + s.1.row.length + z.length
  | [], _, _, _ => Nat.le_refl _
  | a :: z, s, h, hn => by
    have h1 := told_len (z := z) (goodL_act h (hn a List.mem_cons_self)) (fun b hb => hn b (List.mem_cons_of_mem _ hb))
    have h2 : (actL s a).2.length + (actL s a).1.row.length ≤ s.2.length + s.1.row.length + 1 := by
      unfold actL
      split
      · have := putL_len h.good (k := a.key) (a := a.at_) (n := a.n)
        show s.2.length + (putL s.1 a.key a.at_ a.n).1.row.length ≤ _
        omega
      · split
        · have := markL_len (L := s.1) (a := a.at_)
          show (s.2 ++ (markL s.1 a.at_).2.2).length + (markL s.1 a.at_).1.row.length ≤ _
          rw [List.length_append]; omega
        · omega
    show (playL (actL s a) z).2.length + (playL (actL s a) z).1.row.length ≤ _
    rw [List.length_cons]; omega
set_option maxRecDepth 100000 in
set_option maxHeartbeats 8000000 in
theorem ttwinlaw_any (a : Option Addr) (len cap : Nat) (z : List ActL) (b : Option Addr) (len2 cap2 : Nat) (y : List ActL) (w : World) (hz : IsActL w a len cap z) (hy : IsActL w b len2 cap2 y) :
    Calls Try.prog 7 #[.slice a len cap, .slice b len2 cap2] w fun e w' => e = .returned (.bool true) ∧ Below w.heap.size w w' := by
  have HZ := hide hz
  have HY := hide hy
  have GR := hide (greatL_any a len cap z w hz)
  have GS := hide (greatL_any b len2 cap2 y w hy)
  have WK := hide twakes_any
  have hw0 := hide (HL.new (Below.refl w.heap.size w))
  clear hz hy
  by_cases hg : tooGreatL z = true
  · rw [hg] at GR
    go_enter Try.func7, Try.ntmps7
    go_wp2_with fail
    refine (unhide GR).mono ?_
    rintro e v' ⟨rfl, hw⟩
    rw [hw]
    clear hw v'
    go_wp2_with fail
    refine (unhide WK _).mono ?_
    rintro e v' ⟨rfl, hb⟩
    go_wp2_with fail
    go_ret
    exact ⟨rfl, hb⟩
  · have hl1 := hide (short_acts (unhide HZ) hg)
    rw [Bool.eq_false_iff.2 hg] at GR
    by_cases hg2 : tooGreatL y = true
    · rw [hg2] at GS
      go_enter Try.func7, Try.ntmps7
      go_wp2_with fail
      refine (unhide GR).mono ?_
      rintro e v' ⟨rfl, hw⟩
      rw [hw]
      clear hw v'
      go_wp2_with fail
      refine (unhide GS).mono ?_
      rintro e v' ⟨rfl, hw⟩
      rw [hw]
      clear hw v'
      go_wp2_with fail
      refine (unhide WK _).mono ?_
      rintro e v' ⟨rfl, hb⟩
      go_wp2_with fail
      go_ret
      exact ⟨rfl, hb⟩
    · have hl2 := hide (short_acts (unhide HY) hg2)
      rw [Bool.eq_false_iff.2 hg2] at GS
      go_enter Try.func7, Try.ntmps7
      go_upto_region 3 with fail
      refine (unhide GR).mono ?_
      rintro e v' ⟨rfl, hw⟩
      rw [hw]
      clear hw v'
      go_upto_region 3 with fail
      refine (unhide GS).mono ?_
      rintro e v' ⟨rfl, hw⟩
      rw [hw]
      clear hw v'
      go_upto_region 3 with fail
      go_upto_region 4 with fail
      refine (unhide hw0).mono ?_
      rintro e u1 ⟨p0, rfl, HE⟩
      have HS := hide HE
      clear HE hw0 GR GS hg hg2
      go_upto_region 5 with fail
      refine (tplays_any (unhide HS) mild_nil a len cap z (unhide HZ) (Nat.le_trans (unhide hl1) (by omega))).mono ?_
      rintro e u2 ⟨ta, tc, rfl, HE, hm, _⟩
      have ML := hide hm
      have GL := hide (goodL_plays (unhide HZ) goodL_new [])
      clear HS
      have HS := hide (HE.drop (R' := []) (fun _ h => by cases h))
      clear HE hm
      generalize (playL (newL, []) z).2.length = tn at *
      generalize (playL (newL, []) z).1 = L at *
      go_upto_region 6 with fail
      refine ((unhide HS).open_ (unhide ML)).mono ?_
      rintro e u3 ⟨a1, c1, rfl, HE, _⟩
      clear HS
      have HS := hide HE
      clear HE
      have HS3 := HS
      have BU3 := hide (unhide HS).bel
      go_upto_region 7 with fail
      refine ((unhide HS).at_).mono ?_
      rintro e v' ⟨rfl, hw⟩
      rw [hw]
      clear hw v'
      go_upto_region 8 with fail
      refine ((unhide HS).twin).mono ?_
      rintro e u4 ⟨q, rfl, HE, hb⟩
      have HT := hide HE
      have FN := hide (unhide HS).fine
      clear HE
      have HSn := hide ((unhide HS).below hb)
      have BU34 := hide hb
      clear HS hb
      have LAY : Hid (∀ u, Below u4.heap.size u4 u → Lay u a1 L.row) := hide fun u hu => Held.lay (r := (a1, c1, L.row)) (((unhide HSn).below hu).row List.mem_cons_self) (Nat.le_trans (unhide ML).most (by omega))
      have COF := hide (tof_any (c := c1) L.mark (unhide LAY) (fun x hx => ⟨(unhide ML).ins_ x hx, (unhide FN).oks x hx⟩))
      rw [ofL_self (unhide GL)] at COF
      go_upto_region 9 with fail
      refine (unhide COF).mono ?_
      rintro e u5 ⟨pt, rfl, hb, hyes, _⟩
      obtain ⟨pm, rfl, HE, _⟩ := hyes trivial
      obtain ⟨FT, hT⟩ := unhide HT
      obtain ⟨FM, hM⟩ := HE
      have hT5 := hT.below hb
      have XT := hide (HLX.start (X := FM) hT5.st hT5.big hT5.bel (fun k hk => ⟨hM.st.lt k hk, fun f => by have h1 := hT.st.lt k f; have h2 := hM.big k hk; omega⟩))
      have HMs := hide hM.st
      have HMb : Hid (∀ k, FM k → w.heap.size ≤ k) := hide fun k hk => Nat.le_trans (unhide BU3).size (Nat.le_trans (unhide BU34).size (hM.big k hk))
      clear hb hyes HT HSn COF LAY hT hM hT5 BU34
      obtain ⟨L2, T2, hS2⟩ : ∃ L2 T2, playL (L, []) y = (L2, T2) := ⟨_, _, rfl⟩
      have HLT : Hid (T2.length ≤ 1000) := hide (by
        have h1 := told_len (z := y) (s := (L, [])) (unhide GL) (fun p hp => ((unhide HY).ok p hp).n)
        rw [hS2] at h1
        have h2 := (unhide ML).most
        have h3 := (unhide HY).size_
        have h4 := unhide hl2
        simp only [List.length_nil] at h1
        omega)
      have CP := tplaysx_any (unhide XT) (unhide ML) b len2 cap2 y ((unhide HY).below (unhide BU3)) (Nat.le_trans (unhide hl2) (by omega))
      rw [hS2] at CP
      have HCP := hide CP
      have HS2 := hide hS2
      clear CP hS2 XT
      go_upto_region 12 with fail
      refine (unhide HCP).mono ?_
      rintro e v1 ⟨tb, tcb, rfl, HE, hm, _⟩
      have ML2 := hide hm
      have XT := hide HE
      have HS := hide ((unhide HS3).below HE.bel)
      clear HE hm HS3 HCP
      go_upto_region 14 with fail
      refine ((unhide HS).open_ (unhide ML)).mono ?_
      rintro e v2 ⟨a4, c4, rfl, HE, hb⟩
      have XT2 := hide ((unhide XT).below hb)
      clear HS XT
      have HS := hide HE
      have SM := hide (same_self (c := c4) (d := c1) (Held.lay (r := (a4, c4, L.row)) (HE.row List.mem_cons_self) (Nat.le_trans (unhide ML).most (by omega))) (Held.lay (r := (a1, c1, L.row)) (HE.row (List.mem_cons_of_mem _ List.mem_cons_self)) (Nat.le_trans (unhide ML).most (by omega))))
      clear HE hb
      go_upto_region 14 with fail
      refine (unhide SM).mono ?_
      rintro e v3 ⟨rfl, hb⟩
      have XT3 := hide ((unhide XT2).below hb)
      have HAT := hide ((unhide HS).below hb).at_
      clear hb SM HS XT2
      go_upto_region 14 with fail
      refine (unhide HAT).mono ?_
      rintro e v' ⟨rfl, hw⟩
      rw [hw]
      clear hw v' HAT
      go_upto_region 14 with fail
      obtain ⟨FT3, h3⟩ := unhide XT3
      have rt := h3.here.rows _ List.mem_cons_self
      have hX2 : ∀ k, (FT3 k ∨ (Value.slice tb T2.length tcb).ownBlock = some k) → k < v3.heap.size ∧ ¬ FM k := by
        rintro k (hk | hk)
        · exact ⟨h3.here.st.lt k hk, fun f => (h3.apart k f).2.1 hk⟩
        · exact ⟨(row_lt rt.1 k hk).2, fun f => (h3.apart k f).2.2 _ List.mem_cons_self hk⟩
      have B3 : Below w.heap.size w v3 := (unhide BU3).trans (h3.here.bel.mono (unhide BU3).size)
      have XM := HLX.start (w0 := w) (X := fun k => FT3 k ∨ (Value.slice tb T2.length tcb).ownBlock = some k) ((unhide HMs).keep h3.stay (fun i hi f => hi f)) (unhide HMb) B3 hX2
      have CP := tplaysx_any XM (unhide ML) b len2 cap2 y (unhide HY) (Nat.le_trans (unhide hl2) (by omega))
      rw [unhide HS2] at CP
      have HCP := hide CP
      have HT3 := hide h3.here.st
      have HTb : Hid (∀ k, FT3 k → w.heap.size ≤ k) := hide fun k hk => Nat.le_trans (unhide BU3).size (h3.here.big k hk)
      have HRT := hide rt.1
      clear CP XM hX2 B3 rt h3 XT3 HMs HMb HS2
      go_upto_region 15 with fail
      refine (unhide HCP).mono ?_
      rintro e v4 ⟨tm, tcm, rfl, HE, _, _⟩
      obtain ⟨FM4, h4⟩ := HE
      have hrow : OutK.Row v4 u3.heap.size tb tcb T2 := row_moved (unhide HRT) h4.stay (fun i hi k hk e => hi (.inr (e ▸ hk)))
      have HTL : Hid (HL w v4 q L2 []) := hide ⟨FT3, (unhide HT3).keep h4.stay (fun i hi f => hi (.inl f)), unhide HTb, h4.here.bel, fun r hr => by cases hr⟩
      have HML : Hid (HL w v4 pm L2 [(tm, tcm, T2)]) := hide ⟨FM4, h4.here⟩
      have SM := hide (same_self (c := tcb) (d := tcm) (Held.lay (w0 := u3) (r := (tb, tcb, T2)) hrow (unhide HLT)) (Held.lay (r := (tm, tcm, T2)) ((unhide HML).row List.mem_cons_self) (unhide HLT)))
      clear h4 hrow HCP HT3 HTb HRT
      go_wp2_with fail
      refine (unhide SM).mono ?_
      rintro e v5 ⟨rfl, hb⟩
      have HT5 := hide ((unhide HTL).below hb)
      have HM5 := hide (((unhide HML).below hb).drop (R' := []) (fun _ h => by cases h))
      clear hb SM HTL HML
      go_wp2_with fail
      refine ((unhide HT5).open_ (unhide ML2)).mono ?_
      rintro e v6 ⟨a6, c6, rfl, HE, hb⟩
      have HT6 := hide HE
      have HM6 := hide ((unhide HM5).below hb)
      clear HE hb HT5 HM5
      go_wp2_with fail
      refine ((unhide HM6).open_ (unhide ML2)).mono ?_
      rintro e v7 ⟨a7, c7, rfl, HE, hb⟩
      have HM7 := hide HE
      have HT7 := hide ((unhide HT6).below hb)
      clear HE hb HT6 HM6
      have SM := hide (same_self (c := c6) (d := c7) (Held.lay (r := (a6, c6, L2.row)) ((unhide HT7).row List.mem_cons_self) (Nat.le_trans (unhide ML2).most (by omega))) (Held.lay (r := (a7, c7, L2.row)) ((unhide HM7).row List.mem_cons_self) (Nat.le_trans (unhide ML2).most (by omega))))
      go_wp2_with fail
      refine (unhide SM).mono ?_
      rintro e v8 ⟨rfl, hb⟩
      have AT := hide ((unhide HT7).below hb).at_
      have AM := hide ((unhide HM7).below hb).at_
      have BEL := hide ((unhide HM7).below hb).bel
      clear hb SM HT7 HM7
      go_wp2_with fail
      refine (unhide AT).mono ?_
      rintro e v' ⟨rfl, hw⟩
      rw [hw]
      clear hw v'
      go_wp2_with fail
      refine (unhide AM).mono ?_
      rintro e v' ⟨rfl, hw⟩
      rw [hw]
      clear hw v'
      go_wp2_with fail
      refine (unhide WK _).mono ?_
      rintro e v' ⟨rfl, hb⟩
      go_wp2_with fail
      go_ret
      exact ⟨rfl, (unhide BEL).trans (hb.mono (unhide BEL).size)⟩
end Go.Proofs.Ytmgmkdkdpeljmaa

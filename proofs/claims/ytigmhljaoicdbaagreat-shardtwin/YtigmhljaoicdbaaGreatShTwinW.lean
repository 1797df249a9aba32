/- What ShardTwin does: it answers true, and nothing that was there has turned. No conditions. -/
import Derived.Test.YtigmhljaoicdbaaGreatShPlays
import Derived.Test.YtigmhljaoicdbaaGreatShOf
import Derived.Test.YtigmhljaoicdbaaGreatShSame9
namespace Go.Proofs.YtigmhljaoicdbaaGreat
open Go.RowKit
theorem sameS_refl (S : StV) : sameS S S = true := decide_eq_true ⟨rfl, rfl, rfl, rfl⟩
set_option maxRecDepth 100000 in
set_option maxHeartbeats 8000000 in
theorem twinlaw_any {a b : Option Addr} {ca cb : Nat} {z y : List ItemV} (w : World) (hz : ItemK.At w a z) (hy : ItemK.At w b y) (iz : ∀ x ∈ z, x.In) (iy : ∀ x ∈ y, x.In) :
    Calls Tryz.prog 6 #[.slice a z.length ca, .slice b y.length cb] w fun e w' => e = .returned (.bool true) ∧ Below w.heap.size w w' := by
  have H0 := hide (Sn.HR.start w)
  have G1 := hide (greatI_any (cap := ca) hz)
  have G2 := hide (greatI_any (cap := cb) hy)
  have WK := hide (wakes_any w)
  have HZ := hide hz
  have HY := hide hy
  have IZ := hide iz
  have IY := hide iy
  clear hz hy iz iy
  by_cases hg : tooGreatI z = true
  · rw [hg] at G1
    go_enter Tryz.func6, Tryz.ntmps6
    go_wp2_with fail
    refine (unhide G1).mono ?_
    rintro e v' ⟨rfl, hw⟩
    rw [hw]
    clear hw v'
    go_wp2_with fail
    refine (unhide WK).mono ?_
    rintro e v' ⟨rfl, hb⟩
    have HB := hide hb
    clear hb
    go_wp2_with fail
    go_ret
    exact ⟨rfl, unhide HB⟩
  · have LZ := hide (short_i hg)
    rw [Bool.eq_false_iff.2 hg] at G1
    clear hg
    by_cases hg : tooGreatI y = true
    · rw [hg] at G2
      go_enter Tryz.func6, Tryz.ntmps6
      go_wp2_with fail
      refine (unhide G1).mono ?_
      rintro e v' ⟨rfl, hw⟩
      rw [hw]
      clear hw v'
      go_wp2_with fail
      refine (unhide G2).mono ?_
      rintro e v' ⟨rfl, hw⟩
      rw [hw]
      clear hw v'
      go_wp2_with fail
      refine (unhide WK).mono ?_
      rintro e v' ⟨rfl, hb⟩
      have HB := hide hb
      clear hb
      go_wp2_with fail
      go_ret
      exact ⟨rfl, unhide HB⟩
    · have LY := hide (short_i hg)
      rw [Bool.eq_false_iff.2 hg] at G2
      obtain ⟨S, hS⟩ : ∃ S, S = runS newS z := ⟨_, rfl⟩
      have GS : Hid (GoodS S) := hide (by rw [hS]; exact goodS_run goodS_new fun x hx => (unhide IZ x hx).n)
      have GU : Hid (GoodS (runS S y)) := hide (goodS_run (unhide GS) fun x hx => (unhide IY x hx).n)
      have HS := hide hS
      have TL : Hid ((toldS S y).length ≤ 1000000) := hide (by
        have h1 := told_len (unhide GS) (l := y) fun x hx => (unhide IY x hx).n
        have h2 := unhide LY
        omega)
      clear hg hS
      go_enter Tryz.func6, Tryz.ntmps6
      go_wp2_with fail
      refine (unhide G1).mono ?_
      rintro e v' ⟨rfl, hw⟩
      rw [hw]
      clear hw v' G1
      go_wp2_with fail
      refine (unhide G2).mono ?_
      rintro e v' ⟨rfl, hw⟩
      rw [hw]
      clear hw v' G2 WK
      go_wp2_with fail
      refine (hs_new (unhide H0)).mono ?_
      rintro e v1 ⟨p, F1, rfl, h⟩
      have H1 := hide h
      clear h H0
      go_wp2_with fail
      refine (plays_any (unhide H1) goodS_new (unhide HZ) (unhide IZ) (Nat.le_trans (unhide LZ) (by omega))).mono ?_
      rintro e v2 ⟨b2, c2, F2, rfl, h⟩
      rw [← unhide HS] at h
      have H2 := hide h.drop1
      clear h H1
      go_wp2_with fail
      refine (hs_twin (unhide H2) List.mem_cons_self).mono ?_
      rintro e v3 ⟨pt, Ft, rfl, h⟩
      have H3 : Hid (Sn.HR w v3 (hState pt Ft S :: hState p F2 S :: [])) := hide h
      clear h H2
      go_wp2_with fail
      refine (hs_mark (unhide H3) (List.mem_cons_of_mem _ List.mem_cons_self)).mono ?_
      rintro e v' ⟨rfl, hw⟩
      rw [hw]
      clear hw v'
      go_wp2_with fail
      refine (hs_open (unhide H3) (List.mem_cons_of_mem _ List.mem_cons_self) (unhide GS)).mono ?_
      rintro e v4 ⟨a4, c4, rfl, h⟩
      have H4 := hide h
      clear h H3
      go_wp2_with fail
      refine (hs_lows (unhide H4) (List.mem_cons_of_mem _ (List.mem_cons_of_mem _ List.mem_cons_self))).mono ?_
      rintro e v5 ⟨a5, c5, rfl, h⟩
      have H5 := hide h
      clear h H4
      go_wp2_with fail
      refine (hs_ans (unhide H5) (List.mem_cons_of_mem _ (List.mem_cons_of_mem _ (List.mem_cons_of_mem _ List.mem_cons_self))) (unhide GS)).mono ?_
      rintro e v6 ⟨a6, c6, rfl, h⟩
      have H6 := hide h
      clear h H5
      go_wp2_with fail
      refine (hs_of (unhide H6) (unhide GS) (List.mem_cons_of_mem _ (List.mem_cons_of_mem _ List.mem_cons_self)) (List.mem_cons_of_mem _ List.mem_cons_self) List.mem_cons_self).mono ?_
      rintro e v7 ⟨pu, Fu, rfl, h⟩
      have H7 : Hid (Sn.HR w v7 (hState pu Fu S :: hState pt Ft S :: hState p F2 S :: [])) := hide (h.sub (List.Sublist.cons_cons _ (List.Sublist.cons _ (List.Sublist.cons _ (List.Sublist.cons _ (List.Sublist.refl _))))))
      clear h H6
      go_wp2_with fail
      refine (hs_twin (unhide H7) (List.mem_cons_of_mem _ (List.mem_cons_of_mem _ List.mem_cons_self))).mono ?_
      rintro e v8 ⟨pv, Fv, rfl, h⟩
      have H8 : Hid (Sn.HR w v8 (hState pv Fv S :: hState pu Fu S :: hState pt Ft S :: hState p F2 S :: [])) := hide h
      clear h H7
      go_wp2_with fail
      refine (hs_same (unhide H8) (List.mem_cons_of_mem _ (List.mem_cons_of_mem _ (List.mem_cons_of_mem _ List.mem_cons_self))) (List.mem_cons_of_mem _ (List.mem_cons_of_mem _ List.mem_cons_self)) (unhide GS) (unhide GS)).mono ?_
      rintro e v9 ⟨rfl, h⟩
      rw [sameS_refl]
      have H9 := hide h
      clear h H8
      go_wp2_with fail
      refine (hs_same (unhide H9) (List.mem_cons_of_mem _ (List.mem_cons_of_mem _ (List.mem_cons_of_mem _ List.mem_cons_self))) (List.mem_cons_of_mem _ List.mem_cons_self) (unhide GS) (unhide GS)).mono ?_
      rintro e u1 ⟨rfl, h⟩
      rw [sameS_refl]
      have K1 : Hid (Sn.HR w u1 (hState pt Ft S :: hState pv Fv S :: hState pu Fu S :: hState p F2 S :: [])) := hide (h.perm (((List.Perm.swap _ _ _).cons _).trans (List.Perm.swap _ _ _)))
      clear h H9
      go_wp2_with fail
      refine (plays_any (unhide K1) (unhide GS) (unhide HY) (unhide IY) (Nat.le_trans (unhide LY) (by omega))).mono ?_
      rintro e u2 ⟨ba, xa, Fa, rfl, h⟩
      have K2 : Hid (Sn.HR w u2 (hState pu Fu S :: hOuts ba xa (toldS S y) :: hState pt Fa (runS S y) :: hState pv Fv S :: hState p F2 S :: [])) := hide (h.perm ((((List.Perm.swap _ _ _).cons _).trans (List.Perm.swap _ _ _)).cons _ |>.trans (List.Perm.swap _ _ _)))
      clear h K1
      go_wp2_with fail
      refine (plays_any (unhide K2) (unhide GS) (unhide HY) (unhide IY) (Nat.le_trans (unhide LY) (by omega))).mono ?_
      rintro e u3 ⟨bb, xb, Fb, rfl, h⟩
      have K3 : Hid (Sn.HR w u3 (hOuts bb xb (toldS S y) :: hState pu Fb (runS S y) :: hOuts ba xa (toldS S y) :: hState pt Fa (runS S y) :: hState pv Fv S :: hState p F2 S :: [])) := hide h
      clear h K2
      generalize hnn : (toldS S y).length = nn
      rw [hnn] at TL
      go_wp2_with fail
      refine (hs_same (unhide K3) (List.mem_cons_of_mem _ (List.mem_cons_of_mem _ (List.mem_cons_of_mem _ (List.mem_cons_of_mem _ (List.mem_cons_of_mem _ List.mem_cons_self))))) (List.mem_cons_of_mem _ (List.mem_cons_of_mem _ (List.mem_cons_of_mem _ (List.mem_cons_of_mem _ List.mem_cons_self)))) (unhide GS) (unhide GS)).mono ?_
      rintro e u4 ⟨rfl, h⟩
      rw [sameS_refl]
      have K4 := hide h
      clear h K3
      go_wp2_with fail
      refine (hs_same (unhide K4) (List.mem_cons_of_mem _ (List.mem_cons_of_mem _ (List.mem_cons_of_mem _ List.mem_cons_self))) (List.mem_cons_of_mem _ List.mem_cons_self) (unhide GU) (unhide GU)).mono ?_
      rintro e u5 ⟨rfl, h⟩
      rw [sameS_refl]
      have K5 := hide h
      clear h K4
      go_wp2_with fail
      rw [← hnn] at TL ⊢
      refine (same9_hr (l := toldS S y) (m := toldS S y) (unhide K5) (List.mem_cons_of_mem _ (List.mem_cons_of_mem _ List.mem_cons_self)) List.mem_cons_self (unhide TL)).mono ?_
      rintro e u6 ⟨rfl, h⟩
      rw [show decide (toldS S y = toldS S y) = true from decide_eq_true rfl]
      have K6 := hide h
      clear h K5
      generalize (toldS S y).length = n2
      go_wp2_with fail
      refine (wakes_any u6).mono ?_
      rintro e u7 ⟨rfl, hb⟩
      have HB := hide ((unhide K6).bel.trans (hb.mono (unhide K6).bel.size))
      clear hb K6
      go_wp2_with fail
      go_ret
      exact ⟨rfl, unhide HB⟩
theorem twin_row (a : Option Addr) (ca : Nat) (z : List ItemV) (b : Option Addr) (cb : Nat) (y : List ItemV) (w : World) (_ : z.length ≤ maxLen) (hz : ItemK.At w a z) (iz : ∀ x ∈ z, x.In) (_ : y.length ≤ maxLen) (hy : ItemK.At w b y) (iy : ∀ x ∈ y, x.In) :
    Calls Tryz.prog 6 #[.slice a z.length ca, .slice b y.length cb] w fun e w' => e = .returned (.bool true) ∧ Below w.heap.size w w' := twinlaw_any w hz hy iz iy
end Go.Proofs.YtigmhljaoicdbaaGreat

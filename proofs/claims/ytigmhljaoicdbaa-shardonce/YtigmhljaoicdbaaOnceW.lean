/- What ShardOnce does: it answers true, and nothing that was there has turned. No conditions. -/
import Derived.Test.YtigmhljaoicdbaaShPlays
import Derived.Test.YtigmhljaoicdbaaShSame9
namespace Go.Proofs.Ytigmhljaoicdbaa
open Go.RowKit
theorem sameS_refl (S : StV) : sameS S S = true := decide_eq_true ⟨rfl, rfl, rfl, rfl⟩
theorem tm_bounds (n : Int) (k : Nat) : -(k : Int) ≤ n.tmod ((k : Int) + 1) ∧ n.tmod ((k : Int) + 1) ≤ k := by
  rcases Int.le_total 0 n with h | h
  · rw [Int.tmod_eq_emod_of_nonneg h]
    have h1 := Int.emod_nonneg n (show ((k : Int) + 1) ≠ 0 by omega)
    have h2 := Int.emod_lt_of_pos n (show 0 < (k : Int) + 1 by omega)
    omega
  · obtain ⟨m, rfl⟩ : ∃ m, n = -m := ⟨-n, by omega⟩
    rw [Int.neg_tmod, Int.tmod_eq_emod_of_nonneg (by omega)]
    have h1 := Int.emod_nonneg m (show ((k : Int) + 1) ≠ 0 by omega)
    have h2 := Int.emod_lt_of_pos m (show 0 < (k : Int) + 1 by omega)
    omega
set_option maxRecDepth 100000 in
set_option maxHeartbeats 20000000 in
theorem once_any {a y : Option Addr} {ca cy : Nat} {z : List ItemV} {ag : List Int} (w : World) (hz : ItemK.At w a z) (hy : Sn.IntK.At w y ag) (iz : ∀ x ∈ z, x.In) (iy : ∀ x ∈ ag, Sn.i64 x) :
    Calls Try.prog 3 #[.slice a z.length ca, .slice y ag.length cy] w fun e w' => e = .returned (.bool true) ∧ Below w.heap.size w w' := by
  have H0 := hide (Sn.HR.start w)
  have G1 := hide (greatI_any (cap := ca) hz)
  have WK := hide (wakes_any w)
  have HZ := hide hz
  have HY := hide hy
  have IZ := hide iz
  have IY := hide iy
  clear hz hy iz iy
  by_cases hg : tooGreatI z = true
  · rw [hg] at G1
    go_enter Try.func3, Try.ntmps3
    go_wp2_with fail
    refine (unhide G1).mono ?_
    rintro e v' ⟨rfl, hw⟩
    rw [hw]
    clear hw v'
    go_wp2_with fail
    refine (unhide WK).mono ?_
    rintro e v' ⟨rfl, hb⟩
    have HB := hide hb
    clear hb
    go_wp2_with fail
    go_ret
    exact ⟨rfl, unhide HB⟩
  · have LZ := hide (short_i hg)
    rw [Bool.eq_false_iff.2 hg] at G1
    clear hg
    by_cases h300 : (300 : Int) < (ag.length : Int)
    · go_enter Try.func3, Try.ntmps3
      go_wp2_with fail
      refine (unhide G1).mono ?_
      rintro e v' ⟨rfl, hw⟩
      rw [hw]
      clear hw v'
      go_wp2_with fail
      refine (unhide WK).mono ?_
      rintro e v' ⟨rfl, hb⟩
      have HB := hide hb
      clear hb
      go_wp2_with fail
      go_ret
      exact ⟨rfl, unhide HB⟩
    · clear WK
      go_enter Try.func3, Try.ntmps3
      go_wp2_with fail
      refine (unhide G1).mono ?_
      rintro e v' ⟨rfl, hw⟩
      rw [hw]
      clear hw v' G1
      go_wp2_with fail
      refine (hs_new (unhide H0)).mono ?_
      rintro e v1 ⟨p, F1, rfl, h⟩
      have H1 := hide h
      clear h H0
      go_wp2_with fail
      refine (hs_new (unhide H1)).mono ?_
      rintro e v2 ⟨q, F2, rfl, h⟩
      have H2 : Hid (Sn.HR w v2 (hOuts none 0 [] :: hOuts none 0 [] :: hState p F1 newS :: hState q F2 newS :: [])) := hide (Sn.HR.none OutK (Sn.HR.none OutK h.swap))
      clear h H1
      go_wp2_with fail
      go_loopw [7, 8, 9] (fun av bv i wr => ∃ (k : Nat) (F G : Nat → Prop) (b : Option Addr) (c : Nat) (b' : Option Addr) (c' : Nat), i = .int .i64 (k : Int) ∧ k ≤ z.length ∧ av = .slice b (toldS newS (z.take k)).length c ∧ bv = .slice b' (toldS newS (z.take k)).length c' ∧ Sn.HR w wr (hOuts b c (toldS newS (z.take k)) :: hOuts b' c' (toldS newS (z.take k)) :: hState p F (runS newS (z.take k)) :: hState q G (runS newS (z.take k)) :: [])) (fun _ _ i _ => z.length - (intOf i).toNat)
      case atStart => exact ⟨0, F1, F2, none, 0, none, 0, rfl, Nat.zero_le _, by rw [List.take_zero]; rfl, by rw [List.take_zero]; rfl, by rw [List.take_zero]; exact unhide H2⟩
      case round =>
        obtain ⟨k, F, G, b, c, b', c', rfl, hk, rfl, rfl, hr⟩ := hrel
        clear H2
        have HRR := hide hr
        clear hr
        by_cases hlt : k < z.length
        · have g0 : (0 : Int) ≤ (k : Int) := by omega
          have g1 : (k : Int) < (z.length : Int) := by omega
          have hz3 := unhide LZ
          have hwk : IntKind.i64.wrap ((k : Int) + 1) = (k : Int) + 1 := Go.IntWalk.i64_in _ (by omega)
          obtain ⟨x, hx⟩ : ∃ x, z[k]? = some x := ⟨_, List.getElem?_eq_getElem hlt⟩
          have hIn := unhide IZ x (List.mem_of_getElem? hx)
          have GS : Hid (GoodS (runS newS (z.take k))) := hide (goodS_run goodS_new fun u hu => (unhide IZ u (List.mem_of_mem_take hu)).n)
          have GT : Hid (GoodS (runS newS (z.take (k + 1)))) := hide (goodS_run goodS_new fun u hu => (unhide IZ u (List.mem_of_mem_take hu)).n)
          have STALE : Hid (∀ (j : Nat) (u : ItemV), j ≤ k → z[j]? = some u → freshS (runS newS (z.take (k + 1))) u = false) := hide fun j u hj hu => played_stale goodS_new (fun u hu => (unhide IZ u (List.mem_of_mem_take hu)).n) (by
            obtain ⟨h1, h2⟩ := List.getElem?_eq_some_iff.1 hu
            rw [← h2]
            exact List.mem_take_iff_getElem.2 ⟨j, by omega, rfl⟩)
          have hsn : runS newS (z.take (k + 1)) = appS (runS newS (z.take k)) x := by rw [Sn.take_snoc hx, playS_snoc]
          have htn : toldS newS (z.take (k + 1)) = toldS newS (z.take k) ++ outsS (runS newS (z.take k)) x := by rw [Sn.take_snoc hx, toldS_snoc]
          have hln : (toldS newS (z.take k)).length + (outsS (runS newS (z.take k)) x).length ≤ 1000000000000 := by
            have h1 := told_len goodS_new (l := z.take k) fun u hu => (unhide IZ u (List.mem_of_mem_take hu)).n
            have h2 := outs_len (unhide GS) x
            have h3 : (z.take k).length ≤ 300 := Nat.le_trans (by rw [List.length_take]; omega) (unhide LZ)
            omega
          have LEN : Hid ((toldS newS (z.take k)).length + (outsS (runS newS (z.take k)) x).length = (toldS newS (z.take (k + 1))).length) := hide (by rw [htn, List.length_append])
          obtain ⟨g, og, ea, hgz, hrg⟩ := ((unhide HZ).below (Nat.le_refl _) (unhide HRR).bel).cell itemK_law hx
          have RD : Hid (∀ v R, Sn.HR w v R → v.rangeAt g (og + k * 8) (itemC x)) := hide fun v R hv => by
            obtain ⟨g', o', e', _, h'⟩ := ((unhide HZ).below (Nat.le_refl _) hv.bel).cell itemK_law hx
            rw [ea] at e'
            cases e'
            exact h'
          have RJ : Hid (∀ (j : Nat) (u : ItemV) v R, z[j]? = some u → Sn.HR w v R → v.rangeAt g (og + j * 8) (itemC u)) := hide fun j u v R hu hv => by
            obtain ⟨g', o', e', _, h'⟩ := ((unhide HZ).below (Nat.le_refl _) hv.bel).cell itemK_law hu
            rw [ea] at e'
            cases e'
            exact h'
          have RG := hide (unhide RD _ _ (unhide HRR))
          subst ea
          have CA := hide (hs_apply (p := p) ((unhide HRR).perm ((((List.Perm.swap _ _ _).cons _).trans (List.Perm.swap _ _ _)) : List.Perm (hOuts b c (toldS newS (z.take k)) :: hOuts b' c' (toldS newS (z.take k)) :: hState p F (runS newS (z.take k)) :: hState q G (runS newS (z.take k)) :: []) _)) (unhide GS) x hIn.n hIn.kind)
          have CAT1 : Hid (∀ v1 a1 c1 F1, Sn.HR w v1 (hOuts a1 c1 (outsS (runS newS (z.take k)) x) :: hState p F1 (appS (runS newS (z.take k)) x) :: hOuts b c (toldS newS (z.take k)) :: hOuts b' c' (toldS newS (z.take k)) :: hState q G (runS newS (z.take k)) :: []) → ∃ b2 c2 v2, (Builtin.append_ #[28, 28] 28 #[.slice b (toldS newS (z.take k)).length c, .slice a1 (outsS (runS newS (z.take k)) x).length c1]).run Try.prog v1 = .ok (.slice b2 ((toldS newS (z.take k)).length + (outsS (runS newS (z.take k)) x).length) c2) v2 ∧ Sn.HR w v2 (hState q G (runS newS (z.take k)) :: hOuts b2 c2 (toldS newS (z.take (k + 1))) :: hState p F1 (runS newS (z.take (k + 1))) :: hOuts b' c' (toldS newS (z.take k)) :: [])) := hide fun v1 a1 c1 F1 h => by
            have h' : Sn.HR w v1 (hOuts a1 c1 (outsS (runS newS (z.take k)) x) :: hOuts b c (toldS newS (z.take k)) :: hState p F1 (appS (runS newS (z.take k)) x) :: hOuts b' c' (toldS newS (z.take k)) :: hState q G (runS newS (z.take k)) :: []) := h.perm ((List.Perm.swap _ _ _).cons _)
            obtain ⟨b2, c2, v2, e1, e2⟩ := HR.cat h' hln 28
            rw [← htn, ← hsn] at e2
            refine ⟨b2, c2, v2, e1, (e2.sub (List.Sublist.cons_cons _ (List.Sublist.cons _ (List.Sublist.refl _)))).perm ?_⟩
            exact (List.perm_append_comm (l₁ := [_, _, _]) (l₂ := [_]))
          have CAT2 : Hid (∀ v1 a1 c1 G1 b2 c2 F1, Sn.HR w v1 (hOuts a1 c1 (outsS (runS newS (z.take k)) x) :: hState q G1 (appS (runS newS (z.take k)) x) :: hOuts b2 c2 (toldS newS (z.take (k + 1))) :: hState p F1 (runS newS (z.take (k + 1))) :: hOuts b' c' (toldS newS (z.take k)) :: []) → ∃ b3 c3 v2, (Builtin.append_ #[28, 28] 28 #[.slice b' (toldS newS (z.take k)).length c', .slice a1 (outsS (runS newS (z.take k)) x).length c1]).run Try.prog v1 = .ok (.slice b3 ((toldS newS (z.take k)).length + (outsS (runS newS (z.take k)) x).length) c3) v2 ∧ Sn.HR w v2 (hState p F1 (runS newS (z.take (k + 1))) :: hOuts b2 c2 (toldS newS (z.take (k + 1))) :: hOuts b3 c3 (toldS newS (z.take (k + 1))) :: hState q G1 (runS newS (z.take (k + 1))) :: [])) := hide fun v1 a1 c1 G1 b2 c2 F1 h => by
            have h' : Sn.HR w v1 (hOuts a1 c1 (outsS (runS newS (z.take k)) x) :: hOuts b' c' (toldS newS (z.take k)) :: hState q G1 (appS (runS newS (z.take k)) x) :: hOuts b2 c2 (toldS newS (z.take (k + 1))) :: hState p F1 (runS newS (z.take (k + 1))) :: []) := h.perm ((List.perm_append_comm (l₁ := [_, _, _]) (l₂ := [_])).cons _)
            obtain ⟨b3, c3, v2, e1, e2⟩ := HR.cat h' hln 28
            rw [← htn, ← hsn] at e2
            have e3 : Sn.HR w v2 (hOuts b3 c3 (toldS newS (z.take (k + 1))) :: hState q G1 (runS newS (z.take (k + 1))) :: hOuts b2 c2 (toldS newS (z.take (k + 1))) :: hState p F1 (runS newS (z.take (k + 1))) :: []) := e2.sub (List.Sublist.cons_cons _ (List.Sublist.cons _ (List.Sublist.refl _)))
            exact ⟨b3, c3, v2, e1, e3.perm ((List.perm_append_comm (l₁ := [_, _]) (l₂ := [_, _])).trans (List.Perm.swap _ _ _))⟩
          have SAME : Hid (freshS (runS newS (z.take k)) x = false → toldS newS (z.take (k + 1)) = toldS newS (z.take k) ∧ runS newS (z.take (k + 1)) = runS newS (z.take k)) := hide fun hf => ⟨by rw [htn, (app_stale hf).2, List.append_nil], by rw [hsn, (app_stale hf).1]⟩
          clear hx hgz hrg hsn htn hln
          by_cases hf : freshS (runS newS (z.take k)) x = true
          · rw [hf] at CA
            generalize hnn : (toldS newS (z.take k)).length = n0 at *
            generalize hno : (outsS (runS newS (z.take k)) x).length = n1 at *
            generalize hcc : codeS (runS newS (z.take k)) x = cc at *
            clear SAME
            go_wp2_with (refine Sn.wpList_load_on rfl 32 (.tmp 40) rfl g (og + k * 8) rfl (itemC x) _ (unhide RG) Try.underlying32 rfl (by kernel_rfl) ?_)
            refine (unhide CA).mono ?_
            rintro e v1 ⟨a1, c1, F1, rfl, h1⟩
            obtain ⟨b2, c2, v2, e1, e2⟩ := unhide CAT1 v1 a1 c1 F1 h1
            have HAP := hide e1
            have K2 := hide e2
            have RG2 := hide (unhide RD _ _ e2)
            clear CA CAT1 h1 e1 e2 RG
            go_wp2_with (first | (at_builtin; refine Sn.wpList_app rfl _ _ 28 28 28 rfl rfl rfl rfl (unhide HAP) ?_) | (refine Sn.wpList_load_on rfl 32 (.tmp 54) rfl g (og + k * 8) rfl (itemC x) _ (unhide RG2) Try.underlying32 rfl (by kernel_rfl) ?_))
            have CB := hide (hs_apply (unhide K2) (unhide GS) x hIn.n hIn.kind)
            rw [hf, hno, hcc] at CB
            refine (unhide CB).mono ?_
            rintro e v3 ⟨a3, c3, G3, rfl, h3⟩
            obtain ⟨b4, c4, v4, e1, e2⟩ := unhide CAT2 v3 a3 c3 G3 b2 c2 F1 h3
            have HAQ := hide e1
            have K4 := hide e2
            clear CB CAT2 h3 e1 e2 RG2 K2 HAP
            have bcc : (cc == cc) = true := beq_self_eq_true _
            go_upto_region 17 with (at_builtin; refine Sn.wpList_app rfl _ _ 28 28 28 rfl rfl rfl rfl (unhide HAQ) ?_)
            clear HAQ
            by_cases hm : k < ag.length
            · obtain ⟨n, hn⟩ : ∃ n, ag[k]? = some n := ⟨_, List.getElem?_eq_getElem hm⟩
              have m1 : (k : Int) < (ag.length : Int) := by omega
              obtain ⟨gi, oi, ei, _, hri⟩ := ((unhide HY).below (Nat.le_refl _) (unhide K4).bel).cell Sn.intK_law hn
              have ci : World.cell? v4 ⟨gi, oi + k, none⟩ = some (.int .i64 n) := by have := hri 0 _ rfl; simpa [Sn.IntK] using this
              subst ei
              have hl0 : ¬ ((k : Int) + 1) = 0 := by omega
              have tb := tm_bounds n k
              obtain ⟨r, hrm⟩ : ∃ r, n.tmod ((k : Int) + 1) = r := ⟨_, rfl⟩
              rw [hrm] at tb
              have hwr : IntKind.i64.wrap r = r := Go.IntWalk.i64_in _ (by omega)
              by_cases hneg : r < 0
              · obtain ⟨j, hj⟩ : ∃ j : Nat, r + (k : Int) + 1 = (j : Int) := ⟨(r + k + 1).toNat, by omega⟩
                have hwa : IntKind.i64.wrap (r + (k : Int)) = r + (k : Int) := Go.IntWalk.i64_in _ (by omega)
                have hwb : IntKind.i64.wrap (r + (k : Int) + 1) = (j : Int) := by rw [hj]; exact Go.IntWalk.i64_in _ (by omega)
                have hjk : j ≤ k := by omega
                have dn : decide (r < 0) = true := decide_eq_true hneg
                have j0 : (0 : Int) ≤ (j : Int) := by omega
                have j1 : (j : Int) < (z.length : Int) := by omega
                obtain ⟨u, hu⟩ : ∃ u, z[j]? = some u := ⟨_, List.getElem?_eq_getElem (by omega)⟩
                have hUn := unhide IZ u (List.mem_of_getElem? hu)
                have RU : Hid (World.rangeAt v4 g (og + j * 8) (itemC u)) := hide (unhide RJ j u _ _ hu (unhide K4))
                have ST := unhide STALE j u hjk hu
                have AG := hide (hs_apply (unhide K4) (unhide GT) u hUn.n hUn.kind)
                rw [(app_stale ST).1, (app_stale ST).2, ST] at AG
                clear hu ST hn hri tb hj
                generalize codeS (runS newS (z.take (k + 1))) u = cu at *
                go_wp2_with (refine Sn.wpList_load_on rfl 32 (.tmp 91) rfl g (og + j * 8) rfl (itemC u) _ (unhide RU) Try.underlying32 rfl (by kernel_rfl) ?_)
                refine (unhide AG).mono ?_
                rintro e v9 ⟨a9, c9, F9, rfl, h9⟩
                have H9 := hide h9.drop1
                clear AG h9 RU
                go_wp2_with fail
                exact ⟨⟨k + 1, F9, G3, b2, c2, b4, c4, rfl, by omega, by rw [unhide LEN], by rw [unhide LEN], (unhide H9).perm (((List.Perm.swap _ _ _).trans ((List.Perm.swap _ _ _).cons _)))⟩, by simp [intOf]; omega⟩
              · obtain ⟨j, hj⟩ : ∃ j : Nat, r = (j : Int) := ⟨r.toNat, by omega⟩
                subst hj
                have hjk : j ≤ k := by omega
                have dn : decide ((j : Int) < 0) = false := decide_eq_false hneg
                have j0 : (0 : Int) ≤ (j : Int) := by omega
                have j1 : (j : Int) < (z.length : Int) := by omega
                obtain ⟨u, hu⟩ : ∃ u, z[j]? = some u := ⟨_, List.getElem?_eq_getElem (by omega)⟩
                have hUn := unhide IZ u (List.mem_of_getElem? hu)
                have RU : Hid (World.rangeAt v4 g (og + j * 8) (itemC u)) := hide (unhide RJ j u _ _ hu (unhide K4))
                have ST := unhide STALE j u hjk hu
                have AG := hide (hs_apply (unhide K4) (unhide GT) u hUn.n hUn.kind)
                rw [(app_stale ST).1, (app_stale ST).2, ST] at AG
                clear hu ST hn hri tb
                generalize codeS (runS newS (z.take (k + 1))) u = cu at *
                go_wp2_with (refine Sn.wpList_load_on rfl 32 (.tmp 91) rfl g (og + j * 8) rfl (itemC u) _ (unhide RU) Try.underlying32 rfl (by kernel_rfl) ?_)
                refine (unhide AG).mono ?_
                rintro e v9 ⟨a9, c9, F9, rfl, h9⟩
                have H9 := hide h9.drop1
                clear AG h9 RU
                go_wp2_with fail
                exact ⟨⟨k + 1, F9, G3, b2, c2, b4, c4, rfl, by omega, by rw [unhide LEN], by rw [unhide LEN], (unhide H9).perm (((List.Perm.swap _ _ _).trans ((List.Perm.swap _ _ _).cons _)))⟩, by simp [intOf]; omega⟩
            · have m1 : ¬ (k : Int) < (ag.length : Int) := by omega
              have dm : decide ((k : Int) < (ag.length : Int)) = false := decide_eq_false m1
              have H9 := hide (unhide K4)
              go_wp2_with fail
              exact ⟨⟨k + 1, F1, G3, b2, c2, b4, c4, rfl, by omega, by rw [unhide LEN], by rw [unhide LEN], (unhide H9).perm (((List.Perm.swap _ _ _).trans ((List.Perm.swap _ _ _).cons _)))⟩, by simp [intOf]; omega⟩
          · have hf' := Bool.eq_false_iff.2 hf
            obtain ⟨ET, ES⟩ := unhide SAME hf'
            rw [hf'] at CA
            have ETL : Hid ((toldS newS (z.take (k + 1))).length = (toldS newS (z.take k)).length) := hide (by rw [ET])
            generalize hnn : (toldS newS (z.take k)).length = n0 at *
            generalize hno : (outsS (runS newS (z.take k)) x).length = n1 at *
            generalize hcc : codeS (runS newS (z.take k)) x = cc at *
            clear SAME CAT2
            go_wp2_with (refine Sn.wpList_load_on rfl 32 (.tmp 40) rfl g (og + k * 8) rfl (itemC x) _ (unhide RG) Try.underlying32 rfl (by kernel_rfl) ?_)
            refine (unhide CA).mono ?_
            rintro e v1 ⟨a1, c1, F1, rfl, h1⟩
            obtain ⟨b2, c2, v2, e1, e2⟩ := unhide CAT1 v1 a1 c1 F1 h1
            rw [← ES] at e2
            have HAP := hide e1
            have K2 : Hid (Sn.HR w v2 (hState p F1 (runS newS (z.take (k + 1))) :: hOuts b2 c2 (toldS newS (z.take (k + 1))) :: hOuts b' c' (toldS newS (z.take (k + 1))) :: hState q G (runS newS (z.take (k + 1))) :: [])) := hide (by
              have h5 : Sn.HR w v2 (hState q G (runS newS (z.take (k + 1))) :: hOuts b2 c2 (toldS newS (z.take (k + 1))) :: hState p F1 (runS newS (z.take (k + 1))) :: hOuts b' c' (toldS newS (z.take (k + 1))) :: []) := by
                rw [← ET] at e2; exact e2
              exact h5.perm ((List.perm_append_comm (l₁ := [_]) (l₂ := [_, _, _])).trans ((List.Perm.swap _ _ _))))
            clear CA CAT1 h1 e1 e2 RG
            go_upto_region 17 with (at_builtin; refine Sn.wpList_app rfl _ _ 28 28 28 rfl rfl rfl rfl (unhide HAP) ?_)
            clear HAP
            by_cases hm : k < ag.length
            · obtain ⟨n, hn⟩ : ∃ n, ag[k]? = some n := ⟨_, List.getElem?_eq_getElem hm⟩
              have m1 : (k : Int) < (ag.length : Int) := by omega
              obtain ⟨gi, oi, ei, _, hri⟩ := ((unhide HY).below (Nat.le_refl _) (unhide K2).bel).cell Sn.intK_law hn
              have ci : World.cell? v2 ⟨gi, oi + k, none⟩ = some (.int .i64 n) := by have := hri 0 _ rfl; simpa [Sn.IntK] using this
              subst ei
              have hl0 : ¬ ((k : Int) + 1) = 0 := by omega
              have tb := tm_bounds n k
              obtain ⟨r, hrm⟩ : ∃ r, n.tmod ((k : Int) + 1) = r := ⟨_, rfl⟩
              rw [hrm] at tb
              have hwr : IntKind.i64.wrap r = r := Go.IntWalk.i64_in _ (by omega)
              by_cases hneg : r < 0
              · obtain ⟨j, hj⟩ : ∃ j : Nat, r + (k : Int) + 1 = (j : Int) := ⟨(r + k + 1).toNat, by omega⟩
                have hwa : IntKind.i64.wrap (r + (k : Int)) = r + (k : Int) := Go.IntWalk.i64_in _ (by omega)
                have hwb : IntKind.i64.wrap (r + (k : Int) + 1) = (j : Int) := by rw [hj]; exact Go.IntWalk.i64_in _ (by omega)
                have hjk : j ≤ k := by omega
                have dn : decide (r < 0) = true := decide_eq_true hneg
                have j0 : (0 : Int) ≤ (j : Int) := by omega
                have j1 : (j : Int) < (z.length : Int) := by omega
                obtain ⟨u, hu⟩ : ∃ u, z[j]? = some u := ⟨_, List.getElem?_eq_getElem (by omega)⟩
                have hUn := unhide IZ u (List.mem_of_getElem? hu)
                have RU : Hid (World.rangeAt v2 g (og + j * 8) (itemC u)) := hide (unhide RJ j u _ _ hu (unhide K2))
                have ST := unhide STALE j u hjk hu
                have AG := hide (hs_apply (unhide K2) (unhide GT) u hUn.n hUn.kind)
                rw [(app_stale ST).1, (app_stale ST).2, ST] at AG
                clear hu ST hn hri tb hj
                generalize codeS (runS newS (z.take (k + 1))) u = cu at *
                go_wp2_with (refine Sn.wpList_load_on rfl 32 (.tmp 91) rfl g (og + j * 8) rfl (itemC u) _ (unhide RU) Try.underlying32 rfl (by kernel_rfl) ?_)
                refine (unhide AG).mono ?_
                rintro e v9 ⟨a9, c9, F9, rfl, h9⟩
                have H9 := hide h9.drop1
                clear AG h9 RU
                go_wp2_with fail
                exact ⟨⟨k + 1, F9, G, b2, c2, b', c', rfl, by omega, by rw [unhide LEN], by rw [unhide ETL], (unhide H9).perm (((List.Perm.swap _ _ _).trans ((List.Perm.swap _ _ _).cons _)))⟩, by simp [intOf]; omega⟩
              · obtain ⟨j, hj⟩ : ∃ j : Nat, r = (j : Int) := ⟨r.toNat, by omega⟩
                subst hj
                have hjk : j ≤ k := by omega
                have dn : decide ((j : Int) < 0) = false := decide_eq_false hneg
                have j0 : (0 : Int) ≤ (j : Int) := by omega
                have j1 : (j : Int) < (z.length : Int) := by omega
                obtain ⟨u, hu⟩ : ∃ u, z[j]? = some u := ⟨_, List.getElem?_eq_getElem (by omega)⟩
                have hUn := unhide IZ u (List.mem_of_getElem? hu)
                have RU : Hid (World.rangeAt v2 g (og + j * 8) (itemC u)) := hide (unhide RJ j u _ _ hu (unhide K2))
                have ST := unhide STALE j u hjk hu
                have AG := hide (hs_apply (unhide K2) (unhide GT) u hUn.n hUn.kind)
                rw [(app_stale ST).1, (app_stale ST).2, ST] at AG
                clear hu ST hn hri tb
                generalize codeS (runS newS (z.take (k + 1))) u = cu at *
                go_wp2_with (refine Sn.wpList_load_on rfl 32 (.tmp 91) rfl g (og + j * 8) rfl (itemC u) _ (unhide RU) Try.underlying32 rfl (by kernel_rfl) ?_)
                refine (unhide AG).mono ?_
                rintro e v9 ⟨a9, c9, F9, rfl, h9⟩
                have H9 := hide h9.drop1
                clear AG h9 RU
                go_wp2_with fail
                exact ⟨⟨k + 1, F9, G, b2, c2, b', c', rfl, by omega, by rw [unhide LEN], by rw [unhide ETL], (unhide H9).perm (((List.Perm.swap _ _ _).trans ((List.Perm.swap _ _ _).cons _)))⟩, by simp [intOf]; omega⟩
            · have m1 : ¬ (k : Int) < (ag.length : Int) := by omega
              have dm : decide ((k : Int) < (ag.length : Int)) = false := decide_eq_false m1
              have H9 := hide (unhide K2)
              go_wp2_with fail
              exact ⟨⟨k + 1, F1, G, b2, c2, b', c', rfl, by omega, by rw [unhide LEN], by rw [unhide ETL], (unhide H9).perm (((List.Perm.swap _ _ _).trans ((List.Perm.swap _ _ _).cons _)))⟩, by simp [intOf]; omega⟩
        · have hke : k = z.length := by omega
          rw [hke, List.take_length] at HRR ⊢
          have GZ : Hid (GoodS (runS newS z)) := hide (goodS_run goodS_new fun u hu => (unhide IZ u hu).n)
          have TL : Hid ((toldS newS z).length ≤ 1000000) := hide (by
            have h1 := told_len goodS_new (l := z) fun u hu => (unhide IZ u hu).n
            have h2 := unhide LZ
            omega)
          go_wp2_with fail
          refine (same9_hr (l := toldS newS z) (m := toldS newS z) (unhide HRR) List.mem_cons_self (List.mem_cons_of_mem _ List.mem_cons_self) (unhide TL)).mono ?_
          rintro e u6 ⟨rfl, h⟩
          rw [show decide (toldS newS z = toldS newS z) = true from decide_eq_true rfl]
          have K6 := hide h
          clear h HRR
          generalize (toldS newS z).length = n2
          go_wp2_with fail
          refine (hs_same (unhide K6) (List.mem_cons_of_mem _ (List.mem_cons_of_mem _ List.mem_cons_self)) (List.mem_cons_of_mem _ (List.mem_cons_of_mem _ (List.mem_cons_of_mem _ List.mem_cons_self))) (unhide GZ) (unhide GZ)).mono ?_
          rintro e u7 ⟨rfl, h⟩
          rw [sameS_refl]
          have K7 := hide h
          clear h K6
          go_wp2_with fail
          refine (wakes_any u7).mono ?_
          rintro e u8 ⟨rfl, hb⟩
          have HB := hide ((unhide K7).bel.trans (hb.mono (unhide K7).bel.size))
          clear hb K7
          go_wp2_with fail
          go_ret
          exact ⟨rfl, unhide HB⟩
theorem once_row (a : Option Addr) (ca : Nat) (z : List ItemV) (y : Option Addr) (cy : Nat) (ag : List Int) (w : World) (_ : z.length ≤ maxLen) (hz : ItemK.At w a z) (iz : ∀ x ∈ z, x.In) (_ : ag.length ≤ maxLen) (hy : Sn.IntK.At w y ag) (iy : ∀ x ∈ ag, Sn.i64 x) :
    Calls Try.prog 3 #[.slice a z.length ca, .slice y ag.length cy] w fun e w' => e = .returned (.bool true) ∧ Below w.heap.size w w' := once_any w hz hy iz iy
end Go.Proofs.Ytigmhljaoicdbaa

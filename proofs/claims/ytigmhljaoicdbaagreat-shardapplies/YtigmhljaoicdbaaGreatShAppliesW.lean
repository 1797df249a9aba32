/- What ShardApplies does: it answers true, and nothing that was there has turned. No conditions. -/
import Derived.Test.YtigmhljaoicdbaaGreatShDocC
import Derived.Test.YtigmhljaoicdbaaGreatFork
import Derived.Test.YtigmhljaoicdbaaGreatShPlays
namespace Go.Proofs.YtigmhljaoicdbaaGreat
open Go.RowKit
set_option maxRecDepth 100000 in
set_option maxHeartbeats 20000000 in
theorem applies_any {a : Option Addr} {ca : Nat} {z : List ItemV} (w : World) (hz : ItemK.At w a z) (iz : ∀ x ∈ z, x.In) :
    Calls Tryz.prog 3 #[.slice a z.length ca] w fun e w' => e = .returned (.bool true) ∧ Below w.heap.size w w' := by
  have H0 := hide (Sn.HR.start w)
  have G1 := hide (greatI_any (cap := ca) hz)
  have WK := hide (wakes_any w)
  have HZ := hide hz
  have IZ := hide iz
  clear hz iz
  by_cases hg : tooGreatI z = true
  · rw [hg] at G1
    go_enter Tryz.func3, Tryz.ntmps3
    go_wp2_with fail
    refine (unhide G1).mono ?_
    rintro e v' ⟨rfl, hw⟩
    rw [hw]
    clear hw v'
    go_wp2_with fail
    refine (unhide WK).mono ?_
    rintro e v' ⟨rfl, hb⟩
    have HB := hide hb
    clear hb
    go_wp2_with fail
    go_ret
    exact ⟨rfl, unhide HB⟩
  · have LZ := hide (short_i hg)
    rw [Bool.eq_false_iff.2 hg] at G1
    clear hg WK
    go_enter Tryz.func3, Tryz.ntmps3
    go_wp2_with fail
    refine (unhide G1).mono ?_
    rintro e v' ⟨rfl, hw⟩
    rw [hw]
    clear hw v' G1
    go_wp2_with fail
    refine (hs_new (unhide H0)).mono ?_
    rintro e v1 ⟨p, F1, rfl, h⟩
    have H1 := hide h
    clear h H0
    go_wp2_with fail
    refine (rnew13_any v1).mono ?_
    rintro e v2 ⟨rfl, hb⟩
    obtain ⟨b, hbb⟩ : ∃ b, b = v2.heap.size := ⟨_, rfl⟩
    obtain ⟨V, hV⟩ : ∃ V, V = v2.alloc (.cells #[.int .i64 0, .slice none 0 0, .int .i64 1, .int .i64 1, .int .i64 1, .int .i64 1, .slice none 0 0] 37) := ⟨_, rfl⟩
    have H2 : Hid (Sn.HR w V (hDocs newS ⟨fun _ => 1, []⟩ none 0 none 0 [] none 0 :: hBox b (docC 0 none 0 0 (fun _ => 1) none 0 0) :: hState p F1 newS :: [])) := hide (by
      have h1 := HR.newbox ((unhide H1).below hb) (docC 0 none 0 0 (fun _ => 1) none 0 0) 37
      have h2 : Sn.HR w V (hBox b (docC 0 none 0 0 (fun _ => 1) none 0 0) :: hState p F1 newS :: []) := by rw [hV, hbb]; exact h1
      exact h2.add (r := hDocs newS ⟨fun _ => 1, []⟩ none 0 none 0 [] none 0) (Below.refl _ _) (show Docs _ _ _ _ _ _ _ _ _ _ from ⟨⟨row_none _ _, row_none _ _, Sn.rel_new⟩, row_none _ _⟩) (fun k e => by rcases e with e | e | e <;> cases e))
    have HBB := hide hbb
    have HV := hide hV
    clear hb hbb hV H1
    simp only [docC, Sn.refC]
    go_upto_region 5 with fail
    rw [← unhide HV, ← unhide HBB]
    clear HV HBB
    go_wp2_with fail
    go_loopw [5] (fun i wr => ∃ (k : Nat) (F : Nat → Prop) (W : Sn.RefS) (d : Option Addr) (c : Nat) (d2 : Option Addr) (c2 : Nat) (o : List (Win AggV)) (d3 : Option Addr) (c3 : Nat), i = .int .i64 (k : Int) ∧ k ≤ z.length ∧ W.l.length ≤ k ∧ Sn.HR w wr (hDocs (runS newS (z.take k)) W d c d2 c2 o d3 c3 :: hBox b (docC (runS newS (z.take k)).line.mark d (runS newS (z.take k)).line.row.length c W.low d2 W.l.length c2) :: hState p F (runS newS (z.take k)) :: [])) (fun i _ => z.length - (intOf i).toNat)
    case atStart => exact ⟨0, F1, ⟨fun _ => 1, []⟩, none, 0, none, 0, [], none, 0, rfl, Nat.zero_le _, Nat.zero_le _, by rw [List.take_zero]; exact unhide H2⟩
    case round =>
      obtain ⟨k, F, W, d, c, d2, c2, o, d3, c3, rfl, hk, hwl, hr⟩ := hrel
      clear H2
      have HRR := hide hr
      clear hr
      by_cases hlt : k < z.length
      · have g0 : (0 : Int) ≤ (k : Int) := by omega
        have g1 : (k : Int) < (z.length : Int) := by omega
        have hz3 := unhide LZ
        have hwk : IntKind.i64.wrap ((k : Int) + 1) = (k : Int) + 1 := Go.IntWalk.i64_in _ (by omega)
        obtain ⟨x, hx⟩ : ∃ x, z[k]? = some x := ⟨_, List.getElem?_eq_getElem hlt⟩
        have IX := hide (unhide IZ x (List.mem_of_getElem? hx))
        obtain ⟨S, hS⟩ : ∃ S, S = runS newS (z.take k) := ⟨_, rfl⟩
        have GS : Hid (GoodS S) := hide (by rw [hS]; exact goodS_run goodS_new fun u hu => (unhide IZ u (List.mem_of_mem_take hu)).n)
        have hsn : runS newS (z.take (k + 1)) = appS S x := by rw [hS, Sn.take_snoc hx, playS_snoc]
        rw [← hS] at HRR
        obtain ⟨T, hT⟩ : ∃ T, T = appS S x := ⟨_, rfl⟩
        rw [← hT] at hsn
        have GT : Hid (GoodS T) := hide (by rw [hT]; exact goodS_app (unhide GS) (unhide IX).n)
        have ET := hide hT
        have ESN := hide hsn
        obtain ⟨g, og, ea, _, hrg⟩ := ((unhide HZ).below (Nat.le_refl _) (unhide HRR).bel).cell itemK_law hx
        have RD : Hid (∀ v R, Sn.HR w v R → v.rangeAt g (og + k * 8) (itemC x)) := hide fun v R hv => by
          obtain ⟨g', o', e', _, h'⟩ := ((unhide HZ).below (Nat.le_refl _) hv.bel).cell itemK_law hx
          rw [ea] at e'
          cases e'
          exact h'
        subst ea
        have RG := hide hrg
        have CA := hide (hs_apply (p := p) ((unhide HRR).perm (List.perm_append_comm (l₁ := [_, _]) (l₂ := [_]))) (unhide GS) x (unhide IX).n (unhide IX).kind)
        have HWL := hide hwl
        clear hx hrg hsn hS hT hwl
        generalize hcc : codeS S x = cc at *
        generalize hff : freshS S x = ff at *
        obtain ⟨O, hO⟩ : ∃ O, O = outsS S x := ⟨_, rfl⟩
        rw [← hO] at CA
        rw [← unhide ET] at CA
        have EO := hide hO
        have LO : Hid (O.length ≤ 1000000) := hide (by rw [hO]; exact Nat.le_trans (outs_len (unhide GS) x) (by omega))
        have EC := hide hcc
        have EF := hide hff
        clear hO hcc hff
        obtain ⟨n1, hn1⟩ : ∃ n, n = O.length := ⟨_, rfl⟩
        rw [← hn1] at CA
        have EN := hide hn1
        clear hn1
        go_wp2_with (refine Sn.wpList_load_on rfl 42 (.tmp 28) rfl g (og + k * 8) rfl (itemC x) _ (unhide RG) Tryz.underlying42 rfl (by kernel_rfl) ?_)
        refine (unhide CA).mono ?_
        rintro e v3 ⟨a4, c4, F4, rfl, h⟩
        have H3 : Hid (Sn.HR w v3 (hDocs S W d c d2 c2 o d3 c3 :: hBox b (docC S.line.mark d S.line.row.length c W.low d2 W.l.length c2) :: hState p F4 T :: hOuts a4 c4 O :: [])) := hide (h.perm (List.perm_append_comm (l₁ := [_, _]) (l₂ := [_, _]) |>.trans (((List.Perm.swap _ _ _).cons _).cons _)))
        clear h HRR CA RG
        obtain ⟨CL, hCL⟩ : ∃ CL : World → Prop, CL = fun v => ∃ R, Sn.HR w v R ∧ hBox b (docC S.line.mark d S.line.row.length c W.low d2 W.l.length c2) ∈ R := ⟨_, rfl⟩
        have un : ∀ v, CL v → ∃ R, Sn.HR w v R ∧ hBox b (docC S.line.mark d S.line.row.length c W.low d2 W.l.length c2) ∈ R := fun v k => by rw [hCL] at k; exact k
        have TO : Hid (∀ v R, Sn.HR w v R → hBox b (docC S.line.mark d S.line.row.length c W.low d2 W.l.length c2) ∈ R → CL v) := hide fun v R k m => by rw [hCL]; exact ⟨R, k, m⟩
        have Q0 : Hid (∀ v, CL v → v.rangeAt b 0 (docC S.line.mark d S.line.row.length c W.low d2 W.l.length c2)) := hide fun v hv => by
          obtain ⟨R, k, m⟩ := un v hv
          exact (HR.box k m).range
        have Q1 : Hid (∀ v, CL v → v.rangeAt g (og + k * 8) (itemC x)) := hide fun v hv => by
          obtain ⟨R, k, m⟩ := un v hv
          exact unhide RD v R k
        have H3D : Hid (Sn.HR w v3.drew (hDocs S W d c d2 c2 o d3 c3 :: hBox b (docC S.line.mark d S.line.row.length c W.low d2 W.l.length c2) :: hState p F4 T :: hOuts a4 c4 O :: [])) := hide ((unhide H3).below (Below.refl _ _).drew)
        have BS := hide (unhide TO _ _ (unhide H3D) (by simp))
        have APP : Hid (∀ v R, Sn.HR w v (hDocs S W d c d2 c2 o d3 c3 :: R) → Calls Tryz.prog 13 #[.agg (docC S.line.mark d S.line.row.length c W.low d2 W.l.length c2).toArray, .agg (itemC x).toArray] v fun e v' => ∃ V e1 f1 e2 f2 e3 f3, e = .returned (.tuple #[.agg (docC T.line.mark e1 T.line.row.length f1 V.low e2 V.l.length f2).toArray, .int .i64 cc, .slice e3 n1 f3, .bool ff]) ∧ V.l.length ≤ k + 1 ∧ Sn.HR w v' (hDocs T V e1 f1 e2 f2 O e3 f3 :: R)) := hide fun v R hv => by
          have := hd_apply hv (unhide GS) (Nat.le_trans (unhide HWL) (by have := unhide LZ; omega)) x (unhide IX)
          rw [unhide EC, unhide EF, ← unhide EO, ← unhide ET, ← unhide EN] at this
          exact this.mono fun _ _ ⟨V, e1, f1, e2, f2, e3, f3, q1, q2, q3⟩ => ⟨V, e1, f1, e2, f2, e3, f3, q1, Nat.le_trans q2 (Nat.succ_le_succ (unhide HWL)), q3⟩
        clear un hCL H3 RD
        go_upto_region 9 with fail
        refine wp_region_fork (S := CL) [true, true, true, true, true, false, false, false, false, false, false, false, false, false, false, false] 5 11 [(true, 6), (true, 7), (true, 8), (true, 9), (true, 10), (false, 11), (false, 12), (true, 13), (true, 14), (true, 15)] [(false, 5), (true, 6), (true, 7), (true, 8), (true, 9), (true, 10), (false, 12), (true, 13), (true, 14), (true, 15)] (by kernel_rfl) (by kernel_rfl) (by kernel_rfl) (unhide BS) ?_
        apply Exists.intro
        apply And.intro
        · intro q0
          have n0 : Nonempty (SK CL q0.w) := ⟨⟨q0, rfl⟩⟩
          simp only [pickM]
          refine wpQuiet_load_onx rfl 37 (.tmp 4) rfl b 0 rfl (docC S.line.mark d S.line.row.length c W.low d2 W.l.length c2) _ (fun y ⟨q1, hq⟩ => by rw [hq]; exact unhide Q0 _ q1.s.ok) Tryz.underlying37 rfl (by kernel_rfl) ?_
          go_simp
          go_big_quiet_step (fail)
          go_big_quiet_step (fail)
          go_big_quiet_step (fail)
          refine wpQuiet_load_onx rfl 42 (.tmp 38) rfl g (og + k * 8) rfl (itemC x) _ (fun y ⟨q1, hq⟩ => by rw [hq]; exact unhide Q1 _ q1.s.ok) Tryz.underlying42 rfl (by kernel_rfl) ?_
          go_simp
          exact wpQuiet_nil rfl
        · clear Q0 Q1
          simp only [stepsZ, List.map_cons, List.map_nil, List.getD_cons_succ, List.getD_cons_zero]
          apply And.intro
          · refine turnM_call 13 #[.agg (docC S.line.mark d S.line.row.length c W.low d2 W.l.length c2).toArray, .agg (itemC x).toArray] rfl (by simp [go_sem]) ?_
            refine (unhide APP _ _ (unhide H3D)).mono ?_
            rintro e v4 ⟨V, e1, f1, e2, f2, e3, f3, rfl, hlv, h⟩
            have LV := hide hlv
            have hn := HR.newbox h zeroD 37
            have cl4 := unhide TO _ _ h (by simp)
            have cl5 := unhide TO _ _ hn (by simp)
            obtain ⟨q, hq⟩ : ∃ q, q = v4.heap.size := ⟨_, rfl⟩
            rw [← hq] at hn
            have HQ := hide hq
            clear hq
            have th := (HR.box (cs := zeroD) (b := q) hn (by simp)).there
            have hx5 := HR.setbox hn (docC T.line.mark e1 T.line.row.length f1 V.low e2 V.l.length f2) rfl
            have cl6 := unhide TO _ _ hx5 (by simp)
            refine ⟨_, rfl, cl4, ?_⟩
            go_simp
            refine seqM_pure (.tuple #[.agg (docC T.line.mark e1 T.line.row.length f1 V.low e2 V.l.length f2).toArray, .int .i64 cc, .slice e3 n1 f3, .bool ff]) rfl (by intro w; simp [go_sem]) cl4 ?_
            go_simp
            refine seqM_pure (.agg (docC T.line.mark e1 T.line.row.length f1 V.low e2 V.l.length f2).toArray) rfl (by intro w; simp [go_sem]) cl4 ?_
            go_simp
            refine seqM_pure (.int .i64 cc) rfl (by intro w; simp [go_sem]) cl4 ?_
            go_simp
            refine seqM_pure (.slice e3 n1 f3) rfl (by intro w; simp [go_sem]) cl4 ?_
            go_simp
            refine seqM_pure (.bool ff) rfl (by intro w; simp [go_sem]) cl4 ?_
            go_simp
            refine seqM_step (.pointer (some ⟨q, 0, none⟩)) (v4.alloc (.cells zeroD.toArray 37)) rfl (by rw [unhide HQ]; simp [go_sem, zeroD]) cl5 ?_
            go_simp
            refine seqM_skip ((v4.alloc (.cells zeroD.toArray 37)).setCells q 0 (docC T.line.mark e1 T.line.row.length f1 V.low e2 V.l.length f2)) rfl (Sn.exec_store 37 (.tmp 9) (.tmp 41) rfl q 0 rfl (docC T.line.mark e1 T.line.row.length f1 V.low e2 V.l.length f2).toArray rfl th (by kernel_rfl) (by simp [docC, Sn.refC, Value.oneCell'])) cl6 ?_
            go_simp
            refine seqM_pure (.int .i64 cc) rfl (by intro w; simp [go_sem]) cl6 ?_
            go_simp
            refine seqM_pure (.slice e3 n1 f3) rfl (by intro w; simp [go_sem]) cl6 ?_
            go_simp
            refine seqM_pure (.bool ff) rfl (by intro w; simp [go_sem]) cl6 ?_
            go_simp
            obtain ⟨v5, hv5⟩ : ∃ v5, v5 = (v4.alloc (.cells zeroD.toArray 37)).setCells q 0 (docC T.line.mark e1 T.line.row.length f1 V.low e2 V.l.length f2) := ⟨_, rfl⟩
            rw [← hv5] at hx5 ⊢
            have HX : Hid (Sn.HR w v5 (hBox q (docC T.line.mark e1 T.line.row.length f1 V.low e2 V.l.length f2) :: hBox b (docC S.line.mark d S.line.row.length c W.low d2 W.l.length c2) :: hDocs T V e1 f1 e2 f2 O e3 f3 :: hState p F4 T :: hOuts a4 c4 O :: [])) := hide (hx5.perm ((List.Perm.swap _ _ _).cons _))
            clear cl4 cl5 cl6 th hn hx5 hv5 h hlv APP H3D TO
            simp only [seqM]
            have DR := hide (HR.box (cs := docC T.line.mark e1 T.line.row.length f1 V.low e2 V.l.length f2) (b := q) (unhide HX) (by simp)).range
            have DT_ := hide (HR.box (cs := docC S.line.mark d S.line.row.length c W.low d2 W.l.length c2) (b := b) (unhide HX) (by simp)).there
            obtain ⟨wf, hwf⟩ : ∃ wf, wf = v5.setCells b 0 (docC T.line.mark e1 T.line.row.length f1 V.low e2 V.l.length f2) := ⟨_, rfl⟩
            have HY : Hid (Sn.HR w wf (hBox b (docC T.line.mark e1 T.line.row.length f1 V.low e2 V.l.length f2) :: hBox q (docC T.line.mark e1 T.line.row.length f1 V.low e2 V.l.length f2) :: hDocs T V e1 f1 e2 f2 O e3 f3 :: hState p F4 T :: hOuts a4 c4 O :: [])) := hide (by
              rw [hwf]
              exact HR.setbox ((unhide HX).perm ((List.Perm.swap _ _ _).trans (List.Perm.refl _))) _ rfl)
            have EQ := hide hwf.symm
            have L2 : Hid ((outsS S x).length = n1) := hide (by rw [← unhide EO, ← unhide EN])
            clear hwf HX
            go_upto_region 11 with (first | refine Sn.wpList_load_on rfl 37 (.tmp 9) rfl q 0 rfl (docC T.line.mark e1 T.line.row.length f1 V.low e2 V.l.length f2) _ (unhide DR) Tryz.underlying37 rfl (by kernel_rfl) ?_ | (refine wpList_store_mid rfl 37 (.tmp 4) (.tmp 45) rfl b 0 (docC T.line.mark e1 T.line.row.length f1 V.low e2 V.l.length f2).toArray rfl rfl (unhide DT_) (by kernel_rfl) (by simp [docC, Sn.refC, Value.oneCell']) ?_; change wpList _ _ _ _ _ (World.setCells _ b 0 (docC T.line.mark e1 T.line.row.length f1 V.low e2 V.l.length f2)); rw [unhide EQ]))
            clear DR DT_ EQ
            have bcc : (cc == cc) = true := beq_self_eq_true _
            have bff : (ff == ff) = true := beq_self_eq_true _
            have S9 : Hid (Calls Tryz.prog 14 #[.slice a4 n1 c4, .slice e3 n1 f3] wf fun e v' => e = .returned (.bool true) ∧ Sn.HR w v' (hBox b (docC T.line.mark e1 T.line.row.length f1 V.low e2 V.l.length f2) :: hBox q (docC T.line.mark e1 T.line.row.length f1 V.low e2 V.l.length f2) :: hDocs T V e1 f1 e2 f2 O e3 f3 :: hState p F4 T :: hOuts a4 c4 O :: [])) := hide (by
              have r1 : OutK.Row wf 0 a4 c4 O := (unhide HY).ok (hOuts a4 c4 O) (by simp)
              have r2 := (HR.docs (S := T) (W := V) (a := e1) (c := f1) (a2 := e2) (c2 := f2) (o := O) (a3 := e3) (c3 := f3) (unhide HY) (by simp)).told
              rw [unhide EN]
              refine (same9_any (l := O) (m := O) r1.at_ r2.at_ (unhide LO)).mono fun _ _ ⟨k1, k2⟩ => ⟨by rw [k1, show decide (O = O) = true from decide_eq_true rfl], (unhide HY).below (below_of_none k2)⟩)
            go_wp2_with fail
            refine (unhide S9).mono ?_
            rintro e v7 ⟨rfl, h⟩
            have H7 := hide h
            clear h S9 HY
            have RB := hide (HR.box (cs := docC T.line.mark e1 T.line.row.length f1 V.low e2 V.l.length f2) (b := b) (unhide H7) (by simp)).range
            go_wp2_with (refine Sn.wpList_load_on rfl 37 (.tmp 4) rfl b 0 rfl (docC T.line.mark e1 T.line.row.length f1 V.low e2 V.l.length f2) _ (unhide RB) Tryz.underlying37 rfl (by kernel_rfl) ?_)
            refine (alike13_any (S := T) (W := V) (p := p) (F := F4) (o := O) (a3 := e3) (c3 := f3) (unhide H7) (by simp) (unhide GT) (by simp) (Nat.le_trans (unhide LV) (by have := unhide LZ; omega))).mono ?_
            rintro e v8 ⟨rfl, h⟩
            have H8 := hide h
            clear h H7 RB
            go_wp2_with fail
            exact ⟨⟨k + 1, F4, V, e1, f1, e2, f2, O, e3, f3, rfl, by omega, unhide LV, by
              rw [unhide ESN]
              have h9 : Sn.HR w _ (hBox b (docC T.line.mark e1 T.line.row.length f1 V.low e2 V.l.length f2) :: hDocs T V e1 f1 e2 f2 O e3 f3 :: hState p F4 T :: []) := (unhide H8).sub (List.Sublist.cons_cons _ (List.Sublist.cons _ (List.Sublist.cons_cons _ (List.Sublist.cons_cons _ (List.Sublist.cons _ (List.Sublist.refl _))))))
              exact h9.swap⟩, by simp [intOf]; omega⟩
          · have hn := HR.newbox (unhide H3D) zeroD 37
            have cl4 := unhide TO _ _ hn (by simp)
            obtain ⟨q, hq⟩ : ∃ q, q = v3.heap.size := ⟨_, rfl⟩
            have hqd : q = v3.drew.heap.size := hq
            rw [← hqd] at hn
            have HQ := hide hq
            clear hq hqd
            refine turnM_step (.pointer (some ⟨q, 0, none⟩)) (v3.drew.alloc (.cells zeroD.toArray 37)) rfl (by rw [unhide HQ]; simp [go_sem, zeroD]) cl4 ?_
            go_simp
            refine seqM_call 13 #[.agg (docC S.line.mark d S.line.row.length c W.low d2 W.l.length c2).toArray, .agg (itemC x).toArray] rfl (by simp [go_sem]) ?_
            refine (unhide APP _ _ hn.swap).mono ?_
            rintro e v4 ⟨V, e1, f1, e2, f2, e3, f3, rfl, hlv, h⟩
            have LV := hide hlv
            have cl5 := unhide TO _ _ h (by simp)
            have th := (HR.box (cs := zeroD) (b := q) h (by simp)).there
            have hx5 := HR.setbox h.swap (docC T.line.mark e1 T.line.row.length f1 V.low e2 V.l.length f2) rfl
            have cl6 := unhide TO _ _ hx5 (by simp)
            refine ⟨_, rfl, cl5, ?_⟩
            go_simp
            refine seqM_pure (.tuple #[.agg (docC T.line.mark e1 T.line.row.length f1 V.low e2 V.l.length f2).toArray, .int .i64 cc, .slice e3 n1 f3, .bool ff]) rfl (by intro w; simp [go_sem]) cl5 ?_
            go_simp
            refine seqM_pure (.agg (docC T.line.mark e1 T.line.row.length f1 V.low e2 V.l.length f2).toArray) rfl (by intro w; simp [go_sem]) cl5 ?_
            go_simp
            refine seqM_pure (.int .i64 cc) rfl (by intro w; simp [go_sem]) cl5 ?_
            go_simp
            refine seqM_pure (.slice e3 n1 f3) rfl (by intro w; simp [go_sem]) cl5 ?_
            go_simp
            refine seqM_pure (.bool ff) rfl (by intro w; simp [go_sem]) cl5 ?_
            go_simp
            refine seqM_skip (v4.setCells q 0 (docC T.line.mark e1 T.line.row.length f1 V.low e2 V.l.length f2)) rfl (Sn.exec_store 37 (.tmp 9) (.tmp 41) rfl q 0 rfl (docC T.line.mark e1 T.line.row.length f1 V.low e2 V.l.length f2).toArray rfl th (by kernel_rfl) (by simp [docC, Sn.refC, Value.oneCell'])) cl6 ?_
            go_simp
            refine seqM_pure (.int .i64 cc) rfl (by intro w; simp [go_sem]) cl6 ?_
            go_simp
            refine seqM_pure (.slice e3 n1 f3) rfl (by intro w; simp [go_sem]) cl6 ?_
            go_simp
            refine seqM_pure (.bool ff) rfl (by intro w; simp [go_sem]) cl6 ?_
            go_simp
            obtain ⟨v5, hv5⟩ : ∃ v5, v5 = v4.setCells q 0 (docC T.line.mark e1 T.line.row.length f1 V.low e2 V.l.length f2) := ⟨_, rfl⟩
            rw [← hv5] at hx5 ⊢
            have HX : Hid (Sn.HR w v5 (hBox q (docC T.line.mark e1 T.line.row.length f1 V.low e2 V.l.length f2) :: hBox b (docC S.line.mark d S.line.row.length c W.low d2 W.l.length c2) :: hDocs T V e1 f1 e2 f2 O e3 f3 :: hState p F4 T :: hOuts a4 c4 O :: [])) := hide (hx5.perm ((List.Perm.swap _ _ _).cons _))
            clear cl4 cl5 cl6 th hn hx5 hv5 h hlv APP H3D TO
            simp only [seqM]
            have DR := hide (HR.box (cs := docC T.line.mark e1 T.line.row.length f1 V.low e2 V.l.length f2) (b := q) (unhide HX) (by simp)).range
            have DT_ := hide (HR.box (cs := docC S.line.mark d S.line.row.length c W.low d2 W.l.length c2) (b := b) (unhide HX) (by simp)).there
            obtain ⟨wf, hwf⟩ : ∃ wf, wf = v5.setCells b 0 (docC T.line.mark e1 T.line.row.length f1 V.low e2 V.l.length f2) := ⟨_, rfl⟩
            have HY : Hid (Sn.HR w wf (hBox b (docC T.line.mark e1 T.line.row.length f1 V.low e2 V.l.length f2) :: hBox q (docC T.line.mark e1 T.line.row.length f1 V.low e2 V.l.length f2) :: hDocs T V e1 f1 e2 f2 O e3 f3 :: hState p F4 T :: hOuts a4 c4 O :: [])) := hide (by
              rw [hwf]
              exact HR.setbox ((unhide HX).perm ((List.Perm.swap _ _ _).trans (List.Perm.refl _))) _ rfl)
            have EQ := hide hwf.symm
            have L2 : Hid ((outsS S x).length = n1) := hide (by rw [← unhide EO, ← unhide EN])
            clear hwf HX
            go_upto_region 11 with (first | refine Sn.wpList_load_on rfl 37 (.tmp 9) rfl q 0 rfl (docC T.line.mark e1 T.line.row.length f1 V.low e2 V.l.length f2) _ (unhide DR) Tryz.underlying37 rfl (by kernel_rfl) ?_ | (refine wpList_store_mid rfl 37 (.tmp 4) (.tmp 45) rfl b 0 (docC T.line.mark e1 T.line.row.length f1 V.low e2 V.l.length f2).toArray rfl rfl (unhide DT_) (by kernel_rfl) (by simp [docC, Sn.refC, Value.oneCell']) ?_; change wpList _ _ _ _ _ (World.setCells _ b 0 (docC T.line.mark e1 T.line.row.length f1 V.low e2 V.l.length f2)); rw [unhide EQ]))
            clear DR DT_ EQ
            have bcc : (cc == cc) = true := beq_self_eq_true _
            have bff : (ff == ff) = true := beq_self_eq_true _
            have S9 : Hid (Calls Tryz.prog 14 #[.slice a4 n1 c4, .slice e3 n1 f3] wf fun e v' => e = .returned (.bool true) ∧ Sn.HR w v' (hBox b (docC T.line.mark e1 T.line.row.length f1 V.low e2 V.l.length f2) :: hBox q (docC T.line.mark e1 T.line.row.length f1 V.low e2 V.l.length f2) :: hDocs T V e1 f1 e2 f2 O e3 f3 :: hState p F4 T :: hOuts a4 c4 O :: [])) := hide (by
              have r1 : OutK.Row wf 0 a4 c4 O := (unhide HY).ok (hOuts a4 c4 O) (by simp)
              have r2 := (HR.docs (S := T) (W := V) (a := e1) (c := f1) (a2 := e2) (c2 := f2) (o := O) (a3 := e3) (c3 := f3) (unhide HY) (by simp)).told
              rw [unhide EN]
              refine (same9_any (l := O) (m := O) r1.at_ r2.at_ (unhide LO)).mono fun _ _ ⟨k1, k2⟩ => ⟨by rw [k1, show decide (O = O) = true from decide_eq_true rfl], (unhide HY).below (below_of_none k2)⟩)
            go_wp2_with fail
            refine (unhide S9).mono ?_
            rintro e v7 ⟨rfl, h⟩
            have H7 := hide h
            clear h S9 HY
            have RB := hide (HR.box (cs := docC T.line.mark e1 T.line.row.length f1 V.low e2 V.l.length f2) (b := b) (unhide H7) (by simp)).range
            go_wp2_with (refine Sn.wpList_load_on rfl 37 (.tmp 4) rfl b 0 rfl (docC T.line.mark e1 T.line.row.length f1 V.low e2 V.l.length f2) _ (unhide RB) Tryz.underlying37 rfl (by kernel_rfl) ?_)
            refine (alike13_any (S := T) (W := V) (p := p) (F := F4) (o := O) (a3 := e3) (c3 := f3) (unhide H7) (by simp) (unhide GT) (by simp) (Nat.le_trans (unhide LV) (by have := unhide LZ; omega))).mono ?_
            rintro e v8 ⟨rfl, h⟩
            have H8 := hide h
            clear h H7 RB
            go_wp2_with fail
            exact ⟨⟨k + 1, F4, V, e1, f1, e2, f2, O, e3, f3, rfl, by omega, unhide LV, by
              rw [unhide ESN]
              have h9 : Sn.HR w _ (hBox b (docC T.line.mark e1 T.line.row.length f1 V.low e2 V.l.length f2) :: hDocs T V e1 f1 e2 f2 O e3 f3 :: hState p F4 T :: []) := (unhide H8).sub (List.Sublist.cons_cons _ (List.Sublist.cons _ (List.Sublist.cons_cons _ (List.Sublist.cons_cons _ (List.Sublist.cons _ (List.Sublist.refl _))))))
              exact h9.swap⟩, by simp [intOf]; omega⟩
      · have hke : k = z.length := by omega
        have gk : ¬ (k : Int) < (z.length : Int) := by omega
        have dk : decide ((k : Int) < (z.length : Int)) = false := decide_eq_false gk
        go_wp2_with fail
        refine (wakes_any wr).mono ?_
        rintro e u8 ⟨rfl, hb⟩
        have HB := hide ((unhide HRR).bel.trans (hb.mono (unhide HRR).bel.size))
        clear hb HRR
        go_wp2_with fail
        go_ret
        exact ⟨rfl, unhide HB⟩
theorem applies_row (a : Option Addr) (ca : Nat) (z : List ItemV) (w : World) (_ : z.length ≤ maxLen) (hz : ItemK.At w a z) (iz : ∀ x ∈ z, x.In) :
    Calls Tryz.prog 3 #[.slice a z.length ca] w fun e w' => e = .returned (.bool true) ∧ Below w.heap.size w w' := applies_any w hz iz
end Go.Proofs.YtigmhljaoicdbaaGreat

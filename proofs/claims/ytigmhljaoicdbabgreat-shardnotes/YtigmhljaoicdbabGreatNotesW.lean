/- What ShardNotes does: it answers true, and nothing that was there has turned. No conditions. -/
import Derived.Test.YtigmhljaoicdbabGreatShPlays
import Derived.Test.YtigmhljaoicdbabGreatShSame9
namespace Go.Proofs.YtigmhljaoicdbabGreat
open Go.RowKit
theorem sameS_refl (S : StV) : sameS S S = true := decide_eq_true ⟨rfl, rfl, rfl, rfl⟩
theorem lit1_at {v v' : World} {cs : Array Value} {ty : TypeId} (x : ItemV) (h : cs = (itemC x).toArray) (hv : v' = v.alloc (.cells cs ty)) : ItemK.At v' (some ⟨v.heap.size, 0, none⟩) [x] := by
  refine .inr ⟨_, _, rfl, by rw [hv]; simp, fun j u hu => ?_⟩
  rw [Nat.zero_add, hv, World.cell?_alloc_new, h]
  have hu' : (itemC x ++ [])[j]? = some u := hu
  rw [List.append_nil] at hu'
  simpa using hu'
set_option maxRecDepth 100000 in
set_option maxHeartbeats 20000000 in
theorem notes_any {a : Option Addr} {ca : Nat} {z : List ItemV} (x : ItemV) (w : World) (hz : ItemK.At w a z) (iz : ∀ u ∈ z, u.In) (ix : x.In) :
    Calls Tryz.prog 3 #[.slice a z.length ca, itemV x] w fun e w' => e = .returned (.bool true) ∧ Below w.heap.size w w' := by
  obtain ⟨X, hX⟩ : ∃ X, X = x := ⟨_, rfl⟩
  obtain ⟨xs, xq, xl, xk, xy, xp, xa, xn⟩ := x
  obtain ⟨ki, hki⟩ : ∃ ki : Int, ki = (xk : Int) := ⟨_, rfl⟩
  have hC : itemC X = [.int .i64 xs, .int .i64 xq, .int .i64 xl, .int .u8 ki, .string ⟨xy.toArray⟩, .int .i64 xp, .int .i64 xa, .int .i64 xn] := by rw [hX, hki]; rfl
  have hVX : itemV ⟨xs, xq, xl, xk, xy, xp, xa, xn⟩ = .agg #[.int .i64 xs, .int .i64 xq, .int .i64 xl, .int .u8 ki, .string ⟨xy.toArray⟩, .int .i64 xp, .int .i64 xa, .int .i64 xn] := by rw [hki]; rfl
  obtain ⟨b, hb⟩ : ∃ b, b = w.heap.size := ⟨_, rfl⟩
  obtain ⟨V, hV⟩ : ∃ V, V = w.alloc (.cells #[.int .i64 xs, .int .i64 xq, .int .i64 xl, .int .u8 ki, .string ⟨xy.toArray⟩, .int .i64 xp, .int .i64 xa, .int .i64 xn] 24) := ⟨_, rfl⟩
  have b1 : Below w.heap.size w V := by rw [hV]; exact (Below.refl _ _).alloc (Nat.le_refl _) _
  have ri : V.rangeAt b 0 (itemC X) := fun j u hu => by rw [Nat.zero_add, hV, hb, World.cell?_alloc_new, ← show (itemC X).toArray = #[.int .i64 xs, .int .i64 xq, .int .i64 xl, .int .u8 ki, .string ⟨xy.toArray⟩, .int .i64 xp, .int .i64 xa, .int .i64 xn] by rw [hC]]; simpa using hu
  have RI : Hid (V.rangeAt b 0 [.int .i64 xs, .int .i64 xq, .int .i64 xl, .int .u8 ki, .string ⟨xy.toArray⟩, .int .i64 xp, .int .i64 xa, .int .i64 xn]) := hide (by rw [← hC]; exact ri)
  have H0 : Sn.HR w V (hItem b X :: []) := by
    have := HR.boxed (v' := V) (Sn.HR.start w) X b1 (by rw [← hb]; exact ri)
    rw [← hb] at this
    exact this
  obtain ⟨V2, hV2⟩ : ∃ V2, V2 = V.alloc (.cells #[.int .i64 xs, .int .i64 xq, .int .i64 xl, .int .u8 ki, .string ⟨xy.toArray⟩, .int .i64 xp, .int .i64 xa, .int .i64 xn] 24) := ⟨_, rfl⟩
  have b2 : Below V.heap.size V V2 := by rw [hV2]; exact (Below.refl _ _).alloc (Nat.le_refl _) _
  have H1 := hide (H0.below b2)
  have G1 := hide (greatI_any (cap := ca) (hz.below (Nat.le_refl _) b1))
  have G2 : Hid (Calls Tryz.prog 5 #[.slice (some ⟨V.heap.size, 0, none⟩) 1 1] V2 fun e w' => e = .returned (.bool (tooGreatI [X])) ∧ w' = V2) := hide (greatI_any (cap := 1) (lit1_at X (by rw [hC]) hV2))
  have B1 := hide b1
  have B2 := hide (b1.trans (b2.mono b1.size))
  have WK := hide (fun W => wakes_any W)
  have HB := hide hb
  have HV := hide hV
  have HV2 := hide hV2
  have HC : Hid (itemV X = .agg (itemC X).toArray) := hide rfl
  have HZ := hide hz
  have IZ := hide iz
  have IX : Hid X.In := hide (by rw [hX]; exact ix)
  rw [hVX]
  clear hb hV b1 b2 hV2 hz iz ix ri hC hVX hX hki H0
  by_cases hg : tooGreatI z = true
  · rw [hg] at G1
    go_enter Tryz.func3, Tryz.ntmps3
    go_upto_region 1 with fail
    rw [← unhide HV, ← unhide HB]
    go_wp2_with fail
    refine (unhide G1).mono ?_
    rintro e v' ⟨rfl, hw⟩
    rw [hw]
    clear hw v'
    go_wp2_with fail
    refine (unhide WK _).mono ?_
    rintro e v' ⟨rfl, hb⟩
    have HB3 := hide ((unhide B1).trans (hb.mono (unhide B1).size))
    clear hb
    go_wp2_with fail
    go_ret
    exact ⟨rfl, unhide HB3⟩
  · have LZ := hide (short_i hg)
    rw [Bool.eq_false_iff.2 hg] at G1
    clear hg
    by_cases hg : tooGreatI [X] = true
    · rw [hg] at G2
      go_enter Tryz.func3, Tryz.ntmps3
      go_upto_region 1 with fail
      rw [← unhide HV, ← unhide HB]
      go_wp2_with fail
      refine (unhide G1).mono ?_
      rintro e v' ⟨rfl, hw⟩
      rw [hw]
      clear hw v'
      go_wp2_with (refine Sn.wpList_load_on rfl 24 (.tmp 3) rfl b 0 rfl [.int .i64 xs, .int .i64 xq, .int .i64 xl, .int .u8 ki, .string ⟨xy.toArray⟩, .int .i64 xp, .int .i64 xa, .int .i64 xn] _ (unhide RI) Tryz.underlying24 rfl (by kernel_rfl) ?_)
      rw [← unhide HV2]
      refine (unhide G2).mono ?_
      rintro e v' ⟨rfl, hw⟩
      rw [hw]
      clear hw v'
      go_wp2_with fail
      refine (unhide WK _).mono ?_
      rintro e v' ⟨rfl, hb⟩
      have HB3 := hide ((unhide B2).trans (hb.mono (unhide B2).size))
      clear hb
      go_wp2_with fail
      go_ret
      exact ⟨rfl, unhide HB3⟩
    · rw [Bool.eq_false_iff.2 hg] at G2
      obtain ⟨S, hS⟩ : ∃ S, S = runS newS z := ⟨_, rfl⟩
      have GS : Hid (GoodS S) := hide (by rw [hS]; exact goodS_run goodS_new fun u hu => (unhide IZ u hu).n)
      have GT : Hid (GoodS (appS S X)) := hide (goodS_app (unhide GS) (unhide IX).n)
      have HS := hide hS
      clear hg hS
      by_cases hf0 : freshS S X = false
      · have hf := hf0
        clear hf0
        go_enter Tryz.func3, Tryz.ntmps3
        go_upto_region 1 with fail
        rw [← unhide HV, ← unhide HB]
        go_wp2_with fail
        refine (unhide G1).mono ?_
        rintro e v' ⟨rfl, hw⟩
        rw [hw]
        clear hw v' G1 HV HB
        go_wp2_with (refine Sn.wpList_load_on rfl 24 (.tmp 3) rfl b 0 rfl [.int .i64 xs, .int .i64 xq, .int .i64 xl, .int .u8 ki, .string ⟨xy.toArray⟩, .int .i64 xp, .int .i64 xa, .int .i64 xn] _ (unhide RI) Tryz.underlying24 rfl (by kernel_rfl) ?_)
        rw [← unhide HV2]
        refine (unhide G2).mono ?_
        rintro e v' ⟨rfl, hw⟩
        rw [hw]
        clear hw v' G2 HV2 RI
        go_wp2_with fail
        refine (hs_new (unhide H1)).mono ?_
        rintro e v1 ⟨p, F1, rfl, h⟩
        have H2 := hide h
        clear h H1
        go_wp2_with fail
        refine (plays_any (unhide H2) goodS_new (unhide HZ) (unhide IZ) (Nat.le_trans (unhide LZ) (by omega))).mono ?_
        rintro e v2 ⟨b2, c2, F2, rfl, h⟩
        rw [← unhide HS] at h
        have H3 := hide h.drop1
        clear h H2
        go_wp2_with fail
        refine (hs_twin (unhide H3) List.mem_cons_self).mono ?_
        rintro e v3 ⟨q, F3, rfl, h⟩
        have H4 : Hid (Sn.HR w v3 (hState p F2 S :: hState q F3 S :: hItem b X :: [])) := hide h.swap
        clear h H3
        have RJ := hide (HR.item (unhide H4) (List.mem_cons_of_mem _ (List.mem_cons_of_mem _ List.mem_cons_self)))
        go_wp2_with (refine Sn.wpList_load_on rfl 24 (.tmp 3) rfl b 0 rfl (itemC X) _ (unhide RJ) Tryz.underlying24 rfl (by kernel_rfl) ?_)
        rw [← unhide HC]
        have AP := hide (hs_apply (unhide H4) (unhide GS) X (unhide IX).n (unhide IX).kind)
        rw [hf, (app_stale hf).1, (app_stale hf).2] at AP
        generalize codeS S X = cc at *
        refine (unhide AP).mono ?_
        rintro e v4 ⟨a4, c4, F4, rfl, h⟩
        have H5 := hide h.drop1
        clear h H4 AP RJ
        go_wp2_with fail
        refine (hs_same (unhide H5) List.mem_cons_self (List.mem_cons_of_mem _ List.mem_cons_self) (unhide GS) (unhide GS)).mono ?_
        rintro e v5 ⟨rfl, h⟩
        rw [sameS_refl]
        have H6 := hide h
        clear h H5
        go_wp2_with fail
        refine (wakes_any _).mono ?_
        rintro e u8 ⟨rfl, hb⟩
        have HB := hide ((unhide H6).bel.trans (hb.mono (unhide H6).bel.size))
        clear hb H6
        go_wp2_with fail
        go_ret
        exact ⟨rfl, unhide HB⟩
      · have hf : freshS S X = true := by simpa using hf0
        have ST : Hid (freshS (appS S X) X = false) := hide (stale_then (unhide GS) X)
        have AG : Hid (codeS (appS S X) X = codeS S X) := hide (again_code (unhide GS) hf)
        obtain ⟨⟨k1, k4⟩, kn⟩ := doL_ways S.line X
        rw [← (app_fresh hf).2.2] at k1 k4 kn
        clear hf0
        by_cases hc : codeS S X = 1
        · clear k1 k4 kn
          go_enter Tryz.func3, Tryz.ntmps3
          go_upto_region 1 with fail
          rw [← unhide HV, ← unhide HB]
          go_wp2_with fail
          refine (unhide G1).mono ?_
          rintro e v' ⟨rfl, hw⟩
          rw [hw]
          clear hw v' G1 HV HB
          go_wp2_with (refine Sn.wpList_load_on rfl 24 (.tmp 3) rfl b 0 rfl [.int .i64 xs, .int .i64 xq, .int .i64 xl, .int .u8 ki, .string ⟨xy.toArray⟩, .int .i64 xp, .int .i64 xa, .int .i64 xn] _ (unhide RI) Tryz.underlying24 rfl (by kernel_rfl) ?_)
          rw [← unhide HV2]
          refine (unhide G2).mono ?_
          rintro e v' ⟨rfl, hw⟩
          rw [hw]
          clear hw v' G2 HV2 RI
          go_wp2_with fail
          refine (hs_new (unhide H1)).mono ?_
          rintro e v1 ⟨p, F1, rfl, h⟩
          have H2 := hide h
          clear h H1
          go_wp2_with fail
          refine (plays_any (unhide H2) goodS_new (unhide HZ) (unhide IZ) (Nat.le_trans (unhide LZ) (by omega))).mono ?_
          rintro e v2 ⟨b2, c2, F2, rfl, h⟩
          rw [← unhide HS] at h
          have H3 := hide h.drop1
          clear h H2
          go_wp2_with fail
          refine (hs_twin (unhide H3) List.mem_cons_self).mono ?_
          rintro e v3 ⟨q, F3, rfl, h⟩
          have H4 : Hid (Sn.HR w v3 (hState p F2 S :: hState q F3 S :: hItem b X :: [])) := hide h.swap
          clear h H3
          have RJ := hide (HR.item (unhide H4) (List.mem_cons_of_mem _ (List.mem_cons_of_mem _ List.mem_cons_self)))
          go_wp2_with (refine Sn.wpList_load_on rfl 24 (.tmp 3) rfl b 0 rfl (itemC X) _ (unhide RJ) Tryz.underlying24 rfl (by kernel_rfl) ?_)
          rw [← unhide HC]
          have AP := hide (hs_apply (unhide H4) (unhide GS) X (unhide IX).n (unhide IX).kind)
          rw [hf] at AP
          rw [hc] at AP AG
          have eqc : ((1 : Int) == 1) = true := rfl
          generalize hnn : (outsS S X).length = nn at *
          refine (unhide AP).mono ?_
          rintro e v4 ⟨a4, c4, F4, rfl, h⟩
          have H5 : Hid (Sn.HR w v4 (hState p F4 (appS S X) :: hState q F3 S :: hItem b X :: [])) := hide h.drop1
          clear h H4 AP RJ
          have RK := hide (HR.item (unhide H5) (List.mem_cons_of_mem _ (List.mem_cons_of_mem _ List.mem_cons_self)))
          go_wp2_with (refine Sn.wpList_load_on rfl 24 (.tmp 3) rfl b 0 rfl (itemC X) _ (unhide RK) Tryz.underlying24 rfl (by kernel_rfl) ?_)
          rw [← unhide HC]
          have AQ := hide (hs_apply (unhide H5) (unhide GT) X (unhide IX).n (unhide IX).kind)
          rw [(app_stale (unhide ST)).2, unhide ST, unhide AG] at AQ
          refine (unhide AQ).mono ?_
          rintro e v9 ⟨a9, c9, F9, rfl, h⟩
          have H9 := hide h.drop1
          clear h H5 AQ RK
          go_wp2_with fail
          refine (wakes_any _).mono ?_
          rintro e u8 ⟨rfl, hb⟩
          have HB := hide ((unhide H9).bel.trans (hb.mono (unhide H9).bel.size))
          clear hb H9
          go_wp2_with fail
          go_ret
          exact ⟨rfl, unhide HB⟩
        · obtain ⟨hl0, ho0⟩ := kn hc
          have ho : outsS S X = [] := by rw [(app_fresh hf).2.1]; exact ho0
          have hl : (appS S X).line = S.line := by rw [(app_fresh hf).1]; exact hl0
          clear kn hl0 ho0
          go_enter Tryz.func3, Tryz.ntmps3
          go_upto_region 1 with fail
          rw [← unhide HV, ← unhide HB]
          go_wp2_with fail
          refine (unhide G1).mono ?_
          rintro e v' ⟨rfl, hw⟩
          rw [hw]
          clear hw v' G1 HV HB
          go_wp2_with (refine Sn.wpList_load_on rfl 24 (.tmp 3) rfl b 0 rfl [.int .i64 xs, .int .i64 xq, .int .i64 xl, .int .u8 ki, .string ⟨xy.toArray⟩, .int .i64 xp, .int .i64 xa, .int .i64 xn] _ (unhide RI) Tryz.underlying24 rfl (by kernel_rfl) ?_)
          rw [← unhide HV2]
          refine (unhide G2).mono ?_
          rintro e v' ⟨rfl, hw⟩
          rw [hw]
          clear hw v' G2 HV2 RI
          go_wp2_with fail
          refine (hs_new (unhide H1)).mono ?_
          rintro e v1 ⟨p, F1, rfl, h⟩
          have H2 := hide h
          clear h H1
          go_wp2_with fail
          refine (plays_any (unhide H2) goodS_new (unhide HZ) (unhide IZ) (Nat.le_trans (unhide LZ) (by omega))).mono ?_
          rintro e v2 ⟨b2, c2, F2, rfl, h⟩
          rw [← unhide HS] at h
          have H3 := hide h.drop1
          clear h H2
          go_wp2_with fail
          refine (hs_twin (unhide H3) List.mem_cons_self).mono ?_
          rintro e v3 ⟨q, F3, rfl, h⟩
          have H4 : Hid (Sn.HR w v3 (hState p F2 S :: hState q F3 S :: hItem b X :: [])) := hide h.swap
          clear h H3
          have RJ := hide (HR.item (unhide H4) (List.mem_cons_of_mem _ (List.mem_cons_of_mem _ List.mem_cons_self)))
          go_wp2_with (refine Sn.wpList_load_on rfl 24 (.tmp 3) rfl b 0 rfl (itemC X) _ (unhide RJ) Tryz.underlying24 rfl (by kernel_rfl) ?_)
          rw [← unhide HC]
          have AP := hide (hs_apply (unhide H4) (unhide GS) X (unhide IX).n (unhide IX).kind)
          rw [hf, ho] at AP
          generalize hcc : codeS S X = cc at *
          have e1 : (cc == 1) = false := Bool.eq_false_iff.2 fun h => hc (eq_of_beq h)
          have e2 : decide (cc = 1) = false := decide_eq_false hc
          have e3 : decide (cc < 1) = false := decide_eq_false (by omega)
          have e4 : decide (4 < cc) = false := decide_eq_false (by omega)
          have e5 : (cc == cc) = true := beq_self_eq_true _
          have e6 : ¬ cc < 1 := by omega
          have e7 : ¬ 4 < cc := by omega
          refine (unhide AP).mono ?_
          rintro e v4 ⟨a4, c4, F4, rfl, h⟩
          have H5 : Hid (Sn.HR w v4 (hState p F4 (appS S X) :: hState q F3 S :: hItem b X :: [])) := hide h.drop1
          clear h H4 AP RJ
          go_wp2_with fail
          refine (hs_mark (unhide H5) List.mem_cons_self).mono ?_
          rintro e v' ⟨rfl, hw⟩
          rw [hw, hl]
          clear hw v'
          go_wp2_with fail
          refine (hs_mark (unhide H5) (List.mem_cons_of_mem _ List.mem_cons_self)).mono ?_
          rintro e v' ⟨rfl, hw⟩
          rw [hw]
          clear hw v'
          generalize hmk : S.line.mark = mk at *
          have e8 : (mk == mk) = true := beq_self_eq_true _
          go_wp2_with fail
          refine (hs_open (unhide H5) List.mem_cons_self (unhide GT)).mono ?_
          rintro e v6 ⟨a6, c6, rfl, h⟩
          rw [hl] at h ⊢
          have H6 := hide h
          clear h H5
          go_wp2_with fail
          refine (hs_open (unhide H6) (List.mem_cons_of_mem _ (List.mem_cons_of_mem _ List.mem_cons_self)) (unhide GS)).mono ?_
          rintro e v7 ⟨a7, c7, rfl, h⟩
          have H7 := hide h
          clear h H6
          go_wp2_with fail
          refine (same9_hr (l := S.line.row) (m := S.line.row) (unhide H7) (List.mem_cons_of_mem _ List.mem_cons_self) List.mem_cons_self (Nat.le_trans (unhide GS).mild.most (by omega))).mono ?_
          rintro e v8 ⟨rfl, h⟩
          rw [show decide (S.line.row = S.line.row) = true from decide_eq_true rfl]
          have H8 : Hid (Sn.HR w v8 (hState p F4 (appS S X) :: hState q F3 S :: hItem b X :: [])) := hide ((h.drop1).drop1)
          clear h H7
          have RK := hide (HR.item (unhide H8) (List.mem_cons_of_mem _ (List.mem_cons_of_mem _ List.mem_cons_self)))
          go_wp2_with (refine Sn.wpList_load_on rfl 24 (.tmp 3) rfl b 0 rfl (itemC X) _ (unhide RK) Tryz.underlying24 rfl (by kernel_rfl) ?_)
          rw [← unhide HC]
          have AQ := hide (hs_apply (unhide H8) (unhide GT) X (unhide IX).n (unhide IX).kind)
          rw [(app_stale (unhide ST)).2, unhide ST, unhide AG] at AQ
          refine (unhide AQ).mono ?_
          rintro e v9 ⟨a9, c9, F9, rfl, h⟩
          have H9 := hide h.drop1
          clear h H8 AQ RK
          go_wp2_with fail
          refine (wakes_any _).mono ?_
          rintro e u8 ⟨rfl, hb⟩
          have HB := hide ((unhide H9).bel.trans (hb.mono (unhide H9).bel.size))
          clear hb H9
          go_wp2_with fail
          go_ret
          exact ⟨rfl, unhide HB⟩
theorem notes_row (a : Option Addr) (ca : Nat) (z : List ItemV) (x : ItemV) (w : World) (_ : z.length ≤ maxLen) (hz : ItemK.At w a z) (iz : ∀ u ∈ z, u.In) (ix : x.In) :
    Calls Tryz.prog 3 #[.slice a z.length ca, itemV x] w fun e w' => e = .returned (.bool true) ∧ Below w.heap.size w w' := notes_any x w hz iz ix
end Go.Proofs.YtigmhljaoicdbabGreat

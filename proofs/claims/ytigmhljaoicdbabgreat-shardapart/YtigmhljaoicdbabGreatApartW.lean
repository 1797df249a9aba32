/- What ShardApart does: it answers true, and nothing that was there has turned. No conditions. -/
import Derived.Test.YtigmhljaoicdbabGreatShPlays
import Derived.Test.YtigmhljaoicdbabGreatShSame9
import Derived.Test.YtigmhljaoicdbabGreatShTwo
namespace Go.Proofs.YtigmhljaoicdbabGreat
open Go.RowKit
theorem sameS_refl (S : StV) : sameS S S = true := decide_eq_true ⟨rfl, rfl, rfl, rfl⟩
theorem lit2_at {v v' : World} {cs : Array Value} {ty : TypeId} (x y : ItemV) (h : cs = (itemC x ++ itemC y).toArray) (hv : v' = v.alloc (.cells cs ty)) : ItemK.At v' (some ⟨v.heap.size, 0, none⟩) [x, y] := by
  refine .inr ⟨_, _, rfl, by rw [hv]; simp, fun j u hu => ?_⟩
  rw [Nat.zero_add, hv, World.cell?_alloc_new, h]
  have hu' : (itemC x ++ (itemC y ++ []))[j]? = some u := hu
  rw [List.append_nil] at hu'
  simpa using hu'
set_option maxRecDepth 100000 in
set_option maxHeartbeats 40000000 in
theorem apart_any {a : Option Addr} {ca : Nat} {z : List ItemV} (x y : ItemV) (w : World) (hz : ItemK.At w a z) (iz : ∀ u ∈ z, u.In) (ix : x.In) (iy : y.In) :
    Calls Tryz.prog 4 #[.slice a z.length ca, itemV x, itemV y] w fun e w' => e = .returned (.bool true) ∧ Below w.heap.size w w' := by
  obtain ⟨X, hX⟩ : ∃ X, X = x := ⟨_, rfl⟩
  obtain ⟨Y, hY⟩ : ∃ Y, Y = y := ⟨_, rfl⟩
  obtain ⟨xs, xq, xl, xk, xy, xp, xa, xn⟩ := x
  obtain ⟨ys, yq, yl, yk, yy, yp, ya, yn⟩ := y
  obtain ⟨xi, hxi⟩ : ∃ xi : Int, xi = (xk : Int) := ⟨_, rfl⟩
  obtain ⟨yi, hyi⟩ : ∃ yi : Int, yi = (yk : Int) := ⟨_, rfl⟩
  have hCX : itemC X = [.int .i64 xs, .int .i64 xq, .int .i64 xl, .int .u8 xi, .string ⟨xy.toArray⟩, .int .i64 xp, .int .i64 xa, .int .i64 xn] := by rw [hX, hxi]; rfl
  have hCY : itemC Y = [.int .i64 ys, .int .i64 yq, .int .i64 yl, .int .u8 yi, .string ⟨yy.toArray⟩, .int .i64 yp, .int .i64 ya, .int .i64 yn] := by rw [hY, hyi]; rfl
  have hVX : itemV ⟨xs, xq, xl, xk, xy, xp, xa, xn⟩ = .agg #[.int .i64 xs, .int .i64 xq, .int .i64 xl, .int .u8 xi, .string ⟨xy.toArray⟩, .int .i64 xp, .int .i64 xa, .int .i64 xn] := by rw [hxi]; rfl
  have hVY : itemV ⟨ys, yq, yl, yk, yy, yp, ya, yn⟩ = .agg #[.int .i64 ys, .int .i64 yq, .int .i64 yl, .int .u8 yi, .string ⟨yy.toArray⟩, .int .i64 yp, .int .i64 ya, .int .i64 yn] := by rw [hyi]; rfl
  have XS : Hid (X.src = xs ∧ X.key = xy ∧ (X.kind = 1 ↔ xi = 1)) := hide (by rw [hX, hxi]; exact ⟨rfl, rfl, by show xk = 1 ↔ _; omega⟩)
  have YS : Hid (Y.src = ys ∧ Y.key = yy ∧ (Y.kind = 1 ↔ yi = 1)) := hide (by rw [hY, hyi]; exact ⟨rfl, rfl, by show yk = 1 ↔ _; omega⟩)
  obtain ⟨b, hb⟩ : ∃ b, b = w.heap.size := ⟨_, rfl⟩
  obtain ⟨U, hU⟩ : ∃ U, U = w.alloc (.cells #[.int .i64 xs, .int .i64 xq, .int .i64 xl, .int .u8 xi, .string ⟨xy.toArray⟩, .int .i64 xp, .int .i64 xa, .int .i64 xn] 24) := ⟨_, rfl⟩
  have b0 : Below w.heap.size w U := by rw [hU]; exact (Below.refl _ _).alloc (Nat.le_refl _) _
  have ri0 : U.rangeAt b 0 (itemC X) := fun j u hu => by rw [Nat.zero_add, hU, hb, World.cell?_alloc_new, ← show (itemC X).toArray = #[.int .i64 xs, .int .i64 xq, .int .i64 xl, .int .u8 xi, .string ⟨xy.toArray⟩, .int .i64 xp, .int .i64 xa, .int .i64 xn] by rw [hCX]]; simpa using hu
  obtain ⟨c, hcc⟩ : ∃ c, c = w.heap.size + 1 := ⟨_, rfl⟩
  have hc : c = U.heap.size := by rw [hcc, hU]; simp
  obtain ⟨V, hV⟩ : ∃ V, V = U.alloc (.cells #[.int .i64 ys, .int .i64 yq, .int .i64 yl, .int .u8 yi, .string ⟨yy.toArray⟩, .int .i64 yp, .int .i64 ya, .int .i64 yn] 24) := ⟨_, rfl⟩
  have b1' : Below U.heap.size U V := by rw [hV]; exact (Below.refl _ _).alloc (Nat.le_refl _) _
  have b1 : Below w.heap.size w V := b0.trans (b1'.mono b0.size)
  have ri1 : V.rangeAt c 0 (itemC Y) := fun j u hu => by rw [Nat.zero_add, hV, hc, World.cell?_alloc_new, ← show (itemC Y).toArray = #[.int .i64 ys, .int .i64 yq, .int .i64 yl, .int .u8 yi, .string ⟨yy.toArray⟩, .int .i64 yp, .int .i64 ya, .int .i64 yn] by rw [hCY]]; simpa using hu
  have H0 : Sn.HR w V (hItem c Y :: hItem b X :: []) := by
    have h1 := HR.boxed (v' := U) (Sn.HR.start w) X b0 (by rw [← hb]; exact ri0)
    have h2 := HR.boxed (v' := V) h1 Y b1' (by rw [← hc]; exact ri1)
    rw [← hb, ← hc] at h2
    exact h2
  have RX : Hid (V.rangeAt b 0 [.int .i64 xs, .int .i64 xq, .int .i64 xl, .int .u8 xi, .string ⟨xy.toArray⟩, .int .i64 xp, .int .i64 xa, .int .i64 xn]) := hide (by rw [← hCX]; exact HR.item H0 (List.mem_cons_of_mem _ List.mem_cons_self))
  have RY : Hid (V.rangeAt c 0 [.int .i64 ys, .int .i64 yq, .int .i64 yl, .int .u8 yi, .string ⟨yy.toArray⟩, .int .i64 yp, .int .i64 ya, .int .i64 yn]) := hide (by rw [← hCY]; exact ri1)
  obtain ⟨V2, hV2⟩ : ∃ V2, V2 = V.alloc (.cells #[.int .i64 xs, .int .i64 xq, .int .i64 xl, .int .u8 xi, .string ⟨xy.toArray⟩, .int .i64 xp, .int .i64 xa, .int .i64 xn, .int .i64 ys, .int .i64 yq, .int .i64 yl, .int .u8 yi, .string ⟨yy.toArray⟩, .int .i64 yp, .int .i64 ya, .int .i64 yn] 24) := ⟨_, rfl⟩
  have b2 : Below V.heap.size V V2 := by rw [hV2]; exact (Below.refl _ _).alloc (Nat.le_refl _) _
  have H1 := hide (H0.below b2)
  have G1 := hide (greatI_any (cap := ca) (hz.below (Nat.le_refl _) b1))
  have G2 : Hid (Calls Tryz.prog 5 #[.slice (some ⟨V.heap.size, 0, none⟩) 2 2] V2 fun e w' => e = .returned (.bool (tooGreatI [X, Y])) ∧ w' = V2) := hide (greatI_any (cap := 2) (lit2_at X Y (by rw [hCX, hCY]; rfl) hV2))
  have CELLS : Hid (∀ v R, Sn.HR w v R → hItem b X ∈ R → hItem c Y ∈ R → v.cell? ⟨b, 0, none⟩ = some (.int .i64 xs) ∧ v.cell? ⟨c, 0, none⟩ = some (.int .i64 ys) ∧ v.cell? ⟨b, 4, none⟩ = some (.string ⟨xy.toArray⟩) ∧ v.cell? ⟨c, 4, none⟩ = some (.string ⟨yy.toArray⟩) ∧ v.cell? ⟨b, 3, none⟩ = some (.int .u8 xi) ∧ v.cell? ⟨c, 3, none⟩ = some (.int .u8 yi)) := hide fun v R h m1 m2 => by
    have r1 := HR.item h m1
    have r2 := HR.item h m2
    rw [hCX] at r1
    rw [hCY] at r2
    exact ⟨r1 0 _ rfl, r2 0 _ rfl, r1 4 _ rfl, r2 4 _ rfl, r1 3 _ rfl, r2 3 _ rfl⟩
  have B1 := hide b1
  have B2 := hide (b1.trans (b2.mono b1.size))
  have WK := hide (fun W => wakes_any W)
  have HB := hide hb
  have HU := hide hU
  have HCC := hide hcc
  have HV := hide hV
  have HV2 := hide hV2
  have HX : Hid (itemV X = .agg (itemC X).toArray) := hide rfl
  have HY : Hid (itemV Y = .agg (itemC Y).toArray) := hide rfl
  have HZ := hide hz
  have IZ := hide iz
  have IX : Hid X.In := hide (by rw [hX]; exact ix)
  have IY : Hid Y.In := hide (by rw [hY]; exact iy)
  rw [hVX, hVY]
  clear hb hU hc hcc hV b0 b1' b1 b2 hV2 hz iz ix iy ri0 ri1 hCX hCY hVX hVY hX hY hxi hyi H0
  by_cases hg : tooGreatI z = true
  · rw [hg] at G1
    go_enter Tryz.func4, Tryz.ntmps4
    go_upto_region 1 with fail
    rw [← unhide HU, ← unhide HCC, ← unhide HB, ← unhide HV]
    go_wp2_with fail
    refine (unhide G1).mono ?_
    rintro e v' ⟨rfl, hw⟩
    rw [hw]
    clear hw v'
    go_wp2_with fail
    refine (unhide WK _).mono ?_
    rintro e v' ⟨rfl, hb⟩
    have HB3 := hide ((unhide B1).trans (hb.mono (unhide B1).size))
    clear hb
    go_wp2_with fail
    go_ret
    exact ⟨rfl, unhide HB3⟩
  · have LZ := hide (short_i hg)
    rw [Bool.eq_false_iff.2 hg] at G1
    clear hg
    by_cases hg : tooGreatI [X, Y] = true
    · rw [hg] at G2
      go_enter Tryz.func4, Tryz.ntmps4
      go_upto_region 1 with fail
      rw [← unhide HU, ← unhide HCC, ← unhide HB, ← unhide HV]
      go_wp2_with fail
      refine (unhide G1).mono ?_
      rintro e v' ⟨rfl, hw⟩
      rw [hw]
      clear hw v'
      go_wp2_with (first | refine Sn.wpList_load_on rfl 24 (.tmp 4) rfl b 0 rfl [.int .i64 xs, .int .i64 xq, .int .i64 xl, .int .u8 xi, .string ⟨xy.toArray⟩, .int .i64 xp, .int .i64 xa, .int .i64 xn] _ (unhide RX) Tryz.underlying24 rfl (by kernel_rfl) ?_ | refine Sn.wpList_load_on rfl 24 (.tmp 5) rfl c 0 rfl [.int .i64 ys, .int .i64 yq, .int .i64 yl, .int .u8 yi, .string ⟨yy.toArray⟩, .int .i64 yp, .int .i64 ya, .int .i64 yn] _ (unhide RY) Tryz.underlying24 rfl (by kernel_rfl) ?_)
      rw [← unhide HV2]
      refine (unhide G2).mono ?_
      rintro e v' ⟨rfl, hw⟩
      rw [hw]
      clear hw v'
      go_wp2_with fail
      refine (unhide WK _).mono ?_
      rintro e v' ⟨rfl, hb⟩
      have HB3 := hide ((unhide B2).trans (hb.mono (unhide B2).size))
      clear hb
      go_wp2_with fail
      go_ret
      exact ⟨rfl, unhide HB3⟩
    · rw [Bool.eq_false_iff.2 hg] at G2
      obtain ⟨S, hS⟩ : ∃ S, S = runS newS z := ⟨_, rfl⟩
      have GS : Hid (GoodS S) := hide (by rw [hS]; exact goodS_run goodS_new fun u hu => (unhide IZ u hu).n)
      have HS := hide hS
      clear hg hS
      obtain ⟨S1, hS1⟩ : ∃ S1, S1 = appS S X := ⟨_, rfl⟩
      have GS1 : Hid (GoodS S1) := hide (by rw [hS1]; exact goodS_app (unhide GS) (unhide IX).n)
      obtain ⟨S2, hS2⟩ : ∃ S2, S2 = appS S1 Y := ⟨_, rfl⟩
      have GS2 : Hid (GoodS S2) := hide (by rw [hS2]; exact goodS_app (unhide GS1) (unhide IY).n)
      obtain ⟨P, hP⟩ : ∃ P, P = outsS S X := ⟨_, rfl⟩
      obtain ⟨Q, hQ⟩ : ∃ Q, Q = outsS S1 Y := ⟨_, rfl⟩
      obtain ⟨ac, hac⟩ : ∃ n, n = codeS S X := ⟨_, rfl⟩
      obtain ⟨bc, hbc⟩ : ∃ n, n = codeS S1 Y := ⟨_, rfl⟩
      have TO : Hid (∀ u ∈ P ++ Q, Sp.overI u.start S2.line.mark = true) := hide (by rw [hP, hQ, hS2, hS1]; exact told_over (unhide GS) (unhide IX).n (unhide IY).n)
      have YO : Hid (∀ u ∈ S2.line.row, Sp.overI u.start S2.line.mark = false) := hide (unhide GS2).line.young
      have LPQ : Hid (P.length ≤ 32 ∧ Q.length ≤ 32) := hide (by rw [hP, hQ]; exact ⟨outs_len (unhide GS) X, outs_len (unhide GS1) Y⟩)
      have FAR : Hid (xs ≠ ys → xy ≠ yy → xi = 1 → yi = 1 → ac ≠ 3 → bc ≠ 3 → codeS S Y = bc ∧ codeS (appS S Y) X = ac ∧ appS (appS S Y) X = S2) := hide fun h1 h2 h3 h4 h5 h6 => by
        have := apps_far (unhide GS) (x := X) (y := Y) (unhide IX).n (unhide IY).n (by rw [(unhide XS).1, (unhide YS).1]; exact h1) (by rw [(unhide XS).2.1, (unhide YS).2.1]; exact h2) ((unhide XS).2.2.2 h3) ((unhide YS).2.2.2 h4) (by rw [← hac]; exact h5) (by rw [← hS1, ← hbc]; exact h6)
        rw [← hS1, ← hS2, ← hac, ← hbc] at this
        exact this
      have GTY : Hid (GoodS (appS S Y)) := hide (goodS_app (unhide GS) (unhide IY).n)
      have EX := hide hS1
      have EY := hide hS2
      have EP := hide hP
      have EQ := hide hQ
      have EA := hide hac
      have EB := hide hbc
      clear hS1 hS2 hP hQ hac hbc XS YS
      go_enter Tryz.func4, Tryz.ntmps4
      go_upto_region 1 with fail
      rw [← unhide HU, ← unhide HCC, ← unhide HB, ← unhide HV]
      go_wp2_with fail
      refine (unhide G1).mono ?_
      rintro e v' ⟨rfl, hw⟩
      rw [hw]
      clear hw v' G1 HV HB HU HCC
      go_wp2_with (first | refine Sn.wpList_load_on rfl 24 (.tmp 4) rfl b 0 rfl [.int .i64 xs, .int .i64 xq, .int .i64 xl, .int .u8 xi, .string ⟨xy.toArray⟩, .int .i64 xp, .int .i64 xa, .int .i64 xn] _ (unhide RX) Tryz.underlying24 rfl (by kernel_rfl) ?_ | refine Sn.wpList_load_on rfl 24 (.tmp 5) rfl c 0 rfl [.int .i64 ys, .int .i64 yq, .int .i64 yl, .int .u8 yi, .string ⟨yy.toArray⟩, .int .i64 yp, .int .i64 ya, .int .i64 yn] _ (unhide RY) Tryz.underlying24 rfl (by kernel_rfl) ?_)
      rw [← unhide HV2]
      refine (unhide G2).mono ?_
      rintro e v' ⟨rfl, hw⟩
      rw [hw]
      clear hw v' G2 HV2 RX RY
      go_wp2_with fail
      refine (hs_new (unhide H1)).mono ?_
      rintro e v1 ⟨p, F1, rfl, h⟩
      have H2 := hide h
      clear h H1
      go_wp2_with fail
      refine (plays_any (unhide H2) goodS_new (unhide HZ) (unhide IZ) (Nat.le_trans (unhide LZ) (by omega))).mono ?_
      rintro e v2 ⟨b2, c2, F2, rfl, h⟩
      rw [← unhide HS] at h
      have H3 := hide h.drop1
      clear h H2
      go_wp2_with fail
      refine (hs_twin (unhide H3) List.mem_cons_self).mono ?_
      rintro e v3 ⟨q, F3, rfl, h⟩
      have H4 : Hid (Sn.HR w v3 (hState p F2 S :: hState q F3 S :: hItem c Y :: hItem b X :: [])) := hide h.swap
      clear h H3
      have RJ := hide (HR.item (x := X) (b := b) (unhide H4) (by simp))
      go_wp2_with (refine Sn.wpList_load_on rfl 24 (.tmp 4) rfl b 0 rfl (itemC X) _ (unhide RJ) Tryz.underlying24 rfl (by kernel_rfl) ?_)
      rw [← unhide HX]
      have AP := hide (hs_apply (unhide H4) (unhide GS) X (unhide IX).n (unhide IX).kind)
      rw [← unhide EX, ← unhide EP, ← unhide EA] at AP
      refine (unhide AP).mono ?_
      rintro e v4 ⟨a4, c4, F4, rfl, h⟩
      have H5 : Hid (Sn.HR w v4 (hState p F4 S1 :: hOuts a4 c4 P :: hState q F3 S :: hItem c Y :: hItem b X :: [])) := hide h.swap
      clear h H4 AP RJ
      have RJ := hide (HR.item (x := Y) (b := c) (unhide H5) (by simp))
      go_wp2_with (refine Sn.wpList_load_on rfl 24 (.tmp 5) rfl c 0 rfl (itemC Y) _ (unhide RJ) Tryz.underlying24 rfl (by kernel_rfl) ?_)
      rw [← unhide HY]
      have AP := hide (hs_apply (unhide H5) (unhide GS1) Y (unhide IY).n (unhide IY).kind)
      rw [← unhide EY, ← unhide EQ, ← unhide EB] at AP
      refine (unhide AP).mono ?_
      rintro e v5 ⟨a5, c5, F5, rfl, h⟩
      have H6 : Hid (Sn.HR w v5 (hState p F5 S2 :: hOuts a5 c5 Q :: hOuts a4 c4 P :: hState q F3 S :: hItem c Y :: hItem b X :: [])) := hide h.swap
      clear h H5 AP RJ
      go_wp2_with fail
      refine (hs_open (unhide H6) List.mem_cons_self (unhide GS2)).mono ?_
      rintro e v6 ⟨a6, c6, rfl, h⟩
      have h' : Sn.HR w v6 (hOuts a5 c5 Q :: hOuts a4 c4 P :: hOuts a6 c6 S2.line.row :: hState p F5 S2 :: hState q F3 S :: hItem c Y :: hItem b X :: []) := h.perm (List.perm_append_comm (l₁ := [_, _]) (l₂ := [_, _]) |>.append_right [_, _, _])
      obtain ⟨a7, c7, v7, e1, e2⟩ := HR.cat h' (by have := unhide LPQ; omega) 29
      obtain ⟨T, hT⟩ : ∃ T, T = P ++ Q := ⟨_, rfl⟩
      have hTl : P.length + Q.length = T.length := by rw [hT, List.length_append]
      rw [← hT] at e2 TO
      rw [hTl] at e1
      have LT : Hid (T.length ≤ 64) := hide (by have := unhide LPQ; omega)
      have HAP := hide e1
      have H7 : Hid (Sn.HR w v7 (hOuts a7 c7 T :: hOuts a6 c6 S2.line.row :: hState p F5 S2 :: hState q F3 S :: hItem c Y :: hItem b X :: [])) := hide (e2.sub (List.Sublist.cons_cons _ (List.Sublist.cons _ (List.Sublist.refl _))))
      obtain ⟨O, hO⟩ : ∃ O, O = S2.line.row := ⟨_, rfl⟩
      have LO : Hid (O.length ≤ 32) := hide (by rw [hO]; exact (unhide GS2).mild.most)
      rw [← hO] at H7 YO ⊢
      obtain ⟨mk, hmk⟩ : ∃ mk, mk = S2.line.mark := ⟨_, rfl⟩
      rw [← hmk] at TO YO
      have HMK := hide hmk
      clear h h' e1 e2 H6 hT hTl hO hmk LPQ EP EQ
      generalize P.length = np at *
      generalize Q.length = nq at *
      go_wp2_with (at_builtin; refine Sn.wpList_app rfl _ _ 29 29 29 rfl rfl rfl rfl (unhide HAP) ?_)
      clear HAP
      go_loopw [17] (fun i wr => ∃ k : Nat, i = .int .i64 (k : Int) ∧ k ≤ T.length ∧ Sn.HR w wr (hOuts a7 c7 T :: hOuts a6 c6 O :: hState p F5 S2 :: hState q F3 S :: hItem c Y :: hItem b X :: [])) (fun i _ => T.length - (intOf i).toNat)
      case atStart => exact ⟨0, rfl, Nat.zero_le _, unhide H7⟩
      case round =>
        obtain ⟨k, rfl, hk, hr⟩ := hrel
        clear H7
        have HRR := hide hr
        clear hr
        by_cases hlt : k < T.length
        · have g0 : (0 : Int) ≤ (k : Int) := by omega
          have g1 : (k : Int) < (T.length : Int) := by omega
          have hlt64 := unhide LT
          have hwk : IntKind.i64.wrap ((k : Int) + 1) = (k : Int) + 1 := Go.IntWalk.i64_in _ (by omega)
          obtain ⟨u, hu⟩ : ∃ u, T[k]? = some u := ⟨_, List.getElem?_eq_getElem hlt⟩
          have ov := unhide TO u (List.mem_of_getElem? hu)
          obtain ⟨g, rfl, hrg⟩ := out_row ((unhide HRR).ok _ List.mem_cons_self : OutK.Row wr 0 a7 c7 T) hu
          obtain ⟨CL, hCL⟩ : ∃ CL : World → Prop, CL = fun v => Moved (fun _ => False) wr v := ⟨_, rfl⟩
          have un : ∀ v, CL v → Moved (fun _ => False) wr v := fun v k => by rw [hCL] at k; exact k
          have BS : Hid (CL wr.drew) := hide (by rw [hCL]; exact (Moved.refl _ _).drew)
          have hgl : g < wr.heap.size := World.block_lt_of_cell? _ _ (hrg 1 _ rfl)
          have q1 : ∀ s : SW CL, s.w.cell? ⟨g, k * 10 + 1, none⟩ = some (.int .i64 u.start) := fun s => ((un _ s.ok).cell (p := ⟨g, k * 10 + 1, none⟩) hgl id).trans (hrg 1 _ rfl)
          have KM : Hid (∀ v, CL v → Calls Tryz.prog 12 #[.pointer (some ⟨p, 0, none⟩)] v fun e v' => e = .returned (.int .i64 mk) ∧ v' = v) := hide fun v hv => by
            have := hs_mark (S := S2) (p := p) (F := F5) ((unhide HRR).below (below_of_none (un v hv))) (by simp)
            rw [← unhide HMK] at this
            exact this
          have HR2 : Hid (Sn.HR w wr.drew (hOuts (some ⟨g, 0, none⟩) c7 T :: hOuts a6 c6 O :: hState p F5 S2 :: hState q F3 S :: hItem c Y :: hItem b X :: [])) := hide ((unhide HRR).below ((Below.refl _ _).drew))
          have KO : Hid (∀ v, Calls Tryz.prog 15 #[.int .i64 u.start, .int .i64 mk] v fun e v' => e = .returned (.bool true) ∧ v' = v) := hide fun v => by
            have := Sp.over_any u.start mk v
            rw [ov] at this
            exact this
          generalize u.start = us at *
          clear hu hrg hCL un HRR ov
          go_upto_region 13 with fail
          refine wp_region_chain (S := CL) [true, true, true, true, true, true, false, false, false] [false, false, false, false, false, false, true, true, true] (by kernel_rfl) (by kernel_rfl) (by kernel_rfl) (unhide BS) ?_
          apply Exists.intro
          apply And.intro
          · intro q0
            have n0 : Nonempty (SK CL q0.w) := ⟨⟨q0, rfl⟩⟩
            simp only [pickM]
            repeat (go_big_quiet_step (fail))
            exact wpQuiet_nil rfl
          · simp only [pickZ]
            refine chain_call 12 #[.pointer (some ⟨p, 0, none⟩)] rfl (by simp [go_sem]) ?_
            refine (unhide KM _ (unhide BS)).mono ?_
            rintro e v' ⟨rfl, hw⟩
            rw [hw]
            refine ⟨_, rfl, unhide BS, ?_⟩
            clear hw v'
            go_simp
            refine chain_call 15 #[.int .i64 us, .int .i64 mk] rfl (by simp [go_sem]) ?_
            refine (unhide KO _).mono ?_
            rintro e v' ⟨rfl, hw⟩
            rw [hw]
            refine ⟨_, rfl, unhide BS, ?_⟩
            clear hw v'
            go_simp
            refine chain_step (.bool false) wr.drew rfl (by simp [go_sem]) (unhide BS) ?_
            simp only [chainM]
            go_simp
            go_wp2_with fail
            exact ⟨⟨k + 1, rfl, by omega, unhide HR2⟩, by simp [intOf]; omega⟩
        · have hke : k = T.length := by omega
          have H8 : Hid (Sn.HR w wr (hOuts a6 c6 O :: hOuts a7 c7 T :: hState p F5 S2 :: hState q F3 S :: hItem c Y :: hItem b X :: [])) := hide (unhide HRR).swap
          have dk : decide ((k : Int) < (T.length : Int)) = false := decide_eq_false (by omega)
          have gk : ¬ (k : Int) < (T.length : Int) := by omega
          clear HRR
          go_wp2_with fail
          go_loopw [18] (fun i wr => ∃ k : Nat, i = .int .i64 (k : Int) ∧ k ≤ O.length ∧ Sn.HR w wr (hOuts a6 c6 O :: hOuts a7 c7 T :: hState p F5 S2 :: hState q F3 S :: hItem c Y :: hItem b X :: [])) (fun i _ => O.length - (intOf i).toNat)
          case atStart => exact ⟨0, rfl, Nat.zero_le _, unhide H8⟩
          case round =>
            obtain ⟨k, rfl, hk, hr⟩ := hrel
            clear H8
            have HRR := hide hr
            clear hr
            by_cases hlt : k < O.length
            · have g0 : (0 : Int) ≤ (k : Int) := by omega
              have g1 : (k : Int) < (O.length : Int) := by omega
              have hlt32 := unhide LO
              have hwk : IntKind.i64.wrap ((k : Int) + 1) = (k : Int) + 1 := Go.IntWalk.i64_in _ (by omega)
              obtain ⟨u, hu⟩ : ∃ u, O[k]? = some u := ⟨_, List.getElem?_eq_getElem hlt⟩
              have ov := unhide YO u (List.mem_of_getElem? hu)
              obtain ⟨g, rfl, hrg⟩ := out_row ((unhide HRR).ok _ List.mem_cons_self : OutK.Row wr 0 a6 c6 O) hu
              obtain ⟨CL, hCL⟩ : ∃ CL : World → Prop, CL = fun v => Moved (fun _ => False) wr v := ⟨_, rfl⟩
              have un : ∀ v, CL v → Moved (fun _ => False) wr v := fun v k => by rw [hCL] at k; exact k
              have BS : Hid (CL wr.drew) := hide (by rw [hCL]; exact (Moved.refl _ _).drew)
              have hgl : g < wr.heap.size := World.block_lt_of_cell? _ _ (hrg 1 _ rfl)
              have q1 : ∀ s : SW CL, s.w.cell? ⟨g, k * 10 + 1, none⟩ = some (.int .i64 u.start) := fun s => ((un _ s.ok).cell (p := ⟨g, k * 10 + 1, none⟩) hgl id).trans (hrg 1 _ rfl)
              have KM : Hid (∀ v, CL v → Calls Tryz.prog 12 #[.pointer (some ⟨p, 0, none⟩)] v fun e v' => e = .returned (.int .i64 mk) ∧ v' = v) := hide fun v hv => by
                have := hs_mark (S := S2) (p := p) (F := F5) ((unhide HRR).below (below_of_none (un v hv))) (by simp)
                rw [← unhide HMK] at this
                exact this
              have HR2 : Hid (Sn.HR w wr.drew (hOuts (some ⟨g, 0, none⟩) c6 O :: hOuts a7 c7 T :: hState p F5 S2 :: hState q F3 S :: hItem c Y :: hItem b X :: [])) := hide ((unhide HRR).below ((Below.refl _ _).drew))
              have KO : Hid (∀ v, Calls Tryz.prog 15 #[.int .i64 u.start, .int .i64 mk] v fun e v' => e = .returned (.bool false) ∧ v' = v) := hide fun v => by
                have := Sp.over_any u.start mk v
                rw [ov] at this
                exact this
              generalize u.start = us at *
              clear hu hrg hCL un HRR ov
              go_upto_region 18 with fail
              refine wp_region_chain (S := CL) [true, true, true, true, true, true, false, false] [false, false, false, false, false, false, true, true] (by kernel_rfl) (by kernel_rfl) (by kernel_rfl) (unhide BS) ?_
              apply Exists.intro
              apply And.intro
              · intro q0
                have n0 : Nonempty (SK CL q0.w) := ⟨⟨q0, rfl⟩⟩
                simp only [pickM]
                repeat (go_big_quiet_step (fail))
                exact wpQuiet_nil rfl
              · simp only [pickZ]
                refine chain_call 12 #[.pointer (some ⟨p, 0, none⟩)] rfl (by simp [go_sem]) ?_
                refine (unhide KM _ (unhide BS)).mono ?_
                rintro e v' ⟨rfl, hw⟩
                rw [hw]
                refine ⟨_, rfl, unhide BS, ?_⟩
                clear hw v'
                go_simp
                refine chain_call 15 #[.int .i64 us, .int .i64 mk] rfl (by simp [go_sem]) ?_
                refine (unhide KO _).mono ?_
                rintro e v' ⟨rfl, hw⟩
                rw [hw]
                refine ⟨_, rfl, unhide BS, ?_⟩
                clear hw v'
                simp only [chainM]
                go_simp
                go_wp2_with fail
                exact ⟨⟨k + 1, rfl, by omega, unhide HR2⟩, by simp [intOf]; omega⟩
            · have hke : k = O.length := by omega
              have dk : decide ((k : Int) < (O.length : Int)) = false := decide_eq_false (by omega)
              have gk : ¬ (k : Int) < (O.length : Int) := by omega
              obtain ⟨p0, p1, p2, p3, p4, p5⟩ := unhide CELLS _ _ (unhide HRR) (by simp) (by simp)
              by_cases e1 : xs = ys
              · have de1 : decide (xs = ys) = true := decide_eq_true e1
                have be1 : (xs == ys) = true := by rw [e1]; exact beq_self_eq_true _
                have HH := hide (unhide HRR)
                clear HRR
                go_wp2_with fail
                refine (unhide WK _).mono ?_
                rintro e u8 ⟨rfl, hb⟩
                have HB := hide ((unhide HH).bel.trans (hb.mono (unhide HH).bel.size))
                clear hb HH
                go_wp2_with fail
                go_ret
                exact ⟨rfl, unhide HB⟩
              · have de1 : decide (xs = ys) = false := decide_eq_false e1
                have be1 : (xs == ys) = false := Bool.eq_false_iff.2 fun h => e1 (eq_of_beq h)
                by_cases e2 : xy = yy
                · have de2 : decide (xy = yy) = true := decide_eq_true e2
                  have be2 : (xy == yy) = true := by rw [e2]; exact beq_self_eq_true _
                  have HH := hide (unhide HRR)
                  clear HRR
                  go_wp2_with fail
                  refine (unhide WK _).mono ?_
                  rintro e u8 ⟨rfl, hb⟩
                  have HB := hide ((unhide HH).bel.trans (hb.mono (unhide HH).bel.size))
                  clear hb HH
                  go_wp2_with fail
                  go_ret
                  exact ⟨rfl, unhide HB⟩
                · have de2 : decide (xy = yy) = false := decide_eq_false e2
                  have be2 : (xy == yy) = false := Bool.eq_false_iff.2 fun h => e2 (eq_of_beq h)
                  by_cases e3 : xi = 1
                  · have de3 : decide (xi = 1) = true := decide_eq_true e3
                    have be3 : (xi == 1) = true := by rw [e3]; exact beq_self_eq_true _
                    by_cases e4 : yi = 1
                    · have de4 : decide (yi = 1) = true := decide_eq_true e4
                      have be4 : (yi == 1) = true := by rw [e4]; exact beq_self_eq_true _
                      by_cases e5 : ac = 3
                      · have de5 : decide (ac = 3) = true := decide_eq_true e5
                        have be5 : (ac == 3) = true := by rw [e5]; exact beq_self_eq_true _
                        have HH := hide (unhide HRR)
                        clear HRR
                        go_wp2_with fail
                        refine (unhide WK _).mono ?_
                        rintro e u8 ⟨rfl, hb⟩
                        have HB := hide ((unhide HH).bel.trans (hb.mono (unhide HH).bel.size))
                        clear hb HH
                        go_wp2_with fail
                        go_ret
                        exact ⟨rfl, unhide HB⟩
                      · have de5 : decide (ac = 3) = false := decide_eq_false e5
                        have be5 : (ac == 3) = false := Bool.eq_false_iff.2 fun h => e5 (eq_of_beq h)
                        by_cases e6 : bc = 3
                        · have de6 : decide (bc = 3) = true := decide_eq_true e6
                          have be6 : (bc == 3) = true := by rw [e6]; exact beq_self_eq_true _
                          have HH := hide (unhide HRR)
                          clear HRR
                          go_wp2_with fail
                          refine (unhide WK _).mono ?_
                          rintro e u8 ⟨rfl, hb⟩
                          have HB := hide ((unhide HH).bel.trans (hb.mono (unhide HH).bel.size))
                          clear hb HH
                          go_wp2_with fail
                          go_ret
                          exact ⟨rfl, unhide HB⟩
                        · have de6 : decide (bc = 3) = false := decide_eq_false e6
                          have be6 : (bc == 3) = false := Bool.eq_false_iff.2 fun h => e6 (eq_of_beq h)
                          obtain ⟨f1, f2, f3⟩ := unhide FAR e1 e2 e3 e4 e5 e6
                          have H9 : Hid (Sn.HR w wr (hState q F3 S :: hOuts a6 c6 O :: hOuts a7 c7 T :: hState p F5 S2 :: hItem c Y :: hItem b X :: [])) := hide ((unhide HRR).perm (List.perm_append_comm (l₁ := [_, _, _]) (l₂ := [_]) |>.append_right [_, _]))
                          clear HRR
                          have RJ := hide (HR.item (x := Y) (b := c) (unhide H9) (by simp))
                          go_wp2_with (refine Sn.wpList_load_on rfl 24 (.tmp 5) rfl c 0 rfl (itemC Y) _ (unhide RJ) Tryz.underlying24 rfl (by kernel_rfl) ?_)
                          rw [← unhide HY]
                          have AP := hide (hs_apply (unhide H9) (unhide GS) Y (unhide IY).n (unhide IY).kind)
                          rw [f1] at AP
                          generalize (outsS S Y).length = n5 at *
                          refine (unhide AP).mono ?_
                          rintro e v8 ⟨a8, c8, F8, rfl, h⟩
                          have HA := hide h.drop1
                          clear h H9 AP RJ p0 p1 p2 p3 p4 p5
                          have RJ := hide (HR.item (x := X) (b := b) (unhide HA) (by simp))
                          go_wp2_with (refine Sn.wpList_load_on rfl 24 (.tmp 4) rfl b 0 rfl (itemC X) _ (unhide RJ) Tryz.underlying24 rfl (by kernel_rfl) ?_)
                          rw [← unhide HX]
                          have AP := hide (hs_apply (unhide HA) (unhide GTY) X (unhide IX).n (unhide IX).kind)
                          rw [f2, f3] at AP
                          generalize (outsS (appS S Y) X).length = n6 at *
                          have ea : (ac == ac) = true := beq_self_eq_true _
                          have eb : (bc == bc) = true := beq_self_eq_true _
                          refine (unhide AP).mono ?_
                          rintro e v9 ⟨a9, c9, F9, rfl, h⟩
                          have HB := hide h.drop1
                          clear h HA AP RJ
                          go_wp2_with fail
                          refine (hs_same (S := S2) (T := S2) (p := p) (q := q) (F := F5) (G := F9) (unhide HB) (by simp) (by simp) (unhide GS2) (unhide GS2)).mono ?_
                          rintro e u1 ⟨rfl, h⟩
                          rw [sameS_refl]
                          have HD := hide h
                          clear h HB
                          go_wp2_with fail
                          refine (unhide WK _).mono ?_
                          rintro e u8 ⟨rfl, hb⟩
                          have HE := hide ((unhide HD).bel.trans (hb.mono (unhide HD).bel.size))
                          clear hb HD
                          go_wp2_with fail
                          go_ret
                          exact ⟨rfl, unhide HE⟩
                    · have de4 : decide (yi = 1) = false := decide_eq_false e4
                      have be4 : (yi == 1) = false := Bool.eq_false_iff.2 fun h => e4 (eq_of_beq h)
                      have HH := hide (unhide HRR)
                      clear HRR
                      go_wp2_with fail
                      refine (unhide WK _).mono ?_
                      rintro e u8 ⟨rfl, hb⟩
                      have HB := hide ((unhide HH).bel.trans (hb.mono (unhide HH).bel.size))
                      clear hb HH
                      go_wp2_with fail
                      go_ret
                      exact ⟨rfl, unhide HB⟩
                  · have de3 : decide (xi = 1) = false := decide_eq_false e3
                    have be3 : (xi == 1) = false := Bool.eq_false_iff.2 fun h => e3 (eq_of_beq h)
                    have HH := hide (unhide HRR)
                    clear HRR
                    go_wp2_with fail
                    refine (unhide WK _).mono ?_
                    rintro e u8 ⟨rfl, hb⟩
                    have HB := hide ((unhide HH).bel.trans (hb.mono (unhide HH).bel.size))
                    clear hb HH
                    go_wp2_with fail
                    go_ret
                    exact ⟨rfl, unhide HB⟩
theorem apart_row (a : Option Addr) (ca : Nat) (z : List ItemV) (x y : ItemV) (w : World) (_ : z.length ≤ maxLen) (hz : ItemK.At w a z) (iz : ∀ u ∈ z, u.In) (ix : x.In) (iy : y.In) :
    Calls Tryz.prog 4 #[.slice a z.length ca, itemV x, itemV y] w fun e w' => e = .returned (.bool true) ∧ Below w.heap.size w w' := apart_any x y w hz iz ix iy
end Go.Proofs.YtigmhljaoicdbabGreat

/- What ShardMakes does: it answers true, and nothing that was there has turned. No conditions. -/
import Derived.Test.YtigmhljaoicdbaaGreatShDocO
import Derived.Test.YtigmhljaoicdbaaGreatShPlays
import Derived.Test.YtigmhljaoicdbaaGreatGRTell
namespace Go.Proofs.YtigmhljaoicdbaaGreat
open Go.RowKit
theorem setAll_young {m : Int} : ∀ {xs r : List (Win AggV)}, (∀ a ∈ r, Sp.overI a.start m = false) → (setAll m r xs).2 = 0 → ∀ a ∈ (setAll m r xs).1, Sp.overI a.start m = false
  | [], r, h, _ => h
  | x :: xs, r, h, h0 => by
    cases ho : Sp.overI x.start m with
    | true => rw [setAll_over ho] at h0; cases h0
    | false =>
      by_cases hs : (setS SO r x).2 = 0
      · rw [setAll_set ho hs] at h0 ⊢
        refine setAll_young (fun a ha => ?_) h0
        rcases set_ways (O := SO) r x with ⟨_, e⟩ | ⟨_, ⟨_, e⟩ | ⟨_, ⟨_, e⟩ | ⟨_, e⟩⟩⟩
        · rw [e] at ha; exact h a ha
        · rw [e] at ha; exact h a ha
        · rw [e] at ha; exact h a ha
        · rw [e] at ha
          rcases ins_mem ha with rfl | ha
          · exact ho
          · exact h a ha
      · rw [setAll_no ho hs] at h0; exact absurd h0 hs
theorem goodL_of {m : Int} {o : List (Win AggV)} (h : (ofL m o).2 = 0) : GoodL (ofL m o).1 := by
  unfold ofL at h ⊢
  split at h
  · rename_i hr
    rw [if_pos hr]
    exact ⟨good_setAll good_nil, hr, setAll_young (fun a ha => by cases ha) h⟩
  · cases h
theorem goodS_of {m : Int} {o : List (Win AggV)} {lows : List Int} {l : List Sn.Ent} (h : (ofS m o lows l).2 = 0) (hm : Mild (ofS m o lows l).1.line.row) : GoodS (ofS m o lows l).1 := by
  unfold ofS at h hm ⊢
  split at h
  · rename_i h0
    rw [if_pos h0] at hm ⊢
    split at h
    · rename_i hg
      rw [if_pos hg] at hm ⊢
      exact ⟨goodL_of h0, hm, Sn.good_ok hg⟩
    · cases h
  · rename_i h0; exact absurd h h0
theorem lit2_at {v v' : World} {cs : Array Value} {ty : TypeId} (x y : ItemV) (h : cs = (itemC x ++ itemC y).toArray) (hv : v' = v.alloc (.cells cs ty)) : ItemK.At v' (some ⟨v.heap.size, 0, none⟩) [x, y] := by
  refine .inr ⟨_, _, rfl, by rw [hv]; simp, fun j u hu => ?_⟩
  rw [Nat.zero_add, hv, World.cell?_alloc_new, h]
  have hu' : (itemC x ++ (itemC y ++ []))[j]? = some u := hu
  rw [List.append_nil] at hu'
  simpa using hu'
set_option maxRecDepth 100000 in
set_option maxHeartbeats 60000000 in
theorem makes_any {aO aL aE : Option Addr} {cO cL cE : Nat} (m : Int) {op : List (Win AggV)} {lows : List Int} {l : List Sn.Ent} (x y : ItemV) (w : World) (hO : IsOuts w aO op.length cO op) (hL : Sn.IntK.At w aL lows) (hE : Sn.RefK.At w aE l) (iE : ∀ u ∈ l, u.In) (ix : x.In) (iy : y.In) :
    Calls Tryz.prog 4 #[.int .i64 m, .slice aO op.length cO, .slice aL lows.length cL, .slice aE l.length cE, itemV x, itemV y] w fun e w' => e = .returned (.bool true) ∧ Below w.heap.size w w' := by
  obtain ⟨X, hX⟩ : ∃ X, X = x := ⟨_, rfl⟩
  obtain ⟨Y, hY⟩ : ∃ Y, Y = y := ⟨_, rfl⟩
  obtain ⟨xs, xq, xl, xk, xy, xp, xa, xn⟩ := x
  obtain ⟨ys, yq, yl, yk, yy, yp, ya, yn⟩ := y
  obtain ⟨xi, hxi⟩ : ∃ xi : Int, xi = (xk : Int) := ⟨_, rfl⟩
  obtain ⟨yi, hyi⟩ : ∃ yi : Int, yi = (yk : Int) := ⟨_, rfl⟩
  have hCX : itemC X = [.int .i64 xs, .int .i64 xq, .int .i64 xl, .int .u8 xi, .string ⟨xy.toArray⟩, .int .i64 xp, .int .i64 xa, .int .i64 xn] := by rw [hX, hxi]; rfl
  have hCY : itemC Y = [.int .i64 ys, .int .i64 yq, .int .i64 yl, .int .u8 yi, .string ⟨yy.toArray⟩, .int .i64 yp, .int .i64 ya, .int .i64 yn] := by rw [hY, hyi]; rfl
  have hVX : itemV ⟨xs, xq, xl, xk, xy, xp, xa, xn⟩ = .agg #[.int .i64 xs, .int .i64 xq, .int .i64 xl, .int .u8 xi, .string ⟨xy.toArray⟩, .int .i64 xp, .int .i64 xa, .int .i64 xn] := by rw [hxi]; rfl
  have hVY : itemV ⟨ys, yq, yl, yk, yy, yp, ya, yn⟩ = .agg #[.int .i64 ys, .int .i64 yq, .int .i64 yl, .int .u8 yi, .string ⟨yy.toArray⟩, .int .i64 yp, .int .i64 ya, .int .i64 yn] := by rw [hyi]; rfl
  obtain ⟨b, hb⟩ : ∃ b, b = w.heap.size := ⟨_, rfl⟩
  obtain ⟨U, hU⟩ : ∃ U, U = w.alloc (.cells #[.int .i64 xs, .int .i64 xq, .int .i64 xl, .int .u8 xi, .string ⟨xy.toArray⟩, .int .i64 xp, .int .i64 xa, .int .i64 xn] 42) := ⟨_, rfl⟩
  have b0 : Below w.heap.size w U := by rw [hU]; exact (Below.refl _ _).alloc (Nat.le_refl _) _
  have ri0 : U.rangeAt b 0 (itemC X) := fun j u hu => by rw [Nat.zero_add, hU, hb, World.cell?_alloc_new, ← show (itemC X).toArray = #[.int .i64 xs, .int .i64 xq, .int .i64 xl, .int .u8 xi, .string ⟨xy.toArray⟩, .int .i64 xp, .int .i64 xa, .int .i64 xn] by rw [hCX]]; simpa using hu
  obtain ⟨c, hcc⟩ : ∃ c, c = w.heap.size + 1 := ⟨_, rfl⟩
  have hc : c = U.heap.size := by rw [hcc, hU]; simp
  obtain ⟨V, hV⟩ : ∃ V, V = U.alloc (.cells #[.int .i64 ys, .int .i64 yq, .int .i64 yl, .int .u8 yi, .string ⟨yy.toArray⟩, .int .i64 yp, .int .i64 ya, .int .i64 yn] 42) := ⟨_, rfl⟩
  have b1' : Below U.heap.size U V := by rw [hV]; exact (Below.refl _ _).alloc (Nat.le_refl _) _
  have b1 : Below w.heap.size w V := b0.trans (b1'.mono b0.size)
  have ri1 : V.rangeAt c 0 (itemC Y) := fun j u hu => by rw [Nat.zero_add, hV, hc, World.cell?_alloc_new, ← show (itemC Y).toArray = #[.int .i64 ys, .int .i64 yq, .int .i64 yl, .int .u8 yi, .string ⟨yy.toArray⟩, .int .i64 yp, .int .i64 ya, .int .i64 yn] by rw [hCY]]; simpa using hu
  have H0 : Sn.HR w V (hItem c Y :: hItem b X :: []) := by
    have h1 := HR.boxed (v' := U) (Sn.HR.start w) X b0 (by rw [← hb]; exact ri0)
    have h2 := HR.boxed (v' := V) h1 Y b1' (by rw [← hc]; exact ri1)
    rw [← hb, ← hc] at h2
    exact h2
  have RX : Hid (V.rangeAt b 0 [.int .i64 xs, .int .i64 xq, .int .i64 xl, .int .u8 xi, .string ⟨xy.toArray⟩, .int .i64 xp, .int .i64 xa, .int .i64 xn]) := hide (by rw [← hCX]; exact HR.item H0 (List.mem_cons_of_mem _ List.mem_cons_self))
  have RY : Hid (V.rangeAt c 0 [.int .i64 ys, .int .i64 yq, .int .i64 yl, .int .u8 yi, .string ⟨yy.toArray⟩, .int .i64 yp, .int .i64 ya, .int .i64 yn]) := hide (by rw [← hCY]; exact ri1)
  obtain ⟨V2, hV2⟩ : ∃ V2, V2 = V.alloc (.cells #[.int .i64 xs, .int .i64 xq, .int .i64 xl, .int .u8 xi, .string ⟨xy.toArray⟩, .int .i64 xp, .int .i64 xa, .int .i64 xn, .int .i64 ys, .int .i64 yq, .int .i64 yl, .int .u8 yi, .string ⟨yy.toArray⟩, .int .i64 yp, .int .i64 ya, .int .i64 yn] 42) := ⟨_, rfl⟩
  have b2 : Below V.heap.size V V2 := by rw [hV2]; exact (Below.refl _ _).alloc (Nat.le_refl _) _
  have H1 := hide (H0.below b2)
  have G2 : Hid (Calls Tryz.prog 8 #[.slice (some ⟨V.heap.size, 0, none⟩) 2 2] V2 fun e w' => e = .returned (.bool (tooGreatI [X, Y])) ∧ w' = V2) := hide (greatI_any (cap := 2) (lit2_at X Y (by rw [hCX, hCY]; rfl) hV2))
  have B1 := hide b1
  have B2 := hide (b1.trans (b2.mono b1.size))
  have WK := hide (fun W => wakes_any W)
  have HB := hide hb
  have HU := hide hU
  have HCC := hide hcc
  have HV := hide hV
  have HV2 := hide hV2
  have HX : Hid (itemV X = .agg (itemC X).toArray) := hide rfl
  have HY : Hid (itemV Y = .agg (itemC Y).toArray) := hide rfl
  have HO := hide hO
  have HL := hide hL
  have HE := hide hE
  have IE := hide iE
  have IX : Hid X.In := hide (by rw [hX]; exact ix)
  have IY : Hid Y.In := hide (by rw [hY]; exact iy)
  rw [hVX, hVY]
  clear hb hU hc hcc hV b0 b1' b1 b2 hV2 hO hL hE iE ix iy ri0 ri1 hCX hCY hVX hVY hX hY hxi hyi H0
  by_cases c1 : (60 : Int) < (op.length : Int)
  · go_enter Tryz.func4, Tryz.ntmps4
    go_upto_region 1 with fail
    rw [← unhide HU, ← unhide HCC, ← unhide HB, ← unhide HV]
    go_wp2_with fail
    refine (unhide WK _).mono ?_
    rintro e v' ⟨rfl, hb⟩
    have HB3 := hide ((unhide B1).trans (hb.mono (unhide B1).size))
    clear hb
    go_wp2_with fail
    go_ret
    exact ⟨rfl, unhide HB3⟩
  · have LO : Hid (op.length ≤ 60) := hide (by omega)
    by_cases c2 : (20 : Int) < (lows.length : Int)
    · go_enter Tryz.func4, Tryz.ntmps4
      go_upto_region 1 with fail
      rw [← unhide HU, ← unhide HCC, ← unhide HB, ← unhide HV]
      go_wp2_with fail
      refine (unhide WK _).mono ?_
      rintro e v' ⟨rfl, hb⟩
      have HB3 := hide ((unhide B1).trans (hb.mono (unhide B1).size))
      clear hb
      go_wp2_with fail
      go_ret
      exact ⟨rfl, unhide HB3⟩
    · by_cases c3 : (100 : Int) < (l.length : Int)
      · go_enter Tryz.func4, Tryz.ntmps4
        go_upto_region 1 with fail
        rw [← unhide HU, ← unhide HCC, ← unhide HB, ← unhide HV]
        go_wp2_with fail
        refine (unhide WK _).mono ?_
        rintro e v' ⟨rfl, hb⟩
        have HB3 := hide ((unhide B1).trans (hb.mono (unhide B1).size))
        clear hb
        go_wp2_with fail
        go_ret
        exact ⟨rfl, unhide HB3⟩
      · have LE : Hid (l.length ≤ 100) := hide (by omega)
        by_cases hg : tooGreatI [X, Y] = true
        · rw [hg] at G2
          go_enter Tryz.func4, Tryz.ntmps4
          go_upto_region 1 with fail
          rw [← unhide HU, ← unhide HCC, ← unhide HB, ← unhide HV]
          go_wp2_with (first | refine Sn.wpList_load_on rfl 42 (.tmp 10) rfl b 0 rfl [.int .i64 xs, .int .i64 xq, .int .i64 xl, .int .u8 xi, .string ⟨xy.toArray⟩, .int .i64 xp, .int .i64 xa, .int .i64 xn] _ (unhide RX) Tryz.underlying42 rfl (by kernel_rfl) ?_ | refine Sn.wpList_load_on rfl 42 (.tmp 11) rfl c 0 rfl [.int .i64 ys, .int .i64 yq, .int .i64 yl, .int .u8 yi, .string ⟨yy.toArray⟩, .int .i64 yp, .int .i64 ya, .int .i64 yn] _ (unhide RY) Tryz.underlying42 rfl (by kernel_rfl) ?_)
          rw [← unhide HV2]
          refine (unhide G2).mono ?_
          rintro e v' ⟨rfl, hw⟩
          rw [hw]
          clear hw v'
          go_wp2_with fail
          refine (unhide WK _).mono ?_
          rintro e v' ⟨rfl, hb⟩
          have HB3 := hide ((unhide B2).trans (hb.mono (unhide B2).size))
          clear hb
          go_wp2_with fail
          go_ret
          exact ⟨rfl, unhide HB3⟩
        · rw [Bool.eq_false_iff.2 hg] at G2
          clear hg
          go_enter Tryz.func4, Tryz.ntmps4
          go_upto_region 1 with fail
          rw [← unhide HU, ← unhide HCC, ← unhide HB, ← unhide HV]
          go_wp2_with (first | refine Sn.wpList_load_on rfl 42 (.tmp 10) rfl b 0 rfl [.int .i64 xs, .int .i64 xq, .int .i64 xl, .int .u8 xi, .string ⟨xy.toArray⟩, .int .i64 xp, .int .i64 xa, .int .i64 xn] _ (unhide RX) Tryz.underlying42 rfl (by kernel_rfl) ?_ | refine Sn.wpList_load_on rfl 42 (.tmp 11) rfl c 0 rfl [.int .i64 ys, .int .i64 yq, .int .i64 yl, .int .u8 yi, .string ⟨yy.toArray⟩, .int .i64 yp, .int .i64 ya, .int .i64 yn] _ (unhide RY) Tryz.underlying42 rfl (by kernel_rfl) ?_)
          rw [← unhide HV2]
          refine (unhide G2).mono ?_
          rintro e v' ⟨rfl, hw⟩
          rw [hw]
          clear hw v' G2 RX RY HV2 HU HCC HB HV
          go_wp2_with fail
          go_loopw [13] (fun i wr => ∃ k : Nat, i = .int .i64 (k : Int) ∧ k ≤ op.length ∧ wr = V2) (fun i _ => op.length - (intOf i).toNat)
          case atStart => exact ⟨0, rfl, Nat.zero_le _, rfl⟩
          case round =>
            obtain ⟨k, rfl, hk, hwr⟩ := hrel
            rw [hwr]
            clear hwr
            by_cases hlt : k < op.length
            · have gk0 : (0 : Int) ≤ (k : Int) := by omega
              have gk1 : (k : Int) < (op.length : Int) := by omega
              have hwk : IntKind.i64.wrap ((k : Int) + 1) = (k : Int) + 1 := Go.IntWalk.i64_in _ (by have := unhide LO; omega)
              obtain ⟨u, hu⟩ : ∃ u, op[k]? = some u := ⟨_, List.getElem?_eq_getElem hlt⟩
              obtain ⟨g, og, rfl, hrg, hgl⟩ := (unhide HO).at hu
              have hc0 : V2.cell? ⟨g, og + k * 10, none⟩ = some (.string ⟨u.key.toArray⟩) := ((unhide B2).cell (p := ⟨g, og + k * 10 + 0, none⟩) hgl).trans (hrg 0 _ rfl)
              have hz1 : (⟨u.key.toArray⟩ : ByteArray).size = u.key.length := by simp [ByteArray.size]
              clear hu hrg hgl
              generalize u.key = uk at *
              by_cases h1 : (100 : Int) < (uk.length : Int)
              · go_wp2_with fail
                refine (unhide WK _).mono ?_
                rintro e v' ⟨rfl, hb⟩
                have HB3 := hide ((unhide B2).trans (hb.mono (unhide B2).size))
                clear hb
                go_wp2_with fail
                go_ret
                exact ⟨rfl, unhide HB3⟩
              · go_wp2_with fail
                exact ⟨⟨k + 1, rfl, by omega, by first | rfl | trivial⟩, by simp [intOf]; omega⟩
            · have gk : ¬ (k : Int) < (op.length : Int) := by omega
              have dk : decide ((k : Int) < (op.length : Int)) = false := decide_eq_false gk
              clear hk hlt
              have GV := hide (Sn.given_any (d := cE) ((unhide HE).below (Nat.le_refl _) (unhide B2)) (unhide LE))
              go_wp2_with fail
              refine (unhide GV).mono ?_
              rintro e v1 ⟨a1, c1, rfl, hr1, hb1⟩
              have H2 := hide (HR.rowed (unhide H1) hb1 hr1)
              have B3 := hide ((unhide B2).trans (hb1.mono (unhide B2).size))
              have OFL : Hid (OfLine v1 m op aO cO) := hide (tofx_any m ((unhide HO).below (unhide B3)) (Nat.le_trans (unhide LO) (by omega)) ((unhide HO).ok))
              have CO := hide (sof_any (cb := cL) (cd := c1) (unhide OFL) ((unhide HL).below (Nat.le_refl _) (unhide B3)) (Sn.HR.row (unhide H2) List.mem_cons_self) (unhide LE))
              clear hr1 hb1 GV OFL H1
              go_wp2_with fail
              refine (unhide CO).mono ?_
              rintro e v2 ⟨pt, rfl, hb2, hy, hn⟩
              have B4 := hide ((unhide B3).trans (hb2.mono (unhide B3).size))
              have H3 := hide ((unhide H2).below hb2)
              have CD := hide (rof13_any (c := cO) (cb := cL) (cd := cE) m ((unhide HO).below (unhide B4)) (Nat.le_trans (unhide LO) (by omega)) ((unhide HL).below (Nat.le_refl _) (unhide B4)) ((unhide HE).below (Nat.le_refl _) (unhide B4)) (unhide LE) (unhide IE))
              clear CO
              by_cases h0 : (ofS m op lows l).2 = 0
              · obtain ⟨p, F, rfl, hs, hF, hm⟩ := hy h0
                obtain ⟨S, hS⟩ : ∃ S, S = (ofS m op lows l).1 := ⟨_, rfl⟩
                have GS : Hid (GoodS S) := hide (by rw [hS]; exact goodS_of h0 hm)
                have H4 : Hid (Sn.HR w v2 (hState p F S :: hItem c Y :: hItem b X :: [])) := hide (by
                  rw [hS]
                  exact ((unhide H2).add (r := hState p F (ofS m op lows l).1) hb2 hs hF).sub (List.Sublist.cons_cons _ (List.Sublist.cons _ (List.Sublist.refl _))))
                have HS := hide hS
                have H00 := hide h0
                rw [h0]
                clear hy hn hb2 hs hF hm hS H2 H3 h0
                go_wp2_with fail
                refine (unhide CD).mono ?_
                rintro e v3 ⟨hb3, hh⟩
                rcases hh with ⟨_, W, a5, c5, a6, c6, rfl, hdoc, hwl, ho1, ho2⟩ | ⟨hno, _⟩
                · rw [← unhide HS] at hdoc ho1 ⊢
                  have h5 := ((unhide H4).below hb3)
                  have H5 : Hid (Sn.HR w v3 (hDocs S W a5 c5 a6 c6 [] none 0 :: hState p F S :: hItem c Y :: hItem b X :: [])) := hide ((unhide H4).add (r := hDocs S W a5 c5 a6 c6 [] none 0) hb3 (show Docs _ _ _ _ _ _ _ _ _ _ from ⟨hdoc, row_none _ _⟩) (fun k e => by
                    rcases e with e | e | e
                    · exact ho1 k e
                    · exact ho2 k e
                    · cases e))
                  obtain ⟨q, hq⟩ : ∃ q, q = v3.heap.size := ⟨_, rfl⟩
                  obtain ⟨V3, hV3⟩ : ∃ V3, V3 = v3.alloc (.cells (docC S.line.mark a5 S.line.row.length c5 W.low a6 W.l.length c6).toArray 37) := ⟨_, rfl⟩
                  have H6 : Hid (Sn.HR w V3 (hBox q (docC S.line.mark a5 S.line.row.length c5 W.low a6 W.l.length c6) :: hDocs S W a5 c5 a6 c6 [] none 0 :: hState p F S :: hItem c Y :: hItem b X :: [])) := hide (by rw [hV3, hq]; exact HR.newbox (unhide H5) _ 37)
                  have HV3 : Hid (V3 = v3.alloc (.cells #[.int .i64 S.line.mark, .slice a5 S.line.row.length c5, .int .i64 (W.low 0), .int .i64 (W.low 1), .int .i64 (W.low 2), .int .i64 (W.low 3), .slice a6 W.l.length c6] 37)) := hide hV3
                  have HQ := hide hq
                  have WL := hide hwl
                  clear h5 hdoc ho1 ho2 hb3 hq hV3 hwl H4 H5 CD
                  simp only [docC, Sn.refC]
                  go_upto_region 10 with fail
                  rw [← unhide HV3, ← unhide HQ]
                  clear HV3 HQ
                  have RB := hide (HR.box (cs := docC S.line.mark a5 S.line.row.length c5 W.low a6 W.l.length c6) (b := q) (unhide H6) (by simp)).range
                  go_wp2_with (refine Sn.wpList_load_on rfl 37 (.tmp 16) rfl q 0 rfl (docC S.line.mark a5 S.line.row.length c5 W.low a6 W.l.length c6) _ (unhide RB) Tryz.underlying37 rfl (by kernel_rfl) ?_)
                  refine (alike13_any (S := S) (W := W) (p := p) (F := F) (o := []) (a3 := none) (c3 := 0) (unhide H6) (by simp) (unhide GS) (by simp) (Nat.le_trans (unhide WL) (by omega))).mono ?_
                  rintro e v4 ⟨rfl, h⟩
                  have H7 := hide h
                  clear h H6 RB
                  obtain ⟨T, hT⟩ : ∃ T, T = appS S X := ⟨_, rfl⟩
                  have GT : Hid (GoodS T) := hide (by rw [hT]; exact goodS_app (unhide GS) (unhide IX).n)
                  obtain ⟨O1, hO1⟩ : ∃ O, O = outsS S X := ⟨_, rfl⟩
                  obtain ⟨n1, hn1⟩ : ∃ n, n = O1.length := ⟨_, rfl⟩
                  have LO1 : Hid (O1.length ≤ 1000000) := hide (by rw [hO1]; exact Nat.le_trans (outs_len (unhide GS) X) (by omega))
                  have PA1 := hide (hs_apply (p := p) (F := F) ((unhide H7).perm (show List.Perm _ (hState p F S :: hBox q (docC S.line.mark a5 S.line.row.length c5 W.low a6 W.l.length c6) :: hDocs S W a5 c5 a6 c6 [] none 0 :: hItem c Y :: hItem b X :: []) from List.perm_append_comm (l₁ := [_, _]) (l₂ := [_]) |>.append_right [_, _])) (unhide GS) X (unhide IX).n (unhide IX).kind)
                  have DA1 : Hid (∀ v R, Sn.HR w v (hDocs S W a5 c5 a6 c6 [] none 0 :: R) → Calls Tryz.prog 13 #[.agg (docC S.line.mark a5 S.line.row.length c5 W.low a6 W.l.length c6).toArray, .agg (itemC X).toArray] v fun e v' => ∃ V e1 f1 e2 f2 e3 f3, e = .returned (.tuple #[.agg (docC (appS S X).line.mark e1 (appS S X).line.row.length f1 V.low e2 V.l.length f2).toArray, .int .i64 (codeS S X), .slice e3 (outsS S X).length f3, .bool (freshS S X)]) ∧ V.l.length ≤ W.l.length + 1 ∧ Sn.HR w v' (hDocs (appS S X) V e1 f1 e2 f2 (outsS S X) e3 f3 :: R)) := hide fun v R hv => hd_apply hv (unhide GS) (Nat.le_trans (unhide WL) (by omega)) X (unhide IX)
                  rw [← hT, ← hO1, ← hn1] at PA1 DA1
                  generalize hc1 : codeS S X = cc1 at *
                  generalize hf1 : freshS S X = ff1 at *
                  have HN1 := hide hn1
                  have RI1 := hide (HR.item (x := X) (b := b) (unhide H7) (by simp))
                  clear hT hO1 hn1 hc1 hf1
                  go_wp2_with (refine Sn.wpList_load_on rfl 42 (.tmp 10) rfl b 0 rfl (itemC X) _ (unhide RI1) Tryz.underlying42 rfl (by kernel_rfl) ?_)
                  rw [← unhide HX]
                  refine (unhide PA1).mono ?_
                  rintro e u1 ⟨a41, c41, F1, rfl, h⟩
                  have K1 : Hid (Sn.HR w u1 (hDocs S W a5 c5 a6 c6 [] none 0 :: hBox q (docC S.line.mark a5 S.line.row.length c5 W.low a6 W.l.length c6) :: hState p F1 T :: hOuts a41 c41 O1 :: hItem c Y :: hItem b X :: [])) := hide (h.perm (show List.Perm (hOuts a41 c41 O1 :: hState p F1 T :: hBox q (docC S.line.mark a5 S.line.row.length c5 W.low a6 W.l.length c6) :: hDocs S W a5 c5 a6 c6 [] none 0 :: hItem c Y :: hItem b X :: []) _ from (List.reverse_perm [hOuts a41 c41 O1, hState p F1 T, hBox q (docC S.line.mark a5 S.line.row.length c5 W.low a6 W.l.length c6), hDocs S W a5 c5 a6 c6 [] none 0]).symm.append_right [_, _]))
                  have RQ1 := hide (HR.box (cs := docC S.line.mark a5 S.line.row.length c5 W.low a6 W.l.length c6) (b := q) (unhide K1) (by simp)).range
                  have RJ1 := hide (HR.item (x := X) (b := b) (unhide K1) (by simp))
                  clear h PA1 RI1 H7
                  go_wp2_with (first | refine Sn.wpList_load_on rfl 37 (.tmp 16) rfl q 0 rfl (docC S.line.mark a5 S.line.row.length c5 W.low a6 W.l.length c6) _ (unhide RQ1) Tryz.underlying37 rfl (by kernel_rfl) ?_ | refine Sn.wpList_load_on rfl 42 (.tmp 10) rfl b 0 rfl (itemC X) _ (unhide RJ1) Tryz.underlying42 rfl (by kernel_rfl) ?_)
                  refine (unhide DA1 _ _ (unhide K1)).mono ?_
                  rintro e y1 ⟨W1, e11, f11, e21, f21, e31, f31, rfl, hwl1, h⟩
                  have WL1 : Hid (W1.l.length ≤ 101) := hide (Nat.le_trans hwl1 (Nat.succ_le_succ (unhide WL)))
                  have TH1 := hide (HR.box (cs := docC S.line.mark a5 S.line.row.length c5 W.low a6 W.l.length c6) (b := q) h (by simp)).there
                  obtain ⟨z1, hz1⟩ : ∃ wf, wf = y1.setCells q 0 (docC T.line.mark e11 T.line.row.length f11 W1.low e21 W1.l.length f21) := ⟨_, rfl⟩
                  have M1 : Hid (Sn.HR w z1 (hBox q (docC T.line.mark e11 T.line.row.length f11 W1.low e21 W1.l.length f21) :: hDocs T W1 e11 f11 e21 f21 O1 e31 f31 :: hState p F1 T :: hOuts a41 c41 O1 :: hItem c Y :: hItem b X :: [])) := hide (by rw [hz1]; exact HR.setbox h.swap _ rfl)
                  have EQ1 := hide hz1.symm
                  have S91 : Hid (Calls Tryz.prog 14 #[.slice a41 n1 c41, .slice e31 n1 f31] z1 fun e v' => e = .returned (.bool true) ∧ Sn.HR w v' (hBox q (docC T.line.mark e11 T.line.row.length f11 W1.low e21 W1.l.length f21) :: hDocs T W1 e11 f11 e21 f21 O1 e31 f31 :: hState p F1 T :: hOuts a41 c41 O1 :: hItem c Y :: hItem b X :: [])) := hide (by
                    have r1 : OutK.Row z1 0 a41 c41 O1 := (unhide M1).ok (hOuts a41 c41 O1) (by simp)
                    have r2 := (HR.docs (S := T) (W := W1) (a := e11) (c := f11) (a2 := e21) (c2 := f21) (o := O1) (a3 := e31) (c3 := f31) (unhide M1) (by simp)).told
                    rw [unhide HN1]
                    refine (same9_any (l := O1) (m := O1) r1.at_ r2.at_ (unhide LO1)).mono fun _ _ ⟨k1, k2⟩ => ⟨by rw [k1, show decide (O1 = O1) = true from decide_eq_true rfl], (unhide M1).below (below_of_none k2)⟩)
                  have bc1 : (cc1 == cc1) = true := beq_self_eq_true _
                  have bf1 : (ff1 == ff1) = true := beq_self_eq_true _
                  clear h DA1 K1 RQ1 RJ1 hz1 hwl1 M1
                  go_wp2_with (refine wpList_store_mid rfl 37 (.tmp 16) (.tmp 103) rfl q 0 (docC T.line.mark e11 T.line.row.length f11 W1.low e21 W1.l.length f21).toArray rfl rfl (unhide TH1) (by kernel_rfl) (by simp [docC, Sn.refC, Value.oneCell']) ?_; change wpList _ _ _ _ _ (World.setCells _ q 0 (docC T.line.mark e11 T.line.row.length f11 W1.low e21 W1.l.length f21)); rw [unhide EQ1])
                  refine (unhide S91).mono ?_
                  rintro e x1 ⟨rfl, h⟩
                  have N1 : Hid (Sn.HR w x1 (hBox q (docC T.line.mark e11 T.line.row.length f11 W1.low e21 W1.l.length f21) :: hDocs T W1 e11 f11 e21 f21 O1 e31 f31 :: hState p F1 T :: hItem c Y :: hItem b X :: [])) := hide (h.sub (List.Sublist.cons_cons _ (List.Sublist.cons_cons _ (List.Sublist.cons_cons _ (List.Sublist.cons _ (List.Sublist.refl _))))))
                  clear h S91 TH1 EQ1
                  obtain ⟨Z, hZ⟩ : ∃ Z, Z = appS T Y := ⟨_, rfl⟩
                  have GZ : Hid (GoodS Z) := hide (by rw [hZ]; exact goodS_app (unhide GT) (unhide IY).n)
                  obtain ⟨O2, hO2⟩ : ∃ O, O = outsS T Y := ⟨_, rfl⟩
                  obtain ⟨n2, hn2⟩ : ∃ n, n = O2.length := ⟨_, rfl⟩
                  have LO2 : Hid (O2.length ≤ 1000000) := hide (by rw [hO2]; exact Nat.le_trans (outs_len (unhide GT) Y) (by omega))
                  have PA2 := hide (hs_apply (p := p) (F := F1) ((unhide N1).perm (show List.Perm _ (hState p F1 T :: hBox q (docC T.line.mark e11 T.line.row.length f11 W1.low e21 W1.l.length f21) :: hDocs T W1 e11 f11 e21 f21 O1 e31 f31 :: hItem c Y :: hItem b X :: []) from List.perm_append_comm (l₁ := [_, _]) (l₂ := [_]) |>.append_right [_, _])) (unhide GT) Y (unhide IY).n (unhide IY).kind)
                  have DA2 : Hid (∀ v R, Sn.HR w v (hDocs T W1 e11 f11 e21 f21 O1 e31 f31 :: R) → Calls Tryz.prog 13 #[.agg (docC T.line.mark e11 T.line.row.length f11 W1.low e21 W1.l.length f21).toArray, .agg (itemC Y).toArray] v fun e v' => ∃ V e1 f1 e2 f2 e3 f3, e = .returned (.tuple #[.agg (docC (appS T Y).line.mark e1 (appS T Y).line.row.length f1 V.low e2 V.l.length f2).toArray, .int .i64 (codeS T Y), .slice e3 (outsS T Y).length f3, .bool (freshS T Y)]) ∧ V.l.length ≤ W1.l.length + 1 ∧ Sn.HR w v' (hDocs (appS T Y) V e1 f1 e2 f2 (outsS T Y) e3 f3 :: R)) := hide fun v R hv => hd_apply hv (unhide GT) (Nat.le_trans (unhide WL1) (by omega)) Y (unhide IY)
                  rw [← hZ, ← hO2, ← hn2] at PA2 DA2
                  generalize hc2 : codeS T Y = cc2 at *
                  generalize hf2 : freshS T Y = ff2 at *
                  have HN2 := hide hn2
                  have RI2 := hide (HR.item (x := Y) (b := c) (unhide N1) (by simp))
                  clear hZ hO2 hn2 hc2 hf2
                  go_wp2_with (refine Sn.wpList_load_on rfl 42 (.tmp 11) rfl c 0 rfl (itemC Y) _ (unhide RI2) Tryz.underlying42 rfl (by kernel_rfl) ?_)
                  rw [← unhide HY]
                  refine (unhide PA2).mono ?_
                  rintro e u2 ⟨a42, c42, F2, rfl, h⟩
                  have K2 : Hid (Sn.HR w u2 (hDocs T W1 e11 f11 e21 f21 O1 e31 f31 :: hBox q (docC T.line.mark e11 T.line.row.length f11 W1.low e21 W1.l.length f21) :: hState p F2 Z :: hOuts a42 c42 O2 :: hItem c Y :: hItem b X :: [])) := hide (h.perm (show List.Perm (hOuts a42 c42 O2 :: hState p F2 Z :: hBox q (docC T.line.mark e11 T.line.row.length f11 W1.low e21 W1.l.length f21) :: hDocs T W1 e11 f11 e21 f21 O1 e31 f31 :: hItem c Y :: hItem b X :: []) _ from (List.reverse_perm [hOuts a42 c42 O2, hState p F2 Z, hBox q (docC T.line.mark e11 T.line.row.length f11 W1.low e21 W1.l.length f21), hDocs T W1 e11 f11 e21 f21 O1 e31 f31]).symm.append_right [_, _]))
                  have RQ2 := hide (HR.box (cs := docC T.line.mark e11 T.line.row.length f11 W1.low e21 W1.l.length f21) (b := q) (unhide K2) (by simp)).range
                  have RJ2 := hide (HR.item (x := Y) (b := c) (unhide K2) (by simp))
                  clear h PA2 RI2 N1
                  go_wp2_with (first | refine Sn.wpList_load_on rfl 37 (.tmp 16) rfl q 0 rfl (docC T.line.mark e11 T.line.row.length f11 W1.low e21 W1.l.length f21) _ (unhide RQ2) Tryz.underlying37 rfl (by kernel_rfl) ?_ | refine Sn.wpList_load_on rfl 42 (.tmp 11) rfl c 0 rfl (itemC Y) _ (unhide RJ2) Tryz.underlying42 rfl (by kernel_rfl) ?_)
                  refine (unhide DA2 _ _ (unhide K2)).mono ?_
                  rintro e y2 ⟨W2, e12, f12, e22, f22, e32, f32, rfl, hwl2, h⟩
                  have WL2 : Hid (W2.l.length ≤ 102) := hide (Nat.le_trans hwl2 (Nat.succ_le_succ (unhide WL1)))
                  have TH2 := hide (HR.box (cs := docC T.line.mark e11 T.line.row.length f11 W1.low e21 W1.l.length f21) (b := q) h (by simp)).there
                  obtain ⟨z2, hz2⟩ : ∃ wf, wf = y2.setCells q 0 (docC Z.line.mark e12 Z.line.row.length f12 W2.low e22 W2.l.length f22) := ⟨_, rfl⟩
                  have M2 : Hid (Sn.HR w z2 (hBox q (docC Z.line.mark e12 Z.line.row.length f12 W2.low e22 W2.l.length f22) :: hDocs Z W2 e12 f12 e22 f22 O2 e32 f32 :: hState p F2 Z :: hOuts a42 c42 O2 :: hItem c Y :: hItem b X :: [])) := hide (by rw [hz2]; exact HR.setbox h.swap _ rfl)
                  have EQ2 := hide hz2.symm
                  have S92 : Hid (Calls Tryz.prog 14 #[.slice a42 n2 c42, .slice e32 n2 f32] z2 fun e v' => e = .returned (.bool true) ∧ Sn.HR w v' (hBox q (docC Z.line.mark e12 Z.line.row.length f12 W2.low e22 W2.l.length f22) :: hDocs Z W2 e12 f12 e22 f22 O2 e32 f32 :: hState p F2 Z :: hOuts a42 c42 O2 :: hItem c Y :: hItem b X :: [])) := hide (by
                    have r1 : OutK.Row z2 0 a42 c42 O2 := (unhide M2).ok (hOuts a42 c42 O2) (by simp)
                    have r2 := (HR.docs (S := Z) (W := W2) (a := e12) (c := f12) (a2 := e22) (c2 := f22) (o := O2) (a3 := e32) (c3 := f32) (unhide M2) (by simp)).told
                    rw [unhide HN2]
                    refine (same9_any (l := O2) (m := O2) r1.at_ r2.at_ (unhide LO2)).mono fun _ _ ⟨k1, k2⟩ => ⟨by rw [k1, show decide (O2 = O2) = true from decide_eq_true rfl], (unhide M2).below (below_of_none k2)⟩)
                  have bc2 : (cc2 == cc2) = true := beq_self_eq_true _
                  have bf2 : (ff2 == ff2) = true := beq_self_eq_true _
                  clear h DA2 K2 RQ2 RJ2 hz2 hwl2 M2
                  go_wp2_with (refine wpList_store_mid rfl 37 (.tmp 16) (.tmp 132) rfl q 0 (docC Z.line.mark e12 Z.line.row.length f12 W2.low e22 W2.l.length f22).toArray rfl rfl (unhide TH2) (by kernel_rfl) (by simp [docC, Sn.refC, Value.oneCell']) ?_; change wpList _ _ _ _ _ (World.setCells _ q 0 (docC Z.line.mark e12 Z.line.row.length f12 W2.low e22 W2.l.length f22)); rw [unhide EQ2])
                  refine (unhide S92).mono ?_
                  rintro e x2 ⟨rfl, h⟩
                  have N2 : Hid (Sn.HR w x2 (hBox q (docC Z.line.mark e12 Z.line.row.length f12 W2.low e22 W2.l.length f22) :: hDocs Z W2 e12 f12 e22 f22 O2 e32 f32 :: hState p F2 Z :: hItem c Y :: hItem b X :: [])) := hide (h.sub (List.Sublist.cons_cons _ (List.Sublist.cons_cons _ (List.Sublist.cons_cons _ (List.Sublist.cons _ (List.Sublist.refl _))))))
                  clear h S92 TH2 EQ2
                  have RB := hide (HR.box (cs := docC Z.line.mark e12 Z.line.row.length f12 W2.low e22 W2.l.length f22) (b := q) (unhide N2) (by simp)).range
                  go_wp2_with (refine Sn.wpList_load_on rfl 37 (.tmp 16) rfl q 0 rfl (docC Z.line.mark e12 Z.line.row.length f12 W2.low e22 W2.l.length f22) _ (unhide RB) Tryz.underlying37 rfl (by kernel_rfl) ?_)
                  refine (alike13_any (S := Z) (W := W2) (p := p) (F := F2) (o := O2) (a3 := e32) (c3 := f32) (unhide N2) (by simp) (unhide GZ) (by simp) (Nat.le_trans (unhide WL2) (by omega))).mono ?_
                  rintro e v8 ⟨rfl, h⟩
                  have H8 := hide h
                  clear h N2 RB
                  go_wp2_with fail
                  refine (unhide WK _).mono ?_
                  rintro e v9 ⟨rfl, hb⟩
                  have H9 := hide ((unhide H8).bel.trans (hb.mono (unhide H8).bel.size))
                  clear hb H8
                  go_wp2_with fail
                  go_ret
                  exact ⟨rfl, unhide H9⟩
                · exact absurd (unhide H00) hno
              · have hpt := hn h0
                subst hpt
                obtain ⟨n, hnn⟩ : ∃ n, n = (ofS m op lows l).2 := ⟨_, rfl⟩
                have g0 : ¬ (n : Int) = 0 := by omega
                have d0 : decide ((n : Int) = 0) = false := decide_eq_false g0
                have f0 : ((n : Int) == 0) = false := Bool.eq_false_iff.2 fun h => g0 (eq_of_beq h)
                have bn : ((n : Int) == (n : Int)) = true := beq_self_eq_true _
                have ne1 : ((n : Int) != 0) = true := by rw [bne, f0]; rfl
                have ne2 : (n == 0) = false := Bool.eq_false_iff.2 fun h => g0 (by have := eq_of_beq h; omega)
                have ne3 : (n != 0) = true := by rw [bne, ne2]; rfl
                have ne4 : ¬ n = 0 := by omega
                rw [← hnn] at CD ⊢
                have H0n : Hid (¬ n = 0) := hide (by rw [hnn]; exact h0)
                clear hy hn hb2 H2 H3 h0 hnn
                go_wp2_with fail
                refine (unhide CD).mono ?_
                rintro e v3 ⟨hb3, hh⟩
                rcases hh with ⟨hno, _⟩ | ⟨_, rfl⟩
                · exact absurd hno (unhide H0n)
                · have B5 := hide ((unhide B4).trans (hb3.mono (unhide B4).size))
                  obtain ⟨V3, hV3⟩ : ∃ V3, V3 = v3.alloc (.cells #[.int .i64 0, .slice none 0 0, .int .i64 1, .int .i64 1, .int .i64 1, .int .i64 1, .slice none 0 0] 37) := ⟨_, rfl⟩
                  have B6 := hide ((unhide B5).trans (show Below w.heap.size v3 V3 by rw [hV3]; exact (Below.refl _ _).alloc (unhide B5).size _))
                  have HV3 := hide hV3
                  clear hb3 hV3 CD
                  simp only [docNew, docC, Sn.refC]
                  go_upto_region 10 with fail
                  rw [← unhide HV3]
                  clear HV3
                  go_wp2_with fail
                  refine (unhide WK _).mono ?_
                  rintro e v' ⟨rfl, hb⟩
                  have HB3 := hide ((unhide B6).trans (hb.mono (unhide B6).size))
                  clear hb
                  go_wp2_with fail
                  go_ret
                  exact ⟨rfl, unhide HB3⟩
theorem makes_row (m : Int) (aO : Option Addr) (cO : Nat) (op : List (Win AggV)) (aL : Option Addr) (cL : Nat) (lows : List Int) (aE : Option Addr) (cE : Nat) (l : List Sn.Ent) (x y : ItemV) (w : World) (_ : i64 m) (hO : IsOuts w aO op.length cO op) (_ : lows.length ≤ maxLen) (hL : Sn.IntK.At w aL lows) (_ : ∀ u ∈ lows, Sn.i64 u) (_ : l.length ≤ maxLen) (hE : Sn.RefK.At w aE l) (iE : ∀ u ∈ l, u.In) (ix : x.In) (iy : y.In) :
    Calls Tryz.prog 4 #[.int .i64 m, .slice aO op.length cO, .slice aL lows.length cL, .slice aE l.length cE, itemV x, itemV y] w fun e w' => e = .returned (.bool true) ∧ Below w.heap.size w w' := makes_any m x y w hO hL hE iE ix iy
end Go.Proofs.YtigmhljaoicdbaaGreat

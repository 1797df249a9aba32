/- The document's own Note. Condition: the table has at most 10000 entries. -/
import Derived.Test.YtoofaldblldncaaRefA
namespace Go.Proofs.Ytoofaldblldncaa
open Go.RowKit

theorem results_cell_tmp {P : Program} {fn : Func} {p t : Tmp} {ty : TypeId} (h : fn.results = #[.cell p ty, .tmp t]) (tmps : Array Value) (w : World) (g : Nat) (cs : List Value) (d : TypeDesc)
    (hp : tmps.getD p undef = .pointer (some ⟨g, 0, none⟩)) (hc : w.rangeAt g 0 cs) (hu : P.underlying ty = some d) (hd : d.isRow = true) (hi : (P.info? ty).map (·.size) = some cs.length) :
    (results fn tmps).run P w = .ok (.tuple #[.agg cs.toArray, tmps.getD t undef]) w := by
  have hp' : tmps[p]?.getD undef = .pointer (some ⟨g, 0, none⟩) := by simpa using hp
  simp [results, h, hp', asAddr, run_loadVar_mid w g 0 ty cs d hc hu hd hi]
/-- Two blocks: the table's, and the result's. -/
structure NB (w : World) (H : Nat) (s : List Value) (v : World) : Prop where
  r0 : RowAt v H s
  r1 : ∃ t, t.length = 5 ∧ RowAt v (H + 1) t
  bel : Below w.heap.size w v
  hh : H = w.heap.size
theorem NB.below {w v v' : World} {H : Nat} {s : List Value} (h : NB w H s v) (b : Below v.heap.size v v') : NB w H s v' := by
  obtain ⟨t, h1, h2⟩ := h.r1
  exact ⟨h.r0.keep (Moved.of_below (F := fun _ => False) b) id, ⟨t, h1, h2.keep (Moved.of_below (F := fun _ => False) b) id⟩, h.bel.trans (b.mono h.bel.size), h.hh⟩
theorem NB.there {w v : World} {H : Nat} {s : List Value} (h : NB w H s v) : v.there (H + 1) 0 5 := by
  obtain ⟨t, h1, h2⟩ := h.r1
  rw [← h1]; exact h2.there
theorem NB.put {w v : World} {H : Nat} {s : List Value} (h : NB w H s v) (hs : s.length = 5) : ∃ wf, v.setCells (H + 1) 0 s = wf ∧ wf.rangeAt (H + 1) 0 s ∧ Below w.heap.size w wf := by
  obtain ⟨t, h1, h2⟩ := h.r1
  refine ⟨_, rfl, (h2.put s (by omega)).range, h.bel.trans ((setCells_moved v (H + 1) 0 s).below (fun i e => by rw [e, h.hh]; omega) h.bel.size)⟩
theorem NB.set {w v : World} {H : Nat} {s : List Value} (h : NB w H s v) {k : Nat} (hk : k < s.length) (u : Value) : NB w H (s.set k u) (v.setCell ⟨H, k, none⟩ u) := by
  obtain ⟨t, h1, h2⟩ := h.r1
  have mv : Moved (fun i => i = H) v (v.setCell ⟨H, k, none⟩ u) := (Moved.refl (fun i => i = H) v).setCell (p := ⟨H, k, none⟩) (.inl rfl) _
  exact ⟨h.r0.set k hk u, ⟨t, h1, h2.keep mv (by omega)⟩, h.bel.trans (mv.below (fun i e => by rw [e, h.hh]; exact Nat.le_refl _) h.bel.size), h.hh⟩
theorem refC_set {low : Nat → Int} {a : Option Addr} {n c : Nat} {k : Nat} (hk : k < 4) (lo : Int) : (refC low a n c).set k (.int .i64 lo) = refC (fun i => if i = k then lo else low i) a n c := by
  match k, hk with
  | 0, _ => rfl
  | 1, _ => rfl
  | 2, _ => rfl
  | 3, _ => rfl
theorem rlow_of {W : RefS} {k : Nat} {lo : Int} (h : W.low k < lo) : rlow W (k : Int) lo = fun i => if i = k then lo else W.low i := by
  funext i
  unfold rlow
  rw [Int.toNat_natCast]
  by_cases e : i = k
  · subst e; rw [if_pos rfl, if_pos h, if_pos rfl]
  · rw [if_neg e, if_neg e]
theorem rlow_same {W : RefS} {k : Nat} {lo : Int} (h : ¬ W.low k < lo) : rlow W (k : Int) lo = W.low := by
  funext i
  unfold rlow
  rw [Int.toNat_natCast]
  by_cases e : i = k
  · subst e; rw [if_pos rfl, if_neg h]
  · rw [if_neg e]
set_option maxRecDepth 100000 in
set_option maxHeartbeats 2000000 in
theorem rnote_bad {w : World} {low : Nat → Int} {a : Option Addr} {c : Nat} {l : List Ent} (h : RefK.At w a l) (hl : l.length ≤ 10000) (src seq lo code : Int) (hq : seq ≤ 9223372036854775807) (hn : rnoteE ⟨low, l⟩ src seq lo code ≠ 0) :
    Calls Try.prog 18 #[.agg (refC low a l.length c).toArray, .int .i64 src, .int .i64 seq, .int .i64 lo, .int .i64 code] w fun e w' => e = .returned (.tuple #[.agg (refC low a l.length c).toArray, .int .i64 (rnoteE ⟨low, l⟩ src seq lo code)]) ∧ Below w.heap.size w w' := by
  obtain ⟨W, hW⟩ : ∃ W, W = (w.alloc (.cells (refC low a l.length c).toArray 34)).alloc (.cells #[.int .i64 0, .int .i64 0, .int .i64 0, .int .i64 0, .slice none 0 0] 34) := ⟨_, rfl⟩
  obtain ⟨H, hH⟩ : ∃ H, H = w.heap.size := ⟨_, rfl⟩
  have bW : Below w.heap.size w W := by rw [hW]; exact ((Below.refl _ _).alloc (Nat.le_refl _) _).alloc (by simp) _
  have N0 : NB w H (refC low a l.length c) W := ⟨by rw [hW, hH]; exact row_old (row_new _ _ _) _, ⟨[.int .i64 0, .int .i64 0, .int .i64 0, .int .i64 0, .slice none 0 0], rfl, by rw [hW, hH]; exact row_new2 _ _ _ _ _⟩, bW, hH⟩
  have CA := hide (rask_any (low := low) (c := c) (h.below (Nat.le_refl _) bW) (by omega) src seq lo hq)
  have HN := hide N0
  have HW := hide hW
  have HH := hide hH
  have RG := hide N0.r0.range
  clear hW hH bW N0 h
  rcases hs : rask ⟨low, l⟩ src seq lo with ⟨st, n⟩
  rw [hs] at CA
  by_cases h0 : st = 0
  · have HE : Hid (rnoteE ⟨low, l⟩ src seq lo code = 1) := hide (by unfold rnoteE; rw [hs]; simp [h0])
    subst h0
    simp only [refC]
    go_enter Try.func18, Try.ntmps18
    go_upto_region 1 with fail
    rw [← unhide HH]
    try change Code.wp _ _ _ _ ((w.alloc (.cells (refC low a l.length c).toArray 34)).alloc (.cells #[.int .i64 0, .int .i64 0, .int .i64 0, .int .i64 0, .slice none 0 0] 34))
    rw [← unhide HW]
    go_wp2_with (refine wpList_load_on rfl 34 (.tmp 5) rfl H 0 rfl (refC low a l.length c) _ (unhide RG) Try.underlying34 rfl (by kernel_rfl) ?_)
    refine (unhide CA).mono ?_
    rintro e v1 ⟨rfl, hb⟩
    have N1 := hide ((unhide HN).below hb)
    clear hb CA HN
    go_upto_region 3 with fail
    have hrg := (unhide N1).r0.range
    have hth := (unhide N1).there
    go_step
    refine wpList_load_mid rfl 34 (.tmp 5) rfl H 0 rfl (refC low a l.length c) _ hrg Try.underlying34 rfl (by kernel_rfl) ?_
    refine wpList_store_mid rfl 34 (.tmp 10) (.tmp 32) rfl (H + 1) 0 (refC low a l.length c).toArray rfl rfl hth (by kernel_rfl) (by simp [Value.oneCell', refC]) ?_
    clear hrg hth
    obtain ⟨wf, hwf, hfr, hbf⟩ := (unhide N1).put rfl
    change wpList _ _ _ _ _ (World.setCells _ (H + 1) 0 (refC low a l.length c))
    rw [hwf]
    have HFR := hide hfr
    have HBF := hide hbf
    clear hfr hbf hwf
    go_wp2_with fail
    refine bodyPost_ret (v := .tuple #[.agg (refC low a l.length c).toArray, .int .i64 (rnoteE ⟨low, l⟩ src seq lo code)]) ?_ rfl ⟨rfl, unhide HBF⟩
    rw [unhide HE]
    exact results_cell_tmp Try.results18 _ wf (H + 1) _ _ rfl (unhide HFR) Try.underlying34 rfl (by kernel_rfl)
  · have d0 : decide (st = 0) = false := decide_eq_false h0
    by_cases hc : isCode code = false
    · have HE : Hid (rnoteE ⟨low, l⟩ src seq lo code = 1) := hide (by unfold rnoteE; rw [hs]; simp [hc])
      by_cases h1 : code < 1
      · simp only [refC]
        go_enter Try.func18, Try.ntmps18
        go_upto_region 1 with fail
        rw [← unhide HH]
        try change Code.wp _ _ _ _ ((w.alloc (.cells (refC low a l.length c).toArray 34)).alloc (.cells #[.int .i64 0, .int .i64 0, .int .i64 0, .int .i64 0, .slice none 0 0] 34))
        rw [← unhide HW]
        go_wp2_with (refine wpList_load_on rfl 34 (.tmp 5) rfl H 0 rfl (refC low a l.length c) _ (unhide RG) Try.underlying34 rfl (by kernel_rfl) ?_)
        refine (unhide CA).mono ?_
        rintro e v1 ⟨rfl, hb⟩
        have N1 := hide ((unhide HN).below hb)
        clear hb CA HN
        go_upto_region 3 with fail
        have hrg := (unhide N1).r0.range
        have hth := (unhide N1).there
        go_step
        refine wpList_load_mid rfl 34 (.tmp 5) rfl H 0 rfl (refC low a l.length c) _ hrg Try.underlying34 rfl (by kernel_rfl) ?_
        refine wpList_store_mid rfl 34 (.tmp 10) (.tmp 32) rfl (H + 1) 0 (refC low a l.length c).toArray rfl rfl hth (by kernel_rfl) (by simp [Value.oneCell', refC]) ?_
        clear hrg hth
        obtain ⟨wf, hwf, hfr, hbf⟩ := (unhide N1).put rfl
        change wpList _ _ _ _ _ (World.setCells _ (H + 1) 0 (refC low a l.length c))
        rw [hwf]
        have HFR := hide hfr
        have HBF := hide hbf
        clear hfr hbf hwf
        go_wp2_with fail
        refine bodyPost_ret (v := .tuple #[.agg (refC low a l.length c).toArray, .int .i64 (rnoteE ⟨low, l⟩ src seq lo code)]) ?_ rfl ⟨rfl, unhide HBF⟩
        rw [unhide HE]
        exact results_cell_tmp Try.results18 _ wf (H + 1) _ _ rfl (unhide HFR) Try.underlying34 rfl (by kernel_rfl)
      · have d1 : decide (code < 1) = false := decide_eq_false h1
        have h2 : 4 < code := by
          have : ¬ (1 ≤ code ∧ code ≤ 4) := fun h => by rw [code_iff.2 h] at hc; cases hc
          omega
        simp only [refC]
        go_enter Try.func18, Try.ntmps18
        go_upto_region 1 with fail
        rw [← unhide HH]
        try change Code.wp _ _ _ _ ((w.alloc (.cells (refC low a l.length c).toArray 34)).alloc (.cells #[.int .i64 0, .int .i64 0, .int .i64 0, .int .i64 0, .slice none 0 0] 34))
        rw [← unhide HW]
        go_wp2_with (refine wpList_load_on rfl 34 (.tmp 5) rfl H 0 rfl (refC low a l.length c) _ (unhide RG) Try.underlying34 rfl (by kernel_rfl) ?_)
        refine (unhide CA).mono ?_
        rintro e v1 ⟨rfl, hb⟩
        have N1 := hide ((unhide HN).below hb)
        clear hb CA HN
        go_upto_region 3 with fail
        have hrg := (unhide N1).r0.range
        have hth := (unhide N1).there
        go_step
        refine wpList_load_mid rfl 34 (.tmp 5) rfl H 0 rfl (refC low a l.length c) _ hrg Try.underlying34 rfl (by kernel_rfl) ?_
        refine wpList_store_mid rfl 34 (.tmp 10) (.tmp 32) rfl (H + 1) 0 (refC low a l.length c).toArray rfl rfl hth (by kernel_rfl) (by simp [Value.oneCell', refC]) ?_
        clear hrg hth
        obtain ⟨wf, hwf, hfr, hbf⟩ := (unhide N1).put rfl
        change wpList _ _ _ _ _ (World.setCells _ (H + 1) 0 (refC low a l.length c))
        rw [hwf]
        have HFR := hide hfr
        have HBF := hide hbf
        clear hfr hbf hwf
        go_wp2_with fail
        refine bodyPost_ret (v := .tuple #[.agg (refC low a l.length c).toArray, .int .i64 (rnoteE ⟨low, l⟩ src seq lo code)]) ?_ rfl ⟨rfl, unhide HBF⟩
        rw [unhide HE]
        exact results_cell_tmp Try.results18 _ wf (H + 1) _ _ rfl (unhide HFR) Try.underlying34 rfl (by kernel_rfl)
    · have hcc : isCode code = true := by cases h : isCode code with | true => rfl | false => exact absurd h hc
      have hr := code_iff.1 hcc
      have k1 : ¬ code < 1 := by omega
      have k2 : ¬ 4 < code := by omega
      have d1 : decide (code < 1) = false := decide_eq_false k1
      have d2 : decide (4 < code) = false := decide_eq_false k2
      by_cases h1 : st = 1
      · have HE : Hid (rnoteE ⟨low, l⟩ src seq lo code = 12) := hide (by unfold rnoteE; rw [hs, hcc]; simp [h1])
        subst h1
        simp only [refC]
        go_enter Try.func18, Try.ntmps18
        go_upto_region 1 with fail
        rw [← unhide HH]
        try change Code.wp _ _ _ _ ((w.alloc (.cells (refC low a l.length c).toArray 34)).alloc (.cells #[.int .i64 0, .int .i64 0, .int .i64 0, .int .i64 0, .slice none 0 0] 34))
        rw [← unhide HW]
        go_wp2_with (refine wpList_load_on rfl 34 (.tmp 5) rfl H 0 rfl (refC low a l.length c) _ (unhide RG) Try.underlying34 rfl (by kernel_rfl) ?_)
        refine (unhide CA).mono ?_
        rintro e v1 ⟨rfl, hb⟩
        have N1 := hide ((unhide HN).below hb)
        clear hb CA HN
        go_upto_region 5 with fail
        have hrg := (unhide N1).r0.range
        have hth := (unhide N1).there
        go_step
        refine wpList_load_mid rfl 34 (.tmp 5) rfl H 0 rfl (refC low a l.length c) _ hrg Try.underlying34 rfl (by kernel_rfl) ?_
        refine wpList_store_mid rfl 34 (.tmp 10) (.tmp 35) rfl (H + 1) 0 (refC low a l.length c).toArray rfl rfl hth (by kernel_rfl) (by simp [Value.oneCell', refC]) ?_
        clear hrg hth
        obtain ⟨wf, hwf, hfr, hbf⟩ := (unhide N1).put rfl
        change wpList _ _ _ _ _ (World.setCells _ (H + 1) 0 (refC low a l.length c))
        rw [hwf]
        have HFR := hide hfr
        have HBF := hide hbf
        clear hfr hbf hwf
        go_wp2_with fail
        refine bodyPost_ret (v := .tuple #[.agg (refC low a l.length c).toArray, .int .i64 (rnoteE ⟨low, l⟩ src seq lo code)]) ?_ rfl ⟨rfl, unhide HBF⟩
        rw [unhide HE]
        exact results_cell_tmp Try.results18 _ wf (H + 1) _ _ rfl (unhide HFR) Try.underlying34 rfl (by kernel_rfl)
      · have d3 : decide (st = 1) = false := decide_eq_false h1
        have h2 : st = 2 := by
          apply Classical.byContradiction
          intro h2
          refine hn ?_
          unfold rnoteE
          rw [hs, hcc, if_neg (by simp [h0]), if_neg h1, if_neg h2]
        have HE : Hid (rnoteE ⟨low, l⟩ src seq lo code = 5) := hide (by unfold rnoteE; rw [hs, hcc]; simp [h2])
        subst h2
        simp only [refC]
        go_enter Try.func18, Try.ntmps18
        go_upto_region 1 with fail
        rw [← unhide HH]
        try change Code.wp _ _ _ _ ((w.alloc (.cells (refC low a l.length c).toArray 34)).alloc (.cells #[.int .i64 0, .int .i64 0, .int .i64 0, .int .i64 0, .slice none 0 0] 34))
        rw [← unhide HW]
        go_wp2_with (refine wpList_load_on rfl 34 (.tmp 5) rfl H 0 rfl (refC low a l.length c) _ (unhide RG) Try.underlying34 rfl (by kernel_rfl) ?_)
        refine (unhide CA).mono ?_
        rintro e v1 ⟨rfl, hb⟩
        have N1 := hide ((unhide HN).below hb)
        clear hb CA HN
        go_upto_region 7 with fail
        have hrg := (unhide N1).r0.range
        have hth := (unhide N1).there
        go_step
        refine wpList_load_mid rfl 34 (.tmp 5) rfl H 0 rfl (refC low a l.length c) _ hrg Try.underlying34 rfl (by kernel_rfl) ?_
        refine wpList_store_mid rfl 34 (.tmp 10) (.tmp 38) rfl (H + 1) 0 (refC low a l.length c).toArray rfl rfl hth (by kernel_rfl) (by simp [Value.oneCell', refC]) ?_
        clear hrg hth
        obtain ⟨wf, hwf, hfr, hbf⟩ := (unhide N1).put rfl
        change wpList _ _ _ _ _ (World.setCells _ (H + 1) 0 (refC low a l.length c))
        rw [hwf]
        have HFR := hide hfr
        have HBF := hide hbf
        clear hfr hbf hwf
        go_wp2_with fail
        refine bodyPost_ret (v := .tuple #[.agg (refC low a l.length c).toArray, .int .i64 (rnoteE ⟨low, l⟩ src seq lo code)]) ?_ rfl ⟨rfl, unhide HBF⟩
        rw [unhide HE]
        exact results_cell_tmp Try.results18 _ wf (H + 1) _ _ rfl (unhide HFR) Try.underlying34 rfl (by kernel_rfl)
end Go.Proofs.Ytoofaldblldncaa

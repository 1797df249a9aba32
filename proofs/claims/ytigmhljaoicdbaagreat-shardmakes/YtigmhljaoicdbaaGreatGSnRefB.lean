/- The document's own Note. Condition: the table has at most 10000 entries. -/
import Derived.Test.YtigmhljaoicdbaaGreatGRTof
namespace Go.Proofs.YtigmhljaoicdbaaGreat.Sn
open Go.RowKit

theorem results_cell_tmp {P : Program} {fn : Func} {p t : Tmp} {ty : TypeId} (h : fn.results = #[.cell p ty, .tmp t]) (tmps : Array Value) (w : World) (g : Nat) (cs : List Value) (d : TypeDesc)
    (hp : tmps.getD p undef = .pointer (some ⟨g, 0, none⟩)) (hc : w.rangeAt g 0 cs) (hu : P.underlying ty = some d) (hd : d.isRow = true) (hi : (P.info? ty).map (·.size) = some cs.length) :
    (results fn tmps).run P w = .ok (.tuple #[.agg cs.toArray, tmps.getD t undef]) w := by
  have hp' : tmps[p]?.getD undef = .pointer (some ⟨g, 0, none⟩) := by simpa using hp
  simp [results, h, hp', asAddr, run_loadVar_mid w g 0 ty cs d hc hu hd hi]
/-- Two blocks: the table's, and the result's. -/
structure NB (w : World) (H : Nat) (s : List Value) (v : World) : Prop where
  r0 : RowAt v H s
  r1 : ∃ t, t.length = 5 ∧ RowAt v (H + 1) t
  bel : Below w.heap.size w v
  hh : H = w.heap.size
theorem NB.below {w v v' : World} {H : Nat} {s : List Value} (h : NB w H s v) (b : Below v.heap.size v v') : NB w H s v' := by
  obtain ⟨t, h1, h2⟩ := h.r1
  exact ⟨h.r0.keep (Moved.of_below (F := fun _ => False) b) id, ⟨t, h1, h2.keep (Moved.of_below (F := fun _ => False) b) id⟩, h.bel.trans (b.mono h.bel.size), h.hh⟩
theorem NB.there {w v : World} {H : Nat} {s : List Value} (h : NB w H s v) : v.there (H + 1) 0 5 := by
  obtain ⟨t, h1, h2⟩ := h.r1
  rw [← h1]; exact h2.there
theorem NB.put {w v : World} {H : Nat} {s : List Value} (h : NB w H s v) (hs : s.length = 5) : ∃ wf, v.setCells (H + 1) 0 s = wf ∧ wf.rangeAt (H + 1) 0 s ∧ Below w.heap.size w wf := by
  obtain ⟨t, h1, h2⟩ := h.r1
  refine ⟨_, rfl, (h2.put s (by omega)).range, h.bel.trans ((setCells_moved v (H + 1) 0 s).below (fun i e => by rw [e, h.hh]; omega) h.bel.size)⟩
theorem NB.set {w v : World} {H : Nat} {s : List Value} (h : NB w H s v) {k : Nat} (hk : k < s.length) (u : Value) : NB w H (s.set k u) (v.setCell ⟨H, k, none⟩ u) := by
  obtain ⟨t, h1, h2⟩ := h.r1
  have mv : Moved (fun i => i = H) v (v.setCell ⟨H, k, none⟩ u) := (Moved.refl (fun i => i = H) v).setCell (p := ⟨H, k, none⟩) (.inl rfl) _
  exact ⟨h.r0.set k hk u, ⟨t, h1, h2.keep mv (by omega)⟩, h.bel.trans (mv.below (fun i e => by rw [e, h.hh]; exact Nat.le_refl _) h.bel.size), h.hh⟩
theorem refC_set {low : Nat → Int} {a : Option Addr} {n c : Nat} {k : Nat} (hk : k < 4) (lo : Int) : (refC low a n c).set k (.int .i64 lo) = refC (fun i => if i = k then lo else low i) a n c := by
  match k, hk with
  | 0, _ => rfl
  | 1, _ => rfl
  | 2, _ => rfl
  | 3, _ => rfl
theorem rlow_of {W : RefS} {k : Nat} {lo : Int} (h : W.low k < lo) : rlow W (k : Int) lo = fun i => if i = k then lo else W.low i := by
  funext i
  unfold rlow
  rw [Int.toNat_natCast]
  by_cases e : i = k
  · subst e; rw [if_pos rfl, if_pos h, if_pos rfl]
  · rw [if_neg e, if_neg e]
theorem rlow_same {W : RefS} {k : Nat} {lo : Int} (h : ¬ W.low k < lo) : rlow W (k : Int) lo = W.low := by
  funext i
  unfold rlow
  rw [Int.toNat_natCast]
  by_cases e : i = k
  · subst e; rw [if_pos rfl, if_neg h]
  · rw [if_neg e]
set_option maxRecDepth 100000 in
set_option maxHeartbeats 2000000 in
theorem rnote_bad {w : World} {low : Nat → Int} {a : Option Addr} {c : Nat} {l : List Ent} (h : RefK.At w a l) (hl : l.length ≤ 10000) (src seq lo code : Int) (hq : seq ≤ 9223372036854775807) (hn : rnoteE ⟨low, l⟩ src seq lo code ≠ 0) :
    Calls Tryz.prog 36 #[.agg (refC low a l.length c).toArray, .int .i64 src, .int .i64 seq, .int .i64 lo, .int .i64 code] w fun e w' => e = .returned (.tuple #[.agg (refC low a l.length c).toArray, .int .i64 (rnoteE ⟨low, l⟩ src seq lo code)]) ∧ Below w.heap.size w w' := by
  obtain ⟨W, hW⟩ : ∃ W, W = (w.alloc (.cells (refC low a l.length c).toArray 35)).alloc (.cells #[.int .i64 0, .int .i64 0, .int .i64 0, .int .i64 0, .slice none 0 0] 35) := ⟨_, rfl⟩
  obtain ⟨H, hH⟩ : ∃ H, H = w.heap.size := ⟨_, rfl⟩
  have bW : Below w.heap.size w W := by rw [hW]; exact ((Below.refl _ _).alloc (Nat.le_refl _) _).alloc (by simp) _
  have N0 : NB w H (refC low a l.length c) W := ⟨by rw [hW, hH]; exact row_old (row_new _ _ _) _, ⟨[.int .i64 0, .int .i64 0, .int .i64 0, .int .i64 0, .slice none 0 0], rfl, by rw [hW, hH]; exact row_new2 _ _ _ _ _⟩, bW, hH⟩
  have CA := hide (rask_any (low := low) (c := c) (h.below (Nat.le_refl _) bW) (by omega) src seq lo hq)
  have HN := hide N0
  have HW := hide hW
  have HH := hide hH
  have RG := hide N0.r0.range
  clear hW hH bW N0 h
  rcases hs : rask ⟨low, l⟩ src seq lo with ⟨st, n⟩
  rw [hs] at CA
  by_cases h0 : st = 0
  · have HE : Hid (rnoteE ⟨low, l⟩ src seq lo code = 1) := hide (by unfold rnoteE; rw [hs]; simp [h0])
    subst h0
    simp only [refC]
    go_enter Tryz.func36, Tryz.ntmps36
    go_upto_region 1 with fail
    rw [← unhide HH]
    try change Code.wp _ _ _ _ ((w.alloc (.cells (refC low a l.length c).toArray 35)).alloc (.cells #[.int .i64 0, .int .i64 0, .int .i64 0, .int .i64 0, .slice none 0 0] 35))
    rw [← unhide HW]
    go_wp2_with (refine wpList_load_on rfl 35 (.tmp 5) rfl H 0 rfl (refC low a l.length c) _ (unhide RG) Tryz.underlying35 rfl (by kernel_rfl) ?_)
    refine (unhide CA).mono ?_
    rintro e v1 ⟨rfl, hb⟩
    have N1 := hide ((unhide HN).below hb)
    clear hb CA HN
    go_upto_region 3 with fail
    have hrg := (unhide N1).r0.range
    have hth := (unhide N1).there
    go_step
    refine wpList_load_mid rfl 35 (.tmp 5) rfl H 0 rfl (refC low a l.length c) _ hrg Tryz.underlying35 rfl (by kernel_rfl) ?_
    refine wpList_store_mid rfl 35 (.tmp 10) (.tmp 32) rfl (H + 1) 0 (refC low a l.length c).toArray rfl rfl hth (by kernel_rfl) (by simp [Value.oneCell', refC]) ?_
    clear hrg hth
    obtain ⟨wf, hwf, hfr, hbf⟩ := (unhide N1).put rfl
    change wpList _ _ _ _ _ (World.setCells _ (H + 1) 0 (refC low a l.length c))
    rw [hwf]
    have HFR := hide hfr
    have HBF := hide hbf
    clear hfr hbf hwf
    go_wp2_with fail
    refine bodyPost_ret (v := .tuple #[.agg (refC low a l.length c).toArray, .int .i64 (rnoteE ⟨low, l⟩ src seq lo code)]) ?_ rfl ⟨rfl, unhide HBF⟩
    rw [unhide HE]
    exact results_cell_tmp Tryz.results36 _ wf (H + 1) _ _ rfl (unhide HFR) Tryz.underlying35 rfl (by kernel_rfl)
  · have d0 : decide (st = 0) = false := decide_eq_false h0
    by_cases hc : isCode code = false
    · have HE : Hid (rnoteE ⟨low, l⟩ src seq lo code = 1) := hide (by unfold rnoteE; rw [hs]; simp [hc])
      by_cases h1 : code < 1
      · simp only [refC]
        go_enter Tryz.func36, Tryz.ntmps36
        go_upto_region 1 with fail
        rw [← unhide HH]
        try change Code.wp _ _ _ _ ((w.alloc (.cells (refC low a l.length c).toArray 35)).alloc (.cells #[.int .i64 0, .int .i64 0, .int .i64 0, .int .i64 0, .slice none 0 0] 35))
        rw [← unhide HW]
        go_wp2_with (refine wpList_load_on rfl 35 (.tmp 5) rfl H 0 rfl (refC low a l.length c) _ (unhide RG) Tryz.underlying35 rfl (by kernel_rfl) ?_)
        refine (unhide CA).mono ?_
        rintro e v1 ⟨rfl, hb⟩
        have N1 := hide ((unhide HN).below hb)
        clear hb CA HN
        go_upto_region 3 with fail
        have hrg := (unhide N1).r0.range
        have hth := (unhide N1).there
        go_step
        refine wpList_load_mid rfl 35 (.tmp 5) rfl H 0 rfl (refC low a l.length c) _ hrg Tryz.underlying35 rfl (by kernel_rfl) ?_
        refine wpList_store_mid rfl 35 (.tmp 10) (.tmp 32) rfl (H + 1) 0 (refC low a l.length c).toArray rfl rfl hth (by kernel_rfl) (by simp [Value.oneCell', refC]) ?_
        clear hrg hth
        obtain ⟨wf, hwf, hfr, hbf⟩ := (unhide N1).put rfl
        change wpList _ _ _ _ _ (World.setCells _ (H + 1) 0 (refC low a l.length c))
        rw [hwf]
        have HFR := hide hfr
        have HBF := hide hbf
        clear hfr hbf hwf
        go_wp2_with fail
        refine bodyPost_ret (v := .tuple #[.agg (refC low a l.length c).toArray, .int .i64 (rnoteE ⟨low, l⟩ src seq lo code)]) ?_ rfl ⟨rfl, unhide HBF⟩
        rw [unhide HE]
        exact results_cell_tmp Tryz.results36 _ wf (H + 1) _ _ rfl (unhide HFR) Tryz.underlying35 rfl (by kernel_rfl)
      · have d1 : decide (code < 1) = false := decide_eq_false h1
        have h2 : 4 < code := by
          have : ¬ (1 ≤ code ∧ code ≤ 4) := fun h => by rw [code_iff.2 h] at hc; cases hc
          omega
        simp only [refC]
        go_enter Tryz.func36, Tryz.ntmps36
        go_upto_region 1 with fail
        rw [← unhide HH]
        try change Code.wp _ _ _ _ ((w.alloc (.cells (refC low a l.length c).toArray 35)).alloc (.cells #[.int .i64 0, .int .i64 0, .int .i64 0, .int .i64 0, .slice none 0 0] 35))
        rw [← unhide HW]
        go_wp2_with (refine wpList_load_on rfl 35 (.tmp 5) rfl H 0 rfl (refC low a l.length c) _ (unhide RG) Tryz.underlying35 rfl (by kernel_rfl) ?_)
        refine (unhide CA).mono ?_
        rintro e v1 ⟨rfl, hb⟩
        have N1 := hide ((unhide HN).below hb)
        clear hb CA HN
        go_upto_region 3 with fail
        have hrg := (unhide N1).r0.range
        have hth := (unhide N1).there
        go_step
        refine wpList_load_mid rfl 35 (.tmp 5) rfl H 0 rfl (refC low a l.length c) _ hrg Tryz.underlying35 rfl (by kernel_rfl) ?_
        refine wpList_store_mid rfl 35 (.tmp 10) (.tmp 32) rfl (H + 1) 0 (refC low a l.length c).toArray rfl rfl hth (by kernel_rfl) (by simp [Value.oneCell', refC]) ?_
        clear hrg hth
        obtain ⟨wf, hwf, hfr, hbf⟩ := (unhide N1).put rfl
        change wpList _ _ _ _ _ (World.setCells _ (H + 1) 0 (refC low a l.length c))
        rw [hwf]
        have HFR := hide hfr
        have HBF := hide hbf
        clear hfr hbf hwf
        go_wp2_with fail
        refine bodyPost_ret (v := .tuple #[.agg (refC low a l.length c).toArray, .int .i64 (rnoteE ⟨low, l⟩ src seq lo code)]) ?_ rfl ⟨rfl, unhide HBF⟩
        rw [unhide HE]
        exact results_cell_tmp Tryz.results36 _ wf (H + 1) _ _ rfl (unhide HFR) Tryz.underlying35 rfl (by kernel_rfl)
    · have hcc : isCode code = true := by cases h : isCode code with | true => rfl | false => exact absurd h hc
      have hr := code_iff.1 hcc
      have k1 : ¬ code < 1 := by omega
      have k2 : ¬ 4 < code := by omega
      have d1 : decide (code < 1) = false := decide_eq_false k1
      have d2 : decide (4 < code) = false := decide_eq_false k2
      by_cases h1 : st = 1
      · have HE : Hid (rnoteE ⟨low, l⟩ src seq lo code = 12) := hide (by unfold rnoteE; rw [hs, hcc]; simp [h1])
        subst h1
        simp only [refC]
        go_enter Tryz.func36, Tryz.ntmps36
        go_upto_region 1 with fail
        rw [← unhide HH]
        try change Code.wp _ _ _ _ ((w.alloc (.cells (refC low a l.length c).toArray 35)).alloc (.cells #[.int .i64 0, .int .i64 0, .int .i64 0, .int .i64 0, .slice none 0 0] 35))
        rw [← unhide HW]
        go_wp2_with (refine wpList_load_on rfl 35 (.tmp 5) rfl H 0 rfl (refC low a l.length c) _ (unhide RG) Tryz.underlying35 rfl (by kernel_rfl) ?_)
        refine (unhide CA).mono ?_
        rintro e v1 ⟨rfl, hb⟩
        have N1 := hide ((unhide HN).below hb)
        clear hb CA HN
        go_upto_region 5 with fail
        have hrg := (unhide N1).r0.range
        have hth := (unhide N1).there
        go_step
        refine wpList_load_mid rfl 35 (.tmp 5) rfl H 0 rfl (refC low a l.length c) _ hrg Tryz.underlying35 rfl (by kernel_rfl) ?_
        refine wpList_store_mid rfl 35 (.tmp 10) (.tmp 35) rfl (H + 1) 0 (refC low a l.length c).toArray rfl rfl hth (by kernel_rfl) (by simp [Value.oneCell', refC]) ?_
        clear hrg hth
        obtain ⟨wf, hwf, hfr, hbf⟩ := (unhide N1).put rfl
        change wpList _ _ _ _ _ (World.setCells _ (H + 1) 0 (refC low a l.length c))
        rw [hwf]
        have HFR := hide hfr
        have HBF := hide hbf
        clear hfr hbf hwf
        go_wp2_with fail
        refine bodyPost_ret (v := .tuple #[.agg (refC low a l.length c).toArray, .int .i64 (rnoteE ⟨low, l⟩ src seq lo code)]) ?_ rfl ⟨rfl, unhide HBF⟩
        rw [unhide HE]
        exact results_cell_tmp Tryz.results36 _ wf (H + 1) _ _ rfl (unhide HFR) Tryz.underlying35 rfl (by kernel_rfl)
      · have d3 : decide (st = 1) = false := decide_eq_false h1
        have h2 : st = 2 := by
          apply Classical.byContradiction
          intro h2
          refine hn ?_
          unfold rnoteE
          rw [hs, hcc, if_neg (by simp [h0]), if_neg h1, if_neg h2]
        have HE : Hid (rnoteE ⟨low, l⟩ src seq lo code = 5) := hide (by unfold rnoteE; rw [hs, hcc]; simp [h2])
        subst h2
        simp only [refC]
        go_enter Tryz.func36, Tryz.ntmps36
        go_upto_region 1 with fail
        rw [← unhide HH]
        try change Code.wp _ _ _ _ ((w.alloc (.cells (refC low a l.length c).toArray 35)).alloc (.cells #[.int .i64 0, .int .i64 0, .int .i64 0, .int .i64 0, .slice none 0 0] 35))
        rw [← unhide HW]
        go_wp2_with (refine wpList_load_on rfl 35 (.tmp 5) rfl H 0 rfl (refC low a l.length c) _ (unhide RG) Tryz.underlying35 rfl (by kernel_rfl) ?_)
        refine (unhide CA).mono ?_
        rintro e v1 ⟨rfl, hb⟩
        have N1 := hide ((unhide HN).below hb)
        clear hb CA HN
        go_upto_region 7 with fail
        have hrg := (unhide N1).r0.range
        have hth := (unhide N1).there
        go_step
        refine wpList_load_mid rfl 35 (.tmp 5) rfl H 0 rfl (refC low a l.length c) _ hrg Tryz.underlying35 rfl (by kernel_rfl) ?_
        refine wpList_store_mid rfl 35 (.tmp 10) (.tmp 38) rfl (H + 1) 0 (refC low a l.length c).toArray rfl rfl hth (by kernel_rfl) (by simp [Value.oneCell', refC]) ?_
        clear hrg hth
        obtain ⟨wf, hwf, hfr, hbf⟩ := (unhide N1).put rfl
        change wpList _ _ _ _ _ (World.setCells _ (H + 1) 0 (refC low a l.length c))
        rw [hwf]
        have HFR := hide hfr
        have HBF := hide hbf
        clear hfr hbf hwf
        go_wp2_with fail
        refine bodyPost_ret (v := .tuple #[.agg (refC low a l.length c).toArray, .int .i64 (rnoteE ⟨low, l⟩ src seq lo code)]) ?_ rfl ⟨rfl, unhide HBF⟩
        rw [unhide HE]
        exact results_cell_tmp Tryz.results36 _ wf (H + 1) _ _ rfl (unhide HFR) Tryz.underlying35 rfl (by kernel_rfl)
end Go.Proofs.YtigmhljaoicdbaaGreat.Sn

namespace Go.Proofs.YtigmhljaoicdbaaGreat.Sn
open Go.RowKit

theorem at_lies {β : Type} {K : RowK β} {w : World} {a : Option Addr} {l : List β} (h : K.At w a l) : K.Lies w a l := by
  rcases h with rfl | ⟨g, o, rfl, _, h⟩
  · exact ⟨fun _ => rfl, fun x _ j u hu => by simp [RowK.cells] at hu⟩
  · refine ⟨fun e => (by cases e), fun x e j u hu => ?_⟩
    cases e
    rw [Addr.add_mid]
    exact h j u hu
set_option maxRecDepth 100000 in
set_option maxHeartbeats 2000000 in
theorem rnote_ok {w : World} {low : Nat → Int} {a : Option Addr} {c : Nat} {l : List Ent} (h : RefK.At w a l) (hl : l.length ≤ 10000) (src seq lo code : Int) (hq : seq ≤ 9223372036854775807) (hn : rnoteE ⟨low, l⟩ src seq lo code = 0) :
    Calls Tryz.prog 36 #[.agg (refC low a l.length c).toArray, .int .i64 src, .int .i64 seq, .int .i64 lo, .int .i64 code] w fun e w' => ∃ a' c', e = .returned (.tuple #[.agg (refC (rlow ⟨low, l⟩ src lo) a' (l.length + 1) c').toArray, .int .i64 0]) ∧ Below w.heap.size w w' ∧ RefK.Row w' w.heap.size a' c' (l ++ [⟨src, seq, code⟩]) := by
  have hs : ∃ n, rask ⟨low, l⟩ src seq lo = (3, n) ∧ isCode code = true ∧ 0 ≤ src ∧ src < 4 := by
    rcases hs : rask ⟨low, l⟩ src seq lo with ⟨st, n⟩
    unfold rnoteE at hn
    rw [hs] at hn
    have hst : st = 0 ∨ st = 1 ∨ st = 2 ∨ (st = 3 ∧ may src seq lo = true) := by
      unfold rask at hs
      split at hs
      · rename_i hm
        split at hs
        · cases hs; simp
        · split at hs
          · cases hs; simp
          · cases hs; simp [hm]
      · cases hs; simp
    simp only at hn
    rcases hst with rfl | rfl | rfl | ⟨rfl, hm⟩
    · simp at hn
    · split at hn <;> simp at hn
    · split at hn <;> simp at hn
    · have := may_iff.1 hm
      cases hc : isCode code with
      | true => exact ⟨n, rfl, rfl, this.1, this.2.1⟩
      | false => rw [hc] at hn; simp at hn
  obtain ⟨n, hs, hcc, s0, s1⟩ := hs
  obtain ⟨W, hW⟩ : ∃ W, W = (w.alloc (.cells (refC low a l.length c).toArray 35)).alloc (.cells #[.int .i64 0, .int .i64 0, .int .i64 0, .int .i64 0, .slice none 0 0] 35) := ⟨_, rfl⟩
  obtain ⟨H, hH⟩ : ∃ H, H = w.heap.size := ⟨_, rfl⟩
  have bW : Below w.heap.size w W := by rw [hW]; exact ((Below.refl _ _).alloc (Nat.le_refl _) _).alloc (by simp) _
  have N0 : NB w H (refC low a l.length c) W := ⟨by rw [hW, hH]; exact row_old (row_new _ _ _) _, ⟨[.int .i64 0, .int .i64 0, .int .i64 0, .int .i64 0, .slice none 0 0], rfl, by rw [hW, hH]; exact row_new2 _ _ _ _ _⟩, bW, hH⟩
  have CA := hide (rask_any (low := low) (c := c) (h.below (Nat.le_refl _) bW) (by omega) src seq lo hq)
  have HN := hide N0
  have HW := hide hW
  have HH := hide hH
  have HAt := hide h
  have RG := hide N0.r0.range
  rw [hs] at CA
  have hr := code_iff.1 hcc
  have k1 : ¬ code < 1 := by omega
  have k2 : ¬ 4 < code := by omega
  have d1 : decide (code < 1) = false := decide_eq_false k1
  have d2 : decide (4 < code) = false := decide_eq_false k2
  obtain ⟨k, rfl⟩ : ∃ k : Nat, src = k := ⟨src.toNat, by omega⟩
  have hk : k < 4 := by omega
  have g0 : (0 : Int) ≤ (k : Int) := by omega
  have g1 : (k : Int) < 4 := by omega
  clear hW hH bW N0 h hn hs hcc
  simp only [refC]
  go_enter Tryz.func36, Tryz.ntmps36
  go_upto_region 1 with fail
  rw [← unhide HH]
  try change Code.wp _ _ _ _ ((w.alloc (.cells (refC low a l.length c).toArray 35)).alloc (.cells #[.int .i64 0, .int .i64 0, .int .i64 0, .int .i64 0, .slice none 0 0] 35))
  rw [← unhide HW]
  go_wp2_with (refine wpList_load_on rfl 35 (.tmp 5) rfl H 0 rfl (refC low a l.length c) _ (unhide RG) Tryz.underlying35 rfl (by kernel_rfl) ?_)
  refine (unhide CA).mono ?_
  rintro e v1 ⟨rfl, hb⟩
  have N1 := hide ((unhide HN).below hb)
  clear hb CA HN
  have cl := refC_low (unhide N1).r0 hk
  by_cases hlo : low k < lo
  · have HLO : Hid (rlow ⟨low, l⟩ (k : Int) lo = fun i => if i = k then lo else low i) := hide (rlow_of (W := ⟨low, l⟩) hlo)
    have f0 := (unhide N1).r0.free k (by simp [refC]; omega)
    obtain ⟨X, hX⟩ : ∃ X, X = v1.setCell ⟨H, k, none⟩ (.int .i64 lo) := ⟨_, rfl⟩
    have N2 : Hid (NB w H (refC (fun i => if i = k then lo else low i) a l.length c) X) := hide (by
      rw [hX, ← refC_set hk lo]
      exact (unhide N1).set (k := k) (by simp [refC]; omega) (.int .i64 lo))
    have HX := hide hX
    clear hX
    go_upto_region 10 with fail
    rw [← unhide HX]
    have X4 := refC_list (unhide N2).r0
    have f4 := (unhide N2).r0.free 4 (by simp [refC])
    obtain ⟨X1, hX1⟩ : ∃ X1, X1 = X.alloc (.cells #[] 100) := ⟨_, rfl⟩
    have b1 : Below X.heap.size X X1 := by rw [hX1]; exact (Below.refl _ _).alloc (Nat.le_refl _) _
    have row0 : RefK.Row X1 X.heap.size (some ⟨X.heap.size, 0, none⟩) 0 [] := by rw [hX1]; exact World.ownsRow_made X #[] 0 (Nat.le_refl _) (by unfold maxLen; omega) rfl
    have hlies : RefK.Lies X1 a l := at_lies ((unhide HAt).below (Nat.le_refl _) ((unhide N2).bel.trans (b1.mono (unhide N2).bel.size)))
    obtain ⟨a5, c5, X2, happ1, row5, gr5⟩ := grow_app refK_law row0 a c l hlies (by simp; omega) b1.size 33
    have b2 : Below X.heap.size X1 X2 := (Below.refl _ X1).grown gr5 b1.size (fun i e => (row_lt row0 i e).1)
    rw [List.nil_append] at happ1 row5
    obtain ⟨a', c', w9, happ2, row9, b3, _, _⟩ := grow_one refK_law row5 ⟨(k : Int), seq, code⟩ 100 (by omega) (b1.trans b2).size
    have N9 := (unhide N2).below ((b1.trans b2).trans b3)
    have HXs : H + 1 < X.heap.size := by obtain ⟨t, _, h1⟩ := (unhide N2).r1; exact h1.lt
    obtain ⟨wA, hwA⟩ : ∃ wA, wA = w9.setCell ⟨H, 4, none⟩ (.slice a' (l.length + 1) c') := ⟨_, rfl⟩
    have NA : NB w H (refC (fun i => if i = k then lo else low i) a' (l.length + 1) c') wA := by rw [hwA]; exact N9.set (k := 4) (by simp [refC]) (.slice a' (l.length + 1) c')
    have rowA : RefK.Row wA X.heap.size a' c' (l ++ [⟨(k : Int), seq, code⟩]) := by
      rw [hwA]
      exact row_keep row9 ((Moved.refl (fun i => i = H) w9).setCell (p := ⟨H, 4, none⟩) (.inl rfl) _) (fun i e f => by omega)
    have f9 := N9.r0.free 4 (by simp [refC])
    have t9 := refC_list N9.r0
    have HX1 := hide hX1
    have HWA := hide hwA
    have HNA := hide NA
    have HRA := hide rowA
    have HXL := hide HXs
    have hHX : H < X.heap.size := by omega
    have HBX := hide (unhide N2).bel.size
    have HAP1 : Hid ((Builtin.append_ #[33, 33] 33 #[.slice (some ⟨X.heap.size, 0, none⟩) 0 0, .slice a l.length c]).run Tryz.prog X1 = .ok (.slice a5 l.length c5) X2) := hide happ1
    have HAP2 : Hid ((Builtin.append_ #[33, 33] 33 #[.slice a5 l.length c5, .slice (some ⟨X2.heap.size, 0, none⟩) 1 1]).run Tryz.prog (X2.alloc (.cells #[.int .i64 (k : Int), .int .i64 seq, .int .i64 code] 100)) = .ok (.slice a' (l.length + 1) c') w9) := hide happ2
    have X14 : X1.cell? ⟨H, 4, none⟩ = some (.slice a l.length c) := (b1.cell (p := ⟨H, 4, none⟩) (by show H < _; omega)).trans X4
    clear hX1 b1 row0 hlies happ1 row5 gr5 b2 happ2 row9 b3 N9 HXs hwA NA rowA N2 N1 cl
    go_upto_region 11 with (at_builtin; first | (simp only [← unhide HX1]; refine wpList_app rfl _ _ 33 33 33 rfl rfl rfl rfl (unhide HAP1) ?_) | (refine wpList_app rfl _ _ 33 33 33 rfl rfl rfl rfl (unhide HAP2) ?_))
    rw [← unhide HWA]
    have hrg := (unhide HNA).r0.range
    have hth := (unhide HNA).there
    go_step
    refine wpList_load_mid rfl 35 (.tmp 5) rfl H 0 rfl (refC (fun i => if i = k then lo else low i) a' (l.length + 1) c') _ hrg Tryz.underlying35 rfl (by kernel_rfl) ?_
    refine wpList_store_mid rfl 35 (.tmp 10) (.tmp 60) rfl (H + 1) 0 (refC (fun i => if i = k then lo else low i) a' (l.length + 1) c').toArray rfl rfl hth (by kernel_rfl) (by simp [Value.oneCell', refC]) ?_
    clear hrg hth
    have RF : Hid (RefK.Row (wA.setCells (H + 1) 0 (refC (fun i => if i = k then lo else low i) a' (l.length + 1) c')) w.heap.size a' c' (l ++ [⟨(k : Int), seq, code⟩])) := hide (row_base (row_keep (unhide HRA) (setCells_moved wA (H + 1) 0 _) (fun i e f => by have := unhide HXL; omega)) (unhide HBX))
    obtain ⟨wf, hwf, hfr, hbf⟩ := (unhide HNA).put rfl
    change wpList _ _ _ _ _ (World.setCells _ (H + 1) 0 (refC (fun i => if i = k then lo else low i) a' (l.length + 1) c'))
    rw [hwf] at RF ⊢
    have HFR := hide hfr
    have HBF := hide hbf
    clear hfr hbf hwf
    go_wp2_with fail
    refine bodyPost_ret (v := .tuple #[.agg (refC (fun i => if i = k then lo else low i) a' (l.length + 1) c').toArray, .int .i64 0]) ?_ rfl ⟨a', c', by rw [unhide HLO]; rfl, unhide HBF, unhide RF⟩
    exact results_cell_tmp Tryz.results36 _ wf (H + 1) _ _ rfl (unhide HFR) Tryz.underlying35 rfl (by kernel_rfl)
  · have d3 : decide (low k < lo) = false := decide_eq_false hlo
    have HLO : Hid (rlow ⟨low, l⟩ (k : Int) lo = low) := hide (rlow_same (W := ⟨low, l⟩) hlo)
    go_upto_region 10 with fail
    obtain ⟨X, hX⟩ : ∃ X, X = v1 := ⟨_, rfl⟩
    rw [← hX] at N1 cl ⊢
    have N2 := N1
    clear hX
    have X4 := refC_list (unhide N2).r0
    have f4 := (unhide N2).r0.free 4 (by simp [refC])
    obtain ⟨X1, hX1⟩ : ∃ X1, X1 = X.alloc (.cells #[] 100) := ⟨_, rfl⟩
    have b1 : Below X.heap.size X X1 := by rw [hX1]; exact (Below.refl _ _).alloc (Nat.le_refl _) _
    have row0 : RefK.Row X1 X.heap.size (some ⟨X.heap.size, 0, none⟩) 0 [] := by rw [hX1]; exact World.ownsRow_made X #[] 0 (Nat.le_refl _) (by unfold maxLen; omega) rfl
    have hlies : RefK.Lies X1 a l := at_lies ((unhide HAt).below (Nat.le_refl _) ((unhide N2).bel.trans (b1.mono (unhide N2).bel.size)))
    obtain ⟨a5, c5, X2, happ1, row5, gr5⟩ := grow_app refK_law row0 a c l hlies (by simp; omega) b1.size 33
    have b2 : Below X.heap.size X1 X2 := (Below.refl _ X1).grown gr5 b1.size (fun i e => (row_lt row0 i e).1)
    rw [List.nil_append] at happ1 row5
    obtain ⟨a', c', w9, happ2, row9, b3, _, _⟩ := grow_one refK_law row5 ⟨(k : Int), seq, code⟩ 100 (by omega) (b1.trans b2).size
    have N9 := (unhide N2).below ((b1.trans b2).trans b3)
    have HXs : H + 1 < X.heap.size := by obtain ⟨t, _, h1⟩ := (unhide N2).r1; exact h1.lt
    obtain ⟨wA, hwA⟩ : ∃ wA, wA = w9.setCell ⟨H, 4, none⟩ (.slice a' (l.length + 1) c') := ⟨_, rfl⟩
    have NA : NB w H (refC low a' (l.length + 1) c') wA := by rw [hwA]; exact N9.set (k := 4) (by simp [refC]) (.slice a' (l.length + 1) c')
    have rowA : RefK.Row wA X.heap.size a' c' (l ++ [⟨(k : Int), seq, code⟩]) := by
      rw [hwA]
      exact row_keep row9 ((Moved.refl (fun i => i = H) w9).setCell (p := ⟨H, 4, none⟩) (.inl rfl) _) (fun i e f => by omega)
    have f9 := N9.r0.free 4 (by simp [refC])
    have t9 := refC_list N9.r0
    have HX1 := hide hX1
    have HWA := hide hwA
    have HNA := hide NA
    have HRA := hide rowA
    have HXL := hide HXs
    have hHX : H < X.heap.size := by omega
    have HBX := hide (unhide N2).bel.size
    have HAP1 : Hid ((Builtin.append_ #[33, 33] 33 #[.slice (some ⟨X.heap.size, 0, none⟩) 0 0, .slice a l.length c]).run Tryz.prog X1 = .ok (.slice a5 l.length c5) X2) := hide happ1
    have HAP2 : Hid ((Builtin.append_ #[33, 33] 33 #[.slice a5 l.length c5, .slice (some ⟨X2.heap.size, 0, none⟩) 1 1]).run Tryz.prog (X2.alloc (.cells #[.int .i64 (k : Int), .int .i64 seq, .int .i64 code] 100)) = .ok (.slice a' (l.length + 1) c') w9) := hide happ2
    have X14 : X1.cell? ⟨H, 4, none⟩ = some (.slice a l.length c) := (b1.cell (p := ⟨H, 4, none⟩) (by show H < _; omega)).trans X4
    clear hX1 b1 row0 hlies happ1 row5 gr5 b2 happ2 row9 b3 N9 HXs hwA NA rowA N2 N1 cl
    go_upto_region 11 with (at_builtin; first | (simp only [← unhide HX1]; refine wpList_app rfl _ _ 33 33 33 rfl rfl rfl rfl (unhide HAP1) ?_) | (refine wpList_app rfl _ _ 33 33 33 rfl rfl rfl rfl (unhide HAP2) ?_))
    rw [← unhide HWA]
    have hrg := (unhide HNA).r0.range
    have hth := (unhide HNA).there
    go_step
    refine wpList_load_mid rfl 35 (.tmp 5) rfl H 0 rfl (refC low a' (l.length + 1) c') _ hrg Tryz.underlying35 rfl (by kernel_rfl) ?_
    refine wpList_store_mid rfl 35 (.tmp 10) (.tmp 60) rfl (H + 1) 0 (refC low a' (l.length + 1) c').toArray rfl rfl hth (by kernel_rfl) (by simp [Value.oneCell', refC]) ?_
    clear hrg hth
    have RF : Hid (RefK.Row (wA.setCells (H + 1) 0 (refC low a' (l.length + 1) c')) w.heap.size a' c' (l ++ [⟨(k : Int), seq, code⟩])) := hide (row_base (row_keep (unhide HRA) (setCells_moved wA (H + 1) 0 _) (fun i e f => by have := unhide HXL; omega)) (unhide HBX))
    obtain ⟨wf, hwf, hfr, hbf⟩ := (unhide HNA).put rfl
    change wpList _ _ _ _ _ (World.setCells _ (H + 1) 0 (refC low a' (l.length + 1) c'))
    rw [hwf] at RF ⊢
    have HFR := hide hfr
    have HBF := hide hbf
    clear hfr hbf hwf
    go_wp2_with fail
    refine bodyPost_ret (v := .tuple #[.agg (refC low a' (l.length + 1) c').toArray, .int .i64 0]) ?_ rfl ⟨a', c', by rw [unhide HLO]; rfl, unhide HBF, unhide RF⟩
    exact results_cell_tmp Tryz.results36 _ wf (H + 1) _ _ rfl (unhide HFR) Tryz.underlying35 rfl (by kernel_rfl)
end Go.Proofs.YtigmhljaoicdbaaGreat.Sn

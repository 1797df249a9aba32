/- The document's own Set. Conditions: the windows are a store's; the window's numbers are 64 bits wide. -/
import Derived.Test.YtoccgggiaalhdaaWith
import Derived.Test.YtoccgggiaalhdaaLaw
import Derived.Test.YtoccgggiaalhdaaSpRef
namespace Go.Proofs.Ytoccgggiaalhdaa
open Go.RowKit
theorem results_cell_tmp {P : Program} {fn : Func} {p t : Tmp} {ty : TypeId} (h : fn.results = #[.cell p ty, .tmp t]) (tmps : Array Value) (w : World) (g : Nat) (cs : List Value) (d : TypeDesc)
    (hp : tmps.getD p undef = .pointer (some ⟨g, 0, none⟩)) (hc : w.rangeAt g 0 cs) (hu : P.underlying ty = some d) (hd : d.isRow = true) (hi : (P.info? ty).map (·.size) = some cs.length) :
    (results fn tmps).run P w = .ok (.tuple #[.agg cs.toArray, tmps.getD t undef]) w := by
  have hp' : tmps[p]?.getD undef = .pointer (some ⟨g, 0, none⟩) := by simpa using hp
  simp [results, h, hp', asAddr, run_loadVar_mid w g 0 ty cs d hc hu hd hi]
/-- What Set's variables hold. -/
structure S3 (w : World) (H : Nat) (s : Value) (x : Win AggV) (v : World) : Prop where
  r0 : RowAt v H [s]
  r1 : RowAt v (H + 1) (outV x)
  r2 : RowAt v (H + 2) [.slice none 0 0]
  bel : Below w.heap.size w v
theorem S3.below {w v v' : World} {H : Nat} {s : Value} {x : Win AggV} (h : S3 w H s x v) (hb : Below v.heap.size v v') : S3 w H s x v' :=
  ⟨h.r0.below hb, h.r1.below hb, h.r2.below hb, h.bel.trans (hb.mono h.bel.size)⟩
theorem S3.put {w v : World} {H : Nat} {s : Value} {x : Win AggV} (h : S3 w H s x v) (hH : H = w.heap.size) (o : Value) : ∃ wf, v.setCells (H + 2) 0 [o] = wf ∧ RowAt wf (H + 2) [o] ∧ Below w.heap.size w wf := by
  refine ⟨_, rfl, h.r2.put [o] rfl, ?_⟩
  have m := setCells_moved v (H + 2) 0 [o]
  exact ((Moved.of_below (F := fun j => j = H + 2) h.bel).trans m (fun _ hi => .inl hi)).below (fun i hi => by omega) (Nat.le_refl _)
theorem set_there {l : List (Win AggV)} {x : Win AggV} (h : keyOk x.key = true ∧ SO.isStart x.start = true ∧ SO.ok x.agg = true) (hl : (look l x.key x.start).isSome = true) : setS SO l x = (l, 5) := by
  unfold setS; rw [if_pos h, if_pos hl]
theorem set_full {l : List (Win AggV)} {x : Win AggV} (h : keyOk x.key = true ∧ SO.isStart x.start = true ∧ SO.ok x.agg = true) (hl : look l x.key x.start = none) (h32 : 32 ≤ l.length) : setS SO l x = (l, 6) := by
  unfold setS; rw [if_pos h, hl]; exact if_pos h32
theorem set_new {l : List (Win AggV)} {x : Win AggV} (h : keyOk x.key = true ∧ SO.isStart x.start = true ∧ SO.ok x.agg = true) (hl : look l x.key x.start = none) (h32 : ¬ 32 ≤ l.length) : setS SO l x = (ins x l, 0) := by
  unfold setS; rw [if_pos h, hl]; exact if_neg h32
def gof : Option Addr → Nat
  | some a => a.block
  | none => 0
theorem row_flat {w : World} {B c : Nat} {a : Option Addr} {l : List (Win AggV)} (h : OutK.Row w B a c l) : a = some ⟨gof a, 0, none⟩ ∨ l = [] := by
  rcases h.2 with ⟨_, h0⟩ | ⟨g, cap, cur, hv, _⟩
  · exact .inr (List.length_eq_zero_iff.1 h0)
  · simp only [Value.slice.injEq] at hv
    obtain ⟨rfl, _⟩ := hv
    exact .inl rfl
theorem row_max {w : World} {B c : Nat} {a : Option Addr} {l : List (Win AggV)} (h : OutK.Row w B a c l) : c ≤ maxLen := by
  rcases h.2 with ⟨hv, _⟩ | ⟨g, cap, cur, hv, _, _, _, hm, _⟩
  · simp only [Value.slice.injEq] at hv; rw [hv.2.2]; exact Nat.zero_le _
  · simp only [Value.slice.injEq] at hv; rw [hv.2.2]; exact hm
theorem set_no {l : List (Win AggV)} {x : Win AggV} (h : ¬ (keyOk x.key = true ∧ SO.isStart x.start = true ∧ SO.ok x.agg = true)) : setS SO l x = (l, 1) := if_neg h
set_option maxRecDepth 100000 in
set_option maxHeartbeats 4000000 in
theorem rset_any {w : World} {B : Nat} {a : Option Addr} {c : Nat} {l : List (Win AggV)} (hR : OutK.Row w B a c l) (hB : B ≤ w.heap.size) (hg : Good SO l) (x : Win AggV) (hx : x.agg.In) :
    Calls Try.prog 15 #[.agg #[.slice a l.length c], .agg (outV x).toArray] w fun e w' => ∃ a' c', e = .returned (.tuple #[.agg #[.slice a' (setS SO l x).1.length c'], .int .i64 ((setS SO l x).2 : Int)]) ∧ OutK.Row w' B a' c' (setS SO l x).1 ∧ (∀ j, (Value.slice a' (setS SO l x).1.length c').ownBlock = some j → (Value.slice a l.length c).ownBlock = some j ∨ w.heap.size ≤ j) ∧ Below w.heap.size w w' := by
  obtain ⟨xk, xs, ⟨g0, g1, g2, g3, g4, g5, g6, g7⟩⟩ := x
  obtain ⟨W, hW⟩ : ∃ W, W = ((w.alloc (.cells #[.slice a l.length c] 29)).alloc (.cells (outV (⟨xk, xs, ⟨g0, g1, g2, g3, g4, g5, g6, g7⟩⟩ : Win AggV)).toArray 34)).alloc (.cells #[.slice none 0 0] 29) := ⟨_, rfl⟩
  obtain ⟨H, hH⟩ : ∃ H, H = w.heap.size := ⟨_, rfl⟩
  have T0 : RowAt W H [.slice a l.length c] := by rw [hW, hH]; exact row_old (row_old (row_new _ _ _) _) _
  have T1 : RowAt W (H + 1) (outV (⟨xk, xs, ⟨g0, g1, g2, g3, g4, g5, g6, g7⟩⟩ : Win AggV)) := by rw [hW, hH]; exact row_old (row_new2 _ _ _ _ _) _
  have T2 : RowAt W (H + 2) [.slice none 0 0] := by
    rw [hW, hH]
    have := row_new ((w.alloc (.cells #[.slice a l.length c] 29)).alloc (.cells (outV (⟨xk, xs, ⟨g0, g1, g2, g3, g4, g5, g6, g7⟩⟩ : Win AggV)).toArray 34)) [.slice none 0 0] 29
    rw [show ((w.alloc (.cells #[.slice a l.length c] 29)).alloc (.cells (outV (⟨xk, xs, ⟨g0, g1, g2, g3, g4, g5, g6, g7⟩⟩ : Win AggV)).toArray 34)).heap.size = w.heap.size + 2 by simp] at this
    exact this
  have bW : Below w.heap.size w W := by rw [hW]; exact (((Below.refl _ _).alloc (Nat.le_refl _) _).alloc (by simp) _).alloc (by simp; omega) _
  have BL := hide (⟨T0, T1, T2, bW⟩ : S3 w H (.slice a l.length c) (⟨xk, xs, ⟨g0, g1, g2, g3, g4, g5, g6, g7⟩⟩ : Win AggV) W)
  have c0 : W.cell? ⟨H + 1, 0, none⟩ = some (.string ⟨xk.toArray⟩) := T1.cell 0 (Nat.succ_pos _)
  have c1 : W.cell? ⟨H + 1, 1, none⟩ = some (.int .i64 xs) := T1.cell 1 (Nat.lt_of_sub_pos (Nat.succ_pos _))
  have c2 : Hid (W.rangeAt (H + 1) 2 [.int .i64 g0, .int .i64 g1, .int .i64 g2, .int .i64 g3, .int .i64 g4, .int .i64 g5, .int .i64 g6, .int .i64 g7]) := hide fun j u hu => by
    have := T1.range (2 + j) u (by rw [outV_eq, ← hu, Nat.add_comm 2 j]; rfl)
    rwa [Nat.zero_add] at this
  have outl : (outV (⟨xk, xs, ⟨g0, g1, g2, g3, g4, g5, g6, g7⟩⟩ : Win AggV)).toArray = #[.string ⟨xk.toArray⟩, .int .i64 xs, .int .i64 g0, .int .i64 g1, .int .i64 g2, .int .i64 g3, .int .i64 g4, .int .i64 g5, .int .i64 g6, .int .i64 g7] := rfl
  rw [outl] at hW
  have HW := hide hW
  have HH := hide hH
  have HRW := hide hR
  have HBB := hide hB
  have HG := hide hg
  have CK := hide (fun v => rkey_any xk v)
  have CE := hide (fun v => Sp.rend_any xs v)
  have CR := hide (fun v => ref_right_any ⟨g0, g1, g2, g3, g4, g5, g6, g7⟩ v hx)
  simp only [aggV, cellsA, I] at CR
  clear hW hH hR hB hg bW T0 T1 T2
  simp only [outl]
  by_cases hk : keyOk xk = true
  rotate_left
  · have RS := hide (set_no (l := l) (x := (⟨xk, xs, ⟨g0, g1, g2, g3, g4, g5, g6, g7⟩⟩ : Win AggV)) (fun h => hk h.1))
    rw [Bool.eq_false_iff.2 hk] at CK
    go_enter Try.func15, Try.ntmps15
    go_upto_region 1 with fail
    rw [← unhide HH]
    try change Code.wp _ _ _ _ (((w.alloc (.cells #[.slice a l.length c] 29)).alloc (.cells #[.string ⟨xk.toArray⟩, .int .i64 xs, .int .i64 g0, .int .i64 g1, .int .i64 g2, .int .i64 g3, .int .i64 g4, .int .i64 g5, .int .i64 g6, .int .i64 g7] 34)).alloc (.cells #[.slice none 0 0] 29))
    rw [← unhide HW]
    go_upto_region 2 with fail
    refine (unhide CK _).mono ?_
    rintro e v' ⟨rfl, hw⟩
    rw [hw]
    clear hw v'
    go_upto_region 2 with fail
    have hrg := (unhide BL).r0.range
    have hth := (unhide BL).r2.there
    go_step
    refine wpList_load_mid rfl 29 (.tmp 2) rfl H 0 rfl [.slice a l.length c] _ hrg Try.underlying29 rfl (by kernel_rfl) ?_
    refine wpList_store_mid rfl 29 (.tmp 4) (.tmp 30) rfl (H + 1 + 1) 0 #[.slice a l.length c] rfl rfl hth (by kernel_rfl) (by simp [Value.oneCell']) ?_
    clear hrg hth
    obtain ⟨wf, hwf, hfr, hbf⟩ := (unhide BL).put (unhide HH) (.slice a l.length c)
    change wpList _ _ _ _ _ (World.setCells _ (H + 2) 0 [.slice a l.length c])
    rw [hwf]
    have HFR := hide hfr
    have HBF := hide hbf
    clear hfr hbf hwf
    go_wp2_with fail
    refine bodyPost_ret (v := .tuple #[.agg #[.slice a l.length c], .int .i64 1]) ?_ rfl ?_
    · exact results_cell_tmp Try.results15 _ wf (H + 1 + 1) [.slice a l.length c] _ rfl (unhide HFR).range Try.underlying29 rfl (by kernel_rfl)
    · exact ⟨a, c, by rw [unhide RS]; rfl, by rw [unhide RS]; exact row_below (unhide HRW) (unhide HBF), by rw [unhide RS]; exact fun _ h => .inl h, unhide HBF⟩
  · by_cases he : 0 ≤ Sp.endI xs
    rotate_left
    · have RS := hide (set_no (l := l) (x := (⟨xk, xs, ⟨g0, g1, g2, g3, g4, g5, g6, g7⟩⟩ : Win AggV)) (fun h => he (of_decide_eq_true h.2.1)))
      have he' : Sp.endI xs < 0 := by omega
      go_enter Try.func15, Try.ntmps15
      go_upto_region 1 with fail
      rw [← unhide HH]
      try change Code.wp _ _ _ _ (((w.alloc (.cells #[.slice a l.length c] 29)).alloc (.cells #[.string ⟨xk.toArray⟩, .int .i64 xs, .int .i64 g0, .int .i64 g1, .int .i64 g2, .int .i64 g3, .int .i64 g4, .int .i64 g5, .int .i64 g6, .int .i64 g7] 34)).alloc (.cells #[.slice none 0 0] 29))
      rw [← unhide HW]
      go_upto_region 2 with fail
      refine (unhide CK _).mono ?_
      rintro e v' ⟨rfl, hw⟩
      rw [hw]
      clear hw v'
      go_upto_region 2 with fail
      refine (unhide CE _).mono ?_
      rintro e v' ⟨rfl, hw⟩
      rw [hw]
      clear hw v'
      go_upto_region 2 with fail
      have hrg := (unhide BL).r0.range
      have hth := (unhide BL).r2.there
      go_step
      refine wpList_load_mid rfl 29 (.tmp 2) rfl H 0 rfl [.slice a l.length c] _ hrg Try.underlying29 rfl (by kernel_rfl) ?_
      refine wpList_store_mid rfl 29 (.tmp 4) (.tmp 30) rfl (H + 1 + 1) 0 #[.slice a l.length c] rfl rfl hth (by kernel_rfl) (by simp [Value.oneCell']) ?_
      clear hrg hth
      obtain ⟨wf, hwf, hfr, hbf⟩ := (unhide BL).put (unhide HH) (.slice a l.length c)
      change wpList _ _ _ _ _ (World.setCells _ (H + 2) 0 [.slice a l.length c])
      rw [hwf]
      have HFR := hide hfr
      have HBF := hide hbf
      clear hfr hbf hwf
      go_wp2_with fail
      refine bodyPost_ret (v := .tuple #[.agg #[.slice a l.length c], .int .i64 1]) ?_ rfl ?_
      · exact results_cell_tmp Try.results15 _ wf (H + 1 + 1) [.slice a l.length c] _ rfl (unhide HFR).range Try.underlying29 rfl (by kernel_rfl)
      · exact ⟨a, c, by rw [unhide RS]; rfl, by rw [unhide RS]; exact row_below (unhide HRW) (unhide HBF), by rw [unhide RS]; exact fun _ h => .inl h, unhide HBF⟩
    · by_cases hr : right ⟨g0, g1, g2, g3, g4, g5, g6, g7⟩ = true
      rotate_left
      · have RS := hide (set_no (l := l) (x := (⟨xk, xs, ⟨g0, g1, g2, g3, g4, g5, g6, g7⟩⟩ : Win AggV)) (fun h => hr (by have := h.2.2; simp [SO] at this; exact this.1)))
        have dg : decide (Sp.endI xs < 0) = false := decide_eq_false (by omega)
        rw [Bool.eq_false_iff.2 hr] at CR
        go_enter Try.func15, Try.ntmps15
        go_upto_region 1 with fail
        rw [← unhide HH]
        try change Code.wp _ _ _ _ (((w.alloc (.cells #[.slice a l.length c] 29)).alloc (.cells #[.string ⟨xk.toArray⟩, .int .i64 xs, .int .i64 g0, .int .i64 g1, .int .i64 g2, .int .i64 g3, .int .i64 g4, .int .i64 g5, .int .i64 g6, .int .i64 g7] 34)).alloc (.cells #[.slice none 0 0] 29))
        rw [← unhide HW]
        go_upto_region 2 with fail
        refine (unhide CK _).mono ?_
        rintro e v' ⟨rfl, hw⟩
        rw [hw]
        clear hw v'
        go_upto_region 2 with fail
        refine (unhide CE _).mono ?_
        rintro e v' ⟨rfl, hw⟩
        rw [hw]
        clear hw v'
        go_upto_region 2 with (refine wpList_load_on rfl 32 (.tmp 19) rfl (H + 1) 2 rfl [.int .i64 g0, .int .i64 g1, .int .i64 g2, .int .i64 g3, .int .i64 g4, .int .i64 g5, .int .i64 g6, .int .i64 g7] _ (unhide c2) Try.underlying32 rfl (by kernel_rfl) ?_)
        refine (unhide CR _).mono ?_
        rintro e W2 ⟨rfl, hb⟩
        have SB := hide ((unhide BL).below hb)
        have c3 : W2.cell? ⟨H + 1, 2, none⟩ = some (.int .i64 g0) := (unhide SB).r1.cell 2 (Nat.lt_of_sub_pos (Nat.succ_pos _))
        clear hb
        go_upto_region 2 with fail
        have hrg := (unhide SB).r0.range
        have hth := (unhide SB).r2.there
        go_step
        refine wpList_load_mid rfl 29 (.tmp 2) rfl H 0 rfl [.slice a l.length c] _ hrg Try.underlying29 rfl (by kernel_rfl) ?_
        refine wpList_store_mid rfl 29 (.tmp 4) (.tmp 30) rfl (H + 1 + 1) 0 #[.slice a l.length c] rfl rfl hth (by kernel_rfl) (by simp [Value.oneCell']) ?_
        clear hrg hth
        obtain ⟨wf, hwf, hfr, hbf⟩ := (unhide SB).put (unhide HH) (.slice a l.length c)
        change wpList _ _ _ _ _ (World.setCells _ (H + 2) 0 [.slice a l.length c])
        rw [hwf]
        have HFR := hide hfr
        have HBF := hide hbf
        clear hfr hbf hwf
        go_wp2_with fail
        refine bodyPost_ret (v := .tuple #[.agg #[.slice a l.length c], .int .i64 1]) ?_ rfl ?_
        · exact results_cell_tmp Try.results15 _ wf (H + 1 + 1) [.slice a l.length c] _ rfl (unhide HFR).range Try.underlying29 rfl (by kernel_rfl)
        · exact ⟨a, c, by rw [unhide RS]; rfl, by rw [unhide RS]; exact row_below (unhide HRW) (unhide HBF), by rw [unhide RS]; exact fun _ h => .inl h, unhide HBF⟩
      · by_cases hc : g0 = 0
        · have RS := hide (set_no (l := l) (x := (⟨xk, xs, ⟨g0, g1, g2, g3, g4, g5, g6, g7⟩⟩ : Win AggV)) (fun h => by have := h.2.2; simp [SO] at this; omega))
          have dg : decide (Sp.endI xs < 0) = false := decide_eq_false (by omega)
          subst hc
          rw [hr] at CR
          go_enter Try.func15, Try.ntmps15
          go_upto_region 1 with fail
          rw [← unhide HH]
          try change Code.wp _ _ _ _ (((w.alloc (.cells #[.slice a l.length c] 29)).alloc (.cells #[.string ⟨xk.toArray⟩, .int .i64 xs, .int .i64 0, .int .i64 g1, .int .i64 g2, .int .i64 g3, .int .i64 g4, .int .i64 g5, .int .i64 g6, .int .i64 g7] 34)).alloc (.cells #[.slice none 0 0] 29))
          rw [← unhide HW]
          go_upto_region 2 with fail
          refine (unhide CK _).mono ?_
          rintro e v' ⟨rfl, hw⟩
          rw [hw]
          clear hw v'
          go_upto_region 2 with fail
          refine (unhide CE _).mono ?_
          rintro e v' ⟨rfl, hw⟩
          rw [hw]
          clear hw v'
          go_upto_region 2 with (refine wpList_load_on rfl 32 (.tmp 19) rfl (H + 1) 2 rfl [.int .i64 0, .int .i64 g1, .int .i64 g2, .int .i64 g3, .int .i64 g4, .int .i64 g5, .int .i64 g6, .int .i64 g7] _ (unhide c2) Try.underlying32 rfl (by kernel_rfl) ?_)
          refine (unhide CR _).mono ?_
          rintro e W2 ⟨rfl, hb⟩
          have SB := hide ((unhide BL).below hb)
          have c3 : W2.cell? ⟨H + 1, 2, none⟩ = some (.int .i64 0) := (unhide SB).r1.cell 2 (Nat.lt_of_sub_pos (Nat.succ_pos _))
          clear hb
          go_upto_region 2 with fail
          have hrg := (unhide SB).r0.range
          have hth := (unhide SB).r2.there
          go_step
          refine wpList_load_mid rfl 29 (.tmp 2) rfl H 0 rfl [.slice a l.length c] _ hrg Try.underlying29 rfl (by kernel_rfl) ?_
          refine wpList_store_mid rfl 29 (.tmp 4) (.tmp 30) rfl (H + 1 + 1) 0 #[.slice a l.length c] rfl rfl hth (by kernel_rfl) (by simp [Value.oneCell']) ?_
          clear hrg hth
          obtain ⟨wf, hwf, hfr, hbf⟩ := (unhide SB).put (unhide HH) (.slice a l.length c)
          change wpList _ _ _ _ _ (World.setCells _ (H + 2) 0 [.slice a l.length c])
          rw [hwf]
          have HFR := hide hfr
          have HBF := hide hbf
          clear hfr hbf hwf
          go_wp2_with fail
          refine bodyPost_ret (v := .tuple #[.agg #[.slice a l.length c], .int .i64 1]) ?_ rfl ?_
          · exact results_cell_tmp Try.results15 _ wf (H + 1 + 1) [.slice a l.length c] _ rfl (unhide HFR).range Try.underlying29 rfl (by kernel_rfl)
          · exact ⟨a, c, by rw [unhide RS]; rfl, by rw [unhide RS]; exact row_below (unhide HRW) (unhide HBF), by rw [unhide RS]; exact fun _ h => .inl h, unhide HBF⟩
        · have hok : SO.ok ⟨g0, g1, g2, g3, g4, g5, g6, g7⟩ = true := by
            have h1 : 0 < g0 := by
              have := hr
              unfold right at this
              rw [if_neg hc] at this
              simp only [Bool.and_eq_true, decide_eq_true_eq] at this
              exact this.1.1
            show (right ⟨g0, g1, g2, g3, g4, g5, g6, g7⟩ && decide (1 ≤ g0)) = true
            rw [hr, decide_eq_true (by omega)]; rfl
          have hlo := look_open (w := (⟨xk, xs, ⟨g0, g1, g2, g3, g4, g5, g6, g7⟩⟩ : Win AggV)) (unhide HG).rise
          cases hop : opens (⟨xk, xs, ⟨g0, g1, g2, g3, g4, g5, g6, g7⟩⟩ : Win AggV) l with
          | true =>
            rw [hop] at hlo
            have hlk : (look l xk xs).isSome = true := hlo
            clear hlo
            have dg : decide (Sp.endI xs < 0) = false := decide_eq_false (by omega)
            rw [hr] at CR
            go_enter Try.func15, Try.ntmps15
            go_upto_region 1 with fail
            rw [← unhide HH]
            try change Code.wp _ _ _ _ (((w.alloc (.cells #[.slice a l.length c] 29)).alloc (.cells #[.string ⟨xk.toArray⟩, .int .i64 xs, .int .i64 g0, .int .i64 g1, .int .i64 g2, .int .i64 g3, .int .i64 g4, .int .i64 g5, .int .i64 g6, .int .i64 g7] 34)).alloc (.cells #[.slice none 0 0] 29))
            rw [← unhide HW]
            go_upto_region 2 with fail
            refine (unhide CK _).mono ?_
            rintro e v' ⟨rfl, hw⟩
            rw [hw]
            clear hw v'
            go_upto_region 2 with fail
            refine (unhide CE _).mono ?_
            rintro e v' ⟨rfl, hw⟩
            rw [hw]
            clear hw v'
            go_upto_region 2 with (refine wpList_load_on rfl 32 (.tmp 19) rfl (H + 1) 2 rfl [.int .i64 g0, .int .i64 g1, .int .i64 g2, .int .i64 g3, .int .i64 g4, .int .i64 g5, .int .i64 g6, .int .i64 g7] _ (unhide c2) Try.underlying32 rfl (by kernel_rfl) ?_)
            refine (unhide CR _).mono ?_
            rintro e W2 ⟨rfl, hb⟩
            have SB := hide ((unhide BL).below hb)
            have c3 : W2.cell? ⟨H + 1, 2, none⟩ = some (.int .i64 g0) := (unhide SB).r1.cell 2 (Nat.lt_of_sub_pos (Nat.succ_pos _))
            clear hb
            go_upto_region 3 with fail
            have FD := find_any l (⟨xk, xs, ⟨g0, g1, g2, g3, g4, g5, g6, g7⟩⟩ : Win AggV) a c W2 (row_lies (row_below (unhide HRW) (unhide SB).bel)) (row_cap (unhide HRW)) (row_max (unhide HRW)) (fun y hy => by have := (unhide HG).all y hy; simp [keyOk] at this; omega) (by have := hk; simp [keyOk] at this; show xk.length ≤ _; omega) (gof a) 0 (row_flat (unhide HRW))
            simp only [outV_eq] at FD
            have HFD := hide FD
            clear FD
            have RG := hide (unhide SB).r0.range
            have RX := hide (unhide SB).r1.range
            go_upto_region 4 with (first | (refine wpList_load_on rfl 29 (.tmp 2) rfl H 0 rfl [.slice a l.length c] _ (unhide RG) Try.underlying29 rfl (by kernel_rfl) ?_) | (refine wpList_load_on rfl 34 (.tmp 3) rfl (H + 1) 0 rfl [.string ⟨xk.toArray⟩, .int .i64 xs, .int .i64 g0, .int .i64 g1, .int .i64 g2, .int .i64 g3, .int .i64 g4, .int .i64 g5, .int .i64 g6, .int .i64 g7] _ (unhide RX) Try.underlying34 rfl (by kernel_rfl) ?_))
            refine (unhide HFD).mono ?_
            rintro e W3 ⟨rfl, hb⟩
            have SC := hide ((unhide SB).below hb)
            clear hb RG RX HFD SB
            rw [hop]
            have RS := hide (set_there ⟨hk, decide_eq_true he, hok⟩ hlk : setS SO l (⟨xk, xs, ⟨g0, g1, g2, g3, g4, g5, g6, g7⟩⟩ : Win AggV) = (l, 5))
            go_upto_region 5 with fail
            have hrg := (unhide SC).r0.range
            have hth := (unhide SC).r2.there
            go_step
            refine wpList_load_mid rfl 29 (.tmp 2) rfl H 0 rfl [.slice a l.length c] _ hrg Try.underlying29 rfl (by kernel_rfl) ?_
            refine wpList_store_mid rfl 29 (.tmp 4) (.tmp 38) rfl (H + 1 + 1) 0 #[.slice a l.length c] rfl rfl hth (by kernel_rfl) (by simp [Value.oneCell']) ?_
            clear hrg hth
            obtain ⟨wf, hwf, hfr, hbf⟩ := (unhide SC).put (unhide HH) (.slice a l.length c)
            change wpList _ _ _ _ _ (World.setCells _ (H + 2) 0 [.slice a l.length c])
            rw [hwf]
            have HFR := hide hfr
            have HBF := hide hbf
            clear hfr hbf hwf
            go_wp2_with fail
            refine bodyPost_ret (v := .tuple #[.agg #[.slice a l.length c], .int .i64 5]) ?_ rfl ?_
            · exact results_cell_tmp Try.results15 _ wf (H + 1 + 1) [.slice a l.length c] _ rfl (unhide HFR).range Try.underlying29 rfl (by kernel_rfl)
            · exact ⟨a, c, by rw [unhide RS]; rfl, by rw [unhide RS]; exact row_below (unhide HRW) (unhide HBF), by rw [unhide RS]; exact fun _ h => .inl h, unhide HBF⟩
          | false =>
            rw [hop] at hlo
            have hlk : look l xk xs = none := Option.isNone_iff_eq_none.1 (by rw [← Option.not_isSome, show (look l xk xs).isSome = false from hlo]; rfl)
            clear hlo
            by_cases h32 : (32 : Int) ≤ (l.length : Int)
            · have dg : decide (Sp.endI xs < 0) = false := decide_eq_false (by omega)
              rw [hr] at CR
              go_enter Try.func15, Try.ntmps15
              go_upto_region 1 with fail
              rw [← unhide HH]
              try change Code.wp _ _ _ _ (((w.alloc (.cells #[.slice a l.length c] 29)).alloc (.cells #[.string ⟨xk.toArray⟩, .int .i64 xs, .int .i64 g0, .int .i64 g1, .int .i64 g2, .int .i64 g3, .int .i64 g4, .int .i64 g5, .int .i64 g6, .int .i64 g7] 34)).alloc (.cells #[.slice none 0 0] 29))
              rw [← unhide HW]
              go_upto_region 2 with fail
              refine (unhide CK _).mono ?_
              rintro e v' ⟨rfl, hw⟩
              rw [hw]
              clear hw v'
              go_upto_region 2 with fail
              refine (unhide CE _).mono ?_
              rintro e v' ⟨rfl, hw⟩
              rw [hw]
              clear hw v'
              go_upto_region 2 with (refine wpList_load_on rfl 32 (.tmp 19) rfl (H + 1) 2 rfl [.int .i64 g0, .int .i64 g1, .int .i64 g2, .int .i64 g3, .int .i64 g4, .int .i64 g5, .int .i64 g6, .int .i64 g7] _ (unhide c2) Try.underlying32 rfl (by kernel_rfl) ?_)
              refine (unhide CR _).mono ?_
              rintro e W2 ⟨rfl, hb⟩
              have SB := hide ((unhide BL).below hb)
              have c3 : W2.cell? ⟨H + 1, 2, none⟩ = some (.int .i64 g0) := (unhide SB).r1.cell 2 (Nat.lt_of_sub_pos (Nat.succ_pos _))
              clear hb
              go_upto_region 3 with fail
              have FD := find_any l (⟨xk, xs, ⟨g0, g1, g2, g3, g4, g5, g6, g7⟩⟩ : Win AggV) a c W2 (row_lies (row_below (unhide HRW) (unhide SB).bel)) (row_cap (unhide HRW)) (row_max (unhide HRW)) (fun y hy => by have := (unhide HG).all y hy; simp [keyOk] at this; omega) (by have := hk; simp [keyOk] at this; show xk.length ≤ _; omega) (gof a) 0 (row_flat (unhide HRW))
              simp only [outV_eq] at FD
              have HFD := hide FD
              clear FD
              have RG := hide (unhide SB).r0.range
              have RX := hide (unhide SB).r1.range
              go_upto_region 4 with (first | (refine wpList_load_on rfl 29 (.tmp 2) rfl H 0 rfl [.slice a l.length c] _ (unhide RG) Try.underlying29 rfl (by kernel_rfl) ?_) | (refine wpList_load_on rfl 34 (.tmp 3) rfl (H + 1) 0 rfl [.string ⟨xk.toArray⟩, .int .i64 xs, .int .i64 g0, .int .i64 g1, .int .i64 g2, .int .i64 g3, .int .i64 g4, .int .i64 g5, .int .i64 g6, .int .i64 g7] _ (unhide RX) Try.underlying34 rfl (by kernel_rfl) ?_))
              refine (unhide HFD).mono ?_
              rintro e W3 ⟨rfl, hb⟩
              have SC := hide ((unhide SB).below hb)
              clear hb RG RX HFD SB
              rw [hop]
              have RS := hide (set_full ⟨hk, decide_eq_true he, hok⟩ hlk (by omega) : setS SO l (⟨xk, xs, ⟨g0, g1, g2, g3, g4, g5, g6, g7⟩⟩ : Win AggV) = (l, 6))
              have k0 : W3.cell? ⟨H, 0, none⟩ = some (.slice a l.length c) := (unhide SC).r0.cell 0 (Nat.succ_pos _)
              go_upto_region 7 with fail
              have hrg := (unhide SC).r0.range
              have hth := (unhide SC).r2.there
              go_step
              refine wpList_load_mid rfl 29 (.tmp 2) rfl H 0 rfl [.slice a l.length c] _ hrg Try.underlying29 rfl (by kernel_rfl) ?_
              refine wpList_store_mid rfl 29 (.tmp 4) (.tmp 43) rfl (H + 1 + 1) 0 #[.slice a l.length c] rfl rfl hth (by kernel_rfl) (by simp [Value.oneCell']) ?_
              clear hrg hth
              obtain ⟨wf, hwf, hfr, hbf⟩ := (unhide SC).put (unhide HH) (.slice a l.length c)
              change wpList _ _ _ _ _ (World.setCells _ (H + 2) 0 [.slice a l.length c])
              rw [hwf]
              have HFR := hide hfr
              have HBF := hide hbf
              clear hfr hbf hwf
              go_wp2_with fail
              refine bodyPost_ret (v := .tuple #[.agg #[.slice a l.length c], .int .i64 6]) ?_ rfl ?_
              · exact results_cell_tmp Try.results15 _ wf (H + 1 + 1) [.slice a l.length c] _ rfl (unhide HFR).range Try.underlying29 rfl (by kernel_rfl)
              · exact ⟨a, c, by rw [unhide RS]; rfl, by rw [unhide RS]; exact row_below (unhide HRW) (unhide HBF), by rw [unhide RS]; exact fun _ h => .inl h, unhide HBF⟩
            · have dg : decide (Sp.endI xs < 0) = false := decide_eq_false (by omega)
              rw [hr] at CR
              go_enter Try.func15, Try.ntmps15
              go_upto_region 1 with fail
              rw [← unhide HH]
              try change Code.wp _ _ _ _ (((w.alloc (.cells #[.slice a l.length c] 29)).alloc (.cells #[.string ⟨xk.toArray⟩, .int .i64 xs, .int .i64 g0, .int .i64 g1, .int .i64 g2, .int .i64 g3, .int .i64 g4, .int .i64 g5, .int .i64 g6, .int .i64 g7] 34)).alloc (.cells #[.slice none 0 0] 29))
              rw [← unhide HW]
              go_upto_region 2 with fail
              refine (unhide CK _).mono ?_
              rintro e v' ⟨rfl, hw⟩
              rw [hw]
              clear hw v'
              go_upto_region 2 with fail
              refine (unhide CE _).mono ?_
              rintro e v' ⟨rfl, hw⟩
              rw [hw]
              clear hw v'
              go_upto_region 2 with (refine wpList_load_on rfl 32 (.tmp 19) rfl (H + 1) 2 rfl [.int .i64 g0, .int .i64 g1, .int .i64 g2, .int .i64 g3, .int .i64 g4, .int .i64 g5, .int .i64 g6, .int .i64 g7] _ (unhide c2) Try.underlying32 rfl (by kernel_rfl) ?_)
              refine (unhide CR _).mono ?_
              rintro e W2 ⟨rfl, hb⟩
              have SB := hide ((unhide BL).below hb)
              have c3 : W2.cell? ⟨H + 1, 2, none⟩ = some (.int .i64 g0) := (unhide SB).r1.cell 2 (Nat.lt_of_sub_pos (Nat.succ_pos _))
              clear hb
              go_upto_region 3 with fail
              have FD := find_any l (⟨xk, xs, ⟨g0, g1, g2, g3, g4, g5, g6, g7⟩⟩ : Win AggV) a c W2 (row_lies (row_below (unhide HRW) (unhide SB).bel)) (row_cap (unhide HRW)) (row_max (unhide HRW)) (fun y hy => by have := (unhide HG).all y hy; simp [keyOk] at this; omega) (by have := hk; simp [keyOk] at this; show xk.length ≤ _; omega) (gof a) 0 (row_flat (unhide HRW))
              simp only [outV_eq] at FD
              have HFD := hide FD
              clear FD
              have RG := hide (unhide SB).r0.range
              have RX := hide (unhide SB).r1.range
              go_upto_region 4 with (first | (refine wpList_load_on rfl 29 (.tmp 2) rfl H 0 rfl [.slice a l.length c] _ (unhide RG) Try.underlying29 rfl (by kernel_rfl) ?_) | (refine wpList_load_on rfl 34 (.tmp 3) rfl (H + 1) 0 rfl [.string ⟨xk.toArray⟩, .int .i64 xs, .int .i64 g0, .int .i64 g1, .int .i64 g2, .int .i64 g3, .int .i64 g4, .int .i64 g5, .int .i64 g6, .int .i64 g7] _ (unhide RX) Try.underlying34 rfl (by kernel_rfl) ?_))
              refine (unhide HFD).mono ?_
              rintro e W3 ⟨rfl, hb⟩
              have SC := hide ((unhide SB).below hb)
              clear hb RG RX HFD SB
              rw [hop]
              have RS := hide (set_new ⟨hk, decide_eq_true he, hok⟩ hlk (by omega) : setS SO l (⟨xk, xs, ⟨g0, g1, g2, g3, g4, g5, g6, g7⟩⟩ : Win AggV) = (ins (⟨xk, xs, ⟨g0, g1, g2, g3, g4, g5, g6, g7⟩⟩ : Win AggV) l, 0))
              have k0 : W3.cell? ⟨H, 0, none⟩ = some (.slice a l.length c) := (unhide SC).r0.cell 0 (Nat.succ_pos _)
              have WT := with_any (row_mono (row_below (unhide HRW) (unhide SC).bel) (Nat.zero_le _)) (Nat.le_trans (unhide HG).most (by omega)) (pos (⟨xk, xs, ⟨g0, g1, g2, g3, g4, g5, g6, g7⟩⟩ : Win AggV) l) (pos_le _ l) (⟨xk, xs, ⟨g0, g1, g2, g3, g4, g5, g6, g7⟩⟩ : Win AggV) false (fun h => by cases h)
              rw [show putAt l (pos (⟨xk, xs, ⟨g0, g1, g2, g3, g4, g5, g6, g7⟩⟩ : Win AggV) l) (⟨xk, xs, ⟨g0, g1, g2, g3, g4, g5, g6, g7⟩⟩ : Win AggV) false = ins (⟨xk, xs, ⟨g0, g1, g2, g3, g4, g5, g6, g7⟩⟩ : Win AggV) l by rw [ins_pos, hop]; rfl] at WT
              simp only [outV_eq] at WT
              have HWT := hide WT
              clear WT
              go_upto_region 8 with fail
              have RG := hide (unhide SC).r0.range
              have RX := hide (unhide SC).r1.range
              go_wp2_with (first | (refine wpList_load_on rfl 29 (.tmp 2) rfl H 0 rfl [.slice a l.length c] _ (unhide RG) Try.underlying29 rfl (by kernel_rfl) ?_) | (refine wpList_load_on rfl 34 (.tmp 3) rfl (H + 1) 0 rfl [.string ⟨xk.toArray⟩, .int .i64 xs, .int .i64 g0, .int .i64 g1, .int .i64 g2, .int .i64 g3, .int .i64 g4, .int .i64 g5, .int .i64 g6, .int .i64 g7] _ (unhide RX) Try.underlying34 rfl (by kernel_rfl) ?_))
              refine (unhide HWT).mono ?_
              rintro e W4 ⟨a', c', rfl, hrow, hb⟩
              have SD := (unhide SC).below hb
              obtain ⟨wf, hwf, hfr, hbf⟩ := SD.put (unhide HH) (.slice a' (ins (⟨xk, xs, ⟨g0, g1, g2, g3, g4, g5, g6, g7⟩⟩ : Win AggV) l).length c')
              have hmv : Moved (fun j => j = H + 2) W4 wf := by rw [← hwf]; exact setCells_moved W4 (H + 2) 0 _
              have HNEW : Hid (∀ j, _ = some j → (Value.slice a l.length c).ownBlock = some j ∨ w.heap.size ≤ j) := hide (fun j hj => .inr (Nat.le_trans (unhide SC).bel.size (row_lt hrow j hj).1))
              have HROW := hide (row_mono (row_moved hrow hmv (fun i hi k hk => by have := (row_lt hrow k hk).1; have := (unhide SC).r2.lt; omega)) (Nat.le_trans (unhide HBB) (unhide SC).bel.size))
              have TH := hide SD.r2.there
              have HFR := hide hfr
              have HBF := hide hbf
              have HWF := hide hwf
              clear hfr hbf hmv hwf hrow hb SD HWT RG RX
              go_wp2_with (first | (refine wpList_store_mid rfl 29 (.tmp 4) (.tmp 47) rfl (H + 1 + 1) 0 #[.slice a' (ins (⟨xk, xs, ⟨g0, g1, g2, g3, g4, g5, g6, g7⟩⟩ : Win AggV) l).length c'] rfl rfl (unhide TH) (by kernel_rfl) (by simp [Value.oneCell']) ?_; change wpList _ _ _ _ _ (World.setCells _ (H + 2) 0 [.slice a' (ins (⟨xk, xs, ⟨g0, g1, g2, g3, g4, g5, g6, g7⟩⟩ : Win AggV) l).length c']); rw [unhide HWF]))
              refine bodyPost_ret (v := .tuple #[.agg #[.slice a' (ins (⟨xk, xs, ⟨g0, g1, g2, g3, g4, g5, g6, g7⟩⟩ : Win AggV) l).length c'], .int .i64 0]) ?_ rfl ?_
              · exact results_cell_tmp Try.results15 _ wf (H + 1 + 1) [.slice a' (ins (⟨xk, xs, ⟨g0, g1, g2, g3, g4, g5, g6, g7⟩⟩ : Win AggV) l).length c'] _ rfl (unhide HFR).range Try.underlying29 rfl (by kernel_rfl)
              · exact ⟨a', c', by rw [unhide RS]; rfl, by rw [unhide RS]; exact unhide HROW, by rw [unhide RS]; exact unhide HNEW, unhide HBF⟩
end Go.Proofs.Ytoccgggiaalhdaa

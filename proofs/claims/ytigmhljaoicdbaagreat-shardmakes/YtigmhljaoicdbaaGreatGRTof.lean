/- The document's own Of, over windows that came in. Conditions: there are at most 1000 windows. -/
import Derived.Test.YtigmhljaoicdbaaGreatGRTell
import Derived.Test.YtigmhljaoicdbaaGreatGWith
import Derived.Test.YtigmhljaoicdbaaGreatGSnTwind
import Derived.Deep.Fields
import Derived.Test.YtigmhljaoicdbaaGreatGEqW
import Derived.Test.YtigmhljaoicdbaaGreatGSnIns
namespace Go.Proofs.YtigmhljaoicdbaaGreat
open Go.RowKit
theorem exec_keep {P : Program} {op : Oper} {a : Act} {w : World} (ty : TypeId) (x y : Operand) (ho : op.op = .store ty x y) (b o : Nat) (cells : Array Value) (hx : a.eval x = .pointer (some ⟨b, o, none⟩)) (hy : a.eval y = .agg cells)
    (ht : w.there b o cells.size) (hi : (P.info? ty).map (·.size) = some cells.size) (h1 : cells.all (·.oneCell') = true) : (execOp a.eval op).run P w = .ok .skip (w.setCells b o cells.toList) := by
  unfold execOp
  simp only [ho, hx, hy, Instr.storeAt, Instr.sureAddr, Sem.run_bind, Sem.run_pure, Result.andThen_ok, run_storeVar_mid w b o ty cells ht hi h1]
/-- What Of's variables hold: the answer's room, the line on the way. -/
structure OB (w : World) (H : Nat) (x : List Value) (m : Int) (r : List (Win AggV)) (a1 : Option Addr) (c1 : Nat) (v : World) : Prop where
  r0 : RowAt v H x
  r1 : RowAt v (H + 1) [.int .i64 m, .slice a1 r.length c1]
  row : OutK.Row v (H + 2) a1 c1 r
  bel : Below w.heap.size w v
  big : H + 2 ≤ v.heap.size
theorem OB.below {w v v' : World} {H : Nat} {x : List Value} {m : Int} {r : List (Win AggV)} {a1 : Option Addr} {c1 : Nat} (h : OB w H x m r a1 c1 v) (hb : Below v.heap.size v v') : OB w H x m r a1 c1 v' :=
  ⟨h.r0.below hb, h.r1.below hb, row_below h.row hb, h.bel.trans (hb.mono h.bel.size), Nat.le_trans h.big hb.size⟩
theorem OB.set {w v v' : World} {H : Nat} {x : List Value} {m : Int} {r r' : List (Win AggV)} {a1 a2 : Option Addr} {c1 c2 : Nat} (h : OB w H x m r a1 c1 v) (hH : H = w.heap.size) (hb : Below v.heap.size v v') (hr : OutK.Row v' (H + 2) a2 c2 r') :
    v'.there (H + 1) 1 1 ∧ ∃ wf, v'.setCells (H + 1) 1 [.slice a2 r'.length c2] = wf ∧ OB w H x m r' a2 c2 wf := by
  have h1 := h.below hb
  have mv := setCells_moved v' (H + 1) 1 [.slice a2 r'.length c2]
  exact ⟨there_one h1.r1, _, rfl, h1.r0.keep mv (by omega), h1.r1.set 1 (by simp) _, row_moved hr mv (fun i hi k hk => by have := (row_lt hr k hk).1; omega), ((Moved.of_below (F := fun j => j = H + 1) h1.bel).trans mv (fun _ hi => .inl hi)).below (fun i hi => by omega) (Nat.le_refl _), Nat.le_trans h1.big mv.size⟩
theorem OB.put0 {w v : World} {H : Nat} {x : List Value} {m : Int} {r : List (Win AggV)} {a1 : Option Addr} {c1 : Nat} (h : OB w H x m r a1 c1 v) (hH : H = w.heap.size) (z : List Value) (hz : x.length = z.length) : ∃ wf, v.setCells H 0 z = wf ∧ OB w H z m r a1 c1 wf := by
  have mv := setCells_moved v H 0 z
  exact ⟨_, rfl, h.r0.put z hz, h.r1.keep mv (by omega), row_moved h.row mv (fun i hi k hk => by have := (row_lt h.row k hk).1; omega), ((Moved.of_below (F := fun j => j = H) h.bel).trans mv (fun _ hi => .inl hi)).below (fun i hi => by omega) (Nat.le_refl _), Nat.le_trans h.big mv.size⟩
/-- The document's line, behind its Of. -/
def ofD (m : Int) (o : List (Win AggV)) : LineV := if (ofL m o).2 = 0 then (ofL m o).1 else newL
set_option maxRecDepth 100000 in
set_option maxHeartbeats 8000000 in
theorem rtof_any {w : World} {a : Option Addr} {c : Nat} {o : List (Win AggV)} (m : Int) (hlay : IsOuts w a o.length c o) (hmost : o.length ≤ 1000) :
    Calls Tryz.prog 40 #[.int .i64 m, .slice a o.length c] w fun e w' => ∃ a' c', e = .returned (.tuple #[.agg #[.int .i64 (ofD m o).mark, .slice a' (ofD m o).row.length c'], .int .i64 ((ofL m o).2 : Int)]) ∧ OutK.Row w' w.heap.size a' c' (ofD m o).row ∧ Below w.heap.size w w' := by
  obtain ⟨W, hW⟩ : ∃ W, W = w.alloc (.cells #[.int .i64 0, .slice none 0 0] 31) := ⟨_, rfl⟩
  obtain ⟨H, hH⟩ : ∃ H, H = w.heap.size := ⟨_, rfl⟩
  have T0 : RowAt W H [.int .i64 0, .slice none 0 0] := by rw [hW, hH]; exact row_new _ _ _
  have bW : Below w.heap.size w W := by rw [hW]; exact (Below.refl _ _).alloc (Nat.le_refl _) _
  have HSZ : Hid (W.heap.size = H + 1) := hide (by rw [hW, hH]; simp)
  have HT := hide T0
  have HBW := hide bW
  have HW := hide hW
  have HH := hide hH
  have LAY := hide hlay
  have HX := hide hlay.ok
  clear hW hH T0 bW hlay
  have CR := hide (fun u => Sp.rright_any m u)
  cases hr : Sp.rightI m with
  | false =>
    have HO : Hid (ofL m o = (newL, 1)) := hide (by unfold ofL; rw [hr]; rfl)
    rw [hr] at CR
    clear hr
    go_enter Tryz.func40, Tryz.ntmps40
    go_upto_region 1 with fail
    rw [← unhide HH]
    try change Code.wp _ _ _ _ (w.alloc (.cells #[.int .i64 0, .slice none 0 0] 31))
    rw [← unhide HW]
    go_upto_region 2 with fail
    refine (unhide CR _).mono ?_
    rintro e v' ⟨rfl, hw⟩
    rw [hw]
    clear hw v' CR
    have hth := (unhide HT).there
    have hput := (unhide HT).put [.int .i64 0, .slice none 0 0] rfl
    have mv := setCells_moved W H 0 [.int .i64 0, .slice none 0 0]
    have hbf : Below w.heap.size w (W.setCells H 0 [.int .i64 0, .slice none 0 0]) := ((Moved.of_below (F := fun j => j = H) (unhide HBW)).trans mv (fun _ hi => .inl hi)).below (fun i hi => by have := unhide HH; omega) (Nat.le_refl _)
    obtain ⟨wf, hwf⟩ : ∃ wf, W.setCells H 0 [.int .i64 0, .slice none 0 0] = wf := ⟨_, rfl⟩
    rw [hwf] at hput hbf
    have HP := hide hput
    have HB := hide hbf
    clear hput hbf mv
    go_wp2_with (refine wpList_store_mid rfl 31 (.tmp 4) (.tmp 12) (by simp [go_sem]) H 0 #[.int .i64 0, .slice none 0 0] rfl rfl hth (by kernel_rfl) (by simp [Value.oneCell']) ?_; change wpList _ _ _ _ _ (World.setCells _ H 0 [.int .i64 0, .slice none 0 0]); rw [hwf])
    clear hth hwf
    refine bodyPost_ret (v := .tuple #[.agg #[.int .i64 0, .slice none 0 0], .int .i64 1]) ?_ rfl ?_
    · exact results_cell_tmp Tryz.results40 _ wf H [.int .i64 0, .slice none 0 0] _ rfl (unhide HP).range Tryz.underlying31 rfl (by kernel_rfl)
    · have hd : ofD m o = newL := by unfold ofD; rw [unhide HO]; rfl
      exact ⟨none, 0, by rw [hd, unhide HO]; rfl, by rw [hd]; exact row_none _ _, unhide HB⟩
  | true =>
    have HO : Hid (ofL m o = (⟨m, (setAll m [] o).1⟩, (setAll m [] o).2)) := hide (by unfold ofL; rw [hr]; rfl)
    rw [hr] at CR
    clear hr
    obtain ⟨W2, hW2⟩ : ∃ W2, W2 = W.alloc (.cells #[.int .i64 m, .slice none 0 0] 31) := ⟨_, rfl⟩
    have START : Hid (OB w H [.int .i64 0, .slice none 0 0] m [] none 0 W2) := hide (by
      have hb : Below W.heap.size W W2 := by rw [hW2]; exact (Below.refl _ _).alloc (Nat.le_refl _) _
      refine ⟨(unhide HT).below hb, ?_, row_none _ _, (unhide HBW).trans (hb.mono (unhide HBW).size), by rw [hW2]; have := unhide HSZ; simp; omega⟩
      have := row_new W [.int .i64 m, .slice none 0 0] 31
      rw [unhide HSZ, ← hW2] at this
      exact this)
    have HW2 := hide hW2
    clear hW2
    go_enter Tryz.func40, Tryz.ntmps40
    go_upto_region 1 with fail
    rw [← unhide HH]
    try change Code.wp _ _ _ _ (w.alloc (.cells #[.int .i64 0, .slice none 0 0] 31))
    rw [← unhide HW]
    go_upto_region 3 with fail
    refine (unhide CR _).mono ?_
    rintro e v' ⟨rfl, hw⟩
    rw [hw]
    clear hw v' CR
    go_upto_region 4 with fail
    rw [unhide HSZ]
    try change Code.wp _ _ _ _ (W.alloc (.cells #[.int .i64 m, .slice none 0 0] 31))
    rw [← unhide HW2]
    clear HW2 HW HT
    have ho0 : (0 : Int) ≤ (o.length : Int) := by omega
    go_wp2_with fail
    go_loopw [7] (fun i wr => ∃ (k : Nat) (r : List (Win AggV)), i = .int .i64 (k : Int) ∧ k ≤ o.length ∧ (∃ a1 c1, OB w H [.int .i64 0, .slice none 0 0] m r a1 c1 wr) ∧ Good SO r ∧ Mild r ∧ Hid (setAll m [] o = setAll m r (o.drop k))) (fun i _ => o.length - (intOf i).toNat)
    case atStart => exact ⟨0, [], rfl, Nat.zero_le _, ⟨_, _, unhide START⟩, good_nil, mild_nil, hide (by rw [List.drop_zero])⟩
    case round =>
      obtain ⟨k, r, rfl, hk, hs, hgg, hmm, HA⟩ := hrel
      have HS := hide hs
      have HGG := hide hgg
      have HMM := hide hmm
      clear hs hmm hgg START
      by_cases hlt : k < o.length
      · have g1 : (k : Int) < (o.length : Int) := by omega
        have hk0 : (0 : Int) ≤ (k : Int) := by omega
        have hwk : IntKind.i64.wrap ((k : Int) + 1) = (k : Int) + 1 := Go.IntWalk.i64_in _ (by omega)
        obtain ⟨x, hx⟩ : ∃ x, o[k]? = some x := ⟨_, List.getElem?_eq_getElem hlt⟩
        have HXX := hide (unhide HX x (List.mem_of_getElem? hx))
        have hdrop : o.drop k = x :: o.drop (k + 1) := by rw [List.drop_eq_getElem_cons hlt, (List.getElem?_eq_some_iff.1 hx).2]
        rw [hdrop] at HA
        obtain ⟨a1, c1, hs⟩ := unhide HS
        obtain ⟨g, og, rfl, hra, hgl⟩ := (unhide LAY).at hx
        have HRA := hide (range_below hra hgl hs.bel)
        have HGL := hide (Nat.lt_of_lt_of_le hgl hs.bel.size)
        clear hx hdrop hra HS hgl
        obtain ⟨xk, xs, ⟨g0, g1', g2, g3, g4, g5, g6, g7⟩⟩ := x
        simp only [outV_eq] at HRA
        have S1 := hide hs
        clear hs
        have CO := hide (fun u => Sp.rover_any xs m u)
        have k1 : wr.cell? ⟨g, og + k * 10 + 1, none⟩ = some (.int .i64 xs) := unhide HRA 1 _ rfl
        cases hov : Sp.overI xs m with
        | true =>
          rw [hov] at CO
          have HE := hide ((unhide HA).trans (setAll_over hov))
          clear HA hov
          go_upto_region 8 with fail
          refine (unhide CO _).mono ?_
          rintro e v' ⟨rfl, hw⟩
          rw [hw]
          clear hw v' CO k1
          have hth := (unhide S1).r0.there
          obtain ⟨wf, hwf, hfr⟩ := (unhide S1).put0 (unhide HH) [.int .i64 0, .slice none 0 0] rfl
          go_wp2_with (refine wpList_store_mid rfl 31 (.tmp 4) (.tmp 28) (by simp [go_sem]) H 0 #[.int .i64 0, .slice none 0 0] rfl rfl hth (by kernel_rfl) (by simp [Value.oneCell']) ?_; change wpList _ _ _ _ _ (World.setCells _ H 0 [.int .i64 0, .slice none 0 0]); rw [hwf])
          have HFR := hide hfr
          clear hth hwf hfr
          refine bodyPost_ret (v := .tuple #[.agg #[.int .i64 0, .slice none 0 0], .int .i64 12]) ?_ rfl ?_
          · exact results_cell_tmp Tryz.results40 _ wf H [.int .i64 0, .slice none 0 0] _ rfl (unhide HFR).r0.range Tryz.underlying31 rfl (by kernel_rfl)
          · have hd : ofD m o = newL := by unfold ofD; rw [unhide HO, unhide HE]; rfl
            exact ⟨none, 0, by rw [hd, unhide HO, unhide HE]; rfl, by rw [hd]; exact row_none _ _, (unhide HFR).bel⟩
        | false =>
          rw [hov] at CO
          obtain ⟨CL, hCL⟩ : ∃ CL : World → Prop, CL = fun u => OB w H [.int .i64 0, .slice none 0 0] m r a1 c1 u ∧ u.rangeAt g (og + k * 10) [.string ⟨xk.toArray⟩, .int .i64 xs, .int .i64 g0, .int .i64 g1', .int .i64 g2, .int .i64 g3, .int .i64 g4, .int .i64 g5, .int .i64 g6, .int .i64 g7] := ⟨_, rfl⟩
          have un : ∀ u, CL u → OB w H [.int .i64 0, .slice none 0 0] m r a1 c1 u ∧ u.rangeAt g (og + k * 10) [.string ⟨xk.toArray⟩, .int .i64 xs, .int .i64 g0, .int .i64 g1', .int .i64 g2, .int .i64 g3, .int .i64 g4, .int .i64 g5, .int .i64 g6, .int .i64 g7] := fun u k => by rw [hCL] at k; exact k
          have base : CL wr.drew := by rw [hCL]; exact ⟨(unhide S1).below (Below.refl _ _).drew, range_below (unhide HRA) (unhide HGL) (Below.refl _ _).drew⟩
          have RA : Hid (∀ u, (∃ y : SK CL wr.drew, u = y.s.w) → True) := hide (fun _ _ => trivial)
          have RX : Hid (∀ u, CL u → u.rangeAt g (og + k * 10) [.string ⟨xk.toArray⟩, .int .i64 xs, .int .i64 g0, .int .i64 g1', .int .i64 g2, .int .i64 g3, .int .i64 g4, .int .i64 g5, .int .i64 g6, .int .i64 g7]) := hide (fun u h => (un u h).2)
          have RL : Hid (∀ u, CL u → u.rangeAt (H + 1) 1 [.slice a1 r.length c1]) := hide (fun u h j x hx => by
            have := (un u h).1.r1.range (1 + j) x (by rw [← hx, Nat.add_comm 1 j]; rfl)
            rwa [Nat.zero_add] at this)
          have SB := hide (un _ base).1
          have HOV := hide hov
          have CS := hide (rset_any (un _ base).1.row (un _ base).1.big (unhide HGG) (⟨xk, xs, ⟨g0, g1', g2, g3, g4, g5, g6, g7⟩⟩ : Win AggV) (unhide HXX).1)
          simp only [outV_eq] at CS
          clear hCL un hov S1 RA
          go_upto_region 9 with fail
          refine (unhide CO _).mono ?_
          rintro e v' ⟨rfl, hw⟩
          rw [hw]
          clear hw v' CO k1
          go_upto_region 10 with fail
          refine wp_region_pre (S := CL) [true, true, true, true, true, true, false, false, false, false, false, false, false] [(0, 6), (1, 7), (1, 8), (1, 9), (1, 10), (0, 11), (0, 12)] 13 (by kernel_rfl) (by kernel_rfl) (by kernel_rfl) base ?_
          apply Exists.intro
          apply And.intro
          · intro u
            have n0 : Nonempty (SK CL u.w) := ⟨⟨u, rfl⟩⟩
            simp only [pickM]
            repeat (go_big_quiet_step (fail))
            refine wpQuiet_load_onx rfl 29 (.tmp 30) rfl (H + 1) 1 rfl [.slice a1 r.length c1] _ (fun y ⟨q1, hq⟩ => by rw [hq]; exact unhide RL _ q1.s.ok) Tryz.underlying29 rfl (by kernel_rfl) ?_
            go_simp
            repeat (go_big_quiet_step (fail))
            refine wpQuiet_load_onx rfl 52 (.tmp 34) rfl g (og + k * 10) rfl [.string ⟨xk.toArray⟩, .int .i64 xs, .int .i64 g0, .int .i64 g1', .int .i64 g2, .int .i64 g3, .int .i64 g4, .int .i64 g5, .int .i64 g6, .int .i64 g7] _ (fun y ⟨q1, hq⟩ => by rw [hq]; exact unhide RX _ q1.s.ok) Tryz.underlying52 rfl (by kernel_rfl) ?_
            go_simp
            exact wpQuiet_nil rfl
          · simp only [List.map_cons, List.map_nil, List.getD_cons_succ, List.getD_cons_zero]
            refine preM_call 70 #[.agg #[.slice a1 r.length c1], .agg #[.string ⟨xk.toArray⟩, .int .i64 xs, .int .i64 g0, .int .i64 g1', .int .i64 g2, .int .i64 g3, .int .i64 g4, .int .i64 g5, .int .i64 g6, .int .i64 g7]] rfl (by simp [go_sem]) ?_
            refine (unhide CS).mono ?_
            rintro e w2 ⟨a2, c2, rfl, hrow, _, hb⟩
            obtain ⟨hth, w3, hw3, hob⟩ := (unhide SB).set (unhide HH) hb hrow
            have HOB := hide hob
            have HG2 := hide (set_good (unhide HGG) (⟨xk, xs, ⟨g0, g1', g2, g3, g4, g5, g6, g7⟩⟩ : Win AggV))
            have HM2 := hide (mild_set (unhide HMM) (x := (⟨xk, xs, ⟨g0, g1', g2, g3, g4, g5, g6, g7⟩⟩ : Win AggV)) (unhide HXX).1)
            clear hob hrow hb CS base SB RX RL
            refine ⟨_, rfl, ?_⟩
            go_simp
            refine preM_yields (.tuple #[.agg #[.slice a2 (setS SO r (⟨xk, xs, ⟨g0, g1', g2, g3, g4, g5, g6, g7⟩⟩ : Win AggV)).1.length c2], .int .i64 ((setS SO r (⟨xk, xs, ⟨g0, g1', g2, g3, g4, g5, g6, g7⟩⟩ : Win AggV)).2 : Int)]) rfl (fun w => by simp [go_sem]) ?_
            go_simp
            refine preM_yields (.agg #[.slice a2 (setS SO r (⟨xk, xs, ⟨g0, g1', g2, g3, g4, g5, g6, g7⟩⟩ : Win AggV)).1.length c2]) rfl (fun w => by simp [go_sem]) ?_
            go_simp
            refine preM_yields (.int .i64 ((setS SO r (⟨xk, xs, ⟨g0, g1', g2, g3, g4, g5, g6, g7⟩⟩ : Win AggV)).2 : Int)) rfl (fun w => by simp [go_sem]) ?_
            go_simp
            refine preM_yields (.pointer (some ⟨H + 1, 1, none⟩)) rfl (fun w => by simp [go_sem]) ?_
            go_simp
            refine preM_skip _ rfl (exec_keep 29 (.tmp 39) (.tmp 37) rfl (H + 1) 1 #[.slice a2 (setS SO r (⟨xk, xs, ⟨g0, g1', g2, g3, g4, g5, g6, g7⟩⟩ : Win AggV)).1.length c2] rfl rfl hth (by kernel_rfl) (by simp [Value.oneCell'])) ?_
            rw [hw3]
            clear hw3 hth
            go_simp
            refine preM_value (.int .i64 ((setS SO r (⟨xk, xs, ⟨g0, g1', g2, g3, g4, g5, g6, g7⟩⟩ : Win AggV)).2 : Int)) w3 rfl (by simp [go_sem]) ?_
            simp only [preM]
            by_cases h0 : (setS SO r (⟨xk, xs, ⟨g0, g1', g2, g3, g4, g5, g6, g7⟩⟩ : Win AggV)).2 = 0
            · have HA2 := hide ((unhide HA).trans (setAll_set (unhide HOV) h0))
              rw [h0, show ((0 : Nat) : Int) = 0 from rfl]
              clear HA h0
              go_simp
              go_wp2_with fail
              exact ⟨⟨k + 1, _, rfl, by omega, ⟨_, _, unhide HOB⟩, unhide HG2, unhide HM2, HA2⟩, by simp [intOf]; omega⟩
            · have HE := hide ((unhide HA).trans (setAll_no (unhide HOV) h0))
              have hz : ¬ (((setS SO r (⟨xk, xs, ⟨g0, g1', g2, g3, g4, g5, g6, g7⟩⟩ : Win AggV)).2 : Nat) : Int) = 0 := by omega
              have HZ := hide h0
              obtain ⟨ec, hec⟩ : ∃ ec : Int, ec = (((setS SO r (⟨xk, xs, ⟨g0, g1', g2, g3, g4, g5, g6, g7⟩⟩ : Win AggV)).2 : Nat) : Int) := ⟨_, rfl⟩
              rw [← hec] at hz ⊢
              have HEC := hide hec
              clear HA h0 hec
              go_simp
              have hth := (unhide HOB).r0.there
              obtain ⟨wf, hwf, hfr⟩ := (unhide HOB).put0 (unhide HH) [.int .i64 0, .slice none 0 0] rfl
              go_wp2_with (refine wpList_store_mid rfl 31 (.tmp 4) (.tmp 42) (by simp [go_sem]) H 0 #[.int .i64 0, .slice none 0 0] rfl rfl hth (by kernel_rfl) (by simp [Value.oneCell']) ?_; change wpList _ _ _ _ _ (World.setCells _ H 0 [.int .i64 0, .slice none 0 0]); rw [hwf])
              have HFR := hide hfr
              clear hth hwf hfr
              refine bodyPost_ret (v := .tuple #[.agg #[.int .i64 0, .slice none 0 0], .int .i64 ec]) ?_ rfl ?_
              · exact results_cell_tmp Tryz.results40 _ wf H [.int .i64 0, .slice none 0 0] _ rfl (unhide HFR).r0.range Tryz.underlying31 rfl (by kernel_rfl)
              · have hd : ofD m o = newL := by unfold ofD; rw [unhide HO, unhide HE]; exact if_neg (unhide HZ)
                exact ⟨none, 0, by rw [hd, unhide HO, unhide HE, unhide HEC]; rfl, by rw [hd]; exact row_none _ _, (unhide HFR).bel⟩
      · have g1 : ¬ (k : Int) < (o.length : Int) := by omega
        have hke : k = o.length := by omega
        subst hke
        obtain ⟨a1, c1, hs⟩ := unhide HS
        have HE : Hid (setAll m [] o = (r, 0)) := hide (by rw [unhide HA, List.drop_length]; rfl)
        have S1 := hide hs
        clear hs HS HA
        have hrg := (unhide S1).r1.range
        have hth := (unhide S1).r0.there
        obtain ⟨wf, hwf, hfr⟩ := (unhide S1).put0 (unhide HH) [.int .i64 m, .slice a1 r.length c1] rfl
        go_wp2_with (first | refine wpList_load_on rfl 31 (.tmp 6) rfl (H + 1) 0 rfl [.int .i64 m, .slice a1 r.length c1] _ hrg Tryz.underlying31 rfl (by kernel_rfl) ?_ | (refine wpList_store_mid rfl 31 (.tmp 4) (.tmp 44) (by simp [go_sem]) H 0 #[.int .i64 m, .slice a1 r.length c1] rfl rfl hth (by kernel_rfl) (by simp [Value.oneCell']) ?_; change wpList _ _ _ _ _ (World.setCells _ H 0 [.int .i64 m, .slice a1 r.length c1]); rw [hwf]))
        have HFR := hide hfr
        clear hth hwf hfr hrg
        refine bodyPost_ret (v := .tuple #[.agg #[.int .i64 m, .slice a1 r.length c1], .int .i64 0]) ?_ rfl ?_
        · exact results_cell_tmp Tryz.results40 _ wf H [.int .i64 m, .slice a1 r.length c1] _ rfl (unhide HFR).r0.range Tryz.underlying31 rfl (by kernel_rfl)
        · have hd : ofD m o = ⟨m, r⟩ := by unfold ofD; rw [unhide HO, unhide HE]; rfl
          exact ⟨a1, c1, by rw [hd, unhide HO, unhide HE]; rfl, by rw [hd]; exact row_mono (unhide HFR).row (by have := unhide HH; omega), (unhide HFR).bel⟩
end Go.Proofs.YtigmhljaoicdbaaGreat

namespace Go.Proofs.YtigmhljaoicdbaaGreat
open Go.RowKit Go.ChangeShapes Go.WideShapes
structure ActL.Ok (p : ActL) : Prop where
  do_ : p.do_ < 256
  key : p.key.length ≤ maxLen
  at_ : i64 p.at_
  n : i64 p.n
def ActL.none_ : ActL := ⟨0, [], 0, 0⟩
structure ActLAt (w : World) (b o : Nat) (p : ActL) : Prop where
  c0 : w.cell? ⟨b, o, none⟩ = some (.int .u8 (p.do_ : Int))
  c1 : w.cell? ⟨b, o + 1, none⟩ = some (.string ⟨p.key.toArray⟩)
  c2 : w.cell? ⟨b, o + 2, none⟩ = some (.int .i64 p.at_)
  c3 : w.cell? ⟨b, o + 3, none⟩ = some (.int .i64 p.n)
structure IsActL (w : World) (a : Option Addr) (len cap : Nat) (z : List ActL) : Prop where
  size_ : z.length = len
  max : len ≤ maxLen
  at_ : ∀ k, k < len → ∃ b o, a = some ⟨b, o, none⟩ ∧ ActLAt w b (o + k * 4) (z.getD k ActL.none_) ∧ (z.getD k ActL.none_).Ok ∧ b < w.heap.size
theorem tcells5 : Tryz.prog.cellsOf 5 = 1 := by kernel_rfl
def actLC (p : ActL) : List Value := [.int .u8 (p.do_ : Int), .string ⟨p.key.toArray⟩, .int .i64 p.at_, .int .i64 p.n]
theorem tu8_in {x : Int} (h : (Lit.int .u8 x).wf = true) : 0 ≤ x ∧ x < 256 := by have := bounds_u8 h; omega
theorem ActLAt.keep {F : Nat → Prop} {w w' : World} {b o : Nat} {p : ActL} (h : ActLAt w b o p) (m : Moved F w w') (hb : b < w.heap.size) (hF : ¬ F b) : ActLAt w' b o p :=
  ⟨(m.cell (p := ⟨b, o, none⟩) hb hF).trans h.c0, (m.cell (p := ⟨b, o + 1, none⟩) hb hF).trans h.c1, (m.cell (p := ⟨b, o + 2, none⟩) hb hF).trans h.c2, (m.cell (p := ⟨b, o + 3, none⟩) hb hF).trans h.c3⟩
theorem IsActL.below {w w' : World} {a : Option Addr} {len cap : Nat} {z : List ActL} (h : IsActL w a len cap z) (hb : Below w.heap.size w w') : IsActL w' a len cap z :=
  ⟨h.size_, h.max, fun k hk => by
    obtain ⟨b, o, e, hp, ok, hlt⟩ := h.at_ k hk
    exact ⟨b, o, e, hp.keep (Moved.of_below (F := fun _ => False) hb) hlt id, ok, Nat.lt_of_lt_of_le hlt hb.size⟩⟩
theorem IsActL.ok {w : World} {a : Option Addr} {len cap : Nat} {z : List ActL} (h : IsActL w a len cap z) : ∀ p ∈ z, p.Ok := fun p hp => by
  obtain ⟨k, hk, rfl⟩ := List.mem_iff_getElem.1 hp
  obtain ⟨_, _, _, _, ok, _⟩ := h.at_ k (by rw [← h.size_]; exact hk)
  rw [List.getD_eq_getElem?_getD, List.getElem?_eq_getElem hk] at ok
  exact ok
/-- Too long a key. -/
def longL (p : ActL) : Bool := decide (100 < p.key.length)
/-- More than 200 acts, or a key of more than 100 bytes. -/
def tooGreatL (z : List ActL) : Bool := decide (200 < z.length) || z.any longL
theorem anyL_at {z : List ActL} {k : Nat} (hk : k < z.length) (h : longL (z.getD k ActL.none_) = true) : z.any longL = true := by
  rw [List.getD_eq_getElem?_getD, List.getElem?_eq_getElem hk] at h
  exact List.any_eq_true.2 ⟨_, List.getElem_mem hk, h⟩
theorem anyL_none {z : List ActL} (h : ∀ k, k < z.length → longL (z.getD k ActL.none_) = false) : z.any longL = false := by
  rw [List.any_eq_false]
  intro p hp
  obtain ⟨k, hk, rfl⟩ := List.mem_iff_getElem.1 hp
  have := h k hk
  rw [List.getD_eq_getElem?_getD, List.getElem?_eq_getElem hk] at this
  simpa using this
theorem mild_actL {s : LineV × List (Win AggV)} (h : Mild s.1.row) {p : ActL} (hp : p.Ok) : Mild (actL s p).1.row := by
  unfold actL
  split
  · exact mild_putL h hp.n
  · split
    · exact (mild_markL h _).1
    · exact h
theorem takeL_snoc {z : List ActL} {k : Nat} (hk : k < z.length) : z.take (k + 1) = z.take k ++ [z.getD k ActL.none_] := by
  rw [List.take_add_one, List.getD_eq_getElem?_getD, List.getElem?_eq_getElem hk]; rfl
end Go.Proofs.YtigmhljaoicdbaaGreat

namespace Go.Proofs.YtigmhljaoicdbaaGreat
open Go.RowKit
abbrev ownB (a : Option Addr) (l : List (Win AggV)) (c : Nat) : Option Nat := (Value.slice a l.length c).ownBlock
/-- The line at p with L, the document's in the box h: M, whose row is a; the act's box b. -/
structure PLF (w0 v : World) (p h b : Nat) (y : List Value) (F : Nat → Prop) (L : LineV) (a : Option Addr) (c : Nat) (M : LineV) : Prop where
  here : HLF w0 v p F L [(a, c, M.row)]
  nh : ¬ F h
  nb : ¬ F b
  hb : ¬ h = b
  lo : w0.heap.size ≤ h
  lb : w0.heap.size ≤ b
  rh : RowAt v h [.int .i64 M.mark, .slice a M.row.length c]
  rb : RowAt v b y
  rn : ∀ k, ownB a M.row c = some k → k ≠ b ∧ k ≠ h
def PL (w0 v : World) (p h b : Nat) (y : List Value) (L : LineV) (a : Option Addr) (c : Nat) (M : LineV) : Prop := ∃ F, PLF w0 v p h b y F L a c M
/-- The same without the act's box. -/
def PLR (w0 v : World) (p h : Nat) (L : LineV) (a : Option Addr) (c : Nat) (M : LineV) : Prop :=
  ∃ F, HLF w0 v p F L [(a, c, M.row)] ∧ ¬ F h ∧ w0.heap.size ≤ h ∧ RowAt v h [.int .i64 M.mark, .slice a M.row.length c] ∧ ∀ k, ownB a M.row c = some k → k ≠ h
variable {w0 v v' : World} {p h b : Nat} {y : List Value} {F : Nat → Prop} {L L' M M' : LineV} {a a' : Option Addr} {c c' : Nat}
theorem PLR.start (hs : LineIs v p F L) (hF : ∀ k, F k → w0.heap.size ≤ k) (hb : Below w0.heap.size w0 v) (nh : ¬ F h) (lo : w0.heap.size ≤ h) (rh : RowAt v h [.int .i64 M.mark, .slice a M.row.length c]) (hr : OutK.Row v w0.heap.size a c M.row) (hn : ∀ k, ownB a M.row c = some k → k ≠ h ∧ ¬ F k) : PLR w0 v p h L a c M :=
  ⟨F, ⟨hs, hF, hb, fun r hr2 => by
    have : r = (a, c, M.row) := by simpa using hr2
    subst this
    exact ⟨hr, fun k hk => (hn k hk).2⟩⟩, nh, lo, rh, fun k hk => (hn k hk).1⟩
theorem PL.end_ (k : PL w0 v p h b y L a c M) : PLR w0 v p h L a c M := by obtain ⟨F, k⟩ := k; exact ⟨F, k.here, k.nh, k.lo, k.rh, fun j hj => (k.rn j hj).2⟩
theorem PL.bel (k : PL w0 v p h b y L a c M) : Below w0.heap.size w0 v := by obtain ⟨F, k⟩ := k; exact k.here.bel
theorem PLR.bel (k : PLR w0 v p h L a c M) : Below w0.heap.size w0 v := by obtain ⟨F, k, _⟩ := k; exact k.bel
/-- An act's box is made, and filled. -/
theorem PLR.box (k : PLR w0 v p h L a c M) (m : Moved (fun _ => False) v v') (hr : RowAt v' v.heap.size y) : PL w0 v' p h v.heap.size y L a c M := by
  obtain ⟨F, k1, k2, k3, k4, k5⟩ := k
  have hb : Below v.heap.size v v' := m.below (fun _ f => f.elim) (Nat.le_refl _)
  exact ⟨F, k1.below hb, k2, fun f => Nat.lt_irrefl _ (k1.st.lt _ f), fun e => Nat.lt_irrefl _ (e ▸ k4.lt), k3, k1.bel.size, k4.below hb, hr, fun j hj => ⟨fun e => Nat.lt_irrefl _ (e ▸ (row_lt (k1.rows _ List.mem_cons_self).1 j hj).2), k5 j hj⟩⟩
theorem PLF.did (k : PLF w0 v p h b y F L a c M) (hd : DidL v v' p F L') : PL w0 v' p h b y L' a c M := by
  obtain ⟨F', s, f, m⟩ := hd
  have hh := k.rh.lt
  have hb := k.rb.lt
  exact ⟨F', k.here.step s f m, fun e => (f h e).elim k.nh (fun e => by omega), fun e => (f b e).elim k.nb (fun e => by omega), k.hb, k.lo, k.lb, k.rh.keep m k.nh, k.rb.keep m k.nb, k.rn⟩
theorem PL.below (k : PL w0 v p h b y L a c M) (hb : Below v.heap.size v v') : PL w0 v' p h b y L a c M := by
  obtain ⟨F, k⟩ := k
  exact ⟨F, k.here.below hb, k.nh, k.nb, k.hb, k.lo, k.lb, k.rh.below hb, k.rb.below hb, k.rn⟩
theorem PL.drew (k : PL w0 v p h b y L a c M) : PL w0 v.drew p h b y L a c M := k.below ((Below.refl _ _).drew)
theorem PL.rh (k : PL w0 v p h b y L a c M) : RowAt v h [.int .i64 M.mark, .slice a M.row.length c] := by obtain ⟨F, k⟩ := k; exact k.rh
theorem PL.rb (k : PL w0 v p h b y L a c M) : RowAt v b y := by obtain ⟨F, k⟩ := k; exact k.rb
theorem PL.row (k : PL w0 v p h b y L a c M) : OutK.Row v w0.heap.size a c M.row := by obtain ⟨F, k⟩ := k; exact (k.here.rows _ List.mem_cons_self).1
theorem PL.hlt (k : PL w0 v p h b y L a c M) : h + 1 ≤ v.heap.size := by obtain ⟨F, k⟩ := k; exact k.rh.lt
theorem PL.put (k : PL w0 v p h b y L a c M) (hm : Mild L.row) (key : List UInt8) (at_ n : Int) (hn : i64 n) :
    Calls Tryz.prog 54 #[.pointer (some ⟨p, 0, none⟩), .string ⟨key.toArray⟩, .int .i64 at_, .int .i64 n] v fun e v' => e = .returned (.int .i64 ((putL L key at_ n).2 : Int)) ∧ PL w0 v' p h b y (putL L key at_ n).1 a c M := by
  obtain ⟨F, k⟩ := k
  exact (tput_any k.here.st hm.most hm.ins_ key at_ n hn).mono fun e v' ⟨h1, h2⟩ => ⟨h1, k.did h2⟩
theorem PL.mark (k : PL w0 v p h b y L a c M) (hm : Mild L.row) (m : Int) :
    Calls Tryz.prog 55 #[.pointer (some ⟨p, 0, none⟩), .int .i64 m] v fun e v' => ∃ a1 c1, e = .returned (.tuple #[.int .i64 ((markL L m).2.1 : Int), .slice a1 (markL L m).2.2.length c1]) ∧ OutK.Row v' v.heap.size a1 c1 (markL L m).2.2 ∧ PL w0 v' p h b y (markL L m).1 a c M ∧ v.heap.size ≤ v'.heap.size := by
  obtain ⟨F, k⟩ := k
  exact (tmark_any k.here.st (Nat.le_trans hm.most (by omega)) m).mono fun e v' ⟨a1, c1, h1, h2, h3, h4⟩ => ⟨a1, c1, h1, h2, k.did ⟨F, h3, fun _ f => .inl f, h4⟩, h4.size⟩
theorem PL.at_ (k : PL w0 v p h b y L a c M) : Calls Tryz.prog 42 #[.pointer (some ⟨p, 0, none⟩)] v fun e v' => e = .returned (.int .i64 L.mark) ∧ v' = v := by
  obtain ⟨F, k⟩ := k
  exact tat_any k.here.st
theorem PL.open_ (k : PL w0 v p h b y L a c M) (hm : Mild L.row) :
    Calls Tryz.prog 43 #[.pointer (some ⟨p, 0, none⟩)] v fun e v' => ∃ a1 c1, e = .returned (.slice a1 L.row.length c1) ∧ OutK.Row v' v.heap.size a1 c1 L.row ∧ PL w0 v' p h b y L a c M := by
  obtain ⟨F, k⟩ := k
  exact (topen_any k.here.st (Nat.le_trans hm.most (by omega))).mono fun e v' ⟨a1, c1, h1, h2, h3⟩ => ⟨a1, c1, h1, h2, PL.below ⟨F, k⟩ h3⟩
/-- The document's line is another now, and its box is written. -/
theorem PL.doc (k : PL w0 v p h b y L a c M) (hb : Below v.heap.size v v') (hr : OutK.Row v' w0.heap.size a' c' M'.row) (hn : ∀ j, ownB a' M'.row c' = some j → ownB a M.row c = some j ∨ v.heap.size ≤ j) :
    ∃ wf, v'.setCells h 0 [.int .i64 M'.mark, .slice a' M'.row.length c'] = wf ∧ PL w0 wf p h b y L a' c' M' ∧ Moved (fun i => i = h) v' wf := by
  obtain ⟨F, k⟩ := k
  have mf := setCells_moved v' h 0 [.int .i64 M'.mark, .slice a' M'.row.length c']
  have hlt := k.rh.lt
  have hlb := k.rb.lt
  have h1 := k.here.below hb
  have hne : ∀ j, ownB a' M'.row c' = some j → j ≠ b ∧ j ≠ h := fun j hj => by
    rcases hn j hj with e2 | e2
    · exact k.rn j e2
    · exact ⟨by omega, by omega⟩
  have hr' : OutK.Row (v'.setCells h 0 [.int .i64 M'.mark, .slice a' M'.row.length c']) w0.heap.size a' c' M'.row := row_moved hr mf (fun i hi j hj e => (hne j hj).2 (by omega))
  refine ⟨_, rfl, ⟨F, ⟨h1.st.keep mf (fun i hi f => k.nh (hi ▸ f)), h1.big, ((Moved.of_below (F := fun i => i = h) h1.bel).trans mf (fun _ hi => .inl hi)).below (fun i hi => by have := k.lo; omega) (Nat.le_refl _), ?_⟩,
    k.nh, k.nb, k.hb, k.lo, k.lb, (k.rh.below hb).put _ rfl, (k.rb.below hb).keep mf (fun e => k.hb e.symm), hne⟩, mf⟩
  intro r hr2
  have : r = (a', c', M'.row) := by simpa using hr2
  subst this
  refine ⟨hr', fun j hj f => ?_⟩
  rcases hn j hj with e | e
  · exact (k.here.rows _ List.mem_cons_self).2 j e f
  · have := k.here.st.lt j f; omega
theorem outs_lay {w : World} {B c : Nat} {a : Option Addr} {l : List (Win AggV)} (h : OutK.Row w B a c l) (hl : l.length ≤ 1000) : Lay w a l := by
  refine ⟨row_lies h, ?_, hl⟩
  rcases h.2 with ⟨_, h0⟩ | ⟨g, cap, cur, hv, _⟩
  · exact .inr (List.length_eq_zero_iff.1 h0)
  · refine .inl ⟨g, ?_, (row_lt h g (by rw [hv]; rfl)).2⟩
    simp only [Value.slice.injEq] at hv; exact hv.1
theorem good_putL (hg : Good SO L.row) {k : List UInt8} {x n : Int} (hn : i64 n) : Good SO (putL L k x n).1.row := by
  rcases putL_ways L k x n with ⟨_, e⟩ | ⟨_, ⟨_, e⟩ | ⟨hl, ⟨_, e⟩ | ⟨_, e⟩⟩⟩
  · rw [e]; exact hg
  · rw [e]; exact hg
  · rw [e]; exact put_good so_law hg hn
  · rw [e]; exact hg
theorem good_markL (hg : Good SO L.row) (x : Int) : Good SO (markL L x).1.row := by
  rcases markL_ways L x with ⟨_, e⟩ | ⟨hr, ⟨_, e⟩ | ⟨_, e⟩⟩
  · rw [e]; exact hg
  · rw [e]; exact hg
  · rw [e]; exact (take_good hg x).1
theorem good_actL {s : LineV × List (Win AggV)} (hg : Good SO s.1.row) {p : ActL} (hp : p.Ok) : Good SO (actL s p).1.row := by
  unfold actL
  split
  · exact good_putL hg hp.n
  · split
    · exact good_markL hg _
    · exact hg
theorem good_setAll {m : Int} : ∀ {xs r : List (Win AggV)}, Good SO r → Good SO (setAll m r xs).1
  | [], r, hg => hg
  | x :: xs, r, hg => by
    rw [setAll]
    split
    · exact hg
    · split
      · exact good_setAll (set_good hg x)
      · exact hg
theorem good_ofL {m : Int} {o : List (Win AggV)} : Good SO (ofL m o).1.row := by
  unfold ofL
  split
  · exact good_setAll good_nil
  · exact good_nil
end Go.Proofs.YtigmhljaoicdbaaGreat

namespace Go.Proofs.YtigmhljaoicdbaaGreat.Sn

/-- The document's table. -/
structure RefS where
  low : Nat → Int
  l : List Ent
def rlook : List Ent → Int → Int → Option Int
  | [], _, _ => none
  | x :: l, s, q => if x.src = s ∧ x.seq = q then some x.code else rlook l s q
def rask (W : RefS) (src seq low : Int) : Int × Int :=
  if may src seq low = true then
    if seq < W.low src.toNat then (1, 0) else match rlook W.l src seq with
      | some c => (2, c)
      | none => (3, 0)
  else (0, 0)
def rnoteE (W : RefS) (src seq low code : Int) : Int :=
  if (rask W src seq low).1 = 0 ∨ isCode code = false then 1 else if (rask W src seq low).1 = 1 then 12 else if (rask W src seq low).1 = 2 then 5 else 0
def rlow (W : RefS) (src low : Int) : Nat → Int := fun i => if i = src.toNat then (if W.low i < low then low else W.low i) else W.low i
def rnote (W : RefS) (src seq low code : Int) : RefS := if rnoteE W src seq low code = 0 then ⟨rlow W src low, W.l ++ [⟨src, seq, code⟩]⟩ else W
def live (W : RefS) : List Ent := W.l.filter fun x => decide (W.low x.src.toNat ≤ x.seq)
/-- An entry stands behind another one. -/
def over (x y : Ent) : Bool := decide (y.src < x.src ∨ x.src = y.src ∧ y.seq < x.seq)
/-- From which place on the first n of a row stand behind x. -/
def cutAt (out : List Ent) (x : Ent) : Nat → Nat
  | 0 => 0
  | n + 1 => if over (out.getD n e0) x = true then cutAt out x n else n + 1
def rins (out : List Ent) (x : Ent) : List Ent := out.take (cutAt out x out.length) ++ x :: out.drop (cutAt out x out.length)
def rall (l : List Ent) : List Ent := l.foldl rins []
theorem rlook_some {l : List Ent} {s q c : Int} (h : rlook l s q = some c) : (⟨s, q, c⟩ : Ent) ∈ l := by
  induction l with
  | nil => cases h
  | cons x l ih =>
    rw [rlook] at h
    split at h
    · rename_i e
      cases h
      rw [show (⟨s, q, x.code⟩ : Ent) = x from ent_ext e.1.symm e.2.symm rfl]
      exact List.mem_cons_self
    · exact List.mem_cons_of_mem _ (ih h)
/-- No item is there twice. -/
def Once (l : List Ent) : Prop := l.Pairwise fun x y => ¬ (x.src = y.src ∧ x.seq = y.seq)
theorem rlook_mem {l : List Ent} (ho : Once l) {x : Ent} (h : x ∈ l) : rlook l x.src x.seq = some x.code := by
  induction l with
  | nil => cases h
  | cons y l ih =>
    obtain ⟨h1, h2⟩ := List.pairwise_cons.1 ho
    rw [rlook]
    rcases List.mem_cons.1 h with rfl | h
    · rw [if_pos ⟨rfl, rfl⟩]
    · rw [if_neg (h1 x h)]
      exact ih h2 h
theorem rlook_none {l : List Ent} {s q : Int} (h : rlook l s q = none) : ∀ x ∈ l, ¬ (x.src = s ∧ x.seq = q) := by
  induction l with
  | nil => intro x hx; cases hx
  | cons y l ih =>
    rw [rlook] at h
    split at h
    · cases h
    · rename_i e
      intro x hx
      rcases List.mem_cons.1 hx with rfl | hx
      · exact e
      · exact ih h x hx
/-- A table and the document's. -/
structure Rel (T : Tab) (W : RefS) : Prop where
  low : ∀ i, i < 4 → W.low i = (T i).low
  perm : (live W).Perm (all T)
  src : ∀ x ∈ W.l, 0 ≤ x.src ∧ x.src < 4
  once : Once W.l
theorem rel_mem {T : Tab} {W : RefS} (h : Rel T W) {x : Ent} (hs : 0 ≤ x.src ∧ x.src < 4) (hl : (T x.src.toNat).low ≤ x.seq) : x ∈ W.l ↔ (x.seq, x.code) ∈ (T x.src.toNat).codes := by
  have h1 : x ∈ live W ↔ x ∈ all T := h.perm.mem_iff
  have h2 : x ∈ live W ↔ x ∈ W.l := by
    unfold live
    rw [List.mem_filter, h.low _ (by omega)]
    exact ⟨fun h => h.1, fun h => ⟨h, decide_eq_true hl⟩⟩
  rw [← h2, h1]
  unfold all
  rw [mem_allTo]
  exact ⟨fun h => h.2.2, fun h => ⟨hs.1, by omega, h⟩⟩
theorem rel_look {T : Tab} {W : RefS} (h : Rel T W) (hT : T.Ok) {src seq : Int} (hs : 0 ≤ src ∧ src < 4) (hl : (T src.toNat).low ≤ seq) : rlook W.l src seq = look (T src.toNat).codes seq := by
  cases hx : look (T src.toNat).codes seq with
  | some c =>
    have hm : (⟨src, seq, c⟩ : Ent) ∈ W.l := (rel_mem h (x := ⟨src, seq, c⟩) hs hl).2 (look_some hx)
    exact rlook_mem h.once hm
  | none =>
    cases hy : rlook W.l src seq with
    | none => rfl
    | some c =>
      have hm := (rel_mem h (x := ⟨src, seq, c⟩) hs hl).1 (rlook_some hy)
      exact absurd (look_mem (a := (seq, c)) (hT src.toNat).rise hm) (by simp only; rw [hx]; simp)
theorem rel_ask {T : Tab} {W : RefS} (h : Rel T W) (hT : T.Ok) (src seq low : Int) : rask W src seq low = ask T src seq low := by
  unfold rask ask
  split
  · rename_i hm
    have hs := may_iff.1 hm
    unfold Src.ask
    rw [h.low _ (by omega)]
    split
    · rfl
    · rename_i hn
      rw [rel_look h hT ⟨hs.1, hs.2.1⟩ (by omega)]
      cases look (T src.toNat).codes seq <;> rfl
  · rfl
theorem rel_noteE {T : Tab} {W : RefS} (h : Rel T W) (hT : T.Ok) (src seq low code : Int) : rnoteE W src seq low code = noteE T src seq low code := by
  unfold rnoteE noteE
  rw [rel_ask h hT]
theorem riseE_once {l : List Ent} (h : RiseE l) : Once l := h.imp fun hab e => by
  have := ahead_iff.1 hab
  omega
theorem once_of_perm {l m : List Ent} (h : Once l) (p : l.Perm m) : Once m :=
  (p.pairwise_iff (R := fun x y : Ent => ¬ (x.src = y.src ∧ x.seq = y.seq)) (fun h e => h ⟨e.1.symm, e.2.symm⟩)).1 h
theorem once_nodup {l : List Ent} (h : Once l) : l.Nodup := h.imp fun hab e => hab (by rw [e]; exact ⟨rfl, rfl⟩)
theorem once_perm {l m : List Ent} (h : Once l) (k : Once m) (e : ∀ x, x ∈ l ↔ x ∈ m) : l.Perm m := (List.perm_ext_iff_of_nodup (once_nodup h) (once_nodup k)).2 e
theorem once_filter {l : List Ent} (h : Once l) (p : Ent → Bool) : Once (l.filter p) := h.sublist List.filter_sublist
theorem noted_low {T : Tab} {src seq low code : Int} (i : Nat) : (noted T src seq low code i).low = if i = src.toNat then (if (T i).low < low then low else (T i).low) else (T i).low := by
  unfold noted upd
  split
  · rename_i e
    rw [e]
    unfold Src.rise_
    split
    · rename_i h
      have h' : low ≤ (T src.toNat).low := h
      rw [if_neg (by omega)]; rfl
    · rename_i h
      have h' : ¬ low ≤ (T src.toNat).low := h
      rw [if_pos (by omega)]
  · rfl
theorem rel_note {T : Tab} {W : RefS} (h : Rel T W) (hT : T.Ok) (src seq low code : Int) : Rel (note T src seq low code) (rnote W src seq low code) := by
  unfold note rnote
  rw [rel_noteE h hT]
  split
  · rename_i e
    obtain ⟨h1, h2, h3, h4⟩ := noteE_zero.1 e
    have hm := may_iff.1 h1
    have hs : 0 ≤ src ∧ src < 4 := ⟨hm.1, hm.2.1⟩
    have hnew : ∀ x ∈ W.l, ¬ (x.src = src ∧ x.seq = seq) := rlook_none (by rw [rel_look h hT hs h3]; exact h4)
    have honce : Once (W.l ++ [⟨src, seq, code⟩]) := List.pairwise_append.2 ⟨h.once, List.pairwise_singleton _ _, fun x hx y hy => by
      rw [List.mem_singleton.1 hy]; exact hnew x hx⟩
    have hok : (noted T src seq low code).Ok := by
      have := note_ok hT src seq low code
      unfold note at this
      rwa [if_pos e] at this
    have hlow : ∀ i, i < 4 → rlow W src low i = (noted T src seq low code i).low := fun i hi => by
      rw [noted_low]
      unfold rlow
      rw [h.low i hi]
    refine ⟨hlow, ?_, fun x hx => ?_, honce⟩
    · refine once_perm (once_filter honce _) (riseE_once (all_rise hok)) fun x => ?_
      unfold live
      rw [List.mem_filter, decide_eq_true_eq]
      unfold all
      rw [mem_allTo]
      by_cases hx : 0 ≤ x.src ∧ x.src < 4
      · show (x ∈ W.l ++ [⟨src, seq, code⟩] ∧ rlow W src low x.src.toNat ≤ x.seq) ↔ _
        rw [hlow _ (by omega)]
        have key : ∀ c q, (q, c) ∈ (noted T src seq low code x.src.toNat).codes ↔ ((x.src = src ∧ q = seq ∧ c = code) ∨ (q, c) ∈ (T x.src.toNat).codes ∧ ¬ (x.src = src ∧ q = seq)) ∧ (noted T src seq low code x.src.toNat).low ≤ q := fun c q => by
          unfold noted upd
          by_cases es : x.src.toNat = src.toNat
          · have es' : x.src = src := by omega
            rw [if_pos es]
            have hr := (hT src.toNat).rise
            unfold Src.rise_
            by_cases hl : low ≤ ((T src.toNat).keep seq code).low
            · rw [if_pos hl]
              show (q, c) ∈ ins seq code (T src.toNat).codes ↔ _ ∧ (T src.toNat).low ≤ q
              rw [mem_ins hr, es, es']
              simp only [Prod.mk.injEq, true_and, ne_eq]
              constructor
              · intro hh
                refine ⟨hh, ?_⟩
                rcases hh with ⟨rfl, _⟩ | ⟨hh, _⟩
                · exact h3
                · exact ((hT src.toNat).near _ hh).1
              · exact fun hh => hh.1
            · rw [if_neg hl]
              show (q, c) ∈ (ins seq code (T src.toNat).codes).filter (fun a => decide (low ≤ a.1)) ↔ _ ∧ low ≤ q
              rw [List.mem_filter, mem_ins hr, es, es', decide_eq_true_eq]
              simp only [Prod.mk.injEq, true_and, ne_eq]
          · have es' : ¬ x.src = src := fun e => es (by rw [e])
            rw [if_neg es]
            simp only [es', false_and, not_false_eq_true, and_true, false_or]
            exact ⟨fun hh => ⟨hh, ((hT x.src.toNat).near _ hh).1⟩, fun hh => hh.1⟩
        rw [key]
        constructor
        · rintro ⟨hx1, hx2⟩
          refine ⟨hx.1, by omega, ?_, hx2⟩
          rcases List.mem_append.1 hx1 with hx1 | hx1
          · right
            have hlo : (T x.src.toNat).low ≤ x.seq := by
              rw [noted_low] at hx2
              split at hx2
              · split at hx2 <;> omega
              · exact hx2
            exact ⟨(rel_mem h hx hlo).1 hx1, hnew x hx1⟩
          · left
            have := List.mem_singleton.1 hx1
            rw [this]; exact ⟨rfl, rfl, rfl⟩
        · rintro ⟨_, _, hh, hx2⟩
          refine ⟨?_, hx2⟩
          rcases hh with ⟨a1, a2, a3⟩ | ⟨hh, _⟩
          · exact List.mem_append_right _ (List.mem_singleton.2 (ent_ext a1 a2 a3))
          · exact List.mem_append_left _ ((rel_mem h hx ((hT x.src.toNat).near _ hh).1).2 hh)
      · constructor
        · rintro ⟨hx1, _⟩
          exfalso
          rcases List.mem_append.1 hx1 with hx1 | hx1
          · exact hx (h.src x hx1)
          · rw [List.mem_singleton.1 hx1] at hx; exact hx hs
        · rintro ⟨a1, a2, _⟩
          exact absurd ⟨a1, by omega⟩ hx
    · rcases List.mem_append.1 hx with hx | hx
      · exact h.src x hx
      · rw [List.mem_singleton.1 hx]; exact hs
  · exact h
theorem rel_new : Rel new_ ⟨fun _ => 1, []⟩ := ⟨fun _ _ => rfl, List.Perm.of_eq rfl, fun _ h => by (cases h), List.Pairwise.nil⟩
theorem over_iff {x y : Ent} : over x y = true ↔ y.src < x.src ∨ x.src = y.src ∧ y.seq < x.seq := by unfold over; simp
theorem cutAt_le (out : List Ent) (x : Ent) (n : Nat) : cutAt out x n ≤ n := by
  induction n with
  | zero => exact Nat.le_refl _
  | succ n ih =>
    rw [cutAt]
    split
    · omega
    · exact Nat.le_refl _
theorem cutAt_over (out : List Ent) (x : Ent) (n : Nat) : ∀ j, cutAt out x n ≤ j → j < n → over (out.getD j e0) x = true := by
  induction n with
  | zero => intro j _ h; omega
  | succ n ih =>
    intro j h1 h2
    rw [cutAt] at h1
    split at h1
    · rename_i e
      by_cases hj : j = n
      · rw [hj]; exact e
      · exact ih j h1 (by omega)
    · omega
theorem cutAt_not (out : List Ent) (x : Ent) (n : Nat) : 0 < cutAt out x n → ¬ over (out.getD (cutAt out x n - 1) e0) x = true := by
  induction n with
  | zero => intro h; exact absurd h (Nat.lt_irrefl 0)
  | succ n ih =>
    rw [cutAt]
    split
    · exact ih
    · rename_i e
      intro _
      exact e
theorem getD_mem {l : List Ent} {j : Nat} (h : j < l.length) : l.getD j e0 ∈ l := by
  rw [List.getD_eq_getElem?_getD, List.getElem?_eq_getElem h]
  exact List.getElem_mem h
theorem rins_perm (out : List Ent) (x : Ent) : (rins out x).Perm (x :: out) := by
  unfold rins
  refine List.perm_middle.trans ?_
  rw [List.take_append_drop]
theorem rins_rise {out : List Ent} {x : Ent} (h : RiseE out) (hx : ∀ y ∈ out, ¬ (y.src = x.src ∧ y.seq = x.seq)) : RiseE (rins out x) := by
  unfold rins
  obtain ⟨c, hc⟩ : ∃ c, c = cutAt out x out.length := ⟨_, rfl⟩
  have hle := cutAt_le out x out.length
  have hov := cutAt_over out x out.length
  have hno := cutAt_not out x out.length
  rw [← hc] at hle hov hno ⊢
  have hr := List.pairwise_iff_getElem.1 h
  have hlast : ∀ y ∈ out.take c, ahead y x = true := fun y hy => by
    obtain ⟨i, hi, rfl⟩ := List.mem_iff_getElem.1 hy
    rw [List.length_take] at hi
    have hi2 : i < c := by omega
    rw [List.getElem_take]
    have hc1 := hno (by omega)
    have hin : c - 1 < out.length := by omega
    rw [List.getD_eq_getElem?_getD, List.getElem?_eq_getElem hin, Option.getD_some, over_iff] at hc1
    have hne := hx _ (List.getElem_mem hin)
    have h1 : ahead out[c - 1] x = true := ahead_iff.2 (by omega)
    by_cases e : i = c - 1
    · subst e; exact h1
    · have h2 := hr i (c - 1) (by omega) hin (by omega)
      have a1 := ahead_iff.1 h1
      have a2 := ahead_iff.1 h2
      exact ahead_iff.2 (by omega)
  have hfirst : ∀ y ∈ out.drop c, ahead x y = true := fun y hy => by
    obtain ⟨i, hi, rfl⟩ := List.mem_iff_getElem.1 hy
    rw [List.length_drop] at hi
    rw [List.getElem_drop]
    have := hov (c + i) (by omega) (by omega)
    rw [List.getD_eq_getElem?_getD, List.getElem?_eq_getElem (by omega), Option.getD_some, over_iff] at this
    exact ahead_iff.2 (by omega)
  refine List.pairwise_append.2 ⟨h.sublist (List.take_sublist _ _), List.pairwise_cons.2 ⟨hfirst, h.sublist (List.drop_sublist _ _)⟩, fun y hy z hz => ?_⟩
  have a1 := ahead_iff.1 (hlast y hy)
  rcases List.mem_cons.1 hz with rfl | hz
  · exact hlast y hy
  · have a2 := ahead_iff.1 (hfirst z hz)
    exact ahead_iff.2 (by omega)
theorem rall_snoc (l : List Ent) (x : Ent) : rall (l ++ [x]) = rins (rall l) x := by unfold rall; rw [List.foldl_append]; rfl
theorem rall_is {l : List Ent} (h : Once l) : RiseE (rall l) ∧ (rall l).Perm l := by
  have key : ∀ (l out : List Ent), RiseE out → Once (l.reverse ++ out) → RiseE (l.foldl rins out) ∧ (l.foldl rins out).Perm (l ++ out) := fun l => by
    induction l with
    | nil => intro out hr _; exact ⟨hr, List.Perm.refl _⟩
    | cons x l ih =>
      intro out hr ho
      rw [List.foldl_cons]
      have ho2 : Once (x :: (l ++ out)) := once_of_perm ho (List.Perm.append_right out (List.reverse_perm (x :: l)))
      obtain ⟨h1, h2⟩ := List.pairwise_cons.1 ho2
      have hp : (l ++ rins out x).Perm (x :: (l ++ out)) := ((rins_perm out x).append_left l).trans List.perm_middle
      have ho3 : Once (l.reverse ++ rins out x) := once_of_perm ho2 ((List.Perm.append_right _ (List.reverse_perm l)).trans hp).symm
      obtain ⟨i1, i2⟩ := ih (rins out x) (rins_rise hr fun y hy e => h1 y (List.mem_append_right _ hy) ⟨e.1.symm, e.2.symm⟩) ho3
      exact ⟨i1, i2.trans hp⟩
  have ho : Once (l.reverse ++ []) := by
    rw [List.append_nil]
    exact once_of_perm h (List.reverse_perm l).symm
  have := key l [] List.Pairwise.nil ho
  rw [List.append_nil] at this
  exact this
/-- What the document tells as All is the table's. -/
theorem rel_all {T : Tab} {W : RefS} (h : Rel T W) (hT : T.Ok) : rall (live W) = all T := by
  obtain ⟨h1, h2⟩ := rall_is (once_filter h.once _ : Once (live W))
  exact riseE_perm h1 (all_rise hT) (h2.trans h.perm)
theorem rall_len {l : List Ent} : (rall l).length = l.length := by
  have key : ∀ (l out : List Ent), (l.foldl rins out).length = l.length + out.length := fun l => by
    induction l with
    | nil => intro out; simp
    | cons x l ih =>
      intro out
      rw [List.foldl_cons, ih, (rins_perm out x).length_eq]
      simp only [List.length_cons]; omega
  exact key l []
/-- The entries of a good row rise. -/
theorem good_rise {lows : List Int} {l : List Ent} (h : good lows l = true) : RiseE l := by
  unfold good at h
  simp only [Bool.and_eq_true, List.all_eq_true, List.mem_range, decide_eq_true_eq] at h
  have step : ∀ i, i + 1 < l.length → ahead (l.getD i e0) (l.getD (i + 1) e0) = true := fun i hi => by
    have := h.2 (i + 1) hi
    unfold goodB at this
    rw [Bool.and_eq_true, Bool.or_eq_true, decide_eq_true_eq] at this
    rcases this.2 with e | e
    · omega
    · exact e
  refine List.pairwise_iff_getElem.2 fun i j hi hj hij => ?_
  have key : ∀ n, i + 1 + n < l.length → ahead (l.getD i e0) (l.getD (i + 1 + n) e0) = true := fun n => by
    induction n with
    | zero => intro hn; exact step i hn
    | succ n ih =>
      intro hn
      have a1 := ahead_iff.1 (ih (by omega))
      have a2 := ahead_iff.1 (step (i + 1 + n) (by omega))
      exact ahead_iff.2 (by rw [show i + 1 + (n + 1) = i + 1 + n + 1 by omega]; omega)
  have := key (j - i - 1) (by omega)
  rw [show i + 1 + (j - i - 1) = j by omega, List.getD_eq_getElem?_getD, List.getElem?_eq_getElem hi, List.getD_eq_getElem?_getD, List.getElem?_eq_getElem hj] at this
  exact this
theorem good_right {lows : List Int} {l : List Ent} (h : good lows l = true) : ∀ x ∈ l, rightE (lowf lows) x = true := fun x hx => by
  unfold good at h
  simp only [Bool.and_eq_true, List.all_eq_true, List.mem_range, decide_eq_true_eq] at h
  obtain ⟨i, hi, rfl⟩ := List.mem_iff_getElem.1 hx
  have := h.2 i hi
  unfold goodB at this
  rw [Bool.and_eq_true, List.getD_eq_getElem?_getD, List.getElem?_eq_getElem hi] at this
  exact this.1
theorem good_ok {lows : List Int} {l : List Ent} (h : good lows l = true) : (keeps (tab0 lows) l).Ok := by
  have hr := good_right h
  unfold good at h
  simp only [Bool.and_eq_true, List.all_eq_true, decide_eq_true_eq] at h
  refine keeps_ok (tab0_ok h.1.1 h.1.2) fun x hx => ?_
  rw [← hr x hx]
  exact goodB_low (fun i hi => tab0_low lows hi) x
theorem keeps_codes {U : Tab} (hU : ∀ i, (U i).codes = []) : ∀ {l : List Ent}, RiseE l → (∀ x ∈ l, 0 ≤ x.src) → ∀ i, (keeps U l i).codes = (l.filter fun x => decide (x.src.toNat = i)).map fun x => (x.seq, x.code) := fun {l} => by
  have key : ∀ n, n ≤ l.length → RiseE l → (∀ x ∈ l, 0 ≤ x.src) → ∀ i, (keeps U (l.take n) i).codes = ((l.take n).filter fun x => decide (x.src.toNat = i)).map fun x => (x.seq, x.code) := fun n => by
    induction n with
    | zero => intro _ _ _ i; rw [List.take_zero]; exact hU i
    | succ n ih =>
      intro hn hr hs i
      have ih' := ih (by omega) hr hs
      obtain ⟨x, hx⟩ : ∃ x, l[n]? = some x := ⟨_, List.getElem?_eq_getElem (by omega)⟩
      have hxe : l[n] = x := by
        have := List.getElem?_eq_getElem (l := l) (i := n) (by omega)
        rw [this] at hx; exact Option.some.inj hx
      have ts : l.take (n + 1) = l.take n ++ [x] := by rw [← hxe]; exact List.take_succ_eq_append_getElem (by omega)
      rw [ts, keeps_snoc, List.filter_append, List.map_append]
      unfold keepE upd
      by_cases e : i = x.src.toNat
      · subst e
        rw [if_pos rfl]
        show ins x.seq x.code (keeps U (l.take n) x.src.toNat).codes = _
        rw [ih', ins_last fun a ha => ?_]
        · simp
        · obtain ⟨y, hy, rfl⟩ := List.mem_map.1 ha
          obtain ⟨hy1, hy2⟩ := List.mem_filter.1 hy
          obtain ⟨j, hj, rfl⟩ := List.mem_iff_getElem.1 hy1
          rw [List.length_take] at hj
          have hlt := List.pairwise_iff_getElem.1 hr j n (by omega) (by omega) (by omega)
          rw [hxe] at hlt
          have a1 := ahead_iff.1 hlt
          rw [List.getElem_take] at hy2 ⊢
          have h1 := of_decide_eq_true hy2
          have h2 := hs l[j] (List.getElem_mem _)
          have h3 := hs x (by rw [← hxe]; exact List.getElem_mem _)
          show l[j].seq < x.seq
          omega
      · rw [if_neg e, ih', List.filter_cons, if_neg (by simp; omega)]
        simp
  intro hr hs i
  have := key l.length (Nat.le_refl _) hr hs i
  rw [List.take_length] at this
  exact this
/-- A table made of a good row, and the document's. -/
theorem rel_of {lows : List Int} {l : List Ent} (h : good lows l = true) : Rel (keeps (tab0 lows) l) ⟨lowf lows, l⟩ := by
  have hr := good_rise h
  have hk := good_ok h
  have hg := good_right h
  have hlow : ∀ i, i < 4 → lowf lows i = (keeps (tab0 lows) l i).low := fun i hi => by rw [keeps_low, tab0_low lows hi]
  refine ⟨hlow, ?_, fun x hx => (rightE_iff.1 (hg x hx)).1, riseE_once hr⟩
  have hlive : live ⟨lowf lows, l⟩ = l := List.filter_eq_self.2 fun x hx => decide_eq_true (rightE_iff.1 (hg x hx)).2.2.1
  rw [hlive]
  refine once_perm (riseE_once hr) (riseE_once (all_rise hk)) fun x => ?_
  unfold all
  have hc := keeps_codes (U := tab0 lows) (fun i => by unfold tab0 tabTo; split <;> rfl) hr fun x hx => (rightE_iff.1 (hg x hx)).1.1
  rw [mem_allTo]
  constructor
  · intro hx
    have := (rightE_iff.1 (hg x hx)).1
    refine ⟨this.1, by omega, ?_⟩
    rw [hc]
    exact List.mem_map.2 ⟨x, List.mem_filter.2 ⟨hx, by simp⟩, rfl⟩
  · rintro ⟨h1, h2, h3⟩
    rw [hc] at h3
    obtain ⟨y, hy, e⟩ := List.mem_map.1 h3
    obtain ⟨hy1, hy2⟩ := List.mem_filter.1 hy
    simp only [Prod.mk.injEq] at e
    have h5 := of_decide_eq_true hy2
    have h6 := (rightE_iff.1 (hg y hy1)).1
    have : y = x := ent_ext (by omega) e.1 e.2
    rw [← this]; exact hy1
end Go.Proofs.YtigmhljaoicdbaaGreat.Sn

namespace Go.Proofs.YtigmhljaoicdbaaGreat.Sn
open Go.RowKit

/-- The document's table, as a value. -/
def refC (low : Nat → Int) (a : Option Addr) (n c : Nat) : List Value := [.int .i64 (low 0), .int .i64 (low 1), .int .i64 (low 2), .int .i64 (low 3), .slice a n c]
theorem refC_low {w : World} {H : Nat} {low : Nat → Int} {a : Option Addr} {n c : Nat} (h : RowAt w H (refC low a n c)) {k : Nat} (hk : k < 4) : w.cell? ⟨H, k, none⟩ = some (.int .i64 (low k)) := by
  match k, hk with
  | 0, _ => exact h.cell 0 (by simp [refC])
  | 1, _ => exact h.cell 1 (by simp [refC])
  | 2, _ => exact h.cell 2 (by simp [refC])
  | 3, _ => exact h.cell 3 (by simp [refC])
theorem refC_list {w : World} {H : Nat} {low : Nat → Int} {a : Option Addr} {n c : Nat} (h : RowAt w H (refC low a n c)) : w.cell? ⟨H, 4, none⟩ = some (.slice a n c) := h.cell 4 (by simp [refC])
theorem rnew_any (w : World) : Calls Tryz.prog 29 #[] w fun e w' => e = .returned (.agg (refC (fun _ => 1) none 0 0).toArray) ∧ Below w.heap.size w w' := by
  have hr := (row_new w (refC (fun _ => 1) none 0 0) 35).range
  go_enter Tryz.func29, Tryz.ntmps29
  go_wp2_with fail
  refine bodyPost_ret (v := .agg (refC (fun _ => 1) none 0 0).toArray) ?_ rfl ⟨rfl, ?_⟩
  · exact results_cell_mid Tryz.results29 _ _ w.heap.size _ _ rfl hr Tryz.underlying35 rfl (by kernel_rfl)
  · exact (Below.refl _ w).alloc (Nat.le_refl _) _
theorem may_not {src seq low : Int} (h : may src seq low = false) : ¬ (0 ≤ src ∧ src < 4 ∧ 1 ≤ low ∧ low ≤ seq ∧ seq ≤ 1099511627776 ∧ seq < low + 16) := fun hc => by rw [may_iff.2 hc] at h; cases h
set_option maxRecDepth 100000 in
set_option maxHeartbeats 2000000 in
theorem rask_any {w : World} {low : Nat → Int} {a : Option Addr} {c : Nat} {l : List Ent} (h : RefK.At w a l) (hl : l.length ≤ 100000) (src seq lo : Int) (hq : seq ≤ 9223372036854775807) :
    Calls Tryz.prog 33 #[.agg (refC low a l.length c).toArray, .int .i64 src, .int .i64 seq, .int .i64 lo] w fun e w' => e = .returned (.tuple #[.int .i64 (rask ⟨low, l⟩ src seq lo).1, .int .i64 (rask ⟨low, l⟩ src seq lo).2]) ∧ Below w.heap.size w w' := by
  obtain ⟨W, hW⟩ : ∃ W, W = w.alloc (.cells (refC low a l.length c).toArray 35) := ⟨_, rfl⟩
  obtain ⟨H, hH⟩ : ∃ H, H = w.heap.size := ⟨_, rfl⟩
  have bW : Below w.heap.size w W := by rw [hW]; exact (Below.refl _ _).alloc (Nat.le_refl _) _
  have R0 : RowAt W H (refC low a l.length c) := by rw [hW, hH]; exact row_new _ _ _
  have HA := hide (h.below (Nat.le_refl _) bW)
  have FIN := hide bW
  have HW := hide hW
  have HH := hide hH
  have HL := hide hl
  have c4 := refC_list R0
  have HR := hide R0
  clear hW hH bW R0 h
  cases hm : may src seq lo with
  | false =>
    have HE : Hid (rask ⟨low, l⟩ src seq lo = (0, 0)) := hide (by unfold rask; rw [hm]; rfl)
    have hn := may_not hm
    clear hm
    by_cases h1 : src < 0
    · simp only [refC]
      go_enter Tryz.func33, Tryz.ntmps33
      go_upto_region 1 with fail
      rw [← unhide HH]
      try change Code.wp _ _ _ _ (w.alloc (.cells (refC low a l.length c).toArray 35))
      rw [← unhide HW]
      go_wp2_with fail
      go_ret2
      exact ⟨by rw [unhide HE]; rfl, unhide FIN⟩
    · have d1 : decide (src < 0) = false := decide_eq_false h1
      by_cases h2 : 3 < src
      · simp only [refC]
        go_enter Tryz.func33, Tryz.ntmps33
        go_upto_region 1 with fail
        rw [← unhide HH]
        try change Code.wp _ _ _ _ (w.alloc (.cells (refC low a l.length c).toArray 35))
        rw [← unhide HW]
        go_wp2_with fail
        go_ret2
        exact ⟨by rw [unhide HE]; rfl, unhide FIN⟩
      · have d2 : decide (3 < src) = false := decide_eq_false h2
        by_cases h3 : lo < 1
        · simp only [refC]
          go_enter Tryz.func33, Tryz.ntmps33
          go_upto_region 1 with fail
          rw [← unhide HH]
          try change Code.wp _ _ _ _ (w.alloc (.cells (refC low a l.length c).toArray 35))
          rw [← unhide HW]
          go_wp2_with fail
          go_ret2
          exact ⟨by rw [unhide HE]; rfl, unhide FIN⟩
        · have d3 : decide (lo < 1) = false := decide_eq_false h3
          by_cases h4 : seq < lo
          · simp only [refC]
            go_enter Tryz.func33, Tryz.ntmps33
            go_upto_region 1 with fail
            rw [← unhide HH]
            try change Code.wp _ _ _ _ (w.alloc (.cells (refC low a l.length c).toArray 35))
            rw [← unhide HW]
            go_wp2_with fail
            go_ret2
            exact ⟨by rw [unhide HE]; rfl, unhide FIN⟩
          · have d4 : decide (seq < lo) = false := decide_eq_false h4
            by_cases h5 : 1099511627776 < seq
            · have hw : IntKind.i64.wrap (seq - lo) = seq - lo := Go.IntWalk.i64_in _ (by omega)
              by_cases h7 : 15 < seq - lo
              · simp only [refC]
                go_enter Tryz.func33, Tryz.ntmps33
                go_upto_region 1 with fail
                rw [← unhide HH]
                try change Code.wp _ _ _ _ (w.alloc (.cells (refC low a l.length c).toArray 35))
                rw [← unhide HW]
                go_wp2_with fail
                go_ret2
                exact ⟨by rw [unhide HE]; rfl, unhide FIN⟩
              · have d7 : decide (15 < seq - lo) = false := decide_eq_false h7
                simp only [refC]
                go_enter Tryz.func33, Tryz.ntmps33
                go_upto_region 1 with fail
                rw [← unhide HH]
                try change Code.wp _ _ _ _ (w.alloc (.cells (refC low a l.length c).toArray 35))
                rw [← unhide HW]
                go_wp2_with fail
                go_ret2
                exact ⟨by rw [unhide HE]; rfl, unhide FIN⟩
            · have hw : IntKind.i64.wrap (seq - lo) = seq - lo := Go.IntWalk.i64_in _ (by omega)
              have h7 : 15 < seq - lo := by omega
              simp only [refC]
              go_enter Tryz.func33, Tryz.ntmps33
              go_upto_region 1 with fail
              rw [← unhide HH]
              try change Code.wp _ _ _ _ (w.alloc (.cells (refC low a l.length c).toArray 35))
              rw [← unhide HW]
              go_wp2_with fail
              go_ret2
              exact ⟨by rw [unhide HE]; rfl, unhide FIN⟩
  | true =>
    have hr := may_iff.1 hm
    obtain ⟨k, rfl⟩ : ∃ k : Nat, src = k := ⟨src.toNat, by omega⟩
    have hk : k < 4 := by omega
    have cl := refC_low (unhide HR) hk
    have HE : Hid (rask ⟨low, l⟩ (k : Int) seq lo = if seq < low k then ((1 : Int), (0 : Int)) else match rlook l (k : Int) seq with | some c => ((2 : Int), c) | none => (3, 0)) := hide (by
      unfold rask
      rw [hm, if_pos rfl]
      show (if seq < low (k : Int).toNat then _ else _) = _
      rw [Int.toNat_natCast])
    have g0 : (0 : Int) ≤ (k : Int) := by omega
    have g1 : (k : Int) < 4 := by omega
    have n1 : ¬ (k : Int) < 0 := by omega
    have n2 : ¬ 3 < (k : Int) := by omega
    have n3 : ¬ lo < 1 := by omega
    have n4 : ¬ seq < lo := by omega
    have n5 : ¬ 15 < seq - lo := by omega
    have n6 : ¬ 1099511627776 < seq := by omega
    have d1 : decide ((k : Int) < 0) = false := decide_eq_false n1
    have d2 : decide (3 < (k : Int)) = false := decide_eq_false n2
    have d2' : decide (3 < k) = false := decide_eq_false (by omega)
    have d3 : decide (lo < 1) = false := decide_eq_false n3
    have d4 : decide (seq < lo) = false := decide_eq_false n4
    have d5 : decide (15 < seq - lo) = false := decide_eq_false n5
    have d6 : decide (1099511627776 < seq) = false := decide_eq_false n6
    have hw : IntKind.i64.wrap (seq - lo) = seq - lo := Go.IntWalk.i64_in _ (by omega)
    clear hm hr
    by_cases hlow : seq < low k
    · have HE2 : Hid (rask ⟨low, l⟩ (k : Int) seq lo = (1, 0)) := hide (by rw [unhide HE, if_pos hlow])
      simp only [refC]
      go_enter Tryz.func33, Tryz.ntmps33
      go_upto_region 1 with fail
      rw [← unhide HH]
      try change Code.wp _ _ _ _ (w.alloc (.cells (refC low a l.length c).toArray 35))
      rw [← unhide HW]
      go_wp2_with fail
      go_ret2
      exact ⟨by rw [unhide HE2]; rfl, unhide FIN⟩
    · have d7 : decide (seq < low k) = false := decide_eq_false hlow
      have HE2 : Hid (rask ⟨low, l⟩ (k : Int) seq lo = match rlook l (k : Int) seq with | some c => ((2 : Int), c) | none => (3, 0)) := hide (by rw [unhide HE, if_neg hlow])
      simp only [refC]
      go_enter Tryz.func33, Tryz.ntmps33
      go_upto_region 1 with fail
      rw [← unhide HH]
      try change Code.wp _ _ _ _ (w.alloc (.cells (refC low a l.length c).toArray 35))
      rw [← unhide HW]
      go_wp2_with fail
      go_loopw [10] (fun i wr => ∃ j : Nat, i = .int .i64 (j : Int) ∧ j ≤ l.length ∧ rlook l (k : Int) seq = rlook (l.drop j) (k : Int) seq ∧ wr = W) (fun i _ => l.length - (intOf i).toNat)
      case atStart => exact ⟨0, rfl, Nat.zero_le _, by rw [List.drop_zero], rfl⟩
      case round =>
        obtain ⟨j, rfl, hj, hlk, hwr⟩ := hrel
        rw [hwr]
        clear cl
        have HLK := hide hlk
        clear hlk hwr
        have hwj : IntKind.i64.wrap ((j : Int) + 1) = (j : Int) + 1 := Go.IntWalk.i64_in _ (by have := unhide HL; omega)
        have gj0 : (0 : Int) ≤ (j : Int) := by omega
        by_cases hlt : j < l.length
        · have gj : (j : Int) < (l.length : Int) := by omega
          obtain ⟨x, hx⟩ : ∃ x, l[j]? = some x := ⟨_, List.getElem?_eq_getElem hlt⟩
          obtain ⟨g, o, rfl, hg, hrg⟩ := (unhide HA).cell refK_law hx
          have x0 : W.cell? ⟨g, o + j * 3, none⟩ = some (.int .i64 x.src) := hrg 0 _ rfl
          have x1 : W.cell? ⟨g, o + j * 3 + 1, none⟩ = some (.int .i64 x.seq) := hrg 1 _ rfl
          have x2 : W.cell? ⟨g, o + j * 3 + 2, none⟩ = some (.int .i64 x.code) := hrg 2 _ rfl
          have hdr : l.drop j = x :: l.drop (j + 1) := by
            obtain ⟨hj', rfl⟩ := List.getElem?_eq_some_iff.1 hx
            exact List.drop_eq_getElem_cons hj'
          have HD := hide hdr
          clear hx hrg hg hdr
          by_cases e1 : x.src = (k : Int)
          · by_cases e2 : x.seq = seq
            · have HF : Hid (rask ⟨low, l⟩ (k : Int) seq lo = (2, x.code)) := hide (by rw [unhide HE2, unhide HLK, unhide HD, rlook, if_pos ⟨e1, e2⟩])
              obtain ⟨CL, hCL⟩ : ∃ CL : World → Prop, CL = fun v => Below W.heap.size W v := ⟨_, rfl⟩
              have un : ∀ v, CL v → Below W.heap.size W v := fun v k => by rw [hCL] at k; exact k
              have base : CL W.drew := by rw [hCL]; exact (Below.refl _ _).drew
              have q4 : ∀ q : SX CL, q.w.cell? ⟨H, 4, none⟩ = some (.slice (some ⟨g, o, none⟩) l.length c) := fun q => ((un _ q.ok).cell (p := ⟨H, 4, none⟩) (World.block_lt_of_cell? _ _ c4)).trans c4
              have q2 : ∀ q : SX CL, q.w.cell? ⟨g, o + j * 3 + 2, none⟩ = some (.int .i64 x.code) := fun q => ((un _ q.ok).cell (p := ⟨g, o + j * 3 + 2, none⟩) (World.block_lt_of_cell? _ _ x2)).trans x2
              have ne : Nonempty (SX CL) := ⟨⟨_, base⟩⟩
              have BS := hide base
              have UN := hide (fun v hv => (unhide FIN).trans ((un v hv).mono (unhide FIN).size))
              clear hCL base un
              go_upto_region 9 with fail
              refine wp_region_sx (St := CL) (by kernel_rfl) (by kernel_rfl) (unhide BS) ?_
              repeat (go_big_quiet_step (fail))
              refine wpQuiet_nil ?_
              first | (rintro v1 ⟨⟨v1', OK1⟩, e1⟩; subst e1) | rintro ⟨v1, OK1⟩
              try dsimp only
              have B1 := hide (unhide UN _ OK1)
              clear OK1 q4 q2
              go_wp2_with fail
              go_ret2
              exact ⟨by rw [unhide HF]; rfl, unhide B1⟩
            · have e3 : decide (x.seq = seq) = false := decide_eq_false e2
              have HN := hide (show rlook l (k : Int) seq = rlook (l.drop (j + 1)) (k : Int) seq by rw [unhide HLK, unhide HD, rlook, if_neg (fun h => e2 h.2)])
              go_wp2_with fail
              exact ⟨⟨j + 1, rfl, by omega, unhide HN, trivial⟩, by simp [intOf]; omega⟩
          · have e3 : decide (x.src = (k : Int)) = false := decide_eq_false e1
            have HN := hide (show rlook l (k : Int) seq = rlook (l.drop (j + 1)) (k : Int) seq by rw [unhide HLK, unhide HD, rlook, if_neg (fun h => e1 h.1)])
            go_wp2_with fail
            exact ⟨⟨j + 1, rfl, by omega, unhide HN, trivial⟩, by simp [intOf]; omega⟩
        · have hje : j = l.length := by omega
          have HF : Hid (rask ⟨low, l⟩ (k : Int) seq lo = (3, 0)) := hide (by rw [unhide HE2, unhide HLK, hje, List.drop_length]; rfl)
          clear hje
          go_wp2_with fail
          go_ret2
          exact ⟨by rw [unhide HF]; rfl, unhide FIN⟩
end Go.Proofs.YtigmhljaoicdbaaGreat.Sn

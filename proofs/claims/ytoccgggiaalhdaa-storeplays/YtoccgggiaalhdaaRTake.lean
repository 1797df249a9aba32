/- The document's own Take. Conditions: the windows lie in a row; there are at most 1000. -/
import Derived.Test.YtoccgggiaalhdaaRSet
import Derived.Test.YtoccgggiaalhdaaGrowB
namespace Go.Proofs.Ytoccgggiaalhdaa
open Go.RowKit
/-- What is left behind the first j of a row. -/
def restT (m : Int) (l : List (Win AggV)) (j : Nat) : List (Win AggV) := (l.take j).filter (fun a => !Sp.overI a.start m)
theorem restT_end (m : Int) (l : List (Win AggV)) : restT m l l.length = (takeS SO l m).1 := by simp [restT, takeS, SO]
theorem restT_len (m : Int) (l : List (Win AggV)) (j : Nat) : (restT m l j).length ≤ l.length := by
  unfold restT
  have h1 := List.length_filter_le (fun a : Win AggV => !Sp.overI a.start m) (l.take j)
  have h2 : (l.take j).length ≤ l.length := by rw [List.length_take]; omega
  omega
theorem restT_no {m : Int} {l : List (Win AggV)} {j : Nat} {x : Win AggV} (hx : l[j]? = some x) (h : Sp.overI x.start m = false) : restT m l (j + 1) = restT m l j ++ [x] := by
  obtain ⟨hj, rfl⟩ := List.getElem?_eq_some_iff.1 hx
  unfold restT
  rw [List.take_succ_eq_append_getElem hj, List.filter_append]
  simp [h]
theorem restT_yes {m : Int} {l : List (Win AggV)} {j : Nat} {x : Win AggV} (hx : l[j]? = some x) (h : Sp.overI x.start m = true) : restT m l (j + 1) = restT m l j := by
  obtain ⟨hj, rfl⟩ := List.getElem?_eq_some_iff.1 hx
  unfold restT
  rw [List.take_succ_eq_append_getElem hj, List.filter_append]
  simp [h]
/-- What Take's variables hold: the store, the answer's room, the rest; the rows of both, of unlike blocks. -/
structure TkS (w : World) (H : Nat) (s : Value) (ao : Option Addr) (co : Nat) (ov : List (Win AggV)) (ar : Option Addr) (cr : Nat) (re : List (Win AggV)) (v : World) : Prop where
  r0 : RowAt v H [s]
  r1 : RowAt v (H + 1) [.slice none 0 0]
  r2 : RowAt v (H + 2) [.slice ar re.length cr]
  rov : OutK.Row v (H + 3) ao co ov
  rre : OutK.Row v (H + 3) ar cr re
  ap : ∀ k, (Value.slice ao ov.length co).ownBlock = some k → (Value.slice ar re.length cr).ownBlock = some k → False
  bel : Below w.heap.size w v
theorem TkS.over {w v : World} {H : Nat} {s : Value} {ao ar : Option Addr} {co cr : Nat} {ov re : List (Win AggV)} (h : TkS w H s ao co ov ar cr re v) (hH : H = w.heap.size) (hl : ov.length ≤ 1000) (x : Win AggV) :
    ∃ a' c' v', (Builtin.append_ #[27, 27] 27 #[.slice ao ov.length co, .slice (some ⟨v.heap.size, 0, none⟩) 1 1]).run Try.prog (v.alloc (.cells (outV x).toArray 34)) = .ok (.slice a' (ov ++ [x]).length c') v' ∧ TkS w H s a' c' (ov ++ [x]) ar cr re v' := by
  have hsz : H + 3 ≤ v.heap.size := h.r2.lt
  have rV := h.rov.alloc (.cells (outV x).toArray 34)
  have rR := h.rre.alloc (.cells (outV x).toArray 34)
  obtain ⟨a', c', v', h1, h2, h3, h4⟩ := grow_at outK_law rV ⟨v.heap.size, 0, none⟩ 1 [x] (lies_new v x) (by simp; omega) (by simp; omega) 27
  have mm : Moved (fun i => (Value.slice ao ov.length co).ownBlock = some i) (v.alloc (.cells (outV x).toArray 34)) v' := (Moved.refl _ _).grown h3 (fun k e => .inl e)
  have hlow : ∀ i, (Value.slice ao ov.length co).ownBlock = some i → H + 3 ≤ i := fun i e => (row_lt h.rov i e).1
  refine ⟨a', c', v', h1, (row_old h.r0 _).keep mm (fun e => by have := hlow _ e; omega), (row_old h.r1 _).keep mm (fun e => by have := hlow _ e; omega), (row_old h.r2 _).keep mm (fun e => by have := hlow _ e; omega), h2, row_moved rR mm (fun i hi k hk e => h.ap k (e ▸ hi) hk), fun k e1 e2 => ?_, ?_⟩
  · rcases h4 with h4 | h4
    · exact h.ap k (h4 ▸ e1) e2
    · rw [h4] at e1
      cases e1
      exact absurd (row_lt h.rre _ e2).2 (by simp)
  · exact (((Moved.of_below (F := fun i => H + 3 ≤ i) h.bel).alloc _).trans mm (fun i hi => .inl (hlow i hi))).below (fun i hi => by omega) (Nat.le_refl _)
theorem TkS.rest {w v : World} {H : Nat} {s : Value} {ao ar : Option Addr} {co cr : Nat} {ov re : List (Win AggV)} (h : TkS w H s ao co ov ar cr re v) (hH : H = w.heap.size) (hl : re.length ≤ 1000) (x : Win AggV) :
    ∃ a' c' v', (Builtin.append_ #[27, 27] 27 #[.slice ar re.length cr, .slice (some ⟨v.heap.size, 0, none⟩) 1 1]).run Try.prog (v.drew.alloc (.cells (outV x).toArray 34)) = .ok (.slice a' (re ++ [x]).length c') v' ∧ Moved (fun i => H + 3 ≤ i) v v' ∧ TkS w H s ao co ov a' c' (re ++ [x]) (v'.setCell ⟨H + 2, 0, none⟩ (.slice a' (re ++ [x]).length c')) := by
  have hsz : H + 3 ≤ v.heap.size := h.r2.lt
  have hO : OutK.Row v.drew (H + 3) ao co ov := h.rov
  have hE : OutK.Row v.drew (H + 3) ar cr re := h.rre
  have rV := hE.alloc (.cells (outV x).toArray 34)
  have rR := hO.alloc (.cells (outV x).toArray 34)
  obtain ⟨a', c', v', h1, h2, h3, h4⟩ := grow_at outK_law rV ⟨v.heap.size, 0, none⟩ 1 [x] (lies_new v.drew x) (by simp; omega) (by show H + 3 ≤ (v.drew.alloc _).heap.size; simp; omega) 27
  have mm : Moved (fun i => (Value.slice ar re.length cr).ownBlock = some i) (v.drew.alloc (.cells (outV x).toArray 34)) v' := (Moved.refl _ _).grown h3 (fun k e => .inl e)
  have hlow : ∀ i, (Value.slice ar re.length cr).ownBlock = some i → H + 3 ≤ i := fun i e => (row_lt h.rre i e).1
  have m1 : Moved (fun i => H + 3 ≤ i) v v' := (((Moved.refl (fun i => H + 3 ≤ i) v).drew).alloc _).trans mm (fun i hi => .inl (hlow i hi))
  have m2 := moved_set v' (H + 2) 0 (.slice a' (re ++ [x]).length c')
  have row2 := (h.r2.keep m1 (by omega)).set 0 (Nat.succ_pos _) (.slice a' (re ++ [x]).length c')
  have rO := row_moved rR mm (fun i hi k hk e => h.ap k hk (e ▸ hi))
  refine ⟨a', c', v', h1, m1, (h.r0.keep m1 (by omega)).keep m2 (by omega), (h.r1.keep m1 (by omega)).keep m2 (by omega), row2, row_moved rO m2 (fun i hi k hk => by have := (row_lt rO k hk).1; omega), row_moved h2 m2 (fun i hi k hk => by have := (row_lt h2 k hk).1; omega), fun k e1 e2 => ?_, ?_⟩
  · rcases h4 with h4 | h4
    · exact h.ap k e1 (h4 ▸ e2)
    · rw [h4] at e2
      cases e2
      exact absurd (row_lt h.rov _ e1).2 (by simp)
  · exact (((Moved.of_below (F := fun i => H + 2 ≤ i) h.bel).trans m1 (fun i hi => .inl (by omega))).trans m2 (fun i hi => .inl (by omega))).below (fun i hi => by omega) (Nat.le_refl _)
set_option maxRecDepth 100000 in
set_option maxHeartbeats 4000000 in
theorem rtake_any {w : World} {a : Option Addr} {c : Nat} {l : List (Win AggV)} {B : Nat} (hR : OutK.Row w B a c l) (hl : l.length ≤ 1000) (m : Int) :
    Calls Try.prog 17 #[.agg #[.slice a l.length c], .int .i64 m] w fun e w' => ∃ a1 c1 a2 c2, e = .returned (.tuple #[.agg #[.slice a1 (takeS SO l m).1.length c1], .slice a2 (takeS SO l m).2.length c2]) ∧ OutK.Row w' w.heap.size a1 c1 (takeS SO l m).1 ∧ OutK.Row w' w.heap.size a2 c2 (takeS SO l m).2 ∧ Below w.heap.size w w' := by
  obtain ⟨W, hW⟩ : ∃ W, W = ((w.alloc (.cells #[.slice a l.length c] 29)).alloc (.cells #[.slice none 0 0] 29)).alloc (.cells #[.slice none 0 0] 29) := ⟨_, rfl⟩
  obtain ⟨H, hH⟩ : ∃ H, H = w.heap.size := ⟨_, rfl⟩
  have T0 : RowAt W H [.slice a l.length c] := by rw [hW, hH]; exact row_old (row_old (row_new _ _ _) _) _
  have T1 : RowAt W (H + 1) [.slice none 0 0] := by rw [hW, hH]; exact row_old (row_new2 _ _ _ _ _) _
  have T2 : RowAt W (H + 2) [.slice none 0 0] := by
    rw [hW, hH]
    have := row_new ((w.alloc (.cells #[.slice a l.length c] 29)).alloc (.cells #[.slice none 0 0] 29)) [.slice none 0 0] 29
    rw [show ((w.alloc (.cells #[.slice a l.length c] 29)).alloc (.cells #[.slice none 0 0] 29)).heap.size = w.heap.size + 2 by simp] at this
    exact this
  have bW : Below w.heap.size w W := by rw [hW]; exact (((Below.refl _ _).alloc (Nat.le_refl _) _).alloc (by simp) _).alloc (by simp; omega) _
  have START := hide (⟨T0, T1, T2, row_none _ _, row_none _ _, fun k e => (by cases e), bW⟩ : TkS w H (.slice a l.length c) none 0 (overT m l 0) none 0 (restT m l 0) W)
  have HW := hide hW
  have HH := hide hH
  have HR := hide hR
  clear T0 T1 T2 bW hW hH hR
  go_enter Try.func17, Try.ntmps17
  go_upto_region 2 with fail
  rw [← unhide HH]
  try change Code.wp _ _ _ _ (((w.alloc (.cells #[.slice a l.length c] 29)).alloc (.cells #[.slice none 0 0] 29)).alloc (.cells #[.slice none 0 0] 29))
  rw [← unhide HW]
  go_wp2_with fail
  go_loopw [7, 8] (fun ov i wr => ∃ (j : Nat) (ao : Option Addr) (co : Nat) (ar : Option Addr) (cr : Nat), i = .int .i64 (j : Int) ∧ j ≤ l.length ∧ ov = .slice ao (overT m l j).length co ∧ TkS w H (.slice a l.length c) ao co (overT m l j) ar cr (restT m l j) wr) (fun _ i _ => l.length - (intOf i).toNat)
  case atStart => exact ⟨0, none, 0, none, 0, rfl, Nat.zero_le _, rfl, unhide START⟩
  case round =>
    obtain ⟨j, ao, co, ar, cr, rfl, hj, rfl, hs⟩ := hrel
    have HS := hide hs
    clear hs START
    by_cases h1 : j < l.length
    · have g1 : (j : Int) < (l.length : Int) := by omega
      have hj0 : (0 : Int) ≤ (j : Int) := by omega
      have hwj : IntKind.i64.wrap ((j : Int) + 1) = (j : Int) + 1 := Go.IntWalk.i64_in _ (by omega)
      obtain ⟨x, hx⟩ : ∃ x, l[j]? = some x := ⟨_, List.getElem?_eq_getElem h1⟩
      obtain ⟨g, rfl⟩ : ∃ g, a = some ⟨g, 0, none⟩ := by
        rcases row_flat (unhide HR) with h | h
        · exact ⟨_, h⟩
        · rw [h] at h1; simp at h1
      have hgw : g < w.heap.size := (row_lt (unhide HR) g rfl).2
      have LIE : Hid (∀ u, Below w.heap.size w u → u.rangeAt g (j * 10) (outV x)) := hide fun u hu => by
        have := lies_at outK_law (row_lies (row_below (unhide HR) hu)) hx
        rw [Nat.zero_add] at this; exact this
      have HX := hide hx
      have HGW := hide hgw
      have HOV := hide (fun v => Sp.rover_any x.start m v)
      clear hx hgw
      obtain ⟨xk, xs, ⟨g0, g1', g2, g3, g4, g5, g6, g7⟩⟩ := x
      have RX : Hid (wr.rangeAt g (j * 10) [.string ⟨xk.toArray⟩, .int .i64 xs, .int .i64 g0, .int .i64 g1', .int .i64 g2, .int .i64 g3, .int .i64 g4, .int .i64 g5, .int .i64 g6, .int .i64 g7]) := hide (unhide LIE wr (unhide HS).bel)
      have c1 : wr.cell? ⟨g, j * 10 + 1, none⟩ = some (.int .i64 xs) := unhide RX 1 _ rfl
      have c0 : wr.cell? ⟨H, 0, none⟩ = some (.slice (some ⟨g, 0, none⟩) l.length c) := (unhide HS).r0.cell 0 (Nat.succ_pos _)
      dsimp only at HOV
      go_upto_region 7 with fail
      refine (unhide HOV _).mono ?_
      rintro e v' ⟨rfl, hw⟩
      rw [hw]
      clear hw v' HOV
      by_cases ho : Sp.overI xs m = true
      · rw [ho]
        have e1 := overT_yes (unhide HX) ho
        have HE2 := hide (restT_yes (unhide HX) ho)
        obtain ⟨a', c', v', hap, hn⟩ := (unhide HS).over (unhide HH) (Nat.le_trans (overT_len m l j) hl) (⟨xk, xs, ⟨g0, g1', g2, g3, g4, g5, g6, g7⟩⟩ : Win AggV)
        rw [← e1] at hap hn
        rw [← unhide HE2] at hn
        have HAP : Hid ((Builtin.append_ #[27, 27] 27 #[.slice ao (overT m l j).length co, .slice (some ⟨wr.heap.size, 0, none⟩) 1 1]).run Try.prog (wr.alloc (.cells #[.string ⟨xk.toArray⟩, .int .i64 xs, .int .i64 g0, .int .i64 g1', .int .i64 g2, .int .i64 g3, .int .i64 g4, .int .i64 g5, .int .i64 g6, .int .i64 g7] 34)) = .ok (.slice a' (overT m l (j + 1)).length c') v') := hide hap
        have HN := hide hn
        clear hap hn e1 HE2 c1
        go_wp2_with (first | (refine wpList_load_on rfl 34 (.tmp 28) rfl g (j * 10) rfl [.string ⟨xk.toArray⟩, .int .i64 xs, .int .i64 g0, .int .i64 g1', .int .i64 g2, .int .i64 g3, .int .i64 g4, .int .i64 g5, .int .i64 g6, .int .i64 g7] _ (unhide RX) Try.underlying34 rfl (by kernel_rfl) ?_) | (at_builtin; refine wpList_app rfl _ _ 27 27 27 rfl rfl rfl rfl (unhide HAP) ?_))
        exact ⟨⟨j + 1, a', c', ar, cr, rfl, by omega, rfl, unhide HN⟩, by simp [intOf]; omega⟩
      · replace ho := Bool.eq_false_iff.2 ho
        rw [ho]
        have e1 := restT_no (unhide HX) ho
        have HE2 := hide (overT_no (unhide HX) ho)
        obtain ⟨a', c', v', hap, hmv, hn⟩ := (unhide HS).rest (unhide HH) (Nat.le_trans (restT_len m l j) hl) (⟨xk, xs, ⟨g0, g1', g2, g3, g4, g5, g6, g7⟩⟩ : Win AggV)
        rw [← e1] at hap hn
        obtain ⟨n', hn'⟩ : ∃ n', n' = (restT m l (j + 1)).length := ⟨_, rfl⟩
        rw [← hn'] at hap hn
        have HAP : (Builtin.append_ #[27, 27] 27 #[.slice ar (restT m l j).length cr, .slice (some ⟨wr.heap.size, 0, none⟩) 1 1]).run Try.prog (wr.drew.alloc (.cells #[.string ⟨xk.toArray⟩, .int .i64 xs, .int .i64 g0, .int .i64 g1', .int .i64 g2, .int .i64 g3, .int .i64 g4, .int .i64 g5, .int .i64 g6, .int .i64 g7] 34)) = .ok (.slice a' n' c') v' := hap
        have HN : Hid (TkS w H (.slice (some ⟨g, 0, none⟩) l.length c) ao co (overT m l (j + 1)) a' c' (restT m l (j + 1)) (v'.setCell ⟨H + 1 + 1, 0, none⟩ (.slice a' n' c')) ∧ (overT m l (j + 1)).length = (overT m l j).length) := hide ⟨by rw [unhide HE2]; exact hn, by rw [unhide HE2]⟩
        obtain ⟨CL, hCL⟩ : ∃ CL : World → Prop, CL = fun v => Moved (fun i => H + 3 ≤ i) wr v := ⟨_, rfl⟩
        have un : ∀ v, CL v → Moved (fun i => H + 3 ≤ i) wr v := fun v k => by rw [hCL] at k; exact k
        have base : CL wr.drew := by rw [hCL]; exact (Moved.refl _ _).drew
        have CL0 : CL (wr.drew.alloc (.cells #[.string ⟨xk.toArray⟩, .int .i64 xs, .int .i64 g0, .int .i64 g1', .int .i64 g2, .int .i64 g3, .int .i64 g4, .int .i64 g5, .int .i64 g6, .int .i64 g7] 34)) := by rw [hCL]; exact (Moved.refl _ _).drew.alloc _
        have CL1 : CL v' := by rw [hCL]; exact hmv
        have hgH : g < H := by rw [unhide HH]; exact unhide HGW
        have q0 : ∀ q : SW CL, q.w.cell? ⟨H, 0, none⟩ = some (.slice (some ⟨g, 0, none⟩) l.length c) := fun q => ((unhide HS).r0.keep (un _ q.ok) (by omega)).cell 0 (Nat.succ_pos _)
        have q2 : ∀ q : SW CL, q.w.cell? ⟨H + 1 + 1, 0, none⟩ = some (.slice ar (restT m l j).length cr) := fun q => ((unhide HS).r2.keep (un _ q.ok) (by omega)).cell 0 (Nat.succ_pos _)
        have RQ : Hid (∀ q : SW CL, q.w.rangeAt g (j * 10) [.string ⟨xk.toArray⟩, .int .i64 xs, .int .i64 g0, .int .i64 g1', .int .i64 g2, .int .i64 g3, .int .i64 g4, .int .i64 g5, .int .i64 g6, .int .i64 g7]) := hide fun q k u hu => ((un _ q.ok).cell (p := ⟨g, j * 10 + k, none⟩) (World.block_lt_of_cell? _ _ (unhide RX k u hu)) (by show ¬ H + 3 ≤ g; omega)).trans (unhide RX k u hu)
        have wsn := (unhide HS).r2.keep (un _ CL1) (by omega)
        have f1 : v'.frozen? ⟨H + 1 + 1, 0, none⟩ = false := wsn.free 0 (Nat.succ_pos _)
        have k1 : v'.cell? ⟨H + 1 + 1, 0, none⟩ = some (.slice ar (restT m l j).length cr) := wsn.cell 0 (Nat.succ_pos _)
        clear hap hn hn' e1 HE2 c1 c0 hCL un hmv wsn hgH
        go_upto_region 8 with fail
        refine wp_region_chain (S := CL) [true, true, true, true, true, true, true, false, false, false, false] [false, false, false, false, false, false, false, true, true, true, true] (by kernel_rfl) (by kernel_rfl) (by kernel_rfl) base ?_
        apply Exists.intro
        apply And.intro
        · intro q
          have n0 : Nonempty (SK CL q.w) := ⟨⟨q, rfl⟩⟩
          simp only [pickM]
          repeat (go_big_quiet_step (fail))
          refine wpQuiet_load_onx rfl 34 (.tmp 37) rfl g (j * 10) rfl [.string ⟨xk.toArray⟩, .int .i64 xs, .int .i64 g0, .int .i64 g1', .int .i64 g2, .int .i64 g3, .int .i64 g4, .int .i64 g5, .int .i64 g6, .int .i64 g7] _ (by rintro u ⟨q1, rfl⟩; exact unhide RQ q1.s) Try.underlying34 rfl (by kernel_rfl) ?_
          go_simp
          exact wpQuiet_nil rfl
        · simp only [pickZ]
          refine chain_step (.slice (some ⟨wr.heap.size, 0, none⟩) 1 1) (wr.drew.alloc (.cells #[.string ⟨xk.toArray⟩, .int .i64 xs, .int .i64 g0, .int .i64 g1', .int .i64 g2, .int .i64 g3, .int .i64 g4, .int .i64 g5, .int .i64 g6, .int .i64 g7] 34)) rfl (by simp [go_sem]) CL0 ?_
          go_simp
          refine chain_step (.slice a' n' c') v' rfl (exec_append (.tmp 33) (.tmp 39) 27 27 27 rfl rfl rfl rfl HAP) CL1 ?_
          go_simp
          refine chain_step (.pointer (some ⟨H + 1 + 1, 0, none⟩)) v' rfl (by simp [go_sem]) CL1 ?_
          go_simp
          refine chain_last (v'.setCell ⟨H + 1 + 1, 0, none⟩ (.slice a' n' c')) (by kernel_rfl) rfl (by simp [go_sem, f1, k1, Result.andThen]) ?_
          clear q0 q2 f1 k1 CL0 CL1 base HAP
          go_simp
          go_wp2_with fail
          exact ⟨⟨j + 1, ao, co, a', c', rfl, by omega, by rw [(unhide HN).2], (unhide HN).1⟩, by simp [intOf]; omega⟩
    · have g1 : ¬ (j : Int) < (l.length : Int) := by omega
      have hje : j = l.length := by omega
      have E1 := hide (overT_end m l)
      have E2 := hide (restT_end m l)
      subst hje
      rw [unhide E1, unhide E2] at HS
      have HLE : Hid ((overT m l l.length).length = (takeS SO l m).2.length) := hide (by rw [unhide E1])
      clear E1 E2
      generalize (overT m l l.length).length = no at HLE ⊢
      obtain ⟨wf, hwf, hro, hmo⟩ : ∃ wf, wr.setCells (H + 1) 0 [.slice ar (takeS SO l m).1.length cr] = wf ∧ RowAt wf (H + 1) [.slice ar (takeS SO l m).1.length cr] ∧ Moved (fun i => i = H + 1) wr wf := ⟨_, rfl, (unhide HS).r1.put _ rfl, setCells_moved _ _ _ _⟩
      have HWF := hide hwf
      have HRO := hide hro.range
      have HMO := hide hmo
      have c0 : wr.cell? ⟨H, 0, none⟩ = some (.slice a l.length c) := (unhide HS).r0.cell 0 (Nat.succ_pos _)
      have RG := hide (unhide HS).r2.range
      have TH := hide (unhide HS).r1.there
      clear hwf hro hmo
      go_wp2_with (first | (refine wpList_load_on rfl 29 (.tmp 6) rfl (H + 1 + 1) 0 rfl [.slice ar (takeS SO l m).1.length cr] _ (unhide RG) Try.underlying29 rfl (by kernel_rfl) ?_) | (refine wpList_store_mid rfl 29 (.tmp 4) (.tmp 42) rfl (H + 1) 0 #[.slice ar (takeS SO l m).1.length cr] rfl rfl (unhide TH) (by kernel_rfl) (by simp [Value.oneCell']) ?_; change wpList _ _ _ _ _ (World.setCells _ (H + 1) 0 [.slice ar (takeS SO l m).1.length cr]); rw [unhide HWF]))
      refine bodyPost_ret (v := .tuple #[.agg #[.slice ar (takeS SO l m).1.length cr], .slice ao no co]) ?_ rfl ?_
      · exact results_cell_tmp Try.results17 _ wf (H + 1) [.slice ar (takeS SO l m).1.length cr] _ rfl (unhide HRO) Try.underlying29 rfl (by kernel_rfl)
      · have hH := unhide HH
        exact ⟨ar, cr, ao, co, by rw [unhide HLE], row_mono (row_moved (unhide HS).rre (unhide HMO) (fun i hi k hk => by have := (row_lt (unhide HS).rre k hk).1; omega)) (by omega), row_mono (row_moved (unhide HS).rov (unhide HMO) (fun i hi k hk => by have := (row_lt (unhide HS).rov k hk).1; omega)) (by omega), ((Moved.of_below (F := fun i => i = H + 1) (unhide HS).bel).trans (unhide HMO) (fun i hi => .inl hi)).below (fun i hi => by omega) (Nat.le_refl _)⟩
end Go.Proofs.Ytoccgggiaalhdaa

/- The document's own Read: bytes of the kinds 2, 5, 9. Condition: no more than 2^40 bytes. -/
import Derived.Test.YtkbmbcmcnpeabaaDoorRefRdA
namespace Go.Proofs.YtkbmbcmcnpeabaaDoor
open Pk Go.RowKit

set_option maxHeartbeats 8000000 in
set_option maxRecDepth 100000 in
theorem refread_2 (s : ByteArray) (t : List UInt8) (hs : s.size ≤ 1099511627776) (w : World) (hl : s.data.toList = 2 :: t) : Calls Tryd.prog 14 #[.string s] w (RPost s w) := by
  obtain ⟨A, hA⟩ : ∃ A, A = w.heap.size := ⟨_, rfl⟩
  obtain ⟨W, hW⟩ : ∃ W, W = ((w.alloc (.cells (msgCells MsgV.zero none 0 none 0).toArray 29)).alloc (.cells #[.string s, .int .i64 0, .int .i64 0] 79)).alloc (.cells (msgCells MsgV.zero none 0 none 0).toArray 29) := ⟨_, rfl⟩
  obtain ⟨d0, mw⟩ := dst_laid hs hA hW
  have D := hide d0
  have HW := hide hW
  have HA := hide hA
  have HM := hide mw
  have HL := hide hl
  clear d0 mw hW hA hl hs
  go_enter Tryd.func14, Tryd.ntmps14
  go_wp2_with fail
  rw [← unhide HA]
  change Calls Tryd.prog 39 _ (((w.alloc (.cells (msgCells MsgV.zero none 0 none 0).toArray 29)).alloc (.cells #[.string s, .int .i64 0, .int .i64 0] 79)).alloc (.cells (msgCells MsgV.zero none 0 none 0).toArray 29)) _
  rw [← unhide HW]
  refine (Rf.refin_byte (unhide D).inn).mono ?_
  rw [show outByte s 0 0 = (2, 1, 0) by unfold outByte; rw [if_pos rfl, List.drop_zero, unhide HL]; rfl]
  rintro e w1 ⟨rfl, i1, m1⟩
  change InAt w1 (A + 1) s 1 0 at i1
  replace D := hide ((unhide D).goes m1 i1)
  have c0 := (unhide D).cell 0 rfl
  have g0 := (unhide D).row.free 0 (show 0 < 22 by decide)
  replace D := hide (show DSt W (w1.setCell ⟨A + 2, 0, none⟩ (.int .u8 2)) (A + 1) (A + 2) A (msgCells { MsgV.zero with kind := 2 } none 0 none 0) s 1 0 from (unhide D).put 0 (show 0 < 22 by decide) (.int .u8 2))
  have f0 : (w1.setCell ⟨A + 2, 0, none⟩ (.int .u8 2)).cell? ⟨A + 1, 2, none⟩ = some (.int .i64 0) := (unhide D).inn.fault
  clear i1 m1
  go_upto_region 6 with fail
  generalize w1.setCell ⟨A + 2, 0, none⟩ (.int .u8 2) = v0 at *
  have k0 : v0.cell? ⟨A + 2, 0, none⟩ = some (.int .u8 2) := (unhide D).cell 0 rfl
  clear c0 g0 w1 f0
  go_wp2_with fail
  refine (Rf.refin_most (unhide D).inn 2147483647 (by decide)).mono ?_
  rintro e u1 ⟨rfl, i1, m1⟩
  have G0 := hide (Rf.Got.most 2147483647 s 1 0)
  generalize (((outMost (2147483647 : Nat) s 1 0).1 : Nat) : Int) = a0 at *
  generalize ahead 1 (outMost (2147483647 : Nat) s 1 0).2.1 (outMost (2147483647 : Nat) s 1 0).2.2 = k1 at *
  generalize (outMost (2147483647 : Nat) s 1 0).2.2 = z1 at *
  replace D := hide ((unhide D).goes m1 i1)
  clear i1 m1 k0
  have c0 := (unhide D).cell 9 rfl
  have g0 := (unhide D).row.free 9 (show 9 < 22 by decide)
  replace D := hide (show DSt W (u1.setCell ⟨A + 2, 9, none⟩ (.int .i64 a0)) (A + 1) (A + 2) A (msgCells { MsgV.zero with kind := 2, item := { ItemV.zero with src := a0 } } none 0 none 0) s k1 z1 from (unhide D).put 9 (show 9 < 22 by decide) (.int .i64 a0))
  obtain ⟨v1, hv⟩ : ∃ v, v = u1.setCell ⟨A + 2, 9, none⟩ (.int .i64 a0) := ⟨_, rfl⟩
  rw [← hv] at D
  have HV := hide hv
  clear hv
  go_upto_region 17 with fail
  rw [← unhide HV]
  clear HV c0 g0
  have k0 : v1.cell? ⟨A + 2, 0, none⟩ = some (.int .u8 2) := (unhide D).cell 0 rfl
  clear v0
  go_wp2_with fail
  refine (Rf.refin_most (unhide D).inn 2147483647 (by decide)).mono ?_
  rintro e u2 ⟨rfl, i1, m1⟩
  have G1 := hide (Rf.Got.most 2147483647 s k1 z1)
  generalize (((outMost (2147483647 : Nat) s k1 z1).1 : Nat) : Int) = a1 at *
  generalize ahead k1 (outMost (2147483647 : Nat) s k1 z1).2.1 (outMost (2147483647 : Nat) s k1 z1).2.2 = k2 at *
  generalize (outMost (2147483647 : Nat) s k1 z1).2.2 = z2 at *
  replace D := hide ((unhide D).goes m1 i1)
  clear i1 m1 k0
  have c0 := (unhide D).cell 10 rfl
  have g0 := (unhide D).row.free 10 (show 10 < 22 by decide)
  replace D := hide (show DSt W (u2.setCell ⟨A + 2, 10, none⟩ (.int .i64 a1)) (A + 1) (A + 2) A (msgCells { MsgV.zero with kind := 2, item := { ItemV.zero with src := a0, seq := a1 } } none 0 none 0) s k2 z2 from (unhide D).put 10 (show 10 < 22 by decide) (.int .i64 a1))
  obtain ⟨v2, hv⟩ : ∃ v, v = u2.setCell ⟨A + 2, 10, none⟩ (.int .i64 a1) := ⟨_, rfl⟩
  rw [← hv] at D
  have HV := hide hv
  clear hv
  go_upto_region 26 with fail
  rw [← unhide HV]
  clear HV c0 g0
  have k0 : v2.cell? ⟨A + 2, 0, none⟩ = some (.int .u8 2) := (unhide D).cell 0 rfl
  clear v1
  go_wp2_with fail
  refine (Rf.refin_most (unhide D).inn 2147483647 (by decide)).mono ?_
  rintro e u3 ⟨rfl, i1, m1⟩
  have G2 := hide (Rf.Got.most 2147483647 s k2 z2)
  generalize (((outMost (2147483647 : Nat) s k2 z2).1 : Nat) : Int) = a2 at *
  generalize ahead k2 (outMost (2147483647 : Nat) s k2 z2).2.1 (outMost (2147483647 : Nat) s k2 z2).2.2 = k3 at *
  generalize (outMost (2147483647 : Nat) s k2 z2).2.2 = z3 at *
  replace D := hide ((unhide D).goes m1 i1)
  clear i1 m1 k0
  have c0 := (unhide D).cell 6 rfl
  have g0 := (unhide D).row.free 6 (show 6 < 22 by decide)
  replace D := hide (show DSt W (u3.setCell ⟨A + 2, 6, none⟩ (.int .i64 a2)) (A + 1) (A + 2) A (msgCells { MsgV.zero with kind := 2, code := a2, item := { ItemV.zero with src := a0, seq := a1 } } none 0 none 0) s k3 z3 from (unhide D).put 6 (show 6 < 22 by decide) (.int .i64 a2))
  obtain ⟨v3, hv⟩ : ∃ v, v = u3.setCell ⟨A + 2, 6, none⟩ (.int .i64 a2) := ⟨_, rfl⟩
  rw [← hv] at D
  have HV := hide hv
  clear hv
  go_upto_region 44 with fail
  rw [← unhide HV]
  clear HV c0 g0
  have k0 : v3.cell? ⟨A + 2, 0, none⟩ = some (.int .u8 2) := (unhide D).cell 0 rfl
  clear v2
  have HG := hide (got_none (m := { MsgV.zero with kind := 2, code := a2, item := { ItemV.zero with src := a0, seq := a1 } }) (unhide HL) (by decide) (show Rf.Got b2 s 1 0 (f2 (a0, a1, a2)) k3 z3 from Rf.Got.map (g := f2) (a := (a0, a1, a2)) (Rf.Got.seq (unhide G0) (Rf.Got.seq (unhide G1) (unhide G2)))))
  clear G0 G1 G2 HL
  have hfl := (unhide D).inn.fault
  have hpl := (unhide D).inn.place
  by_cases hf : z3 = 0
  · by_cases hk : k3 < s.size
    · have HR := hide ((unhide HG).2.1 hf hk)
      subst hf
      have hfl' : v3.cell? ⟨A + 1, 2, none⟩ = some (.int .i64 0) := hfl
      have hk' : (k3 : Int) < (s.size : Int) := by omega
      have HT := hide (unhide D).res.there
      have HRG := hide (unhide D).res.range
      clear hfl HG hk
      go_wp2_with (refine wpList_store_mid rfl 29 (.tmp 2) (.tmp 135) rfl A 0 (msgCells MsgV.zero none 0 none 0).toArray rfl rfl (unhide HT) (by kernel_rfl) (cells_one MsgV.zero none none 0 0) ?_; change wpList _ _ _ _ _ (World.setCells _ A 0 (msgCells MsgV.zero none 0 none 0)); rw [setCells_self _ (unhide HRG)])
      refine bodyPost_ret (v := .tuple #[.agg (msgCells MsgV.zero none 0 none 0).toArray, .int .i64 8]) ?_ rfl ?_
      · exact results_cell_tmp Tryd.results14 _ v3 A _ _ rfl (unhide HRG) Tryd.underlying29 rfl (by kernel_rfl)
      · exact rpost_zero ((unhide HM).trans (unhide D).moved fun i hi => .inr (by have := unhide HA; omega)) (unhide HR)
    · have HR := hide ((unhide HG).2.2 hf hk)
      subst hf
      have hfl' : v3.cell? ⟨A + 1, 2, none⟩ = some (.int .i64 0) := hfl
      have hk' : ¬ ((k3 : Int) < (s.size : Int)) := by omega
      have HT := hide (unhide D).res.there
      have hrg := (unhide D).row.range
      have HRW := hide ((unhide D).res.put (msgCells { MsgV.zero with kind := 2, code := a2, item := { ItemV.zero with src := a0, seq := a1 } } none 0 none 0) rfl).range
      have HRG := hide hrg
      clear hfl HG hk hrg
      go_upto_region 48 with fail
      go_step
      refine wpList_load_mid rfl 29 (.tmp 5) rfl (A + 2) 0 rfl (msgCells { MsgV.zero with kind := 2, code := a2, item := { ItemV.zero with src := a0, seq := a1 } } none 0 none 0) _ (unhide HRG) Tryd.underlying29 rfl (by kernel_rfl) ?_
      refine wpList_store_mid rfl 29 (.tmp 2) (.tmp 136) rfl A 0 (msgCells { MsgV.zero with kind := 2, code := a2, item := { ItemV.zero with src := a0, seq := a1 } } none 0 none 0).toArray rfl rfl (unhide HT) (by kernel_rfl) (cells_one { MsgV.zero with kind := 2, code := a2, item := { ItemV.zero with src := a0, seq := a1 } } none none 0 0) ?_
      change wpList _ _ _ _ _ (v3.setCells A 0 (msgCells { MsgV.zero with kind := 2, code := a2, item := { ItemV.zero with src := a0, seq := a1 } } none 0 none 0))
      have HMF := hide (setCells_moved v3 A 0 (msgCells { MsgV.zero with kind := 2, code := a2, item := { ItemV.zero with src := a0, seq := a1 } } none 0 none 0))
      generalize v3.setCells A 0 (msgCells { MsgV.zero with kind := 2, code := a2, item := { ItemV.zero with src := a0, seq := a1 } } none 0 none 0) = wf at *
      go_wp2_with fail
      refine bodyPost_ret (v := .tuple #[.agg (msgCells { MsgV.zero with kind := 2, code := a2, item := { ItemV.zero with src := a0, seq := a1 } } none 0 none 0).toArray, .int .i64 0]) ?_ rfl ?_
      · exact results_cell_tmp Tryd.results14 _ wf A _ _ rfl (unhide HRW) Tryd.underlying29 rfl (by kernel_rfl)
      · exact rpost_msg (((unhide HM).trans (unhide D).moved fun i hi => .inr (by have := unhide HA; omega)).trans (unhide HMF) fun i hi => .inr (by have := unhide HA; omega)) (unhide HR) (ints_nil _ _) (ints_nil _ _) (fun y hy => by
          rcases hy with h | h
          · cases h
          · cases h)
  · have HR := hide ((unhide HG).1 hf)
    have hf' : ¬ ((z3 : Int) = 0) := by omega
    clear HG hf
    go_upto_region 45 with fail
    let St : World → Prop := fun v => DSt W v (A + 1) (A + 2) A (msgCells { MsgV.zero with kind := 2, code := a2, item := { ItemV.zero with src := a0, seq := a1 } } none 0 none 0) s k3 z3
    have st : St v3.drew := (unhide D).drew
    have ne : Nonempty (SW St) := ⟨⟨_, st⟩⟩
    have fs : ∀ p : SW St, p.w.cell? ⟨A + 1, 2, none⟩ = some (.int .i64 (z3 : Int)) := fun p => p.ok.inn.fault
    clear hfl hpl k0
    refine wp_region_sw (St := St) (by kernel_rfl) (by kernel_rfl) st ?_
    go_big_quiet_step (fail)
    go_big_quiet_step (fail)
    go_big_quiet_step (fail)
    go_big_quiet_step (fail)
    go_big_quiet_step (fail)
    refine wpQuiet_store_same rfl 29 (.tmp 2) (.tmp 123) rfl A 0 (msgCells MsgV.zero none 0 none 0).toArray rfl rfl (fun v ⟨p, hp⟩ => by rw [hp]; exact p.ok.res.there) (fun v ⟨p, hp⟩ => by rw [hp]; exact p.ok.res.range) (by kernel_rfl) (cells_one MsgV.zero none none 0 0) ?_
    go_simp
    go_big_quiet_step (fail)
    refine wpQuiet_nil ?_
    rintro ⟨w9, st9⟩
    dsimp only
    have S9 := hide (show DSt W w9 (A + 1) (A + 2) A (msgCells { MsgV.zero with kind := 2, code := a2, item := { ItemV.zero with src := a0, seq := a1 } } none 0 none 0) s k3 z3 from st9)
    clear st9
    go_wp2_with fail
    refine bodyPost_ret (v := .tuple #[.agg (msgCells MsgV.zero none 0 none 0).toArray, .int .i64 (z3 : Int)]) ?_ rfl ?_
    · exact results_cell_tmp Tryd.results14 _ w9 A _ _ rfl (unhide S9).res.range Tryd.underlying29 rfl (by kernel_rfl)
    · exact rpost_zero ((unhide HM).trans (unhide S9).moved fun i hi => .inr (by have := unhide HA; omega)) (unhide HR)
set_option maxHeartbeats 8000000 in
set_option maxRecDepth 100000 in
theorem refread_5 (s : ByteArray) (t : List UInt8) (hs : s.size ≤ 1099511627776) (w : World) (hl : s.data.toList = 5 :: t) : Calls Tryd.prog 14 #[.string s] w (RPost s w) := by
  obtain ⟨A, hA⟩ : ∃ A, A = w.heap.size := ⟨_, rfl⟩
  obtain ⟨W, hW⟩ : ∃ W, W = ((w.alloc (.cells (msgCells MsgV.zero none 0 none 0).toArray 29)).alloc (.cells #[.string s, .int .i64 0, .int .i64 0] 79)).alloc (.cells (msgCells MsgV.zero none 0 none 0).toArray 29) := ⟨_, rfl⟩
  obtain ⟨d0, mw⟩ := dst_laid hs hA hW
  have D := hide d0
  have HW := hide hW
  have HA := hide hA
  have HM := hide mw
  have HL := hide hl
  clear d0 mw hW hA hl hs
  go_enter Tryd.func14, Tryd.ntmps14
  go_wp2_with fail
  rw [← unhide HA]
  change Calls Tryd.prog 39 _ (((w.alloc (.cells (msgCells MsgV.zero none 0 none 0).toArray 29)).alloc (.cells #[.string s, .int .i64 0, .int .i64 0] 79)).alloc (.cells (msgCells MsgV.zero none 0 none 0).toArray 29)) _
  rw [← unhide HW]
  refine (Rf.refin_byte (unhide D).inn).mono ?_
  rw [show outByte s 0 0 = (5, 1, 0) by unfold outByte; rw [if_pos rfl, List.drop_zero, unhide HL]; rfl]
  rintro e w1 ⟨rfl, i1, m1⟩
  change InAt w1 (A + 1) s 1 0 at i1
  replace D := hide ((unhide D).goes m1 i1)
  have c0 := (unhide D).cell 0 rfl
  have g0 := (unhide D).row.free 0 (show 0 < 22 by decide)
  replace D := hide (show DSt W (w1.setCell ⟨A + 2, 0, none⟩ (.int .u8 5)) (A + 1) (A + 2) A (msgCells { MsgV.zero with kind := 5 } none 0 none 0) s 1 0 from (unhide D).put 0 (show 0 < 22 by decide) (.int .u8 5))
  have f0 : (w1.setCell ⟨A + 2, 0, none⟩ (.int .u8 5)).cell? ⟨A + 1, 2, none⟩ = some (.int .i64 0) := (unhide D).inn.fault
  clear i1 m1
  go_upto_region 6 with fail
  generalize w1.setCell ⟨A + 2, 0, none⟩ (.int .u8 5) = v0 at *
  have k0 : v0.cell? ⟨A + 2, 0, none⟩ = some (.int .u8 5) := (unhide D).cell 0 rfl
  clear c0 g0 w1 f0
  go_wp2_with fail
  refine (Rf.refin_most (unhide D).inn 2147483647 (by decide)).mono ?_
  rintro e u1 ⟨rfl, i1, m1⟩
  have G0 := hide (Rf.Got.most 2147483647 s 1 0)
  generalize (((outMost (2147483647 : Nat) s 1 0).1 : Nat) : Int) = a0 at *
  generalize ahead 1 (outMost (2147483647 : Nat) s 1 0).2.1 (outMost (2147483647 : Nat) s 1 0).2.2 = k1 at *
  generalize (outMost (2147483647 : Nat) s 1 0).2.2 = z1 at *
  replace D := hide ((unhide D).goes m1 i1)
  clear i1 m1 k0
  have c0 := (unhide D).cell 1 rfl
  have g0 := (unhide D).row.free 1 (show 1 < 22 by decide)
  replace D := hide (show DSt W (u1.setCell ⟨A + 2, 1, none⟩ (.int .i64 a0)) (A + 1) (A + 2) A (msgCells { MsgV.zero with kind := 5, move := a0 } none 0 none 0) s k1 z1 from (unhide D).put 1 (show 1 < 22 by decide) (.int .i64 a0))
  obtain ⟨v1, hv⟩ : ∃ v, v = u1.setCell ⟨A + 2, 1, none⟩ (.int .i64 a0) := ⟨_, rfl⟩
  rw [← hv] at D
  have HV := hide hv
  clear hv
  go_upto_region 10 with fail
  rw [← unhide HV]
  clear HV c0 g0
  have k0 : v1.cell? ⟨A + 2, 0, none⟩ = some (.int .u8 5) := (unhide D).cell 0 rfl
  clear v0
  go_wp2_with fail
  refine (Rf.refin_most (unhide D).inn 2147483647 (by decide)).mono ?_
  rintro e u2 ⟨rfl, i1, m1⟩
  have G1 := hide (Rf.Got.most 2147483647 s k1 z1)
  generalize (((outMost (2147483647 : Nat) s k1 z1).1 : Nat) : Int) = a1 at *
  generalize ahead k1 (outMost (2147483647 : Nat) s k1 z1).2.1 (outMost (2147483647 : Nat) s k1 z1).2.2 = k2 at *
  generalize (outMost (2147483647 : Nat) s k1 z1).2.2 = z2 at *
  replace D := hide ((unhide D).goes m1 i1)
  clear i1 m1 k0
  have c0 := (unhide D).cell 2 rfl
  have g0 := (unhide D).row.free 2 (show 2 < 22 by decide)
  replace D := hide (show DSt W (u2.setCell ⟨A + 2, 2, none⟩ (.int .i64 a1)) (A + 1) (A + 2) A (msgCells { MsgV.zero with kind := 5, move := a0, part := a1 } none 0 none 0) s k2 z2 from (unhide D).put 2 (show 2 < 22 by decide) (.int .i64 a1))
  obtain ⟨v2, hv⟩ : ∃ v, v = u2.setCell ⟨A + 2, 2, none⟩ (.int .i64 a1) := ⟨_, rfl⟩
  rw [← hv] at D
  have HV := hide hv
  clear hv
  go_upto_region 11 with fail
  rw [← unhide HV]
  clear HV c0 g0
  have k0 : v2.cell? ⟨A + 2, 0, none⟩ = some (.int .u8 5) := (unhide D).cell 0 rfl
  clear v1
  go_wp2_with fail
  refine (Rf.refin_most (unhide D).inn 2147483647 (by decide)).mono ?_
  rintro e u3 ⟨rfl, i1, m1⟩
  have G2 := hide (Rf.Got.most 2147483647 s k2 z2)
  generalize (((outMost (2147483647 : Nat) s k2 z2).1 : Nat) : Int) = a2 at *
  generalize ahead k2 (outMost (2147483647 : Nat) s k2 z2).2.1 (outMost (2147483647 : Nat) s k2 z2).2.2 = k3 at *
  generalize (outMost (2147483647 : Nat) s k2 z2).2.2 = z3 at *
  replace D := hide ((unhide D).goes m1 i1)
  clear i1 m1 k0
  have c0 := (unhide D).cell 4 rfl
  have g0 := (unhide D).row.free 4 (show 4 < 22 by decide)
  replace D := hide (show DSt W (u3.setCell ⟨A + 2, 4, none⟩ (.int .i64 a2)) (A + 1) (A + 2) A (msgCells { MsgV.zero with kind := 5, move := a0, part := a1, n := a2 } none 0 none 0) s k3 z3 from (unhide D).put 4 (show 4 < 22 by decide) (.int .i64 a2))
  obtain ⟨v3, hv⟩ : ∃ v, v = u3.setCell ⟨A + 2, 4, none⟩ (.int .i64 a2) := ⟨_, rfl⟩
  rw [← hv] at D
  have HV := hide hv
  clear hv
  go_upto_region 26 with fail
  rw [← unhide HV]
  clear HV c0 g0
  have k0 : v3.cell? ⟨A + 2, 0, none⟩ = some (.int .u8 5) := (unhide D).cell 0 rfl
  clear v2
  go_wp2_with fail
  refine (Rf.refin_most (unhide D).inn 2147483647 (by decide)).mono ?_
  rintro e u4 ⟨rfl, i1, m1⟩
  have G3 := hide (Rf.Got.most 2147483647 s k3 z3)
  generalize (((outMost (2147483647 : Nat) s k3 z3).1 : Nat) : Int) = a3 at *
  generalize ahead k3 (outMost (2147483647 : Nat) s k3 z3).2.1 (outMost (2147483647 : Nat) s k3 z3).2.2 = k4 at *
  generalize (outMost (2147483647 : Nat) s k3 z3).2.2 = z4 at *
  replace D := hide ((unhide D).goes m1 i1)
  clear i1 m1 k0
  have c0 := (unhide D).cell 5 rfl
  have g0 := (unhide D).row.free 5 (show 5 < 22 by decide)
  replace D := hide (show DSt W (u4.setCell ⟨A + 2, 5, none⟩ (.int .i64 a3)) (A + 1) (A + 2) A (msgCells { MsgV.zero with kind := 5, move := a0, part := a1, n := a2, count := a3 } none 0 none 0) s k4 z4 from (unhide D).put 5 (show 5 < 22 by decide) (.int .i64 a3))
  obtain ⟨v4, hv⟩ : ∃ v, v = u4.setCell ⟨A + 2, 5, none⟩ (.int .i64 a3) := ⟨_, rfl⟩
  rw [← hv] at D
  have HV := hide hv
  clear hv
  go_upto_region 36 with fail
  rw [← unhide HV]
  clear HV c0 g0
  have k0 : v4.cell? ⟨A + 2, 0, none⟩ = some (.int .u8 5) := (unhide D).cell 0 rfl
  clear v3
  go_wp2_with fail
  refine (Rf.refin_text (unhide D).inn 1024 (by decide)).mono ?_
  rintro e u5 ⟨rfl, i1, m1⟩
  have G4 := hide (Rf.Got.text 1024 s k4 z4)
  generalize (outText (1024 : Nat) s k4 z4).1 = a4 at *
  generalize ahead k4 (outText (1024 : Nat) s k4 z4).2.1 (outText (1024 : Nat) s k4 z4).2.2 = k5 at *
  generalize (outText (1024 : Nat) s k4 z4).2.2 = z5 at *
  replace D := hide ((unhide D).goes m1 i1)
  clear i1 m1 k0
  have c0 := (unhide D).cell 21 rfl
  have g0 := (unhide D).row.free 21 (show 21 < 22 by decide)
  replace D := hide (show DSt W (u5.setCell ⟨A + 2, 21, none⟩ (.string ⟨a4.toArray⟩)) (A + 1) (A + 2) A (msgCells { MsgV.zero with kind := 5, move := a0, part := a1, n := a2, count := a3, data := a4 } none 0 none 0) s k5 z5 from (unhide D).put 21 (show 21 < 22 by decide) (.string ⟨a4.toArray⟩))
  obtain ⟨v5, hv⟩ : ∃ v, v = u5.setCell ⟨A + 2, 21, none⟩ (.string ⟨a4.toArray⟩) := ⟨_, rfl⟩
  rw [← hv] at D
  have HV := hide hv
  clear hv
  go_upto_region 44 with fail
  rw [← unhide HV]
  clear HV c0 g0
  have k0 : v5.cell? ⟨A + 2, 0, none⟩ = some (.int .u8 5) := (unhide D).cell 0 rfl
  clear v4
  have HG := hide (got_none (m := { MsgV.zero with kind := 5, move := a0, part := a1, n := a2, count := a3, data := a4 }) (unhide HL) (by decide) (show Rf.Got b5 s 1 0 (f5 (a0, a1, a2, a3, a4)) k5 z5 from Rf.Got.map (g := f5) (a := (a0, a1, a2, a3, a4)) (Rf.Got.seq (unhide G0) (Rf.Got.seq (unhide G1) (Rf.Got.seq (unhide G2) (Rf.Got.seq (unhide G3) (unhide G4)))))))
  clear G0 G1 G2 G3 G4 HL
  have hfl := (unhide D).inn.fault
  have hpl := (unhide D).inn.place
  by_cases hf : z5 = 0
  · by_cases hk : k5 < s.size
    · have HR := hide ((unhide HG).2.1 hf hk)
      subst hf
      have hfl' : v5.cell? ⟨A + 1, 2, none⟩ = some (.int .i64 0) := hfl
      have hk' : (k5 : Int) < (s.size : Int) := by omega
      have HT := hide (unhide D).res.there
      have HRG := hide (unhide D).res.range
      clear hfl HG hk
      go_wp2_with (refine wpList_store_mid rfl 29 (.tmp 2) (.tmp 135) rfl A 0 (msgCells MsgV.zero none 0 none 0).toArray rfl rfl (unhide HT) (by kernel_rfl) (cells_one MsgV.zero none none 0 0) ?_; change wpList _ _ _ _ _ (World.setCells _ A 0 (msgCells MsgV.zero none 0 none 0)); rw [setCells_self _ (unhide HRG)])
      refine bodyPost_ret (v := .tuple #[.agg (msgCells MsgV.zero none 0 none 0).toArray, .int .i64 8]) ?_ rfl ?_
      · exact results_cell_tmp Tryd.results14 _ v5 A _ _ rfl (unhide HRG) Tryd.underlying29 rfl (by kernel_rfl)
      · exact rpost_zero ((unhide HM).trans (unhide D).moved fun i hi => .inr (by have := unhide HA; omega)) (unhide HR)
    · have HR := hide ((unhide HG).2.2 hf hk)
      subst hf
      have hfl' : v5.cell? ⟨A + 1, 2, none⟩ = some (.int .i64 0) := hfl
      have hk' : ¬ ((k5 : Int) < (s.size : Int)) := by omega
      have HT := hide (unhide D).res.there
      have hrg := (unhide D).row.range
      have HRW := hide ((unhide D).res.put (msgCells { MsgV.zero with kind := 5, move := a0, part := a1, n := a2, count := a3, data := a4 } none 0 none 0) rfl).range
      have HRG := hide hrg
      clear hfl HG hk hrg
      go_upto_region 48 with fail
      go_step
      refine wpList_load_mid rfl 29 (.tmp 5) rfl (A + 2) 0 rfl (msgCells { MsgV.zero with kind := 5, move := a0, part := a1, n := a2, count := a3, data := a4 } none 0 none 0) _ (unhide HRG) Tryd.underlying29 rfl (by kernel_rfl) ?_
      refine wpList_store_mid rfl 29 (.tmp 2) (.tmp 136) rfl A 0 (msgCells { MsgV.zero with kind := 5, move := a0, part := a1, n := a2, count := a3, data := a4 } none 0 none 0).toArray rfl rfl (unhide HT) (by kernel_rfl) (cells_one { MsgV.zero with kind := 5, move := a0, part := a1, n := a2, count := a3, data := a4 } none none 0 0) ?_
      change wpList _ _ _ _ _ (v5.setCells A 0 (msgCells { MsgV.zero with kind := 5, move := a0, part := a1, n := a2, count := a3, data := a4 } none 0 none 0))
      have HMF := hide (setCells_moved v5 A 0 (msgCells { MsgV.zero with kind := 5, move := a0, part := a1, n := a2, count := a3, data := a4 } none 0 none 0))
      generalize v5.setCells A 0 (msgCells { MsgV.zero with kind := 5, move := a0, part := a1, n := a2, count := a3, data := a4 } none 0 none 0) = wf at *
      go_wp2_with fail
      refine bodyPost_ret (v := .tuple #[.agg (msgCells { MsgV.zero with kind := 5, move := a0, part := a1, n := a2, count := a3, data := a4 } none 0 none 0).toArray, .int .i64 0]) ?_ rfl ?_
      · exact results_cell_tmp Tryd.results14 _ wf A _ _ rfl (unhide HRW) Tryd.underlying29 rfl (by kernel_rfl)
      · exact rpost_msg (((unhide HM).trans (unhide D).moved fun i hi => .inr (by have := unhide HA; omega)).trans (unhide HMF) fun i hi => .inr (by have := unhide HA; omega)) (unhide HR) (ints_nil _ _) (ints_nil _ _) (fun y hy => by
          rcases hy with h | h
          · cases h
          · cases h)
  · have HR := hide ((unhide HG).1 hf)
    have hf' : ¬ ((z5 : Int) = 0) := by omega
    clear HG hf
    go_upto_region 45 with fail
    let St : World → Prop := fun v => DSt W v (A + 1) (A + 2) A (msgCells { MsgV.zero with kind := 5, move := a0, part := a1, n := a2, count := a3, data := a4 } none 0 none 0) s k5 z5
    have st : St v5.drew := (unhide D).drew
    have ne : Nonempty (SW St) := ⟨⟨_, st⟩⟩
    have fs : ∀ p : SW St, p.w.cell? ⟨A + 1, 2, none⟩ = some (.int .i64 (z5 : Int)) := fun p => p.ok.inn.fault
    clear hfl hpl k0
    refine wp_region_sw (St := St) (by kernel_rfl) (by kernel_rfl) st ?_
    go_big_quiet_step (fail)
    go_big_quiet_step (fail)
    go_big_quiet_step (fail)
    go_big_quiet_step (fail)
    go_big_quiet_step (fail)
    refine wpQuiet_store_same rfl 29 (.tmp 2) (.tmp 123) rfl A 0 (msgCells MsgV.zero none 0 none 0).toArray rfl rfl (fun v ⟨p, hp⟩ => by rw [hp]; exact p.ok.res.there) (fun v ⟨p, hp⟩ => by rw [hp]; exact p.ok.res.range) (by kernel_rfl) (cells_one MsgV.zero none none 0 0) ?_
    go_simp
    go_big_quiet_step (fail)
    refine wpQuiet_nil ?_
    rintro ⟨w9, st9⟩
    dsimp only
    have S9 := hide (show DSt W w9 (A + 1) (A + 2) A (msgCells { MsgV.zero with kind := 5, move := a0, part := a1, n := a2, count := a3, data := a4 } none 0 none 0) s k5 z5 from st9)
    clear st9
    go_wp2_with fail
    refine bodyPost_ret (v := .tuple #[.agg (msgCells MsgV.zero none 0 none 0).toArray, .int .i64 (z5 : Int)]) ?_ rfl ?_
    · exact results_cell_tmp Tryd.results14 _ w9 A _ _ rfl (unhide S9).res.range Tryd.underlying29 rfl (by kernel_rfl)
    · exact rpost_zero ((unhide HM).trans (unhide S9).moved fun i hi => .inr (by have := unhide HA; omega)) (unhide HR)
set_option maxHeartbeats 8000000 in
set_option maxRecDepth 100000 in
theorem refread_9 (s : ByteArray) (t : List UInt8) (hs : s.size ≤ 1099511627776) (w : World) (hl : s.data.toList = 9 :: t) : Calls Tryd.prog 14 #[.string s] w (RPost s w) := by
  obtain ⟨A, hA⟩ : ∃ A, A = w.heap.size := ⟨_, rfl⟩
  obtain ⟨W, hW⟩ : ∃ W, W = ((w.alloc (.cells (msgCells MsgV.zero none 0 none 0).toArray 29)).alloc (.cells #[.string s, .int .i64 0, .int .i64 0] 79)).alloc (.cells (msgCells MsgV.zero none 0 none 0).toArray 29) := ⟨_, rfl⟩
  obtain ⟨d0, mw⟩ := dst_laid hs hA hW
  have D := hide d0
  have HW := hide hW
  have HA := hide hA
  have HM := hide mw
  have HL := hide hl
  clear d0 mw hW hA hl hs
  go_enter Tryd.func14, Tryd.ntmps14
  go_wp2_with fail
  rw [← unhide HA]
  change Calls Tryd.prog 39 _ (((w.alloc (.cells (msgCells MsgV.zero none 0 none 0).toArray 29)).alloc (.cells #[.string s, .int .i64 0, .int .i64 0] 79)).alloc (.cells (msgCells MsgV.zero none 0 none 0).toArray 29)) _
  rw [← unhide HW]
  refine (Rf.refin_byte (unhide D).inn).mono ?_
  rw [show outByte s 0 0 = (9, 1, 0) by unfold outByte; rw [if_pos rfl, List.drop_zero, unhide HL]; rfl]
  rintro e w1 ⟨rfl, i1, m1⟩
  change InAt w1 (A + 1) s 1 0 at i1
  replace D := hide ((unhide D).goes m1 i1)
  have c0 := (unhide D).cell 0 rfl
  have g0 := (unhide D).row.free 0 (show 0 < 22 by decide)
  replace D := hide (show DSt W (w1.setCell ⟨A + 2, 0, none⟩ (.int .u8 9)) (A + 1) (A + 2) A (msgCells { MsgV.zero with kind := 9 } none 0 none 0) s 1 0 from (unhide D).put 0 (show 0 < 22 by decide) (.int .u8 9))
  have f0 : (w1.setCell ⟨A + 2, 0, none⟩ (.int .u8 9)).cell? ⟨A + 1, 2, none⟩ = some (.int .i64 0) := (unhide D).inn.fault
  clear i1 m1
  go_upto_region 6 with fail
  generalize w1.setCell ⟨A + 2, 0, none⟩ (.int .u8 9) = v0 at *
  have k0 : v0.cell? ⟨A + 2, 0, none⟩ = some (.int .u8 9) := (unhide D).cell 0 rfl
  clear c0 g0 w1 f0
  go_wp2_with fail
  refine (Rf.refin_most (unhide D).inn 2147483647 (by decide)).mono ?_
  rintro e u1 ⟨rfl, i1, m1⟩
  have G0 := hide (Rf.Got.most 2147483647 s 1 0)
  generalize (((outMost (2147483647 : Nat) s 1 0).1 : Nat) : Int) = a0 at *
  generalize ahead 1 (outMost (2147483647 : Nat) s 1 0).2.1 (outMost (2147483647 : Nat) s 1 0).2.2 = k1 at *
  generalize (outMost (2147483647 : Nat) s 1 0).2.2 = z1 at *
  replace D := hide ((unhide D).goes m1 i1)
  clear i1 m1 k0
  have c0 := (unhide D).cell 1 rfl
  have g0 := (unhide D).row.free 1 (show 1 < 22 by decide)
  replace D := hide (show DSt W (u1.setCell ⟨A + 2, 1, none⟩ (.int .i64 a0)) (A + 1) (A + 2) A (msgCells { MsgV.zero with kind := 9, move := a0 } none 0 none 0) s k1 z1 from (unhide D).put 1 (show 1 < 22 by decide) (.int .i64 a0))
  obtain ⟨v1, hv⟩ : ∃ v, v = u1.setCell ⟨A + 2, 1, none⟩ (.int .i64 a0) := ⟨_, rfl⟩
  rw [← hv] at D
  have HV := hide hv
  clear hv
  go_upto_region 10 with fail
  rw [← unhide HV]
  clear HV c0 g0
  have k0 : v1.cell? ⟨A + 2, 0, none⟩ = some (.int .u8 9) := (unhide D).cell 0 rfl
  clear v0
  go_wp2_with fail
  refine (Rf.refin_most (unhide D).inn 2147483647 (by decide)).mono ?_
  rintro e u2 ⟨rfl, i1, m1⟩
  have G1 := hide (Rf.Got.most 2147483647 s k1 z1)
  generalize (((outMost (2147483647 : Nat) s k1 z1).1 : Nat) : Int) = a1 at *
  generalize ahead k1 (outMost (2147483647 : Nat) s k1 z1).2.1 (outMost (2147483647 : Nat) s k1 z1).2.2 = k2 at *
  generalize (outMost (2147483647 : Nat) s k1 z1).2.2 = z2 at *
  replace D := hide ((unhide D).goes m1 i1)
  clear i1 m1 k0
  have c0 := (unhide D).cell 2 rfl
  have g0 := (unhide D).row.free 2 (show 2 < 22 by decide)
  replace D := hide (show DSt W (u2.setCell ⟨A + 2, 2, none⟩ (.int .i64 a1)) (A + 1) (A + 2) A (msgCells { MsgV.zero with kind := 9, move := a0, part := a1 } none 0 none 0) s k2 z2 from (unhide D).put 2 (show 2 < 22 by decide) (.int .i64 a1))
  obtain ⟨v2, hv⟩ : ∃ v, v = u2.setCell ⟨A + 2, 2, none⟩ (.int .i64 a1) := ⟨_, rfl⟩
  rw [← hv] at D
  have HV := hide hv
  clear hv
  go_upto_region 11 with fail
  rw [← unhide HV]
  clear HV c0 g0
  have k0 : v2.cell? ⟨A + 2, 0, none⟩ = some (.int .u8 9) := (unhide D).cell 0 rfl
  clear v1
  go_wp2_with fail
  refine (Rf.refin_most (unhide D).inn 2147483647 (by decide)).mono ?_
  rintro e u3 ⟨rfl, i1, m1⟩
  have G2 := hide (Rf.Got.most 2147483647 s k2 z2)
  generalize (((outMost (2147483647 : Nat) s k2 z2).1 : Nat) : Int) = a2 at *
  generalize ahead k2 (outMost (2147483647 : Nat) s k2 z2).2.1 (outMost (2147483647 : Nat) s k2 z2).2.2 = k3 at *
  generalize (outMost (2147483647 : Nat) s k2 z2).2.2 = z3 at *
  replace D := hide ((unhide D).goes m1 i1)
  clear i1 m1 k0
  have c0 := (unhide D).cell 4 rfl
  have g0 := (unhide D).row.free 4 (show 4 < 22 by decide)
  replace D := hide (show DSt W (u3.setCell ⟨A + 2, 4, none⟩ (.int .i64 a2)) (A + 1) (A + 2) A (msgCells { MsgV.zero with kind := 9, move := a0, part := a1, n := a2 } none 0 none 0) s k3 z3 from (unhide D).put 4 (show 4 < 22 by decide) (.int .i64 a2))
  obtain ⟨v3, hv⟩ : ∃ v, v = u3.setCell ⟨A + 2, 4, none⟩ (.int .i64 a2) := ⟨_, rfl⟩
  rw [← hv] at D
  have HV := hide hv
  clear hv
  go_upto_region 26 with fail
  rw [← unhide HV]
  clear HV c0 g0
  have k0 : v3.cell? ⟨A + 2, 0, none⟩ = some (.int .u8 9) := (unhide D).cell 0 rfl
  clear v2
  go_wp2_with fail
  refine (Rf.refin_i64 (unhide D).inn).mono ?_
  rintro e u4 ⟨rfl, i1, m1⟩
  have G3 := hide (Rf.Got.int s k3 z3)
  generalize zag (outNum s k3 z3).1 = a3 at *
  generalize ahead k3 (outNum s k3 z3).2.1 (outNum s k3 z3).2.2 = k4 at *
  generalize (outNum s k3 z3).2.2 = z4 at *
  replace D := hide ((unhide D).goes m1 i1)
  clear i1 m1 k0
  have c0 := (unhide D).cell 8 rfl
  have g0 := (unhide D).row.free 8 (show 8 < 22 by decide)
  replace D := hide (show DSt W (u4.setCell ⟨A + 2, 8, none⟩ (.int .i64 a3)) (A + 1) (A + 2) A (msgCells { MsgV.zero with kind := 9, move := a0, part := a1, n := a2, at_ := a3 } none 0 none 0) s k4 z4 from (unhide D).put 8 (show 8 < 22 by decide) (.int .i64 a3))
  obtain ⟨v4, hv⟩ : ∃ v, v = u4.setCell ⟨A + 2, 8, none⟩ (.int .i64 a3) := ⟨_, rfl⟩
  rw [← hv] at D
  have HV := hide hv
  clear hv
  go_upto_region 43 with fail
  rw [← unhide HV]
  clear HV c0 g0
  have k0 : v4.cell? ⟨A + 2, 0, none⟩ = some (.int .u8 9) := (unhide D).cell 0 rfl
  clear v3
  go_wp2_with fail
  refine (Rf.refin_num (unhide D).inn).mono ?_
  rintro e u5 ⟨rfl, i1, m1⟩
  have G4 := hide (Rf.Got.num s k4 z4)
  generalize (outNum s k4 z4).1 = a4 at *
  generalize ahead k4 (outNum s k4 z4).2.1 (outNum s k4 z4).2.2 = k5 at *
  generalize (outNum s k4 z4).2.2 = z5 at *
  replace D := hide ((unhide D).goes m1 i1)
  clear i1 m1 k0
  have c0 := (unhide D).cell 7 rfl
  have g0 := (unhide D).row.free 7 (show 7 < 22 by decide)
  replace D := hide (show DSt W (u5.setCell ⟨A + 2, 7, none⟩ (.int .u64 ((a4 : Nat) : Int))) (A + 1) (A + 2) A (msgCells { MsgV.zero with kind := 9, move := a0, part := a1, n := a2, at_ := a3, digest := a4 } none 0 none 0) s k5 z5 from (unhide D).put 7 (show 7 < 22 by decide) (.int .u64 ((a4 : Nat) : Int)))
  obtain ⟨v5, hv⟩ : ∃ v, v = u5.setCell ⟨A + 2, 7, none⟩ (.int .u64 ((a4 : Nat) : Int)) := ⟨_, rfl⟩
  rw [← hv] at D
  have HV := hide hv
  clear hv
  go_upto_region 44 with fail
  rw [← unhide HV]
  clear HV c0 g0
  have k0 : v5.cell? ⟨A + 2, 0, none⟩ = some (.int .u8 9) := (unhide D).cell 0 rfl
  clear v4
  have HG := hide (got_none (m := { MsgV.zero with kind := 9, move := a0, part := a1, n := a2, at_ := a3, digest := a4 }) (unhide HL) (by decide) (show Rf.Got b9 s 1 0 (f9 (a0, a1, a2, a3, a4)) k5 z5 from Rf.Got.map (g := f9) (a := (a0, a1, a2, a3, a4)) (Rf.Got.seq (unhide G0) (Rf.Got.seq (unhide G1) (Rf.Got.seq (unhide G2) (Rf.Got.seq (unhide G3) (unhide G4)))))))
  clear G0 G1 G2 G3 G4 HL
  have hfl := (unhide D).inn.fault
  have hpl := (unhide D).inn.place
  by_cases hf : z5 = 0
  · by_cases hk : k5 < s.size
    · have HR := hide ((unhide HG).2.1 hf hk)
      subst hf
      have hfl' : v5.cell? ⟨A + 1, 2, none⟩ = some (.int .i64 0) := hfl
      have hk' : (k5 : Int) < (s.size : Int) := by omega
      have HT := hide (unhide D).res.there
      have HRG := hide (unhide D).res.range
      clear hfl HG hk
      go_wp2_with (refine wpList_store_mid rfl 29 (.tmp 2) (.tmp 135) rfl A 0 (msgCells MsgV.zero none 0 none 0).toArray rfl rfl (unhide HT) (by kernel_rfl) (cells_one MsgV.zero none none 0 0) ?_; change wpList _ _ _ _ _ (World.setCells _ A 0 (msgCells MsgV.zero none 0 none 0)); rw [setCells_self _ (unhide HRG)])
      refine bodyPost_ret (v := .tuple #[.agg (msgCells MsgV.zero none 0 none 0).toArray, .int .i64 8]) ?_ rfl ?_
      · exact results_cell_tmp Tryd.results14 _ v5 A _ _ rfl (unhide HRG) Tryd.underlying29 rfl (by kernel_rfl)
      · exact rpost_zero ((unhide HM).trans (unhide D).moved fun i hi => .inr (by have := unhide HA; omega)) (unhide HR)
    · have HR := hide ((unhide HG).2.2 hf hk)
      subst hf
      have hfl' : v5.cell? ⟨A + 1, 2, none⟩ = some (.int .i64 0) := hfl
      have hk' : ¬ ((k5 : Int) < (s.size : Int)) := by omega
      have HT := hide (unhide D).res.there
      have hrg := (unhide D).row.range
      have HRW := hide ((unhide D).res.put (msgCells { MsgV.zero with kind := 9, move := a0, part := a1, n := a2, at_ := a3, digest := a4 } none 0 none 0) rfl).range
      have HRG := hide hrg
      clear hfl HG hk hrg
      go_upto_region 48 with fail
      go_step
      refine wpList_load_mid rfl 29 (.tmp 5) rfl (A + 2) 0 rfl (msgCells { MsgV.zero with kind := 9, move := a0, part := a1, n := a2, at_ := a3, digest := a4 } none 0 none 0) _ (unhide HRG) Tryd.underlying29 rfl (by kernel_rfl) ?_
      refine wpList_store_mid rfl 29 (.tmp 2) (.tmp 136) rfl A 0 (msgCells { MsgV.zero with kind := 9, move := a0, part := a1, n := a2, at_ := a3, digest := a4 } none 0 none 0).toArray rfl rfl (unhide HT) (by kernel_rfl) (cells_one { MsgV.zero with kind := 9, move := a0, part := a1, n := a2, at_ := a3, digest := a4 } none none 0 0) ?_
      change wpList _ _ _ _ _ (v5.setCells A 0 (msgCells { MsgV.zero with kind := 9, move := a0, part := a1, n := a2, at_ := a3, digest := a4 } none 0 none 0))
      have HMF := hide (setCells_moved v5 A 0 (msgCells { MsgV.zero with kind := 9, move := a0, part := a1, n := a2, at_ := a3, digest := a4 } none 0 none 0))
      generalize v5.setCells A 0 (msgCells { MsgV.zero with kind := 9, move := a0, part := a1, n := a2, at_ := a3, digest := a4 } none 0 none 0) = wf at *
      go_wp2_with fail
      refine bodyPost_ret (v := .tuple #[.agg (msgCells { MsgV.zero with kind := 9, move := a0, part := a1, n := a2, at_ := a3, digest := a4 } none 0 none 0).toArray, .int .i64 0]) ?_ rfl ?_
      · exact results_cell_tmp Tryd.results14 _ wf A _ _ rfl (unhide HRW) Tryd.underlying29 rfl (by kernel_rfl)
      · exact rpost_msg (((unhide HM).trans (unhide D).moved fun i hi => .inr (by have := unhide HA; omega)).trans (unhide HMF) fun i hi => .inr (by have := unhide HA; omega)) (unhide HR) (ints_nil _ _) (ints_nil _ _) (fun y hy => by
          rcases hy with h | h
          · cases h
          · cases h)
  · have HR := hide ((unhide HG).1 hf)
    have hf' : ¬ ((z5 : Int) = 0) := by omega
    clear HG hf
    go_upto_region 45 with fail
    let St : World → Prop := fun v => DSt W v (A + 1) (A + 2) A (msgCells { MsgV.zero with kind := 9, move := a0, part := a1, n := a2, at_ := a3, digest := a4 } none 0 none 0) s k5 z5
    have st : St v5.drew := (unhide D).drew
    have ne : Nonempty (SW St) := ⟨⟨_, st⟩⟩
    have fs : ∀ p : SW St, p.w.cell? ⟨A + 1, 2, none⟩ = some (.int .i64 (z5 : Int)) := fun p => p.ok.inn.fault
    clear hfl hpl k0
    refine wp_region_sw (St := St) (by kernel_rfl) (by kernel_rfl) st ?_
    go_big_quiet_step (fail)
    go_big_quiet_step (fail)
    go_big_quiet_step (fail)
    go_big_quiet_step (fail)
    go_big_quiet_step (fail)
    refine wpQuiet_store_same rfl 29 (.tmp 2) (.tmp 123) rfl A 0 (msgCells MsgV.zero none 0 none 0).toArray rfl rfl (fun v ⟨p, hp⟩ => by rw [hp]; exact p.ok.res.there) (fun v ⟨p, hp⟩ => by rw [hp]; exact p.ok.res.range) (by kernel_rfl) (cells_one MsgV.zero none none 0 0) ?_
    go_simp
    go_big_quiet_step (fail)
    refine wpQuiet_nil ?_
    rintro ⟨w9, st9⟩
    dsimp only
    have S9 := hide (show DSt W w9 (A + 1) (A + 2) A (msgCells { MsgV.zero with kind := 9, move := a0, part := a1, n := a2, at_ := a3, digest := a4 } none 0 none 0) s k5 z5 from st9)
    clear st9
    go_wp2_with fail
    refine bodyPost_ret (v := .tuple #[.agg (msgCells MsgV.zero none 0 none 0).toArray, .int .i64 (z5 : Int)]) ?_ rfl ?_
    · exact results_cell_tmp Tryd.results14 _ w9 A _ _ rfl (unhide S9).res.range Tryd.underlying29 rfl (by kernel_rfl)
    · exact rpost_zero ((unhide HM).trans (unhide S9).moved fun i hi => .inr (by have := unhide HA; omega)) (unhide HR)
end Go.Proofs.YtkbmbcmcnpeabaaDoor

namespace Go.Proofs.YtkbmbcmcnpeabaaDoor
open Pk Go.RowKit

set_option maxHeartbeats 8000000 in
set_option maxRecDepth 100000 in
theorem refread_3 (s : ByteArray) (t : List UInt8) (hs : s.size ≤ 1099511627776) (w : World) (hl : s.data.toList = 3 :: t) : Calls Tryd.prog 14 #[.string s] w (RPost s w) := by
  obtain ⟨A, hA⟩ : ∃ A, A = w.heap.size := ⟨_, rfl⟩
  obtain ⟨W, hW⟩ : ∃ W, W = ((w.alloc (.cells (msgCells MsgV.zero none 0 none 0).toArray 29)).alloc (.cells #[.string s, .int .i64 0, .int .i64 0] 79)).alloc (.cells (msgCells MsgV.zero none 0 none 0).toArray 29) := ⟨_, rfl⟩
  obtain ⟨d0, mw⟩ := dst_laid hs hA hW
  have D := hide d0
  have HW := hide hW
  have HA := hide hA
  have HM := hide mw
  have HL := hide hl
  clear d0 mw hW hA hl hs
  go_enter Tryd.func14, Tryd.ntmps14
  go_wp2_with fail
  rw [← unhide HA]
  change Calls Tryd.prog 39 _ (((w.alloc (.cells (msgCells MsgV.zero none 0 none 0).toArray 29)).alloc (.cells #[.string s, .int .i64 0, .int .i64 0] 79)).alloc (.cells (msgCells MsgV.zero none 0 none 0).toArray 29)) _
  rw [← unhide HW]
  refine (Rf.refin_byte (unhide D).inn).mono ?_
  rw [show outByte s 0 0 = (3, 1, 0) by unfold outByte; rw [if_pos rfl, List.drop_zero, unhide HL]; rfl]
  rintro e w1 ⟨rfl, i1, m1⟩
  change InAt w1 (A + 1) s 1 0 at i1
  replace D := hide ((unhide D).goes m1 i1)
  have c0 := (unhide D).cell 0 rfl
  have g0 := (unhide D).row.free 0 (show 0 < 22 by decide)
  replace D := hide (show DSt W (w1.setCell ⟨A + 2, 0, none⟩ (.int .u8 3)) (A + 1) (A + 2) A (msgCells { MsgV.zero with kind := 3 } none 0 none 0) s 1 0 from (unhide D).put 0 (show 0 < 22 by decide) (.int .u8 3))
  have f0 : (w1.setCell ⟨A + 2, 0, none⟩ (.int .u8 3)).cell? ⟨A + 1, 2, none⟩ = some (.int .i64 0) := (unhide D).inn.fault
  clear i1 m1
  go_upto_region 6 with fail
  generalize w1.setCell ⟨A + 2, 0, none⟩ (.int .u8 3) = v0 at *
  have k0 : v0.cell? ⟨A + 2, 0, none⟩ = some (.int .u8 3) := (unhide D).cell 0 rfl
  clear c0 g0 w1 f0
  go_wp2_with fail
  refine (Rf.refin_most (unhide D).inn 2147483647 (by decide)).mono ?_
  rintro e u1 ⟨rfl, i1, m1⟩
  have G0 := hide (Rf.Got.most 2147483647 s 1 0)
  generalize (((outMost (2147483647 : Nat) s 1 0).1 : Nat) : Int) = a0 at *
  generalize ahead 1 (outMost (2147483647 : Nat) s 1 0).2.1 (outMost (2147483647 : Nat) s 1 0).2.2 = k1 at *
  generalize (outMost (2147483647 : Nat) s 1 0).2.2 = z1 at *
  replace D := hide ((unhide D).goes m1 i1)
  clear i1 m1 k0
  have c0 := (unhide D).cell 9 rfl
  have g0 := (unhide D).row.free 9 (show 9 < 22 by decide)
  replace D := hide (show DSt W (u1.setCell ⟨A + 2, 9, none⟩ (.int .i64 a0)) (A + 1) (A + 2) A (msgCells { MsgV.zero with kind := 3, item := { ItemV.zero with src := a0 } } none 0 none 0) s k1 z1 from (unhide D).put 9 (show 9 < 22 by decide) (.int .i64 a0))
  obtain ⟨v1, hv⟩ : ∃ v, v = u1.setCell ⟨A + 2, 9, none⟩ (.int .i64 a0) := ⟨_, rfl⟩
  rw [← hv] at D
  have HV := hide hv
  clear hv
  go_upto_region 17 with fail
  rw [← unhide HV]
  clear HV c0 g0
  have k0 : v1.cell? ⟨A + 2, 0, none⟩ = some (.int .u8 3) := (unhide D).cell 0 rfl
  clear v0
  go_wp2_with fail
  refine (Rf.refin_most (unhide D).inn 2147483647 (by decide)).mono ?_
  rintro e u2 ⟨rfl, i1, m1⟩
  have G1 := hide (Rf.Got.most 2147483647 s k1 z1)
  generalize (((outMost (2147483647 : Nat) s k1 z1).1 : Nat) : Int) = a1 at *
  generalize ahead k1 (outMost (2147483647 : Nat) s k1 z1).2.1 (outMost (2147483647 : Nat) s k1 z1).2.2 = k2 at *
  generalize (outMost (2147483647 : Nat) s k1 z1).2.2 = z2 at *
  replace D := hide ((unhide D).goes m1 i1)
  clear i1 m1 k0
  have c0 := (unhide D).cell 10 rfl
  have g0 := (unhide D).row.free 10 (show 10 < 22 by decide)
  replace D := hide (show DSt W (u2.setCell ⟨A + 2, 10, none⟩ (.int .i64 a1)) (A + 1) (A + 2) A (msgCells { MsgV.zero with kind := 3, item := { ItemV.zero with src := a0, seq := a1 } } none 0 none 0) s k2 z2 from (unhide D).put 10 (show 10 < 22 by decide) (.int .i64 a1))
  obtain ⟨v2, hv⟩ : ∃ v, v = u2.setCell ⟨A + 2, 10, none⟩ (.int .i64 a1) := ⟨_, rfl⟩
  rw [← hv] at D
  have HV := hide hv
  clear hv
  go_upto_region 26 with fail
  rw [← unhide HV]
  clear HV c0 g0
  have k0 : v2.cell? ⟨A + 2, 0, none⟩ = some (.int .u8 3) := (unhide D).cell 0 rfl
  clear v1
  go_wp2_with fail
  have hB := (unhide D).row.lt
  have HB := hide hB
  clear hB
  refine (Rf.reftable_any (unhide D).inn).mono ?_
  rintro e u3 ⟨e0, e1, vo, lo, k3, z3, rfl, how, i1, m1, hg⟩
  have G2 := hide hg
  obtain ⟨ao, co, hvo, hio, hbo⟩ := ints_of (l := lo) how
  subst hvo
  replace D := hide ((unhide D).goes m1 i1)
  clear i1 m1 k0 hg how
  have hth := (unhide D).row.thereMid 17 3 (show 17 + 3 ≤ 22 by decide)
  replace D := hide (show DSt W (u3.setCells (A + 2) 17 [.int .i64 e0, .int .i64 e1, .slice ao lo.length co]) (A + 1) (A + 2) A (msgCells { MsgV.zero with kind := 3, epoch := e0, nodes := e1, owner := lo, item := { ItemV.zero with src := a0, seq := a1 } } ao co none 0) s k3 z3 from (unhide D).puts 17 [.int .i64 e0, .int .i64 e1, .slice ao lo.length co] (show 17 + 3 ≤ 22 by decide))
  have HI : Hid (Ints (u3.setCells (A + 2) 17 [.int .i64 e0, .int .i64 e1, .slice ao lo.length co]) ao lo ∧ ∀ y, ao = some y → A + 3 ≤ y.block) := hide ⟨ints_beside hio (setCells_moved u3 (A + 2) 17 _) fun y hy h => by have := (hbo y hy).1; have := unhide HB; omega, fun y hy => by have := (hbo y hy).1; have := unhide HB; omega⟩
  obtain ⟨v3, hv⟩ : ∃ v, v = u3.setCells (A + 2) 17 [.int .i64 e0, .int .i64 e1, .slice ao lo.length co] := ⟨_, rfl⟩
  rw [← hv] at D HI
  have HV := hide hv
  have HT := hide hth
  clear hv hth HB hio hbo
  go_upto_region 44 with (refine wpList_store_mid rfl 27 (.tmp 91) (.tmp 90) rfl (A + 2) 17 #[.int .i64 e0, .int .i64 e1, .slice ao lo.length co] rfl rfl (unhide HT) (by kernel_rfl) (by simp [Value.oneCell']) ?_; change wpList _ _ _ _ _ (World.setCells _ (A + 2) 17 [.int .i64 e0, .int .i64 e1, .slice ao lo.length co]); rw [← unhide HV])
  clear HV HT
  have k0 : v3.cell? ⟨A + 2, 0, none⟩ = some (.int .u8 3) := (unhide D).cell 0 rfl
  clear v2
  have HG := hide (got_none (m := { MsgV.zero with kind := 3, epoch := e0, nodes := e1, owner := lo, item := { ItemV.zero with src := a0, seq := a1 } }) (unhide HL) (by decide) (show Rf.Got b3 s 1 0 (f3 (a0, a1, (e0, e1, lo))) k3 z3 from Rf.Got.map (g := f3) (a := (a0, a1, (e0, e1, lo))) (Rf.Got.seq (unhide G0) (Rf.Got.seq (unhide G1) (unhide G2)))))
  clear G0 G1 G2 HL
  have hfl := (unhide D).inn.fault
  have hpl := (unhide D).inn.place
  by_cases hf : z3 = 0
  · by_cases hk : k3 < s.size
    · have HR := hide ((unhide HG).2.1 hf hk)
      subst hf
      have hfl' : v3.cell? ⟨A + 1, 2, none⟩ = some (.int .i64 0) := hfl
      have hk' : (k3 : Int) < (s.size : Int) := by omega
      have HT := hide (unhide D).res.there
      have HRG := hide (unhide D).res.range
      clear hfl HG hk
      go_wp2_with (refine wpList_store_mid rfl 29 (.tmp 2) (.tmp 135) rfl A 0 (msgCells MsgV.zero none 0 none 0).toArray rfl rfl (unhide HT) (by kernel_rfl) (cells_one MsgV.zero none none 0 0) ?_; change wpList _ _ _ _ _ (World.setCells _ A 0 (msgCells MsgV.zero none 0 none 0)); rw [setCells_self _ (unhide HRG)])
      refine bodyPost_ret (v := .tuple #[.agg (msgCells MsgV.zero none 0 none 0).toArray, .int .i64 8]) ?_ rfl ?_
      · exact results_cell_tmp Tryd.results14 _ v3 A _ _ rfl (unhide HRG) Tryd.underlying29 rfl (by kernel_rfl)
      · exact rpost_zero ((unhide HM).trans (unhide D).moved fun i hi => .inr (by have := unhide HA; omega)) (unhide HR)
    · have HR := hide ((unhide HG).2.2 hf hk)
      subst hf
      have hfl' : v3.cell? ⟨A + 1, 2, none⟩ = some (.int .i64 0) := hfl
      have hk' : ¬ ((k3 : Int) < (s.size : Int)) := by omega
      have HT := hide (unhide D).res.there
      have hrg := (unhide D).row.range
      have HRW := hide ((unhide D).res.put (msgCells { MsgV.zero with kind := 3, epoch := e0, nodes := e1, owner := lo, item := { ItemV.zero with src := a0, seq := a1 } } ao co none 0) rfl).range
      have HRG := hide hrg
      clear hfl HG hk hrg
      go_upto_region 48 with fail
      go_step
      refine wpList_load_mid rfl 29 (.tmp 5) rfl (A + 2) 0 rfl (msgCells { MsgV.zero with kind := 3, epoch := e0, nodes := e1, owner := lo, item := { ItemV.zero with src := a0, seq := a1 } } ao co none 0) _ (unhide HRG) Tryd.underlying29 rfl (by kernel_rfl) ?_
      refine wpList_store_mid rfl 29 (.tmp 2) (.tmp 136) rfl A 0 (msgCells { MsgV.zero with kind := 3, epoch := e0, nodes := e1, owner := lo, item := { ItemV.zero with src := a0, seq := a1 } } ao co none 0).toArray rfl rfl (unhide HT) (by kernel_rfl) (cells_one { MsgV.zero with kind := 3, epoch := e0, nodes := e1, owner := lo, item := { ItemV.zero with src := a0, seq := a1 } } ao none co 0) ?_
      change wpList _ _ _ _ _ (v3.setCells A 0 (msgCells { MsgV.zero with kind := 3, epoch := e0, nodes := e1, owner := lo, item := { ItemV.zero with src := a0, seq := a1 } } ao co none 0))
      have HMF := hide (setCells_moved v3 A 0 (msgCells { MsgV.zero with kind := 3, epoch := e0, nodes := e1, owner := lo, item := { ItemV.zero with src := a0, seq := a1 } } ao co none 0))
      generalize v3.setCells A 0 (msgCells { MsgV.zero with kind := 3, epoch := e0, nodes := e1, owner := lo, item := { ItemV.zero with src := a0, seq := a1 } } ao co none 0) = wf at *
      go_wp2_with fail
      refine bodyPost_ret (v := .tuple #[.agg (msgCells { MsgV.zero with kind := 3, epoch := e0, nodes := e1, owner := lo, item := { ItemV.zero with src := a0, seq := a1 } } ao co none 0).toArray, .int .i64 0]) ?_ rfl ?_
      · exact results_cell_tmp Tryd.results14 _ wf A _ _ rfl (unhide HRW) Tryd.underlying29 rfl (by kernel_rfl)
      · exact rpost_msg (((unhide HM).trans (unhide D).moved fun i hi => .inr (by have := unhide HA; omega)).trans (unhide HMF) fun i hi => .inr (by have := unhide HA; omega)) (unhide HR) (ints_beside (unhide HI).1 (unhide HMF) fun y hy h => by have := (unhide HI).2 y hy; omega) (ints_nil _ _) (fun y hy => by
          rcases hy with h | h
          · have := (unhide HI).2 y h; have := unhide HA; omega
          · cases h)
  · have HR := hide ((unhide HG).1 hf)
    have hf' : ¬ ((z3 : Int) = 0) := by omega
    clear HG hf
    go_upto_region 45 with fail
    let St : World → Prop := fun v => DSt W v (A + 1) (A + 2) A (msgCells { MsgV.zero with kind := 3, epoch := e0, nodes := e1, owner := lo, item := { ItemV.zero with src := a0, seq := a1 } } ao co none 0) s k3 z3
    have st : St v3.drew := (unhide D).drew
    have ne : Nonempty (SW St) := ⟨⟨_, st⟩⟩
    have fs : ∀ p : SW St, p.w.cell? ⟨A + 1, 2, none⟩ = some (.int .i64 (z3 : Int)) := fun p => p.ok.inn.fault
    clear hfl hpl k0
    refine wp_region_sw (St := St) (by kernel_rfl) (by kernel_rfl) st ?_
    go_big_quiet_step (fail)
    go_big_quiet_step (fail)
    go_big_quiet_step (fail)
    go_big_quiet_step (fail)
    go_big_quiet_step (fail)
    refine wpQuiet_store_same rfl 29 (.tmp 2) (.tmp 123) rfl A 0 (msgCells MsgV.zero none 0 none 0).toArray rfl rfl (fun v ⟨p, hp⟩ => by rw [hp]; exact p.ok.res.there) (fun v ⟨p, hp⟩ => by rw [hp]; exact p.ok.res.range) (by kernel_rfl) (cells_one MsgV.zero none none 0 0) ?_
    go_simp
    go_big_quiet_step (fail)
    refine wpQuiet_nil ?_
    rintro ⟨w9, st9⟩
    dsimp only
    have S9 := hide (show DSt W w9 (A + 1) (A + 2) A (msgCells { MsgV.zero with kind := 3, epoch := e0, nodes := e1, owner := lo, item := { ItemV.zero with src := a0, seq := a1 } } ao co none 0) s k3 z3 from st9)
    clear st9
    go_wp2_with fail
    refine bodyPost_ret (v := .tuple #[.agg (msgCells MsgV.zero none 0 none 0).toArray, .int .i64 (z3 : Int)]) ?_ rfl ?_
    · exact results_cell_tmp Tryd.results14 _ w9 A _ _ rfl (unhide S9).res.range Tryd.underlying29 rfl (by kernel_rfl)
    · exact rpost_zero ((unhide HM).trans (unhide S9).moved fun i hi => .inr (by have := unhide HA; omega)) (unhide HR)
end Go.Proofs.YtkbmbcmcnpeabaaDoor

namespace Go.Proofs.YtkbmbcmcnpeabaaDoor
open Pk Go.RowKit

set_option maxHeartbeats 8000000 in
set_option maxRecDepth 100000 in
theorem refread_11 (s : ByteArray) (t : List UInt8) (hs : s.size ≤ 1099511627776) (w : World) (hl : s.data.toList = 11 :: t) : Calls Tryd.prog 14 #[.string s] w (RPost s w) := by
  obtain ⟨A, hA⟩ : ∃ A, A = w.heap.size := ⟨_, rfl⟩
  obtain ⟨W, hW⟩ : ∃ W, W = ((w.alloc (.cells (msgCells MsgV.zero none 0 none 0).toArray 29)).alloc (.cells #[.string s, .int .i64 0, .int .i64 0] 79)).alloc (.cells (msgCells MsgV.zero none 0 none 0).toArray 29) := ⟨_, rfl⟩
  obtain ⟨d0, mw⟩ := dst_laid hs hA hW
  have D := hide d0
  have HW := hide hW
  have HA := hide hA
  have HM := hide mw
  have HL := hide hl
  clear d0 mw hW hA hl hs
  go_enter Tryd.func14, Tryd.ntmps14
  go_wp2_with fail
  rw [← unhide HA]
  change Calls Tryd.prog 39 _ (((w.alloc (.cells (msgCells MsgV.zero none 0 none 0).toArray 29)).alloc (.cells #[.string s, .int .i64 0, .int .i64 0] 79)).alloc (.cells (msgCells MsgV.zero none 0 none 0).toArray 29)) _
  rw [← unhide HW]
  refine (Rf.refin_byte (unhide D).inn).mono ?_
  rw [show outByte s 0 0 = (11, 1, 0) by unfold outByte; rw [if_pos rfl, List.drop_zero, unhide HL]; rfl]
  rintro e w1 ⟨rfl, i1, m1⟩
  change InAt w1 (A + 1) s 1 0 at i1
  replace D := hide ((unhide D).goes m1 i1)
  have c0 := (unhide D).cell 0 rfl
  have g0 := (unhide D).row.free 0 (show 0 < 22 by decide)
  replace D := hide (show DSt W (w1.setCell ⟨A + 2, 0, none⟩ (.int .u8 11)) (A + 1) (A + 2) A (msgCells { MsgV.zero with kind := 11 } none 0 none 0) s 1 0 from (unhide D).put 0 (show 0 < 22 by decide) (.int .u8 11))
  have f0 : (w1.setCell ⟨A + 2, 0, none⟩ (.int .u8 11)).cell? ⟨A + 1, 2, none⟩ = some (.int .i64 0) := (unhide D).inn.fault
  clear i1 m1
  go_upto_region 6 with fail
  generalize w1.setCell ⟨A + 2, 0, none⟩ (.int .u8 11) = v0 at *
  have k0 : v0.cell? ⟨A + 2, 0, none⟩ = some (.int .u8 11) := (unhide D).cell 0 rfl
  clear c0 g0 w1 f0
  go_wp2_with fail
  refine (Rf.refin_most (unhide D).inn 2147483647 (by decide)).mono ?_
  rintro e u1 ⟨rfl, i1, m1⟩
  have G0 := hide (Rf.Got.most 2147483647 s 1 0)
  generalize (((outMost (2147483647 : Nat) s 1 0).1 : Nat) : Int) = a0 at *
  generalize ahead 1 (outMost (2147483647 : Nat) s 1 0).2.1 (outMost (2147483647 : Nat) s 1 0).2.2 = k1 at *
  generalize (outMost (2147483647 : Nat) s 1 0).2.2 = z1 at *
  replace D := hide ((unhide D).goes m1 i1)
  clear i1 m1 k0
  have c0 := (unhide D).cell 1 rfl
  have g0 := (unhide D).row.free 1 (show 1 < 22 by decide)
  replace D := hide (show DSt W (u1.setCell ⟨A + 2, 1, none⟩ (.int .i64 a0)) (A + 1) (A + 2) A (msgCells { MsgV.zero with kind := 11, move := a0 } none 0 none 0) s k1 z1 from (unhide D).put 1 (show 1 < 22 by decide) (.int .i64 a0))
  obtain ⟨v1, hv⟩ : ∃ v, v = u1.setCell ⟨A + 2, 1, none⟩ (.int .i64 a0) := ⟨_, rfl⟩
  rw [← hv] at D
  have HV := hide hv
  clear hv
  go_upto_region 10 with fail
  rw [← unhide HV]
  clear HV c0 g0
  have k0 : v1.cell? ⟨A + 2, 0, none⟩ = some (.int .u8 11) := (unhide D).cell 0 rfl
  clear v0
  go_wp2_with fail
  refine (Rf.refin_most (unhide D).inn 2147483647 (by decide)).mono ?_
  rintro e u2 ⟨rfl, i1, m1⟩
  have G1 := hide (Rf.Got.most 2147483647 s k1 z1)
  generalize (((outMost (2147483647 : Nat) s k1 z1).1 : Nat) : Int) = a1 at *
  generalize ahead k1 (outMost (2147483647 : Nat) s k1 z1).2.1 (outMost (2147483647 : Nat) s k1 z1).2.2 = k2 at *
  generalize (outMost (2147483647 : Nat) s k1 z1).2.2 = z2 at *
  replace D := hide ((unhide D).goes m1 i1)
  clear i1 m1 k0
  have c0 := (unhide D).cell 2 rfl
  have g0 := (unhide D).row.free 2 (show 2 < 22 by decide)
  replace D := hide (show DSt W (u2.setCell ⟨A + 2, 2, none⟩ (.int .i64 a1)) (A + 1) (A + 2) A (msgCells { MsgV.zero with kind := 11, move := a0, part := a1 } none 0 none 0) s k2 z2 from (unhide D).put 2 (show 2 < 22 by decide) (.int .i64 a1))
  obtain ⟨v2, hv⟩ : ∃ v, v = u2.setCell ⟨A + 2, 2, none⟩ (.int .i64 a1) := ⟨_, rfl⟩
  rw [← hv] at D
  have HV := hide hv
  clear hv
  go_upto_region 11 with fail
  rw [← unhide HV]
  clear HV c0 g0
  have k0 : v2.cell? ⟨A + 2, 0, none⟩ = some (.int .u8 11) := (unhide D).cell 0 rfl
  clear v1
  go_wp2_with fail
  have hB := (unhide D).row.lt
  have HB := hide hB
  clear hB
  refine (Rf.reftable_any (unhide D).inn).mono ?_
  rintro e u3 ⟨e0, e1, vo, lo, k3, z3, rfl, how, i1, m1, hg⟩
  have G2 := hide hg
  obtain ⟨ao, co, hvo, hio, hbo⟩ := ints_of (l := lo) how
  subst hvo
  replace D := hide ((unhide D).goes m1 i1)
  clear i1 m1 k0 hg how
  have hth := (unhide D).row.thereMid 17 3 (show 17 + 3 ≤ 22 by decide)
  replace D := hide (show DSt W (u3.setCells (A + 2) 17 [.int .i64 e0, .int .i64 e1, .slice ao lo.length co]) (A + 1) (A + 2) A (msgCells { MsgV.zero with kind := 11, move := a0, part := a1, epoch := e0, nodes := e1, owner := lo } ao co none 0) s k3 z3 from (unhide D).puts 17 [.int .i64 e0, .int .i64 e1, .slice ao lo.length co] (show 17 + 3 ≤ 22 by decide))
  have HI : Hid (Ints (u3.setCells (A + 2) 17 [.int .i64 e0, .int .i64 e1, .slice ao lo.length co]) ao lo ∧ ∀ y, ao = some y → A + 3 ≤ y.block) := hide ⟨ints_beside hio (setCells_moved u3 (A + 2) 17 _) fun y hy h => by have := (hbo y hy).1; have := unhide HB; omega, fun y hy => by have := (hbo y hy).1; have := unhide HB; omega⟩
  obtain ⟨v3, hv⟩ : ∃ v, v = u3.setCells (A + 2) 17 [.int .i64 e0, .int .i64 e1, .slice ao lo.length co] := ⟨_, rfl⟩
  rw [← hv] at D HI
  have HV := hide hv
  have HT := hide hth
  clear hv hth HB hio hbo
  go_upto_region 44 with (refine wpList_store_mid rfl 27 (.tmp 91) (.tmp 90) rfl (A + 2) 17 #[.int .i64 e0, .int .i64 e1, .slice ao lo.length co] rfl rfl (unhide HT) (by kernel_rfl) (by simp [Value.oneCell']) ?_; change wpList _ _ _ _ _ (World.setCells _ (A + 2) 17 [.int .i64 e0, .int .i64 e1, .slice ao lo.length co]); rw [← unhide HV])
  clear HV HT
  have k0 : v3.cell? ⟨A + 2, 0, none⟩ = some (.int .u8 11) := (unhide D).cell 0 rfl
  clear v2
  have HG := hide (got_none (m := { MsgV.zero with kind := 11, move := a0, part := a1, epoch := e0, nodes := e1, owner := lo }) (unhide HL) (by decide) (show Rf.Got b11 s 1 0 (f11 (a0, a1, (e0, e1, lo))) k3 z3 from Rf.Got.map (g := f11) (a := (a0, a1, (e0, e1, lo))) (Rf.Got.seq (unhide G0) (Rf.Got.seq (unhide G1) (unhide G2)))))
  clear G0 G1 G2 HL
  have hfl := (unhide D).inn.fault
  have hpl := (unhide D).inn.place
  by_cases hf : z3 = 0
  · by_cases hk : k3 < s.size
    · have HR := hide ((unhide HG).2.1 hf hk)
      subst hf
      have hfl' : v3.cell? ⟨A + 1, 2, none⟩ = some (.int .i64 0) := hfl
      have hk' : (k3 : Int) < (s.size : Int) := by omega
      have HT := hide (unhide D).res.there
      have HRG := hide (unhide D).res.range
      clear hfl HG hk
      go_wp2_with (refine wpList_store_mid rfl 29 (.tmp 2) (.tmp 135) rfl A 0 (msgCells MsgV.zero none 0 none 0).toArray rfl rfl (unhide HT) (by kernel_rfl) (cells_one MsgV.zero none none 0 0) ?_; change wpList _ _ _ _ _ (World.setCells _ A 0 (msgCells MsgV.zero none 0 none 0)); rw [setCells_self _ (unhide HRG)])
      refine bodyPost_ret (v := .tuple #[.agg (msgCells MsgV.zero none 0 none 0).toArray, .int .i64 8]) ?_ rfl ?_
      · exact results_cell_tmp Tryd.results14 _ v3 A _ _ rfl (unhide HRG) Tryd.underlying29 rfl (by kernel_rfl)
      · exact rpost_zero ((unhide HM).trans (unhide D).moved fun i hi => .inr (by have := unhide HA; omega)) (unhide HR)
    · have HR := hide ((unhide HG).2.2 hf hk)
      subst hf
      have hfl' : v3.cell? ⟨A + 1, 2, none⟩ = some (.int .i64 0) := hfl
      have hk' : ¬ ((k3 : Int) < (s.size : Int)) := by omega
      have HT := hide (unhide D).res.there
      have hrg := (unhide D).row.range
      have HRW := hide ((unhide D).res.put (msgCells { MsgV.zero with kind := 11, move := a0, part := a1, epoch := e0, nodes := e1, owner := lo } ao co none 0) rfl).range
      have HRG := hide hrg
      clear hfl HG hk hrg
      go_upto_region 48 with fail
      go_step
      refine wpList_load_mid rfl 29 (.tmp 5) rfl (A + 2) 0 rfl (msgCells { MsgV.zero with kind := 11, move := a0, part := a1, epoch := e0, nodes := e1, owner := lo } ao co none 0) _ (unhide HRG) Tryd.underlying29 rfl (by kernel_rfl) ?_
      refine wpList_store_mid rfl 29 (.tmp 2) (.tmp 136) rfl A 0 (msgCells { MsgV.zero with kind := 11, move := a0, part := a1, epoch := e0, nodes := e1, owner := lo } ao co none 0).toArray rfl rfl (unhide HT) (by kernel_rfl) (cells_one { MsgV.zero with kind := 11, move := a0, part := a1, epoch := e0, nodes := e1, owner := lo } ao none co 0) ?_
      change wpList _ _ _ _ _ (v3.setCells A 0 (msgCells { MsgV.zero with kind := 11, move := a0, part := a1, epoch := e0, nodes := e1, owner := lo } ao co none 0))
      have HMF := hide (setCells_moved v3 A 0 (msgCells { MsgV.zero with kind := 11, move := a0, part := a1, epoch := e0, nodes := e1, owner := lo } ao co none 0))
      generalize v3.setCells A 0 (msgCells { MsgV.zero with kind := 11, move := a0, part := a1, epoch := e0, nodes := e1, owner := lo } ao co none 0) = wf at *
      go_wp2_with fail
      refine bodyPost_ret (v := .tuple #[.agg (msgCells { MsgV.zero with kind := 11, move := a0, part := a1, epoch := e0, nodes := e1, owner := lo } ao co none 0).toArray, .int .i64 0]) ?_ rfl ?_
      · exact results_cell_tmp Tryd.results14 _ wf A _ _ rfl (unhide HRW) Tryd.underlying29 rfl (by kernel_rfl)
      · exact rpost_msg (((unhide HM).trans (unhide D).moved fun i hi => .inr (by have := unhide HA; omega)).trans (unhide HMF) fun i hi => .inr (by have := unhide HA; omega)) (unhide HR) (ints_beside (unhide HI).1 (unhide HMF) fun y hy h => by have := (unhide HI).2 y hy; omega) (ints_nil _ _) (fun y hy => by
          rcases hy with h | h
          · have := (unhide HI).2 y h; have := unhide HA; omega
          · cases h)
  · have HR := hide ((unhide HG).1 hf)
    have hf' : ¬ ((z3 : Int) = 0) := by omega
    clear HG hf
    go_upto_region 45 with fail
    let St : World → Prop := fun v => DSt W v (A + 1) (A + 2) A (msgCells { MsgV.zero with kind := 11, move := a0, part := a1, epoch := e0, nodes := e1, owner := lo } ao co none 0) s k3 z3
    have st : St v3.drew := (unhide D).drew
    have ne : Nonempty (SW St) := ⟨⟨_, st⟩⟩
    have fs : ∀ p : SW St, p.w.cell? ⟨A + 1, 2, none⟩ = some (.int .i64 (z3 : Int)) := fun p => p.ok.inn.fault
    clear hfl hpl k0
    refine wp_region_sw (St := St) (by kernel_rfl) (by kernel_rfl) st ?_
    go_big_quiet_step (fail)
    go_big_quiet_step (fail)
    go_big_quiet_step (fail)
    go_big_quiet_step (fail)
    go_big_quiet_step (fail)
    refine wpQuiet_store_same rfl 29 (.tmp 2) (.tmp 123) rfl A 0 (msgCells MsgV.zero none 0 none 0).toArray rfl rfl (fun v ⟨p, hp⟩ => by rw [hp]; exact p.ok.res.there) (fun v ⟨p, hp⟩ => by rw [hp]; exact p.ok.res.range) (by kernel_rfl) (cells_one MsgV.zero none none 0 0) ?_
    go_simp
    go_big_quiet_step (fail)
    refine wpQuiet_nil ?_
    rintro ⟨w9, st9⟩
    dsimp only
    have S9 := hide (show DSt W w9 (A + 1) (A + 2) A (msgCells { MsgV.zero with kind := 11, move := a0, part := a1, epoch := e0, nodes := e1, owner := lo } ao co none 0) s k3 z3 from st9)
    clear st9
    go_wp2_with fail
    refine bodyPost_ret (v := .tuple #[.agg (msgCells MsgV.zero none 0 none 0).toArray, .int .i64 (z3 : Int)]) ?_ rfl ?_
    · exact results_cell_tmp Tryd.results14 _ w9 A _ _ rfl (unhide S9).res.range Tryd.underlying29 rfl (by kernel_rfl)
    · exact rpost_zero ((unhide HM).trans (unhide S9).moved fun i hi => .inr (by have := unhide HA; omega)) (unhide HR)
end Go.Proofs.YtkbmbcmcnpeabaaDoor

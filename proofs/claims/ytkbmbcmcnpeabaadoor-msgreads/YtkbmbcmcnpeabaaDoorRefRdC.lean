/- The document's own Read: bytes of the kinds 4, 8, 10, 12, 13. Condition: no more than 2^40 bytes. -/
import Derived.Test.YtkbmbcmcnpeabaaDoorRefRdA
namespace Go.Proofs.YtkbmbcmcnpeabaaDoor
open Pk Go.RowKit

set_option maxHeartbeats 8000000 in
set_option maxRecDepth 100000 in
theorem refread_4 (s : ByteArray) (t : List UInt8) (hs : s.size ≤ 1099511627776) (w : World) (hl : s.data.toList = 4 :: t) : Calls Tryd.prog 14 #[.string s] w (RPost s w) := by
  obtain ⟨A, hA⟩ : ∃ A, A = w.heap.size := ⟨_, rfl⟩
  obtain ⟨W, hW⟩ : ∃ W, W = ((w.alloc (.cells (msgCells MsgV.zero none 0 none 0).toArray 29)).alloc (.cells #[.string s, .int .i64 0, .int .i64 0] 79)).alloc (.cells (msgCells MsgV.zero none 0 none 0).toArray 29) := ⟨_, rfl⟩
  obtain ⟨d0, mw⟩ := dst_laid hs hA hW
  have D := hide d0
  have HW := hide hW
  have HA := hide hA
  have HM := hide mw
  have HL := hide hl
  clear d0 mw hW hA hl hs
  go_enter Tryd.func14, Tryd.ntmps14
  go_wp2_with fail
  rw [← unhide HA]
  change Calls Tryd.prog 39 _ (((w.alloc (.cells (msgCells MsgV.zero none 0 none 0).toArray 29)).alloc (.cells #[.string s, .int .i64 0, .int .i64 0] 79)).alloc (.cells (msgCells MsgV.zero none 0 none 0).toArray 29)) _
  rw [← unhide HW]
  refine (Rf.refin_byte (unhide D).inn).mono ?_
  rw [show outByte s 0 0 = (4, 1, 0) by unfold outByte; rw [if_pos rfl, List.drop_zero, unhide HL]; rfl]
  rintro e w1 ⟨rfl, i1, m1⟩
  change InAt w1 (A + 1) s 1 0 at i1
  replace D := hide ((unhide D).goes m1 i1)
  have c0 := (unhide D).cell 0 rfl
  have g0 := (unhide D).row.free 0 (show 0 < 22 by decide)
  replace D := hide (show DSt W (w1.setCell ⟨A + 2, 0, none⟩ (.int .u8 4)) (A + 1) (A + 2) A (msgCells { MsgV.zero with kind := 4 } none 0 none 0) s 1 0 from (unhide D).put 0 (show 0 < 22 by decide) (.int .u8 4))
  have f0 : (w1.setCell ⟨A + 2, 0, none⟩ (.int .u8 4)).cell? ⟨A + 1, 2, none⟩ = some (.int .i64 0) := (unhide D).inn.fault
  clear i1 m1
  go_upto_region 6 with fail
  generalize w1.setCell ⟨A + 2, 0, none⟩ (.int .u8 4) = v0 at *
  have k0 : v0.cell? ⟨A + 2, 0, none⟩ = some (.int .u8 4) := (unhide D).cell 0 rfl
  clear c0 g0 w1 f0
  go_wp2_with fail
  refine (Rf.refin_most (unhide D).inn 2147483647 (by decide)).mono ?_
  rintro e u1 ⟨rfl, i1, m1⟩
  have G0 := hide (Rf.Got.most 2147483647 s 1 0)
  generalize (((outMost (2147483647 : Nat) s 1 0).1 : Nat) : Int) = a0 at *
  generalize ahead 1 (outMost (2147483647 : Nat) s 1 0).2.1 (outMost (2147483647 : Nat) s 1 0).2.2 = k1 at *
  generalize (outMost (2147483647 : Nat) s 1 0).2.2 = z1 at *
  replace D := hide ((unhide D).goes m1 i1)
  clear i1 m1 k0
  have c0 := (unhide D).cell 1 rfl
  have g0 := (unhide D).row.free 1 (show 1 < 22 by decide)
  replace D := hide (show DSt W (u1.setCell ⟨A + 2, 1, none⟩ (.int .i64 a0)) (A + 1) (A + 2) A (msgCells { MsgV.zero with kind := 4, move := a0 } none 0 none 0) s k1 z1 from (unhide D).put 1 (show 1 < 22 by decide) (.int .i64 a0))
  obtain ⟨v1, hv⟩ : ∃ v, v = u1.setCell ⟨A + 2, 1, none⟩ (.int .i64 a0) := ⟨_, rfl⟩
  rw [← hv] at D
  have HV := hide hv
  clear hv
  go_upto_region 10 with fail
  rw [← unhide HV]
  clear HV c0 g0
  have k0 : v1.cell? ⟨A + 2, 0, none⟩ = some (.int .u8 4) := (unhide D).cell 0 rfl
  clear v0
  go_wp2_with fail
  refine (Rf.refin_most (unhide D).inn 2147483647 (by decide)).mono ?_
  rintro e u2 ⟨rfl, i1, m1⟩
  have G1 := hide (Rf.Got.most 2147483647 s k1 z1)
  generalize (((outMost (2147483647 : Nat) s k1 z1).1 : Nat) : Int) = a1 at *
  generalize ahead k1 (outMost (2147483647 : Nat) s k1 z1).2.1 (outMost (2147483647 : Nat) s k1 z1).2.2 = k2 at *
  generalize (outMost (2147483647 : Nat) s k1 z1).2.2 = z2 at *
  replace D := hide ((unhide D).goes m1 i1)
  clear i1 m1 k0
  have c0 := (unhide D).cell 2 rfl
  have g0 := (unhide D).row.free 2 (show 2 < 22 by decide)
  replace D := hide (show DSt W (u2.setCell ⟨A + 2, 2, none⟩ (.int .i64 a1)) (A + 1) (A + 2) A (msgCells { MsgV.zero with kind := 4, move := a0, part := a1 } none 0 none 0) s k2 z2 from (unhide D).put 2 (show 2 < 22 by decide) (.int .i64 a1))
  obtain ⟨v2, hv⟩ : ∃ v, v = u2.setCell ⟨A + 2, 2, none⟩ (.int .i64 a1) := ⟨_, rfl⟩
  rw [← hv] at D
  have HV := hide hv
  clear hv
  go_upto_region 11 with fail
  rw [← unhide HV]
  clear HV c0 g0
  have k0 : v2.cell? ⟨A + 2, 0, none⟩ = some (.int .u8 4) := (unhide D).cell 0 rfl
  clear v1
  go_wp2_with fail
  refine (Rf.refin_most (unhide D).inn 2147483647 (by decide)).mono ?_
  rintro e u3 ⟨rfl, i1, m1⟩
  have G2 := hide (Rf.Got.most 2147483647 s k2 z2)
  generalize (((outMost (2147483647 : Nat) s k2 z2).1 : Nat) : Int) = a2 at *
  generalize ahead k2 (outMost (2147483647 : Nat) s k2 z2).2.1 (outMost (2147483647 : Nat) s k2 z2).2.2 = k3 at *
  generalize (outMost (2147483647 : Nat) s k2 z2).2.2 = z3 at *
  replace D := hide ((unhide D).goes m1 i1)
  clear i1 m1 k0
  have c0 := (unhide D).cell 3 rfl
  have g0 := (unhide D).row.free 3 (show 3 < 22 by decide)
  replace D := hide (show DSt W (u3.setCell ⟨A + 2, 3, none⟩ (.int .i64 a2)) (A + 1) (A + 2) A (msgCells { MsgV.zero with kind := 4, move := a0, part := a1, to_ := a2 } none 0 none 0) s k3 z3 from (unhide D).put 3 (show 3 < 22 by decide) (.int .i64 a2))
  obtain ⟨v3, hv⟩ : ∃ v, v = u3.setCell ⟨A + 2, 3, none⟩ (.int .i64 a2) := ⟨_, rfl⟩
  rw [← hv] at D
  have HV := hide hv
  clear hv
  go_upto_region 26 with fail
  rw [← unhide HV]
  clear HV c0 g0
  have k0 : v3.cell? ⟨A + 2, 0, none⟩ = some (.int .u8 4) := (unhide D).cell 0 rfl
  clear v2
  have HG := hide (got_none (m := { MsgV.zero with kind := 4, move := a0, part := a1, to_ := a2 }) (unhide HL) (by decide) (show Rf.Got b4 s 1 0 (f4 (a0, a1, a2)) k3 z3 from Rf.Got.map (g := f4) (a := (a0, a1, a2)) (Rf.Got.seq (unhide G0) (Rf.Got.seq (unhide G1) (unhide G2)))))
  clear G0 G1 G2 HL
  have hfl := (unhide D).inn.fault
  have hpl := (unhide D).inn.place
  by_cases hf : z3 = 0
  · by_cases hk : k3 < s.size
    · have HR := hide ((unhide HG).2.1 hf hk)
      subst hf
      have hfl' : v3.cell? ⟨A + 1, 2, none⟩ = some (.int .i64 0) := hfl
      have hk' : (k3 : Int) < (s.size : Int) := by omega
      have HT := hide (unhide D).res.there
      have HRG := hide (unhide D).res.range
      clear hfl HG hk
      go_wp2_with (refine wpList_store_mid rfl 29 (.tmp 2) (.tmp 135) rfl A 0 (msgCells MsgV.zero none 0 none 0).toArray rfl rfl (unhide HT) (by kernel_rfl) (cells_one MsgV.zero none none 0 0) ?_; change wpList _ _ _ _ _ (World.setCells _ A 0 (msgCells MsgV.zero none 0 none 0)); rw [setCells_self _ (unhide HRG)])
      refine bodyPost_ret (v := .tuple #[.agg (msgCells MsgV.zero none 0 none 0).toArray, .int .i64 8]) ?_ rfl ?_
      · exact results_cell_tmp Tryd.results14 _ v3 A _ _ rfl (unhide HRG) Tryd.underlying29 rfl (by kernel_rfl)
      · exact rpost_zero ((unhide HM).trans (unhide D).moved fun i hi => .inr (by have := unhide HA; omega)) (unhide HR)
    · have HR := hide ((unhide HG).2.2 hf hk)
      subst hf
      have hfl' : v3.cell? ⟨A + 1, 2, none⟩ = some (.int .i64 0) := hfl
      have hk' : ¬ ((k3 : Int) < (s.size : Int)) := by omega
      have HT := hide (unhide D).res.there
      have hrg := (unhide D).row.range
      have HRW := hide ((unhide D).res.put (msgCells { MsgV.zero with kind := 4, move := a0, part := a1, to_ := a2 } none 0 none 0) rfl).range
      have HRG := hide hrg
      clear hfl HG hk hrg
      go_upto_region 48 with fail
      go_step
      refine wpList_load_mid rfl 29 (.tmp 5) rfl (A + 2) 0 rfl (msgCells { MsgV.zero with kind := 4, move := a0, part := a1, to_ := a2 } none 0 none 0) _ (unhide HRG) Tryd.underlying29 rfl (by kernel_rfl) ?_
      refine wpList_store_mid rfl 29 (.tmp 2) (.tmp 136) rfl A 0 (msgCells { MsgV.zero with kind := 4, move := a0, part := a1, to_ := a2 } none 0 none 0).toArray rfl rfl (unhide HT) (by kernel_rfl) (cells_one { MsgV.zero with kind := 4, move := a0, part := a1, to_ := a2 } none none 0 0) ?_
      change wpList _ _ _ _ _ (v3.setCells A 0 (msgCells { MsgV.zero with kind := 4, move := a0, part := a1, to_ := a2 } none 0 none 0))
      have HMF := hide (setCells_moved v3 A 0 (msgCells { MsgV.zero with kind := 4, move := a0, part := a1, to_ := a2 } none 0 none 0))
      generalize v3.setCells A 0 (msgCells { MsgV.zero with kind := 4, move := a0, part := a1, to_ := a2 } none 0 none 0) = wf at *
      go_wp2_with fail
      refine bodyPost_ret (v := .tuple #[.agg (msgCells { MsgV.zero with kind := 4, move := a0, part := a1, to_ := a2 } none 0 none 0).toArray, .int .i64 0]) ?_ rfl ?_
      · exact results_cell_tmp Tryd.results14 _ wf A _ _ rfl (unhide HRW) Tryd.underlying29 rfl (by kernel_rfl)
      · exact rpost_msg (((unhide HM).trans (unhide D).moved fun i hi => .inr (by have := unhide HA; omega)).trans (unhide HMF) fun i hi => .inr (by have := unhide HA; omega)) (unhide HR) (ints_nil _ _) (ints_nil _ _) (fun y hy => by
          rcases hy with h | h
          · cases h
          · cases h)
  · have HR := hide ((unhide HG).1 hf)
    have hf' : ¬ ((z3 : Int) = 0) := by omega
    clear HG hf
    go_upto_region 45 with fail
    let St : World → Prop := fun v => DSt W v (A + 1) (A + 2) A (msgCells { MsgV.zero with kind := 4, move := a0, part := a1, to_ := a2 } none 0 none 0) s k3 z3
    have st : St v3.drew := (unhide D).drew
    have ne : Nonempty (SW St) := ⟨⟨_, st⟩⟩
    have fs : ∀ p : SW St, p.w.cell? ⟨A + 1, 2, none⟩ = some (.int .i64 (z3 : Int)) := fun p => p.ok.inn.fault
    clear hfl hpl k0
    refine wp_region_sw (St := St) (by kernel_rfl) (by kernel_rfl) st ?_
    go_big_quiet_step (fail)
    go_big_quiet_step (fail)
    go_big_quiet_step (fail)
    go_big_quiet_step (fail)
    go_big_quiet_step (fail)
    refine wpQuiet_store_same rfl 29 (.tmp 2) (.tmp 123) rfl A 0 (msgCells MsgV.zero none 0 none 0).toArray rfl rfl (fun v ⟨p, hp⟩ => by rw [hp]; exact p.ok.res.there) (fun v ⟨p, hp⟩ => by rw [hp]; exact p.ok.res.range) (by kernel_rfl) (cells_one MsgV.zero none none 0 0) ?_
    go_simp
    go_big_quiet_step (fail)
    refine wpQuiet_nil ?_
    rintro ⟨w9, st9⟩
    dsimp only
    have S9 := hide (show DSt W w9 (A + 1) (A + 2) A (msgCells { MsgV.zero with kind := 4, move := a0, part := a1, to_ := a2 } none 0 none 0) s k3 z3 from st9)
    clear st9
    go_wp2_with fail
    refine bodyPost_ret (v := .tuple #[.agg (msgCells MsgV.zero none 0 none 0).toArray, .int .i64 (z3 : Int)]) ?_ rfl ?_
    · exact results_cell_tmp Tryd.results14 _ w9 A _ _ rfl (unhide S9).res.range Tryd.underlying29 rfl (by kernel_rfl)
    · exact rpost_zero ((unhide HM).trans (unhide S9).moved fun i hi => .inr (by have := unhide HA; omega)) (unhide HR)
set_option maxHeartbeats 8000000 in
set_option maxRecDepth 100000 in
theorem refread_8 (s : ByteArray) (t : List UInt8) (hs : s.size ≤ 1099511627776) (w : World) (hl : s.data.toList = 8 :: t) : Calls Tryd.prog 14 #[.string s] w (RPost s w) := by
  obtain ⟨A, hA⟩ : ∃ A, A = w.heap.size := ⟨_, rfl⟩
  obtain ⟨W, hW⟩ : ∃ W, W = ((w.alloc (.cells (msgCells MsgV.zero none 0 none 0).toArray 29)).alloc (.cells #[.string s, .int .i64 0, .int .i64 0] 79)).alloc (.cells (msgCells MsgV.zero none 0 none 0).toArray 29) := ⟨_, rfl⟩
  obtain ⟨d0, mw⟩ := dst_laid hs hA hW
  have D := hide d0
  have HW := hide hW
  have HA := hide hA
  have HM := hide mw
  have HL := hide hl
  clear d0 mw hW hA hl hs
  go_enter Tryd.func14, Tryd.ntmps14
  go_wp2_with fail
  rw [← unhide HA]
  change Calls Tryd.prog 39 _ (((w.alloc (.cells (msgCells MsgV.zero none 0 none 0).toArray 29)).alloc (.cells #[.string s, .int .i64 0, .int .i64 0] 79)).alloc (.cells (msgCells MsgV.zero none 0 none 0).toArray 29)) _
  rw [← unhide HW]
  refine (Rf.refin_byte (unhide D).inn).mono ?_
  rw [show outByte s 0 0 = (8, 1, 0) by unfold outByte; rw [if_pos rfl, List.drop_zero, unhide HL]; rfl]
  rintro e w1 ⟨rfl, i1, m1⟩
  change InAt w1 (A + 1) s 1 0 at i1
  replace D := hide ((unhide D).goes m1 i1)
  have c0 := (unhide D).cell 0 rfl
  have g0 := (unhide D).row.free 0 (show 0 < 22 by decide)
  replace D := hide (show DSt W (w1.setCell ⟨A + 2, 0, none⟩ (.int .u8 8)) (A + 1) (A + 2) A (msgCells { MsgV.zero with kind := 8 } none 0 none 0) s 1 0 from (unhide D).put 0 (show 0 < 22 by decide) (.int .u8 8))
  have f0 : (w1.setCell ⟨A + 2, 0, none⟩ (.int .u8 8)).cell? ⟨A + 1, 2, none⟩ = some (.int .i64 0) := (unhide D).inn.fault
  clear i1 m1
  go_upto_region 6 with fail
  generalize w1.setCell ⟨A + 2, 0, none⟩ (.int .u8 8) = v0 at *
  have k0 : v0.cell? ⟨A + 2, 0, none⟩ = some (.int .u8 8) := (unhide D).cell 0 rfl
  clear c0 g0 w1 f0
  go_wp2_with fail
  refine (Rf.refin_most (unhide D).inn 2147483647 (by decide)).mono ?_
  rintro e u1 ⟨rfl, i1, m1⟩
  have G0 := hide (Rf.Got.most 2147483647 s 1 0)
  generalize (((outMost (2147483647 : Nat) s 1 0).1 : Nat) : Int) = a0 at *
  generalize ahead 1 (outMost (2147483647 : Nat) s 1 0).2.1 (outMost (2147483647 : Nat) s 1 0).2.2 = k1 at *
  generalize (outMost (2147483647 : Nat) s 1 0).2.2 = z1 at *
  replace D := hide ((unhide D).goes m1 i1)
  clear i1 m1 k0
  have c0 := (unhide D).cell 1 rfl
  have g0 := (unhide D).row.free 1 (show 1 < 22 by decide)
  replace D := hide (show DSt W (u1.setCell ⟨A + 2, 1, none⟩ (.int .i64 a0)) (A + 1) (A + 2) A (msgCells { MsgV.zero with kind := 8, move := a0 } none 0 none 0) s k1 z1 from (unhide D).put 1 (show 1 < 22 by decide) (.int .i64 a0))
  obtain ⟨v1, hv⟩ : ∃ v, v = u1.setCell ⟨A + 2, 1, none⟩ (.int .i64 a0) := ⟨_, rfl⟩
  rw [← hv] at D
  have HV := hide hv
  clear hv
  go_upto_region 10 with fail
  rw [← unhide HV]
  clear HV c0 g0
  have k0 : v1.cell? ⟨A + 2, 0, none⟩ = some (.int .u8 8) := (unhide D).cell 0 rfl
  clear v0
  go_wp2_with fail
  refine (Rf.refin_most (unhide D).inn 2147483647 (by decide)).mono ?_
  rintro e u2 ⟨rfl, i1, m1⟩
  have G1 := hide (Rf.Got.most 2147483647 s k1 z1)
  generalize (((outMost (2147483647 : Nat) s k1 z1).1 : Nat) : Int) = a1 at *
  generalize ahead k1 (outMost (2147483647 : Nat) s k1 z1).2.1 (outMost (2147483647 : Nat) s k1 z1).2.2 = k2 at *
  generalize (outMost (2147483647 : Nat) s k1 z1).2.2 = z2 at *
  replace D := hide ((unhide D).goes m1 i1)
  clear i1 m1 k0
  have c0 := (unhide D).cell 2 rfl
  have g0 := (unhide D).row.free 2 (show 2 < 22 by decide)
  replace D := hide (show DSt W (u2.setCell ⟨A + 2, 2, none⟩ (.int .i64 a1)) (A + 1) (A + 2) A (msgCells { MsgV.zero with kind := 8, move := a0, part := a1 } none 0 none 0) s k2 z2 from (unhide D).put 2 (show 2 < 22 by decide) (.int .i64 a1))
  obtain ⟨v2, hv⟩ : ∃ v, v = u2.setCell ⟨A + 2, 2, none⟩ (.int .i64 a1) := ⟨_, rfl⟩
  rw [← hv] at D
  have HV := hide hv
  clear hv
  go_upto_region 11 with fail
  rw [← unhide HV]
  clear HV c0 g0
  have k0 : v2.cell? ⟨A + 2, 0, none⟩ = some (.int .u8 8) := (unhide D).cell 0 rfl
  clear v1
  go_wp2_with fail
  refine (Rf.refin_most (unhide D).inn 2147483647 (by decide)).mono ?_
  rintro e u3 ⟨rfl, i1, m1⟩
  have G2 := hide (Rf.Got.most 2147483647 s k2 z2)
  generalize (((outMost (2147483647 : Nat) s k2 z2).1 : Nat) : Int) = a2 at *
  generalize ahead k2 (outMost (2147483647 : Nat) s k2 z2).2.1 (outMost (2147483647 : Nat) s k2 z2).2.2 = k3 at *
  generalize (outMost (2147483647 : Nat) s k2 z2).2.2 = z3 at *
  replace D := hide ((unhide D).goes m1 i1)
  clear i1 m1 k0
  have c0 := (unhide D).cell 4 rfl
  have g0 := (unhide D).row.free 4 (show 4 < 22 by decide)
  replace D := hide (show DSt W (u3.setCell ⟨A + 2, 4, none⟩ (.int .i64 a2)) (A + 1) (A + 2) A (msgCells { MsgV.zero with kind := 8, move := a0, part := a1, n := a2 } none 0 none 0) s k3 z3 from (unhide D).put 4 (show 4 < 22 by decide) (.int .i64 a2))
  obtain ⟨v3, hv⟩ : ∃ v, v = u3.setCell ⟨A + 2, 4, none⟩ (.int .i64 a2) := ⟨_, rfl⟩
  rw [← hv] at D
  have HV := hide hv
  clear hv
  go_upto_region 26 with fail
  rw [← unhide HV]
  clear HV c0 g0
  have k0 : v3.cell? ⟨A + 2, 0, none⟩ = some (.int .u8 8) := (unhide D).cell 0 rfl
  clear v2
  have HG := hide (got_none (m := { MsgV.zero with kind := 8, move := a0, part := a1, n := a2 }) (unhide HL) (by decide) (show Rf.Got b8 s 1 0 (f8 (a0, a1, a2)) k3 z3 from Rf.Got.map (g := f8) (a := (a0, a1, a2)) (Rf.Got.seq (unhide G0) (Rf.Got.seq (unhide G1) (unhide G2)))))
  clear G0 G1 G2 HL
  have hfl := (unhide D).inn.fault
  have hpl := (unhide D).inn.place
  by_cases hf : z3 = 0
  · by_cases hk : k3 < s.size
    · have HR := hide ((unhide HG).2.1 hf hk)
      subst hf
      have hfl' : v3.cell? ⟨A + 1, 2, none⟩ = some (.int .i64 0) := hfl
      have hk' : (k3 : Int) < (s.size : Int) := by omega
      have HT := hide (unhide D).res.there
      have HRG := hide (unhide D).res.range
      clear hfl HG hk
      go_wp2_with (refine wpList_store_mid rfl 29 (.tmp 2) (.tmp 135) rfl A 0 (msgCells MsgV.zero none 0 none 0).toArray rfl rfl (unhide HT) (by kernel_rfl) (cells_one MsgV.zero none none 0 0) ?_; change wpList _ _ _ _ _ (World.setCells _ A 0 (msgCells MsgV.zero none 0 none 0)); rw [setCells_self _ (unhide HRG)])
      refine bodyPost_ret (v := .tuple #[.agg (msgCells MsgV.zero none 0 none 0).toArray, .int .i64 8]) ?_ rfl ?_
      · exact results_cell_tmp Tryd.results14 _ v3 A _ _ rfl (unhide HRG) Tryd.underlying29 rfl (by kernel_rfl)
      · exact rpost_zero ((unhide HM).trans (unhide D).moved fun i hi => .inr (by have := unhide HA; omega)) (unhide HR)
    · have HR := hide ((unhide HG).2.2 hf hk)
      subst hf
      have hfl' : v3.cell? ⟨A + 1, 2, none⟩ = some (.int .i64 0) := hfl
      have hk' : ¬ ((k3 : Int) < (s.size : Int)) := by omega
      have HT := hide (unhide D).res.there
      have hrg := (unhide D).row.range
      have HRW := hide ((unhide D).res.put (msgCells { MsgV.zero with kind := 8, move := a0, part := a1, n := a2 } none 0 none 0) rfl).range
      have HRG := hide hrg
      clear hfl HG hk hrg
      go_upto_region 48 with fail
      go_step
      refine wpList_load_mid rfl 29 (.tmp 5) rfl (A + 2) 0 rfl (msgCells { MsgV.zero with kind := 8, move := a0, part := a1, n := a2 } none 0 none 0) _ (unhide HRG) Tryd.underlying29 rfl (by kernel_rfl) ?_
      refine wpList_store_mid rfl 29 (.tmp 2) (.tmp 136) rfl A 0 (msgCells { MsgV.zero with kind := 8, move := a0, part := a1, n := a2 } none 0 none 0).toArray rfl rfl (unhide HT) (by kernel_rfl) (cells_one { MsgV.zero with kind := 8, move := a0, part := a1, n := a2 } none none 0 0) ?_
      change wpList _ _ _ _ _ (v3.setCells A 0 (msgCells { MsgV.zero with kind := 8, move := a0, part := a1, n := a2 } none 0 none 0))
      have HMF := hide (setCells_moved v3 A 0 (msgCells { MsgV.zero with kind := 8, move := a0, part := a1, n := a2 } none 0 none 0))
      generalize v3.setCells A 0 (msgCells { MsgV.zero with kind := 8, move := a0, part := a1, n := a2 } none 0 none 0) = wf at *
      go_wp2_with fail
      refine bodyPost_ret (v := .tuple #[.agg (msgCells { MsgV.zero with kind := 8, move := a0, part := a1, n := a2 } none 0 none 0).toArray, .int .i64 0]) ?_ rfl ?_
      · exact results_cell_tmp Tryd.results14 _ wf A _ _ rfl (unhide HRW) Tryd.underlying29 rfl (by kernel_rfl)
      · exact rpost_msg (((unhide HM).trans (unhide D).moved fun i hi => .inr (by have := unhide HA; omega)).trans (unhide HMF) fun i hi => .inr (by have := unhide HA; omega)) (unhide HR) (ints_nil _ _) (ints_nil _ _) (fun y hy => by
          rcases hy with h | h
          · cases h
          · cases h)
  · have HR := hide ((unhide HG).1 hf)
    have hf' : ¬ ((z3 : Int) = 0) := by omega
    clear HG hf
    go_upto_region 45 with fail
    let St : World → Prop := fun v => DSt W v (A + 1) (A + 2) A (msgCells { MsgV.zero with kind := 8, move := a0, part := a1, n := a2 } none 0 none 0) s k3 z3
    have st : St v3.drew := (unhide D).drew
    have ne : Nonempty (SW St) := ⟨⟨_, st⟩⟩
    have fs : ∀ p : SW St, p.w.cell? ⟨A + 1, 2, none⟩ = some (.int .i64 (z3 : Int)) := fun p => p.ok.inn.fault
    clear hfl hpl k0
    refine wp_region_sw (St := St) (by kernel_rfl) (by kernel_rfl) st ?_
    go_big_quiet_step (fail)
    go_big_quiet_step (fail)
    go_big_quiet_step (fail)
    go_big_quiet_step (fail)
    go_big_quiet_step (fail)
    refine wpQuiet_store_same rfl 29 (.tmp 2) (.tmp 123) rfl A 0 (msgCells MsgV.zero none 0 none 0).toArray rfl rfl (fun v ⟨p, hp⟩ => by rw [hp]; exact p.ok.res.there) (fun v ⟨p, hp⟩ => by rw [hp]; exact p.ok.res.range) (by kernel_rfl) (cells_one MsgV.zero none none 0 0) ?_
    go_simp
    go_big_quiet_step (fail)
    refine wpQuiet_nil ?_
    rintro ⟨w9, st9⟩
    dsimp only
    have S9 := hide (show DSt W w9 (A + 1) (A + 2) A (msgCells { MsgV.zero with kind := 8, move := a0, part := a1, n := a2 } none 0 none 0) s k3 z3 from st9)
    clear st9
    go_wp2_with fail
    refine bodyPost_ret (v := .tuple #[.agg (msgCells MsgV.zero none 0 none 0).toArray, .int .i64 (z3 : Int)]) ?_ rfl ?_
    · exact results_cell_tmp Tryd.results14 _ w9 A _ _ rfl (unhide S9).res.range Tryd.underlying29 rfl (by kernel_rfl)
    · exact rpost_zero ((unhide HM).trans (unhide S9).moved fun i hi => .inr (by have := unhide HA; omega)) (unhide HR)
set_option maxHeartbeats 8000000 in
set_option maxRecDepth 100000 in
theorem refread_10 (s : ByteArray) (t : List UInt8) (hs : s.size ≤ 1099511627776) (w : World) (hl : s.data.toList = 10 :: t) : Calls Tryd.prog 14 #[.string s] w (RPost s w) := by
  obtain ⟨A, hA⟩ : ∃ A, A = w.heap.size := ⟨_, rfl⟩
  obtain ⟨W, hW⟩ : ∃ W, W = ((w.alloc (.cells (msgCells MsgV.zero none 0 none 0).toArray 29)).alloc (.cells #[.string s, .int .i64 0, .int .i64 0] 79)).alloc (.cells (msgCells MsgV.zero none 0 none 0).toArray 29) := ⟨_, rfl⟩
  obtain ⟨d0, mw⟩ := dst_laid hs hA hW
  have D := hide d0
  have HW := hide hW
  have HA := hide hA
  have HM := hide mw
  have HL := hide hl
  clear d0 mw hW hA hl hs
  go_enter Tryd.func14, Tryd.ntmps14
  go_wp2_with fail
  rw [← unhide HA]
  change Calls Tryd.prog 39 _ (((w.alloc (.cells (msgCells MsgV.zero none 0 none 0).toArray 29)).alloc (.cells #[.string s, .int .i64 0, .int .i64 0] 79)).alloc (.cells (msgCells MsgV.zero none 0 none 0).toArray 29)) _
  rw [← unhide HW]
  refine (Rf.refin_byte (unhide D).inn).mono ?_
  rw [show outByte s 0 0 = (10, 1, 0) by unfold outByte; rw [if_pos rfl, List.drop_zero, unhide HL]; rfl]
  rintro e w1 ⟨rfl, i1, m1⟩
  change InAt w1 (A + 1) s 1 0 at i1
  replace D := hide ((unhide D).goes m1 i1)
  have c0 := (unhide D).cell 0 rfl
  have g0 := (unhide D).row.free 0 (show 0 < 22 by decide)
  replace D := hide (show DSt W (w1.setCell ⟨A + 2, 0, none⟩ (.int .u8 10)) (A + 1) (A + 2) A (msgCells { MsgV.zero with kind := 10 } none 0 none 0) s 1 0 from (unhide D).put 0 (show 0 < 22 by decide) (.int .u8 10))
  have f0 : (w1.setCell ⟨A + 2, 0, none⟩ (.int .u8 10)).cell? ⟨A + 1, 2, none⟩ = some (.int .i64 0) := (unhide D).inn.fault
  clear i1 m1
  go_upto_region 6 with fail
  generalize w1.setCell ⟨A + 2, 0, none⟩ (.int .u8 10) = v0 at *
  have k0 : v0.cell? ⟨A + 2, 0, none⟩ = some (.int .u8 10) := (unhide D).cell 0 rfl
  clear c0 g0 w1 f0
  go_wp2_with fail
  refine (Rf.refin_most (unhide D).inn 2147483647 (by decide)).mono ?_
  rintro e u1 ⟨rfl, i1, m1⟩
  have G0 := hide (Rf.Got.most 2147483647 s 1 0)
  generalize (((outMost (2147483647 : Nat) s 1 0).1 : Nat) : Int) = a0 at *
  generalize ahead 1 (outMost (2147483647 : Nat) s 1 0).2.1 (outMost (2147483647 : Nat) s 1 0).2.2 = k1 at *
  generalize (outMost (2147483647 : Nat) s 1 0).2.2 = z1 at *
  replace D := hide ((unhide D).goes m1 i1)
  clear i1 m1 k0
  have c0 := (unhide D).cell 1 rfl
  have g0 := (unhide D).row.free 1 (show 1 < 22 by decide)
  replace D := hide (show DSt W (u1.setCell ⟨A + 2, 1, none⟩ (.int .i64 a0)) (A + 1) (A + 2) A (msgCells { MsgV.zero with kind := 10, move := a0 } none 0 none 0) s k1 z1 from (unhide D).put 1 (show 1 < 22 by decide) (.int .i64 a0))
  obtain ⟨v1, hv⟩ : ∃ v, v = u1.setCell ⟨A + 2, 1, none⟩ (.int .i64 a0) := ⟨_, rfl⟩
  rw [← hv] at D
  have HV := hide hv
  clear hv
  go_upto_region 10 with fail
  rw [← unhide HV]
  clear HV c0 g0
  have k0 : v1.cell? ⟨A + 2, 0, none⟩ = some (.int .u8 10) := (unhide D).cell 0 rfl
  clear v0
  go_wp2_with fail
  refine (Rf.refin_most (unhide D).inn 2147483647 (by decide)).mono ?_
  rintro e u2 ⟨rfl, i1, m1⟩
  have G1 := hide (Rf.Got.most 2147483647 s k1 z1)
  generalize (((outMost (2147483647 : Nat) s k1 z1).1 : Nat) : Int) = a1 at *
  generalize ahead k1 (outMost (2147483647 : Nat) s k1 z1).2.1 (outMost (2147483647 : Nat) s k1 z1).2.2 = k2 at *
  generalize (outMost (2147483647 : Nat) s k1 z1).2.2 = z2 at *
  replace D := hide ((unhide D).goes m1 i1)
  clear i1 m1 k0
  have c0 := (unhide D).cell 2 rfl
  have g0 := (unhide D).row.free 2 (show 2 < 22 by decide)
  replace D := hide (show DSt W (u2.setCell ⟨A + 2, 2, none⟩ (.int .i64 a1)) (A + 1) (A + 2) A (msgCells { MsgV.zero with kind := 10, move := a0, part := a1 } none 0 none 0) s k2 z2 from (unhide D).put 2 (show 2 < 22 by decide) (.int .i64 a1))
  obtain ⟨v2, hv⟩ : ∃ v, v = u2.setCell ⟨A + 2, 2, none⟩ (.int .i64 a1) := ⟨_, rfl⟩
  rw [← hv] at D
  have HV := hide hv
  clear hv
  go_upto_region 11 with fail
  rw [← unhide HV]
  clear HV c0 g0
  have k0 : v2.cell? ⟨A + 2, 0, none⟩ = some (.int .u8 10) := (unhide D).cell 0 rfl
  clear v1
  go_wp2_with fail
  refine (Rf.refin_most (unhide D).inn 2147483647 (by decide)).mono ?_
  rintro e u3 ⟨rfl, i1, m1⟩
  have G2 := hide (Rf.Got.most 2147483647 s k2 z2)
  generalize (((outMost (2147483647 : Nat) s k2 z2).1 : Nat) : Int) = a2 at *
  generalize ahead k2 (outMost (2147483647 : Nat) s k2 z2).2.1 (outMost (2147483647 : Nat) s k2 z2).2.2 = k3 at *
  generalize (outMost (2147483647 : Nat) s k2 z2).2.2 = z3 at *
  replace D := hide ((unhide D).goes m1 i1)
  clear i1 m1 k0
  have c0 := (unhide D).cell 6 rfl
  have g0 := (unhide D).row.free 6 (show 6 < 22 by decide)
  replace D := hide (show DSt W (u3.setCell ⟨A + 2, 6, none⟩ (.int .i64 a2)) (A + 1) (A + 2) A (msgCells { MsgV.zero with kind := 10, move := a0, part := a1, code := a2 } none 0 none 0) s k3 z3 from (unhide D).put 6 (show 6 < 22 by decide) (.int .i64 a2))
  obtain ⟨v3, hv⟩ : ∃ v, v = u3.setCell ⟨A + 2, 6, none⟩ (.int .i64 a2) := ⟨_, rfl⟩
  rw [← hv] at D
  have HV := hide hv
  clear hv
  go_upto_region 44 with fail
  rw [← unhide HV]
  clear HV c0 g0
  have k0 : v3.cell? ⟨A + 2, 0, none⟩ = some (.int .u8 10) := (unhide D).cell 0 rfl
  clear v2
  have HG := hide (got_none (m := { MsgV.zero with kind := 10, move := a0, part := a1, code := a2 }) (unhide HL) (by decide) (show Rf.Got b10 s 1 0 (f10 (a0, a1, a2)) k3 z3 from Rf.Got.map (g := f10) (a := (a0, a1, a2)) (Rf.Got.seq (unhide G0) (Rf.Got.seq (unhide G1) (unhide G2)))))
  clear G0 G1 G2 HL
  have hfl := (unhide D).inn.fault
  have hpl := (unhide D).inn.place
  by_cases hf : z3 = 0
  · by_cases hk : k3 < s.size
    · have HR := hide ((unhide HG).2.1 hf hk)
      subst hf
      have hfl' : v3.cell? ⟨A + 1, 2, none⟩ = some (.int .i64 0) := hfl
      have hk' : (k3 : Int) < (s.size : Int) := by omega
      have HT := hide (unhide D).res.there
      have HRG := hide (unhide D).res.range
      clear hfl HG hk
      go_wp2_with (refine wpList_store_mid rfl 29 (.tmp 2) (.tmp 135) rfl A 0 (msgCells MsgV.zero none 0 none 0).toArray rfl rfl (unhide HT) (by kernel_rfl) (cells_one MsgV.zero none none 0 0) ?_; change wpList _ _ _ _ _ (World.setCells _ A 0 (msgCells MsgV.zero none 0 none 0)); rw [setCells_self _ (unhide HRG)])
      refine bodyPost_ret (v := .tuple #[.agg (msgCells MsgV.zero none 0 none 0).toArray, .int .i64 8]) ?_ rfl ?_
      · exact results_cell_tmp Tryd.results14 _ v3 A _ _ rfl (unhide HRG) Tryd.underlying29 rfl (by kernel_rfl)
      · exact rpost_zero ((unhide HM).trans (unhide D).moved fun i hi => .inr (by have := unhide HA; omega)) (unhide HR)
    · have HR := hide ((unhide HG).2.2 hf hk)
      subst hf
      have hfl' : v3.cell? ⟨A + 1, 2, none⟩ = some (.int .i64 0) := hfl
      have hk' : ¬ ((k3 : Int) < (s.size : Int)) := by omega
      have HT := hide (unhide D).res.there
      have hrg := (unhide D).row.range
      have HRW := hide ((unhide D).res.put (msgCells { MsgV.zero with kind := 10, move := a0, part := a1, code := a2 } none 0 none 0) rfl).range
      have HRG := hide hrg
      clear hfl HG hk hrg
      go_upto_region 48 with fail
      go_step
      refine wpList_load_mid rfl 29 (.tmp 5) rfl (A + 2) 0 rfl (msgCells { MsgV.zero with kind := 10, move := a0, part := a1, code := a2 } none 0 none 0) _ (unhide HRG) Tryd.underlying29 rfl (by kernel_rfl) ?_
      refine wpList_store_mid rfl 29 (.tmp 2) (.tmp 136) rfl A 0 (msgCells { MsgV.zero with kind := 10, move := a0, part := a1, code := a2 } none 0 none 0).toArray rfl rfl (unhide HT) (by kernel_rfl) (cells_one { MsgV.zero with kind := 10, move := a0, part := a1, code := a2 } none none 0 0) ?_
      change wpList _ _ _ _ _ (v3.setCells A 0 (msgCells { MsgV.zero with kind := 10, move := a0, part := a1, code := a2 } none 0 none 0))
      have HMF := hide (setCells_moved v3 A 0 (msgCells { MsgV.zero with kind := 10, move := a0, part := a1, code := a2 } none 0 none 0))
      generalize v3.setCells A 0 (msgCells { MsgV.zero with kind := 10, move := a0, part := a1, code := a2 } none 0 none 0) = wf at *
      go_wp2_with fail
      refine bodyPost_ret (v := .tuple #[.agg (msgCells { MsgV.zero with kind := 10, move := a0, part := a1, code := a2 } none 0 none 0).toArray, .int .i64 0]) ?_ rfl ?_
      · exact results_cell_tmp Tryd.results14 _ wf A _ _ rfl (unhide HRW) Tryd.underlying29 rfl (by kernel_rfl)
      · exact rpost_msg (((unhide HM).trans (unhide D).moved fun i hi => .inr (by have := unhide HA; omega)).trans (unhide HMF) fun i hi => .inr (by have := unhide HA; omega)) (unhide HR) (ints_nil _ _) (ints_nil _ _) (fun y hy => by
          rcases hy with h | h
          · cases h
          · cases h)
  · have HR := hide ((unhide HG).1 hf)
    have hf' : ¬ ((z3 : Int) = 0) := by omega
    clear HG hf
    go_upto_region 45 with fail
    let St : World → Prop := fun v => DSt W v (A + 1) (A + 2) A (msgCells { MsgV.zero with kind := 10, move := a0, part := a1, code := a2 } none 0 none 0) s k3 z3
    have st : St v3.drew := (unhide D).drew
    have ne : Nonempty (SW St) := ⟨⟨_, st⟩⟩
    have fs : ∀ p : SW St, p.w.cell? ⟨A + 1, 2, none⟩ = some (.int .i64 (z3 : Int)) := fun p => p.ok.inn.fault
    clear hfl hpl k0
    refine wp_region_sw (St := St) (by kernel_rfl) (by kernel_rfl) st ?_
    go_big_quiet_step (fail)
    go_big_quiet_step (fail)
    go_big_quiet_step (fail)
    go_big_quiet_step (fail)
    go_big_quiet_step (fail)
    refine wpQuiet_store_same rfl 29 (.tmp 2) (.tmp 123) rfl A 0 (msgCells MsgV.zero none 0 none 0).toArray rfl rfl (fun v ⟨p, hp⟩ => by rw [hp]; exact p.ok.res.there) (fun v ⟨p, hp⟩ => by rw [hp]; exact p.ok.res.range) (by kernel_rfl) (cells_one MsgV.zero none none 0 0) ?_
    go_simp
    go_big_quiet_step (fail)
    refine wpQuiet_nil ?_
    rintro ⟨w9, st9⟩
    dsimp only
    have S9 := hide (show DSt W w9 (A + 1) (A + 2) A (msgCells { MsgV.zero with kind := 10, move := a0, part := a1, code := a2 } none 0 none 0) s k3 z3 from st9)
    clear st9
    go_wp2_with fail
    refine bodyPost_ret (v := .tuple #[.agg (msgCells MsgV.zero none 0 none 0).toArray, .int .i64 (z3 : Int)]) ?_ rfl ?_
    · exact results_cell_tmp Tryd.results14 _ w9 A _ _ rfl (unhide S9).res.range Tryd.underlying29 rfl (by kernel_rfl)
    · exact rpost_zero ((unhide HM).trans (unhide S9).moved fun i hi => .inr (by have := unhide HA; omega)) (unhide HR)
set_option maxHeartbeats 8000000 in
set_option maxRecDepth 100000 in
theorem refread_12 (s : ByteArray) (t : List UInt8) (hs : s.size ≤ 1099511627776) (w : World) (hl : s.data.toList = 12 :: t) : Calls Tryd.prog 14 #[.string s] w (RPost s w) := by
  obtain ⟨A, hA⟩ : ∃ A, A = w.heap.size := ⟨_, rfl⟩
  obtain ⟨W, hW⟩ : ∃ W, W = ((w.alloc (.cells (msgCells MsgV.zero none 0 none 0).toArray 29)).alloc (.cells #[.string s, .int .i64 0, .int .i64 0] 79)).alloc (.cells (msgCells MsgV.zero none 0 none 0).toArray 29) := ⟨_, rfl⟩
  obtain ⟨d0, mw⟩ := dst_laid hs hA hW
  have D := hide d0
  have HW := hide hW
  have HA := hide hA
  have HM := hide mw
  have HL := hide hl
  clear d0 mw hW hA hl hs
  go_enter Tryd.func14, Tryd.ntmps14
  go_wp2_with fail
  rw [← unhide HA]
  change Calls Tryd.prog 39 _ (((w.alloc (.cells (msgCells MsgV.zero none 0 none 0).toArray 29)).alloc (.cells #[.string s, .int .i64 0, .int .i64 0] 79)).alloc (.cells (msgCells MsgV.zero none 0 none 0).toArray 29)) _
  rw [← unhide HW]
  refine (Rf.refin_byte (unhide D).inn).mono ?_
  rw [show outByte s 0 0 = (12, 1, 0) by unfold outByte; rw [if_pos rfl, List.drop_zero, unhide HL]; rfl]
  rintro e w1 ⟨rfl, i1, m1⟩
  change InAt w1 (A + 1) s 1 0 at i1
  replace D := hide ((unhide D).goes m1 i1)
  have c0 := (unhide D).cell 0 rfl
  have g0 := (unhide D).row.free 0 (show 0 < 22 by decide)
  replace D := hide (show DSt W (w1.setCell ⟨A + 2, 0, none⟩ (.int .u8 12)) (A + 1) (A + 2) A (msgCells { MsgV.zero with kind := 12 } none 0 none 0) s 1 0 from (unhide D).put 0 (show 0 < 22 by decide) (.int .u8 12))
  have f0 : (w1.setCell ⟨A + 2, 0, none⟩ (.int .u8 12)).cell? ⟨A + 1, 2, none⟩ = some (.int .i64 0) := (unhide D).inn.fault
  clear i1 m1
  go_upto_region 6 with fail
  generalize w1.setCell ⟨A + 2, 0, none⟩ (.int .u8 12) = v0 at *
  have k0 : v0.cell? ⟨A + 2, 0, none⟩ = some (.int .u8 12) := (unhide D).cell 0 rfl
  clear c0 g0 w1 f0
  go_wp2_with fail
  refine (Rf.refin_most (unhide D).inn 2147483647 (by decide)).mono ?_
  rintro e u1 ⟨rfl, i1, m1⟩
  have G0 := hide (Rf.Got.most 2147483647 s 1 0)
  generalize (((outMost (2147483647 : Nat) s 1 0).1 : Nat) : Int) = a0 at *
  generalize ahead 1 (outMost (2147483647 : Nat) s 1 0).2.1 (outMost (2147483647 : Nat) s 1 0).2.2 = k1 at *
  generalize (outMost (2147483647 : Nat) s 1 0).2.2 = z1 at *
  replace D := hide ((unhide D).goes m1 i1)
  clear i1 m1 k0
  have c0 := (unhide D).cell 1 rfl
  have g0 := (unhide D).row.free 1 (show 1 < 22 by decide)
  replace D := hide (show DSt W (u1.setCell ⟨A + 2, 1, none⟩ (.int .i64 a0)) (A + 1) (A + 2) A (msgCells { MsgV.zero with kind := 12, move := a0 } none 0 none 0) s k1 z1 from (unhide D).put 1 (show 1 < 22 by decide) (.int .i64 a0))
  obtain ⟨v1, hv⟩ : ∃ v, v = u1.setCell ⟨A + 2, 1, none⟩ (.int .i64 a0) := ⟨_, rfl⟩
  rw [← hv] at D
  have HV := hide hv
  clear hv
  go_upto_region 10 with fail
  rw [← unhide HV]
  clear HV c0 g0
  have k0 : v1.cell? ⟨A + 2, 0, none⟩ = some (.int .u8 12) := (unhide D).cell 0 rfl
  clear v0
  go_wp2_with fail
  refine (Rf.refin_most (unhide D).inn 2147483647 (by decide)).mono ?_
  rintro e u2 ⟨rfl, i1, m1⟩
  have G1 := hide (Rf.Got.most 2147483647 s k1 z1)
  generalize (((outMost (2147483647 : Nat) s k1 z1).1 : Nat) : Int) = a1 at *
  generalize ahead k1 (outMost (2147483647 : Nat) s k1 z1).2.1 (outMost (2147483647 : Nat) s k1 z1).2.2 = k2 at *
  generalize (outMost (2147483647 : Nat) s k1 z1).2.2 = z2 at *
  replace D := hide ((unhide D).goes m1 i1)
  clear i1 m1 k0
  have c0 := (unhide D).cell 2 rfl
  have g0 := (unhide D).row.free 2 (show 2 < 22 by decide)
  replace D := hide (show DSt W (u2.setCell ⟨A + 2, 2, none⟩ (.int .i64 a1)) (A + 1) (A + 2) A (msgCells { MsgV.zero with kind := 12, move := a0, part := a1 } none 0 none 0) s k2 z2 from (unhide D).put 2 (show 2 < 22 by decide) (.int .i64 a1))
  obtain ⟨v2, hv⟩ : ∃ v, v = u2.setCell ⟨A + 2, 2, none⟩ (.int .i64 a1) := ⟨_, rfl⟩
  rw [← hv] at D
  have HV := hide hv
  clear hv
  go_upto_region 11 with fail
  rw [← unhide HV]
  clear HV c0 g0
  have k0 : v2.cell? ⟨A + 2, 0, none⟩ = some (.int .u8 12) := (unhide D).cell 0 rfl
  clear v1
  have HG := hide (got_none (m := { MsgV.zero with kind := 12, move := a0, part := a1 }) (unhide HL) (by decide) (show Rf.Got b12 s 1 0 (f12 (a0, a1)) k2 z2 from Rf.Got.map (g := f12) (a := (a0, a1)) (Rf.Got.seq (unhide G0) (unhide G1))))
  clear G0 G1 HL
  have hfl := (unhide D).inn.fault
  have hpl := (unhide D).inn.place
  by_cases hf : z2 = 0
  · by_cases hk : k2 < s.size
    · have HR := hide ((unhide HG).2.1 hf hk)
      subst hf
      have hfl' : v2.cell? ⟨A + 1, 2, none⟩ = some (.int .i64 0) := hfl
      have hk' : (k2 : Int) < (s.size : Int) := by omega
      have HT := hide (unhide D).res.there
      have HRG := hide (unhide D).res.range
      clear hfl HG hk
      go_wp2_with (refine wpList_store_mid rfl 29 (.tmp 2) (.tmp 135) rfl A 0 (msgCells MsgV.zero none 0 none 0).toArray rfl rfl (unhide HT) (by kernel_rfl) (cells_one MsgV.zero none none 0 0) ?_; change wpList _ _ _ _ _ (World.setCells _ A 0 (msgCells MsgV.zero none 0 none 0)); rw [setCells_self _ (unhide HRG)])
      refine bodyPost_ret (v := .tuple #[.agg (msgCells MsgV.zero none 0 none 0).toArray, .int .i64 8]) ?_ rfl ?_
      · exact results_cell_tmp Tryd.results14 _ v2 A _ _ rfl (unhide HRG) Tryd.underlying29 rfl (by kernel_rfl)
      · exact rpost_zero ((unhide HM).trans (unhide D).moved fun i hi => .inr (by have := unhide HA; omega)) (unhide HR)
    · have HR := hide ((unhide HG).2.2 hf hk)
      subst hf
      have hfl' : v2.cell? ⟨A + 1, 2, none⟩ = some (.int .i64 0) := hfl
      have hk' : ¬ ((k2 : Int) < (s.size : Int)) := by omega
      have HT := hide (unhide D).res.there
      have hrg := (unhide D).row.range
      have HRW := hide ((unhide D).res.put (msgCells { MsgV.zero with kind := 12, move := a0, part := a1 } none 0 none 0) rfl).range
      have HRG := hide hrg
      clear hfl HG hk hrg
      go_upto_region 48 with fail
      go_step
      refine wpList_load_mid rfl 29 (.tmp 5) rfl (A + 2) 0 rfl (msgCells { MsgV.zero with kind := 12, move := a0, part := a1 } none 0 none 0) _ (unhide HRG) Tryd.underlying29 rfl (by kernel_rfl) ?_
      refine wpList_store_mid rfl 29 (.tmp 2) (.tmp 136) rfl A 0 (msgCells { MsgV.zero with kind := 12, move := a0, part := a1 } none 0 none 0).toArray rfl rfl (unhide HT) (by kernel_rfl) (cells_one { MsgV.zero with kind := 12, move := a0, part := a1 } none none 0 0) ?_
      change wpList _ _ _ _ _ (v2.setCells A 0 (msgCells { MsgV.zero with kind := 12, move := a0, part := a1 } none 0 none 0))
      have HMF := hide (setCells_moved v2 A 0 (msgCells { MsgV.zero with kind := 12, move := a0, part := a1 } none 0 none 0))
      generalize v2.setCells A 0 (msgCells { MsgV.zero with kind := 12, move := a0, part := a1 } none 0 none 0) = wf at *
      go_wp2_with fail
      refine bodyPost_ret (v := .tuple #[.agg (msgCells { MsgV.zero with kind := 12, move := a0, part := a1 } none 0 none 0).toArray, .int .i64 0]) ?_ rfl ?_
      · exact results_cell_tmp Tryd.results14 _ wf A _ _ rfl (unhide HRW) Tryd.underlying29 rfl (by kernel_rfl)
      · exact rpost_msg (((unhide HM).trans (unhide D).moved fun i hi => .inr (by have := unhide HA; omega)).trans (unhide HMF) fun i hi => .inr (by have := unhide HA; omega)) (unhide HR) (ints_nil _ _) (ints_nil _ _) (fun y hy => by
          rcases hy with h | h
          · cases h
          · cases h)
  · have HR := hide ((unhide HG).1 hf)
    have hf' : ¬ ((z2 : Int) = 0) := by omega
    clear HG hf
    go_upto_region 45 with fail
    let St : World → Prop := fun v => DSt W v (A + 1) (A + 2) A (msgCells { MsgV.zero with kind := 12, move := a0, part := a1 } none 0 none 0) s k2 z2
    have st : St v2.drew := (unhide D).drew
    have ne : Nonempty (SW St) := ⟨⟨_, st⟩⟩
    have fs : ∀ p : SW St, p.w.cell? ⟨A + 1, 2, none⟩ = some (.int .i64 (z2 : Int)) := fun p => p.ok.inn.fault
    clear hfl hpl k0
    refine wp_region_sw (St := St) (by kernel_rfl) (by kernel_rfl) st ?_
    go_big_quiet_step (fail)
    go_big_quiet_step (fail)
    go_big_quiet_step (fail)
    go_big_quiet_step (fail)
    go_big_quiet_step (fail)
    refine wpQuiet_store_same rfl 29 (.tmp 2) (.tmp 123) rfl A 0 (msgCells MsgV.zero none 0 none 0).toArray rfl rfl (fun v ⟨p, hp⟩ => by rw [hp]; exact p.ok.res.there) (fun v ⟨p, hp⟩ => by rw [hp]; exact p.ok.res.range) (by kernel_rfl) (cells_one MsgV.zero none none 0 0) ?_
    go_simp
    go_big_quiet_step (fail)
    refine wpQuiet_nil ?_
    rintro ⟨w9, st9⟩
    dsimp only
    have S9 := hide (show DSt W w9 (A + 1) (A + 2) A (msgCells { MsgV.zero with kind := 12, move := a0, part := a1 } none 0 none 0) s k2 z2 from st9)
    clear st9
    go_wp2_with fail
    refine bodyPost_ret (v := .tuple #[.agg (msgCells MsgV.zero none 0 none 0).toArray, .int .i64 (z2 : Int)]) ?_ rfl ?_
    · exact results_cell_tmp Tryd.results14 _ w9 A _ _ rfl (unhide S9).res.range Tryd.underlying29 rfl (by kernel_rfl)
    · exact rpost_zero ((unhide HM).trans (unhide S9).moved fun i hi => .inr (by have := unhide HA; omega)) (unhide HR)
set_option maxHeartbeats 8000000 in
set_option maxRecDepth 100000 in
theorem refread_13 (s : ByteArray) (t : List UInt8) (hs : s.size ≤ 1099511627776) (w : World) (hl : s.data.toList = 13 :: t) : Calls Tryd.prog 14 #[.string s] w (RPost s w) := by
  obtain ⟨A, hA⟩ : ∃ A, A = w.heap.size := ⟨_, rfl⟩
  obtain ⟨W, hW⟩ : ∃ W, W = ((w.alloc (.cells (msgCells MsgV.zero none 0 none 0).toArray 29)).alloc (.cells #[.string s, .int .i64 0, .int .i64 0] 79)).alloc (.cells (msgCells MsgV.zero none 0 none 0).toArray 29) := ⟨_, rfl⟩
  obtain ⟨d0, mw⟩ := dst_laid hs hA hW
  have D := hide d0
  have HW := hide hW
  have HA := hide hA
  have HM := hide mw
  have HL := hide hl
  clear d0 mw hW hA hl hs
  go_enter Tryd.func14, Tryd.ntmps14
  go_wp2_with fail
  rw [← unhide HA]
  change Calls Tryd.prog 39 _ (((w.alloc (.cells (msgCells MsgV.zero none 0 none 0).toArray 29)).alloc (.cells #[.string s, .int .i64 0, .int .i64 0] 79)).alloc (.cells (msgCells MsgV.zero none 0 none 0).toArray 29)) _
  rw [← unhide HW]
  refine (Rf.refin_byte (unhide D).inn).mono ?_
  rw [show outByte s 0 0 = (13, 1, 0) by unfold outByte; rw [if_pos rfl, List.drop_zero, unhide HL]; rfl]
  rintro e w1 ⟨rfl, i1, m1⟩
  change InAt w1 (A + 1) s 1 0 at i1
  replace D := hide ((unhide D).goes m1 i1)
  have c0 := (unhide D).cell 0 rfl
  have g0 := (unhide D).row.free 0 (show 0 < 22 by decide)
  replace D := hide (show DSt W (w1.setCell ⟨A + 2, 0, none⟩ (.int .u8 13)) (A + 1) (A + 2) A (msgCells { MsgV.zero with kind := 13 } none 0 none 0) s 1 0 from (unhide D).put 0 (show 0 < 22 by decide) (.int .u8 13))
  have f0 : (w1.setCell ⟨A + 2, 0, none⟩ (.int .u8 13)).cell? ⟨A + 1, 2, none⟩ = some (.int .i64 0) := (unhide D).inn.fault
  clear i1 m1
  go_upto_region 6 with fail
  generalize w1.setCell ⟨A + 2, 0, none⟩ (.int .u8 13) = v0 at *
  have k0 : v0.cell? ⟨A + 2, 0, none⟩ = some (.int .u8 13) := (unhide D).cell 0 rfl
  clear c0 g0 w1 f0
  go_wp2_with fail
  refine (Rf.refin_most (unhide D).inn 2147483647 (by decide)).mono ?_
  rintro e u1 ⟨rfl, i1, m1⟩
  have G0 := hide (Rf.Got.most 2147483647 s 1 0)
  generalize (((outMost (2147483647 : Nat) s 1 0).1 : Nat) : Int) = a0 at *
  generalize ahead 1 (outMost (2147483647 : Nat) s 1 0).2.1 (outMost (2147483647 : Nat) s 1 0).2.2 = k1 at *
  generalize (outMost (2147483647 : Nat) s 1 0).2.2 = z1 at *
  replace D := hide ((unhide D).goes m1 i1)
  clear i1 m1 k0
  have c0 := (unhide D).cell 1 rfl
  have g0 := (unhide D).row.free 1 (show 1 < 22 by decide)
  replace D := hide (show DSt W (u1.setCell ⟨A + 2, 1, none⟩ (.int .i64 a0)) (A + 1) (A + 2) A (msgCells { MsgV.zero with kind := 13, move := a0 } none 0 none 0) s k1 z1 from (unhide D).put 1 (show 1 < 22 by decide) (.int .i64 a0))
  obtain ⟨v1, hv⟩ : ∃ v, v = u1.setCell ⟨A + 2, 1, none⟩ (.int .i64 a0) := ⟨_, rfl⟩
  rw [← hv] at D
  have HV := hide hv
  clear hv
  go_upto_region 10 with fail
  rw [← unhide HV]
  clear HV c0 g0
  have k0 : v1.cell? ⟨A + 2, 0, none⟩ = some (.int .u8 13) := (unhide D).cell 0 rfl
  clear v0
  go_wp2_with fail
  refine (Rf.refin_most (unhide D).inn 2147483647 (by decide)).mono ?_
  rintro e u2 ⟨rfl, i1, m1⟩
  have G1 := hide (Rf.Got.most 2147483647 s k1 z1)
  generalize (((outMost (2147483647 : Nat) s k1 z1).1 : Nat) : Int) = a1 at *
  generalize ahead k1 (outMost (2147483647 : Nat) s k1 z1).2.1 (outMost (2147483647 : Nat) s k1 z1).2.2 = k2 at *
  generalize (outMost (2147483647 : Nat) s k1 z1).2.2 = z2 at *
  replace D := hide ((unhide D).goes m1 i1)
  clear i1 m1 k0
  have c0 := (unhide D).cell 2 rfl
  have g0 := (unhide D).row.free 2 (show 2 < 22 by decide)
  replace D := hide (show DSt W (u2.setCell ⟨A + 2, 2, none⟩ (.int .i64 a1)) (A + 1) (A + 2) A (msgCells { MsgV.zero with kind := 13, move := a0, part := a1 } none 0 none 0) s k2 z2 from (unhide D).put 2 (show 2 < 22 by decide) (.int .i64 a1))
  obtain ⟨v2, hv⟩ : ∃ v, v = u2.setCell ⟨A + 2, 2, none⟩ (.int .i64 a1) := ⟨_, rfl⟩
  rw [← hv] at D
  have HV := hide hv
  clear hv
  go_upto_region 11 with fail
  rw [← unhide HV]
  clear HV c0 g0
  have k0 : v2.cell? ⟨A + 2, 0, none⟩ = some (.int .u8 13) := (unhide D).cell 0 rfl
  clear v1
  have HG := hide (got_none (m := { MsgV.zero with kind := 13, move := a0, part := a1 }) (unhide HL) (by decide) (show Rf.Got b13 s 1 0 (f13 (a0, a1)) k2 z2 from Rf.Got.map (g := f13) (a := (a0, a1)) (Rf.Got.seq (unhide G0) (unhide G1))))
  clear G0 G1 HL
  have hfl := (unhide D).inn.fault
  have hpl := (unhide D).inn.place
  by_cases hf : z2 = 0
  · by_cases hk : k2 < s.size
    · have HR := hide ((unhide HG).2.1 hf hk)
      subst hf
      have hfl' : v2.cell? ⟨A + 1, 2, none⟩ = some (.int .i64 0) := hfl
      have hk' : (k2 : Int) < (s.size : Int) := by omega
      have HT := hide (unhide D).res.there
      have HRG := hide (unhide D).res.range
      clear hfl HG hk
      go_wp2_with (refine wpList_store_mid rfl 29 (.tmp 2) (.tmp 135) rfl A 0 (msgCells MsgV.zero none 0 none 0).toArray rfl rfl (unhide HT) (by kernel_rfl) (cells_one MsgV.zero none none 0 0) ?_; change wpList _ _ _ _ _ (World.setCells _ A 0 (msgCells MsgV.zero none 0 none 0)); rw [setCells_self _ (unhide HRG)])
      refine bodyPost_ret (v := .tuple #[.agg (msgCells MsgV.zero none 0 none 0).toArray, .int .i64 8]) ?_ rfl ?_
      · exact results_cell_tmp Tryd.results14 _ v2 A _ _ rfl (unhide HRG) Tryd.underlying29 rfl (by kernel_rfl)
      · exact rpost_zero ((unhide HM).trans (unhide D).moved fun i hi => .inr (by have := unhide HA; omega)) (unhide HR)
    · have HR := hide ((unhide HG).2.2 hf hk)
      subst hf
      have hfl' : v2.cell? ⟨A + 1, 2, none⟩ = some (.int .i64 0) := hfl
      have hk' : ¬ ((k2 : Int) < (s.size : Int)) := by omega
      have HT := hide (unhide D).res.there
      have hrg := (unhide D).row.range
      have HRW := hide ((unhide D).res.put (msgCells { MsgV.zero with kind := 13, move := a0, part := a1 } none 0 none 0) rfl).range
      have HRG := hide hrg
      clear hfl HG hk hrg
      go_upto_region 48 with fail
      go_step
      refine wpList_load_mid rfl 29 (.tmp 5) rfl (A + 2) 0 rfl (msgCells { MsgV.zero with kind := 13, move := a0, part := a1 } none 0 none 0) _ (unhide HRG) Tryd.underlying29 rfl (by kernel_rfl) ?_
      refine wpList_store_mid rfl 29 (.tmp 2) (.tmp 136) rfl A 0 (msgCells { MsgV.zero with kind := 13, move := a0, part := a1 } none 0 none 0).toArray rfl rfl (unhide HT) (by kernel_rfl) (cells_one { MsgV.zero with kind := 13, move := a0, part := a1 } none none 0 0) ?_
      change wpList _ _ _ _ _ (v2.setCells A 0 (msgCells { MsgV.zero with kind := 13, move := a0, part := a1 } none 0 none 0))
      have HMF := hide (setCells_moved v2 A 0 (msgCells { MsgV.zero with kind := 13, move := a0, part := a1 } none 0 none 0))
      generalize v2.setCells A 0 (msgCells { MsgV.zero with kind := 13, move := a0, part := a1 } none 0 none 0) = wf at *
      go_wp2_with fail
      refine bodyPost_ret (v := .tuple #[.agg (msgCells { MsgV.zero with kind := 13, move := a0, part := a1 } none 0 none 0).toArray, .int .i64 0]) ?_ rfl ?_
      · exact results_cell_tmp Tryd.results14 _ wf A _ _ rfl (unhide HRW) Tryd.underlying29 rfl (by kernel_rfl)
      · exact rpost_msg (((unhide HM).trans (unhide D).moved fun i hi => .inr (by have := unhide HA; omega)).trans (unhide HMF) fun i hi => .inr (by have := unhide HA; omega)) (unhide HR) (ints_nil _ _) (ints_nil _ _) (fun y hy => by
          rcases hy with h | h
          · cases h
          · cases h)
  · have HR := hide ((unhide HG).1 hf)
    have hf' : ¬ ((z2 : Int) = 0) := by omega
    clear HG hf
    go_upto_region 45 with fail
    let St : World → Prop := fun v => DSt W v (A + 1) (A + 2) A (msgCells { MsgV.zero with kind := 13, move := a0, part := a1 } none 0 none 0) s k2 z2
    have st : St v2.drew := (unhide D).drew
    have ne : Nonempty (SW St) := ⟨⟨_, st⟩⟩
    have fs : ∀ p : SW St, p.w.cell? ⟨A + 1, 2, none⟩ = some (.int .i64 (z2 : Int)) := fun p => p.ok.inn.fault
    clear hfl hpl k0
    refine wp_region_sw (St := St) (by kernel_rfl) (by kernel_rfl) st ?_
    go_big_quiet_step (fail)
    go_big_quiet_step (fail)
    go_big_quiet_step (fail)
    go_big_quiet_step (fail)
    go_big_quiet_step (fail)
    refine wpQuiet_store_same rfl 29 (.tmp 2) (.tmp 123) rfl A 0 (msgCells MsgV.zero none 0 none 0).toArray rfl rfl (fun v ⟨p, hp⟩ => by rw [hp]; exact p.ok.res.there) (fun v ⟨p, hp⟩ => by rw [hp]; exact p.ok.res.range) (by kernel_rfl) (cells_one MsgV.zero none none 0 0) ?_
    go_simp
    go_big_quiet_step (fail)
    refine wpQuiet_nil ?_
    rintro ⟨w9, st9⟩
    dsimp only
    have S9 := hide (show DSt W w9 (A + 1) (A + 2) A (msgCells { MsgV.zero with kind := 13, move := a0, part := a1 } none 0 none 0) s k2 z2 from st9)
    clear st9
    go_wp2_with fail
    refine bodyPost_ret (v := .tuple #[.agg (msgCells MsgV.zero none 0 none 0).toArray, .int .i64 (z2 : Int)]) ?_ rfl ?_
    · exact results_cell_tmp Tryd.results14 _ w9 A _ _ rfl (unhide S9).res.range Tryd.underlying29 rfl (by kernel_rfl)
    · exact rpost_zero ((unhide HM).trans (unhide S9).moved fun i hi => .inr (by have := unhide HA; omega)) (unhide HR)
end Go.Proofs.YtkbmbcmcnpeabaaDoor

namespace Go.Proofs.YtkbmbcmcnpeabaaDoor
open Pk Go.RowKit

set_option maxHeartbeats 8000000 in
set_option maxRecDepth 100000 in
theorem refread_1 (s : ByteArray) (t : List UInt8) (hs : s.size ≤ 1099511627776) (w : World) (hl : s.data.toList = 1 :: t) : Calls Tryd.prog 14 #[.string s] w (RPost s w) := by
  obtain ⟨A, hA⟩ : ∃ A, A = w.heap.size := ⟨_, rfl⟩
  obtain ⟨W, hW⟩ : ∃ W, W = ((w.alloc (.cells (msgCells MsgV.zero none 0 none 0).toArray 29)).alloc (.cells #[.string s, .int .i64 0, .int .i64 0] 79)).alloc (.cells (msgCells MsgV.zero none 0 none 0).toArray 29) := ⟨_, rfl⟩
  obtain ⟨d0, mw⟩ := dst_laid hs hA hW
  have D := hide d0
  have HW := hide hW
  have HA := hide hA
  have HM := hide mw
  have HL := hide hl
  clear d0 mw hW hA hl hs
  go_enter Tryd.func14, Tryd.ntmps14
  go_wp2_with fail
  rw [← unhide HA]
  change Calls Tryd.prog 39 _ (((w.alloc (.cells (msgCells MsgV.zero none 0 none 0).toArray 29)).alloc (.cells #[.string s, .int .i64 0, .int .i64 0] 79)).alloc (.cells (msgCells MsgV.zero none 0 none 0).toArray 29)) _
  rw [← unhide HW]
  refine (Rf.refin_byte (unhide D).inn).mono ?_
  rw [show outByte s 0 0 = (1, 1, 0) by unfold outByte; rw [if_pos rfl, List.drop_zero, unhide HL]; rfl]
  rintro e w1 ⟨rfl, i1, m1⟩
  change InAt w1 (A + 1) s 1 0 at i1
  replace D := hide ((unhide D).goes m1 i1)
  have c0 := (unhide D).cell 0 rfl
  have g0 := (unhide D).row.free 0 (show 0 < 22 by decide)
  replace D := hide (show DSt W (w1.setCell ⟨A + 2, 0, none⟩ (.int .u8 1)) (A + 1) (A + 2) A (msgCells { MsgV.zero with kind := 1 } none 0 none 0) s 1 0 from (unhide D).put 0 (show 0 < 22 by decide) (.int .u8 1))
  have f0 : (w1.setCell ⟨A + 2, 0, none⟩ (.int .u8 1)).cell? ⟨A + 1, 2, none⟩ = some (.int .i64 0) := (unhide D).inn.fault
  clear i1 m1
  go_upto_region 6 with fail
  generalize w1.setCell ⟨A + 2, 0, none⟩ (.int .u8 1) = v0 at *
  have k0 : v0.cell? ⟨A + 2, 0, none⟩ = some (.int .u8 1) := (unhide D).cell 0 rfl
  clear c0 g0 w1 f0
  go_wp2_with fail
  refine (Rf.refitem_any (unhide D).inn).mono ?_
  rintro e u1 ⟨a0, k1, z1, rfl, i1, m1, hg⟩
  have G0 := hide hg
  replace D := hide ((unhide D).goes m1 i1)
  clear i1 m1 k0 hg
  have hth := (unhide D).row.thereMid 9 8 (show 9 + 8 ≤ 22 by decide)
  replace D := hide (show DSt W (u1.setCells (A + 2) 9 (itemCells a0)) (A + 1) (A + 2) A (msgCells { MsgV.zero with kind := 1, item := a0 } none 0 none 0) s k1 z1 from (unhide D).puts 9 (itemCells a0) (show 9 + 8 ≤ 22 by decide))
  obtain ⟨v1, hv⟩ : ∃ v, v = u1.setCells (A + 2) 9 (itemCells a0) := ⟨_, rfl⟩
  rw [← hv] at D
  have HV := hide hv
  have HT := hide hth
  clear hv hth
  go_upto_region 26 with (refine wpList_store_mid rfl 24 (.tmp 51) (.tmp 50) rfl (A + 2) 9 (itemCells a0).toArray rfl rfl (unhide HT) (by kernel_rfl) (by simp [itemCells, Value.oneCell']) ?_; change wpList _ _ _ _ _ (World.setCells _ (A + 2) 9 (itemCells a0)); rw [← unhide HV])
  clear HV HT
  have k0 : v1.cell? ⟨A + 2, 0, none⟩ = some (.int .u8 1) := (unhide D).cell 0 rfl
  clear v0
  have HG := hide (got_none (m := { MsgV.zero with kind := 1, item := a0 }) (unhide HL) (by decide) (show Rf.Got b1 s 1 0 (f1 (a0)) k1 z1 from Rf.Got.map (g := f1) (a := (a0)) (unhide G0)))
  clear G0 HL
  have hfl := (unhide D).inn.fault
  have hpl := (unhide D).inn.place
  by_cases hf : z1 = 0
  · by_cases hk : k1 < s.size
    · have HR := hide ((unhide HG).2.1 hf hk)
      subst hf
      have hfl' : v1.cell? ⟨A + 1, 2, none⟩ = some (.int .i64 0) := hfl
      have hk' : (k1 : Int) < (s.size : Int) := by omega
      have HT := hide (unhide D).res.there
      have HRG := hide (unhide D).res.range
      clear hfl HG hk
      go_wp2_with (refine wpList_store_mid rfl 29 (.tmp 2) (.tmp 135) rfl A 0 (msgCells MsgV.zero none 0 none 0).toArray rfl rfl (unhide HT) (by kernel_rfl) (cells_one MsgV.zero none none 0 0) ?_; change wpList _ _ _ _ _ (World.setCells _ A 0 (msgCells MsgV.zero none 0 none 0)); rw [setCells_self _ (unhide HRG)])
      refine bodyPost_ret (v := .tuple #[.agg (msgCells MsgV.zero none 0 none 0).toArray, .int .i64 8]) ?_ rfl ?_
      · exact results_cell_tmp Tryd.results14 _ v1 A _ _ rfl (unhide HRG) Tryd.underlying29 rfl (by kernel_rfl)
      · exact rpost_zero ((unhide HM).trans (unhide D).moved fun i hi => .inr (by have := unhide HA; omega)) (unhide HR)
    · have HR := hide ((unhide HG).2.2 hf hk)
      subst hf
      have hfl' : v1.cell? ⟨A + 1, 2, none⟩ = some (.int .i64 0) := hfl
      have hk' : ¬ ((k1 : Int) < (s.size : Int)) := by omega
      have HT := hide (unhide D).res.there
      have hrg := (unhide D).row.range
      have HRW := hide ((unhide D).res.put (msgCells { MsgV.zero with kind := 1, item := a0 } none 0 none 0) rfl).range
      have HRG := hide hrg
      clear hfl HG hk hrg
      go_upto_region 48 with fail
      go_step
      refine wpList_load_mid rfl 29 (.tmp 5) rfl (A + 2) 0 rfl (msgCells { MsgV.zero with kind := 1, item := a0 } none 0 none 0) _ (unhide HRG) Tryd.underlying29 rfl (by kernel_rfl) ?_
      refine wpList_store_mid rfl 29 (.tmp 2) (.tmp 136) rfl A 0 (msgCells { MsgV.zero with kind := 1, item := a0 } none 0 none 0).toArray rfl rfl (unhide HT) (by kernel_rfl) (cells_one { MsgV.zero with kind := 1, item := a0 } none none 0 0) ?_
      change wpList _ _ _ _ _ (v1.setCells A 0 (msgCells { MsgV.zero with kind := 1, item := a0 } none 0 none 0))
      have HMF := hide (setCells_moved v1 A 0 (msgCells { MsgV.zero with kind := 1, item := a0 } none 0 none 0))
      generalize v1.setCells A 0 (msgCells { MsgV.zero with kind := 1, item := a0 } none 0 none 0) = wf at *
      go_wp2_with fail
      refine bodyPost_ret (v := .tuple #[.agg (msgCells { MsgV.zero with kind := 1, item := a0 } none 0 none 0).toArray, .int .i64 0]) ?_ rfl ?_
      · exact results_cell_tmp Tryd.results14 _ wf A _ _ rfl (unhide HRW) Tryd.underlying29 rfl (by kernel_rfl)
      · exact rpost_msg (((unhide HM).trans (unhide D).moved fun i hi => .inr (by have := unhide HA; omega)).trans (unhide HMF) fun i hi => .inr (by have := unhide HA; omega)) (unhide HR) (ints_nil _ _) (ints_nil _ _) (fun y hy => by
          rcases hy with h | h
          · cases h
          · cases h)
  · have HR := hide ((unhide HG).1 hf)
    have hf' : ¬ ((z1 : Int) = 0) := by omega
    clear HG hf
    go_upto_region 45 with fail
    let St : World → Prop := fun v => DSt W v (A + 1) (A + 2) A (msgCells { MsgV.zero with kind := 1, item := a0 } none 0 none 0) s k1 z1
    have st : St v1.drew := (unhide D).drew
    have ne : Nonempty (SW St) := ⟨⟨_, st⟩⟩
    have fs : ∀ p : SW St, p.w.cell? ⟨A + 1, 2, none⟩ = some (.int .i64 (z1 : Int)) := fun p => p.ok.inn.fault
    clear hfl hpl k0
    refine wp_region_sw (St := St) (by kernel_rfl) (by kernel_rfl) st ?_
    go_big_quiet_step (fail)
    go_big_quiet_step (fail)
    go_big_quiet_step (fail)
    go_big_quiet_step (fail)
    go_big_quiet_step (fail)
    refine wpQuiet_store_same rfl 29 (.tmp 2) (.tmp 123) rfl A 0 (msgCells MsgV.zero none 0 none 0).toArray rfl rfl (fun v ⟨p, hp⟩ => by rw [hp]; exact p.ok.res.there) (fun v ⟨p, hp⟩ => by rw [hp]; exact p.ok.res.range) (by kernel_rfl) (cells_one MsgV.zero none none 0 0) ?_
    go_simp
    go_big_quiet_step (fail)
    refine wpQuiet_nil ?_
    rintro ⟨w9, st9⟩
    dsimp only
    have S9 := hide (show DSt W w9 (A + 1) (A + 2) A (msgCells { MsgV.zero with kind := 1, item := a0 } none 0 none 0) s k1 z1 from st9)
    clear st9
    go_wp2_with fail
    refine bodyPost_ret (v := .tuple #[.agg (msgCells MsgV.zero none 0 none 0).toArray, .int .i64 (z1 : Int)]) ?_ rfl ?_
    · exact results_cell_tmp Tryd.results14 _ w9 A _ _ rfl (unhide S9).res.range Tryd.underlying29 rfl (by kernel_rfl)
    · exact rpost_zero ((unhide HM).trans (unhide S9).moved fun i hi => .inr (by have := unhide HA; omega)) (unhide HR)
set_option maxHeartbeats 8000000 in
set_option maxRecDepth 100000 in
theorem refread_7 (s : ByteArray) (t : List UInt8) (hs : s.size ≤ 1099511627776) (w : World) (hl : s.data.toList = 7 :: t) : Calls Tryd.prog 14 #[.string s] w (RPost s w) := by
  obtain ⟨A, hA⟩ : ∃ A, A = w.heap.size := ⟨_, rfl⟩
  obtain ⟨W, hW⟩ : ∃ W, W = ((w.alloc (.cells (msgCells MsgV.zero none 0 none 0).toArray 29)).alloc (.cells #[.string s, .int .i64 0, .int .i64 0] 79)).alloc (.cells (msgCells MsgV.zero none 0 none 0).toArray 29) := ⟨_, rfl⟩
  obtain ⟨d0, mw⟩ := dst_laid hs hA hW
  have D := hide d0
  have HW := hide hW
  have HA := hide hA
  have HM := hide mw
  have HL := hide hl
  clear d0 mw hW hA hl hs
  go_enter Tryd.func14, Tryd.ntmps14
  go_wp2_with fail
  rw [← unhide HA]
  change Calls Tryd.prog 39 _ (((w.alloc (.cells (msgCells MsgV.zero none 0 none 0).toArray 29)).alloc (.cells #[.string s, .int .i64 0, .int .i64 0] 79)).alloc (.cells (msgCells MsgV.zero none 0 none 0).toArray 29)) _
  rw [← unhide HW]
  refine (Rf.refin_byte (unhide D).inn).mono ?_
  rw [show outByte s 0 0 = (7, 1, 0) by unfold outByte; rw [if_pos rfl, List.drop_zero, unhide HL]; rfl]
  rintro e w1 ⟨rfl, i1, m1⟩
  change InAt w1 (A + 1) s 1 0 at i1
  replace D := hide ((unhide D).goes m1 i1)
  have c0 := (unhide D).cell 0 rfl
  have g0 := (unhide D).row.free 0 (show 0 < 22 by decide)
  replace D := hide (show DSt W (w1.setCell ⟨A + 2, 0, none⟩ (.int .u8 7)) (A + 1) (A + 2) A (msgCells { MsgV.zero with kind := 7 } none 0 none 0) s 1 0 from (unhide D).put 0 (show 0 < 22 by decide) (.int .u8 7))
  have f0 : (w1.setCell ⟨A + 2, 0, none⟩ (.int .u8 7)).cell? ⟨A + 1, 2, none⟩ = some (.int .i64 0) := (unhide D).inn.fault
  clear i1 m1
  go_upto_region 6 with fail
  generalize w1.setCell ⟨A + 2, 0, none⟩ (.int .u8 7) = v0 at *
  have k0 : v0.cell? ⟨A + 2, 0, none⟩ = some (.int .u8 7) := (unhide D).cell 0 rfl
  clear c0 g0 w1 f0
  go_wp2_with fail
  refine (Rf.refin_most (unhide D).inn 2147483647 (by decide)).mono ?_
  rintro e u1 ⟨rfl, i1, m1⟩
  have G0 := hide (Rf.Got.most 2147483647 s 1 0)
  generalize (((outMost (2147483647 : Nat) s 1 0).1 : Nat) : Int) = a0 at *
  generalize ahead 1 (outMost (2147483647 : Nat) s 1 0).2.1 (outMost (2147483647 : Nat) s 1 0).2.2 = k1 at *
  generalize (outMost (2147483647 : Nat) s 1 0).2.2 = z1 at *
  replace D := hide ((unhide D).goes m1 i1)
  clear i1 m1 k0
  have c0 := (unhide D).cell 1 rfl
  have g0 := (unhide D).row.free 1 (show 1 < 22 by decide)
  replace D := hide (show DSt W (u1.setCell ⟨A + 2, 1, none⟩ (.int .i64 a0)) (A + 1) (A + 2) A (msgCells { MsgV.zero with kind := 7, move := a0 } none 0 none 0) s k1 z1 from (unhide D).put 1 (show 1 < 22 by decide) (.int .i64 a0))
  obtain ⟨v1, hv⟩ : ∃ v, v = u1.setCell ⟨A + 2, 1, none⟩ (.int .i64 a0) := ⟨_, rfl⟩
  rw [← hv] at D
  have HV := hide hv
  clear hv
  go_upto_region 10 with fail
  rw [← unhide HV]
  clear HV c0 g0
  have k0 : v1.cell? ⟨A + 2, 0, none⟩ = some (.int .u8 7) := (unhide D).cell 0 rfl
  clear v0
  go_wp2_with fail
  refine (Rf.refin_most (unhide D).inn 2147483647 (by decide)).mono ?_
  rintro e u2 ⟨rfl, i1, m1⟩
  have G1 := hide (Rf.Got.most 2147483647 s k1 z1)
  generalize (((outMost (2147483647 : Nat) s k1 z1).1 : Nat) : Int) = a1 at *
  generalize ahead k1 (outMost (2147483647 : Nat) s k1 z1).2.1 (outMost (2147483647 : Nat) s k1 z1).2.2 = k2 at *
  generalize (outMost (2147483647 : Nat) s k1 z1).2.2 = z2 at *
  replace D := hide ((unhide D).goes m1 i1)
  clear i1 m1 k0
  have c0 := (unhide D).cell 2 rfl
  have g0 := (unhide D).row.free 2 (show 2 < 22 by decide)
  replace D := hide (show DSt W (u2.setCell ⟨A + 2, 2, none⟩ (.int .i64 a1)) (A + 1) (A + 2) A (msgCells { MsgV.zero with kind := 7, move := a0, part := a1 } none 0 none 0) s k2 z2 from (unhide D).put 2 (show 2 < 22 by decide) (.int .i64 a1))
  obtain ⟨v2, hv⟩ : ∃ v, v = u2.setCell ⟨A + 2, 2, none⟩ (.int .i64 a1) := ⟨_, rfl⟩
  rw [← hv] at D
  have HV := hide hv
  clear hv
  go_upto_region 11 with fail
  rw [← unhide HV]
  clear HV c0 g0
  have k0 : v2.cell? ⟨A + 2, 0, none⟩ = some (.int .u8 7) := (unhide D).cell 0 rfl
  clear v1
  go_wp2_with fail
  refine (Rf.refin_most (unhide D).inn 2147483647 (by decide)).mono ?_
  rintro e u3 ⟨rfl, i1, m1⟩
  have G2 := hide (Rf.Got.most 2147483647 s k2 z2)
  generalize (((outMost (2147483647 : Nat) s k2 z2).1 : Nat) : Int) = a2 at *
  generalize ahead k2 (outMost (2147483647 : Nat) s k2 z2).2.1 (outMost (2147483647 : Nat) s k2 z2).2.2 = k3 at *
  generalize (outMost (2147483647 : Nat) s k2 z2).2.2 = z3 at *
  replace D := hide ((unhide D).goes m1 i1)
  clear i1 m1 k0
  have c0 := (unhide D).cell 4 rfl
  have g0 := (unhide D).row.free 4 (show 4 < 22 by decide)
  replace D := hide (show DSt W (u3.setCell ⟨A + 2, 4, none⟩ (.int .i64 a2)) (A + 1) (A + 2) A (msgCells { MsgV.zero with kind := 7, move := a0, part := a1, n := a2 } none 0 none 0) s k3 z3 from (unhide D).put 4 (show 4 < 22 by decide) (.int .i64 a2))
  obtain ⟨v3, hv⟩ : ∃ v, v = u3.setCell ⟨A + 2, 4, none⟩ (.int .i64 a2) := ⟨_, rfl⟩
  rw [← hv] at D
  have HV := hide hv
  clear hv
  go_upto_region 26 with fail
  rw [← unhide HV]
  clear HV c0 g0
  have k0 : v3.cell? ⟨A + 2, 0, none⟩ = some (.int .u8 7) := (unhide D).cell 0 rfl
  clear v2
  go_wp2_with fail
  refine (Rf.refitem_any (unhide D).inn).mono ?_
  rintro e u4 ⟨a3, k4, z4, rfl, i1, m1, hg⟩
  have G3 := hide hg
  replace D := hide ((unhide D).goes m1 i1)
  clear i1 m1 k0 hg
  have hth := (unhide D).row.thereMid 9 8 (show 9 + 8 ≤ 22 by decide)
  replace D := hide (show DSt W (u4.setCells (A + 2) 9 (itemCells a3)) (A + 1) (A + 2) A (msgCells { MsgV.zero with kind := 7, move := a0, part := a1, n := a2, item := a3 } none 0 none 0) s k4 z4 from (unhide D).puts 9 (itemCells a3) (show 9 + 8 ≤ 22 by decide))
  obtain ⟨v4, hv⟩ : ∃ v, v = u4.setCells (A + 2) 9 (itemCells a3) := ⟨_, rfl⟩
  rw [← hv] at D
  have HV := hide hv
  have HT := hide hth
  clear hv hth
  go_upto_region 44 with (refine wpList_store_mid rfl 24 (.tmp 109) (.tmp 108) rfl (A + 2) 9 (itemCells a3).toArray rfl rfl (unhide HT) (by kernel_rfl) (by simp [itemCells, Value.oneCell']) ?_; change wpList _ _ _ _ _ (World.setCells _ (A + 2) 9 (itemCells a3)); rw [← unhide HV])
  clear HV HT
  have k0 : v4.cell? ⟨A + 2, 0, none⟩ = some (.int .u8 7) := (unhide D).cell 0 rfl
  clear v3
  have HG := hide (got_none (m := { MsgV.zero with kind := 7, move := a0, part := a1, n := a2, item := a3 }) (unhide HL) (by decide) (show Rf.Got b7 s 1 0 (f7 (a0, a1, a2, a3)) k4 z4 from Rf.Got.map (g := f7) (a := (a0, a1, a2, a3)) (Rf.Got.seq (unhide G0) (Rf.Got.seq (unhide G1) (Rf.Got.seq (unhide G2) (unhide G3))))))
  clear G0 G1 G2 G3 HL
  have hfl := (unhide D).inn.fault
  have hpl := (unhide D).inn.place
  by_cases hf : z4 = 0
  · by_cases hk : k4 < s.size
    · have HR := hide ((unhide HG).2.1 hf hk)
      subst hf
      have hfl' : v4.cell? ⟨A + 1, 2, none⟩ = some (.int .i64 0) := hfl
      have hk' : (k4 : Int) < (s.size : Int) := by omega
      have HT := hide (unhide D).res.there
      have HRG := hide (unhide D).res.range
      clear hfl HG hk
      go_wp2_with (refine wpList_store_mid rfl 29 (.tmp 2) (.tmp 135) rfl A 0 (msgCells MsgV.zero none 0 none 0).toArray rfl rfl (unhide HT) (by kernel_rfl) (cells_one MsgV.zero none none 0 0) ?_; change wpList _ _ _ _ _ (World.setCells _ A 0 (msgCells MsgV.zero none 0 none 0)); rw [setCells_self _ (unhide HRG)])
      refine bodyPost_ret (v := .tuple #[.agg (msgCells MsgV.zero none 0 none 0).toArray, .int .i64 8]) ?_ rfl ?_
      · exact results_cell_tmp Tryd.results14 _ v4 A _ _ rfl (unhide HRG) Tryd.underlying29 rfl (by kernel_rfl)
      · exact rpost_zero ((unhide HM).trans (unhide D).moved fun i hi => .inr (by have := unhide HA; omega)) (unhide HR)
    · have HR := hide ((unhide HG).2.2 hf hk)
      subst hf
      have hfl' : v4.cell? ⟨A + 1, 2, none⟩ = some (.int .i64 0) := hfl
      have hk' : ¬ ((k4 : Int) < (s.size : Int)) := by omega
      have HT := hide (unhide D).res.there
      have hrg := (unhide D).row.range
      have HRW := hide ((unhide D).res.put (msgCells { MsgV.zero with kind := 7, move := a0, part := a1, n := a2, item := a3 } none 0 none 0) rfl).range
      have HRG := hide hrg
      clear hfl HG hk hrg
      go_upto_region 48 with fail
      go_step
      refine wpList_load_mid rfl 29 (.tmp 5) rfl (A + 2) 0 rfl (msgCells { MsgV.zero with kind := 7, move := a0, part := a1, n := a2, item := a3 } none 0 none 0) _ (unhide HRG) Tryd.underlying29 rfl (by kernel_rfl) ?_
      refine wpList_store_mid rfl 29 (.tmp 2) (.tmp 136) rfl A 0 (msgCells { MsgV.zero with kind := 7, move := a0, part := a1, n := a2, item := a3 } none 0 none 0).toArray rfl rfl (unhide HT) (by kernel_rfl) (cells_one { MsgV.zero with kind := 7, move := a0, part := a1, n := a2, item := a3 } none none 0 0) ?_
      change wpList _ _ _ _ _ (v4.setCells A 0 (msgCells { MsgV.zero with kind := 7, move := a0, part := a1, n := a2, item := a3 } none 0 none 0))
      have HMF := hide (setCells_moved v4 A 0 (msgCells { MsgV.zero with kind := 7, move := a0, part := a1, n := a2, item := a3 } none 0 none 0))
      generalize v4.setCells A 0 (msgCells { MsgV.zero with kind := 7, move := a0, part := a1, n := a2, item := a3 } none 0 none 0) = wf at *
      go_wp2_with fail
      refine bodyPost_ret (v := .tuple #[.agg (msgCells { MsgV.zero with kind := 7, move := a0, part := a1, n := a2, item := a3 } none 0 none 0).toArray, .int .i64 0]) ?_ rfl ?_
      · exact results_cell_tmp Tryd.results14 _ wf A _ _ rfl (unhide HRW) Tryd.underlying29 rfl (by kernel_rfl)
      · exact rpost_msg (((unhide HM).trans (unhide D).moved fun i hi => .inr (by have := unhide HA; omega)).trans (unhide HMF) fun i hi => .inr (by have := unhide HA; omega)) (unhide HR) (ints_nil _ _) (ints_nil _ _) (fun y hy => by
          rcases hy with h | h
          · cases h
          · cases h)
  · have HR := hide ((unhide HG).1 hf)
    have hf' : ¬ ((z4 : Int) = 0) := by omega
    clear HG hf
    go_upto_region 45 with fail
    let St : World → Prop := fun v => DSt W v (A + 1) (A + 2) A (msgCells { MsgV.zero with kind := 7, move := a0, part := a1, n := a2, item := a3 } none 0 none 0) s k4 z4
    have st : St v4.drew := (unhide D).drew
    have ne : Nonempty (SW St) := ⟨⟨_, st⟩⟩
    have fs : ∀ p : SW St, p.w.cell? ⟨A + 1, 2, none⟩ = some (.int .i64 (z4 : Int)) := fun p => p.ok.inn.fault
    clear hfl hpl k0
    refine wp_region_sw (St := St) (by kernel_rfl) (by kernel_rfl) st ?_
    go_big_quiet_step (fail)
    go_big_quiet_step (fail)
    go_big_quiet_step (fail)
    go_big_quiet_step (fail)
    go_big_quiet_step (fail)
    refine wpQuiet_store_same rfl 29 (.tmp 2) (.tmp 123) rfl A 0 (msgCells MsgV.zero none 0 none 0).toArray rfl rfl (fun v ⟨p, hp⟩ => by rw [hp]; exact p.ok.res.there) (fun v ⟨p, hp⟩ => by rw [hp]; exact p.ok.res.range) (by kernel_rfl) (cells_one MsgV.zero none none 0 0) ?_
    go_simp
    go_big_quiet_step (fail)
    refine wpQuiet_nil ?_
    rintro ⟨w9, st9⟩
    dsimp only
    have S9 := hide (show DSt W w9 (A + 1) (A + 2) A (msgCells { MsgV.zero with kind := 7, move := a0, part := a1, n := a2, item := a3 } none 0 none 0) s k4 z4 from st9)
    clear st9
    go_wp2_with fail
    refine bodyPost_ret (v := .tuple #[.agg (msgCells MsgV.zero none 0 none 0).toArray, .int .i64 (z4 : Int)]) ?_ rfl ?_
    · exact results_cell_tmp Tryd.results14 _ w9 A _ _ rfl (unhide S9).res.range Tryd.underlying29 rfl (by kernel_rfl)
    · exact rpost_zero ((unhide HM).trans (unhide S9).moved fun i hi => .inr (by have := unhide HA; omega)) (unhide HR)
end Go.Proofs.YtkbmbcmcnpeabaaDoor

namespace Go.Proofs.YtkbmbcmcnpeabaaDoor
open Pk Go.RowKit

set_option maxHeartbeats 8000000 in
set_option maxRecDepth 100000 in
theorem refread_14 (s : ByteArray) (t : List UInt8) (hs : s.size ≤ 1099511627776) (w : World) (hl : s.data.toList = 14 :: t) : Calls Tryd.prog 14 #[.string s] w (RPost s w) := by
  obtain ⟨A, hA⟩ : ∃ A, A = w.heap.size := ⟨_, rfl⟩
  obtain ⟨W, hW⟩ : ∃ W, W = ((w.alloc (.cells (msgCells MsgV.zero none 0 none 0).toArray 29)).alloc (.cells #[.string s, .int .i64 0, .int .i64 0] 79)).alloc (.cells (msgCells MsgV.zero none 0 none 0).toArray 29) := ⟨_, rfl⟩
  obtain ⟨d0, mw⟩ := dst_laid hs hA hW
  have D := hide d0
  have HW := hide hW
  have HA := hide hA
  have HM := hide mw
  have HL := hide hl
  clear d0 mw hW hA hl hs
  go_enter Tryd.func14, Tryd.ntmps14
  go_wp2_with fail
  rw [← unhide HA]
  change Calls Tryd.prog 39 _ (((w.alloc (.cells (msgCells MsgV.zero none 0 none 0).toArray 29)).alloc (.cells #[.string s, .int .i64 0, .int .i64 0] 79)).alloc (.cells (msgCells MsgV.zero none 0 none 0).toArray 29)) _
  rw [← unhide HW]
  refine (Rf.refin_byte (unhide D).inn).mono ?_
  rw [show outByte s 0 0 = (14, 1, 0) by unfold outByte; rw [if_pos rfl, List.drop_zero, unhide HL]; rfl]
  rintro e w1 ⟨rfl, i1, m1⟩
  change InAt w1 (A + 1) s 1 0 at i1
  replace D := hide ((unhide D).goes m1 i1)
  have c0 := (unhide D).cell 0 rfl
  have g0 := (unhide D).row.free 0 (show 0 < 22 by decide)
  replace D := hide (show DSt W (w1.setCell ⟨A + 2, 0, none⟩ (.int .u8 14)) (A + 1) (A + 2) A (msgCells { MsgV.zero with kind := 14 } none 0 none 0) s 1 0 from (unhide D).put 0 (show 0 < 22 by decide) (.int .u8 14))
  have f0 : (w1.setCell ⟨A + 2, 0, none⟩ (.int .u8 14)).cell? ⟨A + 1, 2, none⟩ = some (.int .i64 0) := (unhide D).inn.fault
  clear i1 m1
  go_upto_region 6 with fail
  generalize w1.setCell ⟨A + 2, 0, none⟩ (.int .u8 14) = v0 at *
  have k0 : v0.cell? ⟨A + 2, 0, none⟩ = some (.int .u8 14) := (unhide D).cell 0 rfl
  clear c0 g0 w1 f0
  go_wp2_with fail
  have hB := (unhide D).row.lt
  have HB := hide hB
  clear hB
  refine (Rf.reftable_any (unhide D).inn).mono ?_
  rintro e u1 ⟨e0, e1, vo, lo, k1, z1, rfl, how, i1, m1, hg⟩
  have G0 := hide hg
  obtain ⟨ao, co, hvo, hio, hbo⟩ := ints_of (l := lo) how
  subst hvo
  replace D := hide ((unhide D).goes m1 i1)
  clear i1 m1 k0 hg how
  have hth := (unhide D).row.thereMid 17 3 (show 17 + 3 ≤ 22 by decide)
  replace D := hide (show DSt W (u1.setCells (A + 2) 17 [.int .i64 e0, .int .i64 e1, .slice ao lo.length co]) (A + 1) (A + 2) A (msgCells { MsgV.zero with kind := 14, epoch := e0, nodes := e1, owner := lo } ao co none 0) s k1 z1 from (unhide D).puts 17 [.int .i64 e0, .int .i64 e1, .slice ao lo.length co] (show 17 + 3 ≤ 22 by decide))
  have HI : Hid (Ints (u1.setCells (A + 2) 17 [.int .i64 e0, .int .i64 e1, .slice ao lo.length co]) ao lo ∧ ∀ y, ao = some y → A + 3 ≤ y.block) := hide ⟨ints_beside hio (setCells_moved u1 (A + 2) 17 _) fun y hy h => by have := (hbo y hy).1; have := unhide HB; omega, fun y hy => by have := (hbo y hy).1; have := unhide HB; omega⟩
  obtain ⟨v1, hv⟩ : ∃ v, v = u1.setCells (A + 2) 17 [.int .i64 e0, .int .i64 e1, .slice ao lo.length co] := ⟨_, rfl⟩
  rw [← hv] at D HI
  have HV := hide hv
  have HT := hide hth
  clear hv hth HB hio hbo
  go_upto_region 44 with (refine wpList_store_mid rfl 27 (.tmp 91) (.tmp 90) rfl (A + 2) 17 #[.int .i64 e0, .int .i64 e1, .slice ao lo.length co] rfl rfl (unhide HT) (by kernel_rfl) (by simp [Value.oneCell']) ?_; change wpList _ _ _ _ _ (World.setCells _ (A + 2) 17 [.int .i64 e0, .int .i64 e1, .slice ao lo.length co]); rw [← unhide HV])
  clear HV HT
  have k0 : v1.cell? ⟨A + 2, 0, none⟩ = some (.int .u8 14) := (unhide D).cell 0 rfl
  clear v0
  have HG := hide (got_none (m := { MsgV.zero with kind := 14, epoch := e0, nodes := e1, owner := lo }) (unhide HL) (by decide) (show Rf.Got b14 s 1 0 (f14 ((e0, e1, lo))) k1 z1 from Rf.Got.map (g := f14) (a := ((e0, e1, lo))) (unhide G0)))
  clear G0 HL
  have hfl := (unhide D).inn.fault
  have hpl := (unhide D).inn.place
  by_cases hf : z1 = 0
  · by_cases hk : k1 < s.size
    · have HR := hide ((unhide HG).2.1 hf hk)
      subst hf
      have hfl' : v1.cell? ⟨A + 1, 2, none⟩ = some (.int .i64 0) := hfl
      have hk' : (k1 : Int) < (s.size : Int) := by omega
      have HT := hide (unhide D).res.there
      have HRG := hide (unhide D).res.range
      clear hfl HG hk
      go_wp2_with (refine wpList_store_mid rfl 29 (.tmp 2) (.tmp 135) rfl A 0 (msgCells MsgV.zero none 0 none 0).toArray rfl rfl (unhide HT) (by kernel_rfl) (cells_one MsgV.zero none none 0 0) ?_; change wpList _ _ _ _ _ (World.setCells _ A 0 (msgCells MsgV.zero none 0 none 0)); rw [setCells_self _ (unhide HRG)])
      refine bodyPost_ret (v := .tuple #[.agg (msgCells MsgV.zero none 0 none 0).toArray, .int .i64 8]) ?_ rfl ?_
      · exact results_cell_tmp Tryd.results14 _ v1 A _ _ rfl (unhide HRG) Tryd.underlying29 rfl (by kernel_rfl)
      · exact rpost_zero ((unhide HM).trans (unhide D).moved fun i hi => .inr (by have := unhide HA; omega)) (unhide HR)
    · have HR := hide ((unhide HG).2.2 hf hk)
      subst hf
      have hfl' : v1.cell? ⟨A + 1, 2, none⟩ = some (.int .i64 0) := hfl
      have hk' : ¬ ((k1 : Int) < (s.size : Int)) := by omega
      have HT := hide (unhide D).res.there
      have hrg := (unhide D).row.range
      have HRW := hide ((unhide D).res.put (msgCells { MsgV.zero with kind := 14, epoch := e0, nodes := e1, owner := lo } ao co none 0) rfl).range
      have HRG := hide hrg
      clear hfl HG hk hrg
      go_upto_region 48 with fail
      go_step
      refine wpList_load_mid rfl 29 (.tmp 5) rfl (A + 2) 0 rfl (msgCells { MsgV.zero with kind := 14, epoch := e0, nodes := e1, owner := lo } ao co none 0) _ (unhide HRG) Tryd.underlying29 rfl (by kernel_rfl) ?_
      refine wpList_store_mid rfl 29 (.tmp 2) (.tmp 136) rfl A 0 (msgCells { MsgV.zero with kind := 14, epoch := e0, nodes := e1, owner := lo } ao co none 0).toArray rfl rfl (unhide HT) (by kernel_rfl) (cells_one { MsgV.zero with kind := 14, epoch := e0, nodes := e1, owner := lo } ao none co 0) ?_
      change wpList _ _ _ _ _ (v1.setCells A 0 (msgCells { MsgV.zero with kind := 14, epoch := e0, nodes := e1, owner := lo } ao co none 0))
      have HMF := hide (setCells_moved v1 A 0 (msgCells { MsgV.zero with kind := 14, epoch := e0, nodes := e1, owner := lo } ao co none 0))
      generalize v1.setCells A 0 (msgCells { MsgV.zero with kind := 14, epoch := e0, nodes := e1, owner := lo } ao co none 0) = wf at *
      go_wp2_with fail
      refine bodyPost_ret (v := .tuple #[.agg (msgCells { MsgV.zero with kind := 14, epoch := e0, nodes := e1, owner := lo } ao co none 0).toArray, .int .i64 0]) ?_ rfl ?_
      · exact results_cell_tmp Tryd.results14 _ wf A _ _ rfl (unhide HRW) Tryd.underlying29 rfl (by kernel_rfl)
      · exact rpost_msg (((unhide HM).trans (unhide D).moved fun i hi => .inr (by have := unhide HA; omega)).trans (unhide HMF) fun i hi => .inr (by have := unhide HA; omega)) (unhide HR) (ints_beside (unhide HI).1 (unhide HMF) fun y hy h => by have := (unhide HI).2 y hy; omega) (ints_nil _ _) (fun y hy => by
          rcases hy with h | h
          · have := (unhide HI).2 y h; have := unhide HA; omega
          · cases h)
  · have HR := hide ((unhide HG).1 hf)
    have hf' : ¬ ((z1 : Int) = 0) := by omega
    clear HG hf
    go_upto_region 45 with fail
    let St : World → Prop := fun v => DSt W v (A + 1) (A + 2) A (msgCells { MsgV.zero with kind := 14, epoch := e0, nodes := e1, owner := lo } ao co none 0) s k1 z1
    have st : St v1.drew := (unhide D).drew
    have ne : Nonempty (SW St) := ⟨⟨_, st⟩⟩
    have fs : ∀ p : SW St, p.w.cell? ⟨A + 1, 2, none⟩ = some (.int .i64 (z1 : Int)) := fun p => p.ok.inn.fault
    clear hfl hpl k0
    refine wp_region_sw (St := St) (by kernel_rfl) (by kernel_rfl) st ?_
    go_big_quiet_step (fail)
    go_big_quiet_step (fail)
    go_big_quiet_step (fail)
    go_big_quiet_step (fail)
    go_big_quiet_step (fail)
    refine wpQuiet_store_same rfl 29 (.tmp 2) (.tmp 123) rfl A 0 (msgCells MsgV.zero none 0 none 0).toArray rfl rfl (fun v ⟨p, hp⟩ => by rw [hp]; exact p.ok.res.there) (fun v ⟨p, hp⟩ => by rw [hp]; exact p.ok.res.range) (by kernel_rfl) (cells_one MsgV.zero none none 0 0) ?_
    go_simp
    go_big_quiet_step (fail)
    refine wpQuiet_nil ?_
    rintro ⟨w9, st9⟩
    dsimp only
    have S9 := hide (show DSt W w9 (A + 1) (A + 2) A (msgCells { MsgV.zero with kind := 14, epoch := e0, nodes := e1, owner := lo } ao co none 0) s k1 z1 from st9)
    clear st9
    go_wp2_with fail
    refine bodyPost_ret (v := .tuple #[.agg (msgCells MsgV.zero none 0 none 0).toArray, .int .i64 (z1 : Int)]) ?_ rfl ?_
    · exact results_cell_tmp Tryd.results14 _ w9 A _ _ rfl (unhide S9).res.range Tryd.underlying29 rfl (by kernel_rfl)
    · exact rpost_zero ((unhide HM).trans (unhide S9).moved fun i hi => .inr (by have := unhide HA; omega)) (unhide HR)
end Go.Proofs.YtkbmbcmcnpeabaaDoor

namespace Go.Proofs.YtkbmbcmcnpeabaaDoor
open Pk Go.RowKit

set_option maxHeartbeats 8000000 in
set_option maxRecDepth 100000 in
theorem refread_6 (s : ByteArray) (t : List UInt8) (hs : s.size ≤ 1099511627776) (w : World) (hl : s.data.toList = 6 :: t) : Calls Tryd.prog 14 #[.string s] w (RPost s w) := by
  obtain ⟨A, hA⟩ : ∃ A, A = w.heap.size := ⟨_, rfl⟩
  obtain ⟨W, hW⟩ : ∃ W, W = ((w.alloc (.cells (msgCells MsgV.zero none 0 none 0).toArray 29)).alloc (.cells #[.string s, .int .i64 0, .int .i64 0] 79)).alloc (.cells (msgCells MsgV.zero none 0 none 0).toArray 29) := ⟨_, rfl⟩
  obtain ⟨d0, mw⟩ := dst_laid hs hA hW
  have D := hide d0
  have HW := hide hW
  have HA := hide hA
  have HM := hide mw
  have HL := hide hl
  clear d0 mw hW hA hl hs
  go_enter Tryd.func14, Tryd.ntmps14
  go_wp2_with fail
  rw [← unhide HA]
  change Calls Tryd.prog 39 _ (((w.alloc (.cells (msgCells MsgV.zero none 0 none 0).toArray 29)).alloc (.cells #[.string s, .int .i64 0, .int .i64 0] 79)).alloc (.cells (msgCells MsgV.zero none 0 none 0).toArray 29)) _
  rw [← unhide HW]
  refine (Rf.refin_byte (unhide D).inn).mono ?_
  rw [show outByte s 0 0 = (6, 1, 0) by unfold outByte; rw [if_pos rfl, List.drop_zero, unhide HL]; rfl]
  rintro e w1 ⟨rfl, i1, m1⟩
  change InAt w1 (A + 1) s 1 0 at i1
  replace D := hide ((unhide D).goes m1 i1)
  have c0 := (unhide D).cell 0 rfl
  have g0 := (unhide D).row.free 0 (show 0 < 22 by decide)
  replace D := hide (show DSt W (w1.setCell ⟨A + 2, 0, none⟩ (.int .u8 6)) (A + 1) (A + 2) A (msgCells { MsgV.zero with kind := 6 } none 0 none 0) s 1 0 from (unhide D).put 0 (show 0 < 22 by decide) (.int .u8 6))
  have f0 : (w1.setCell ⟨A + 2, 0, none⟩ (.int .u8 6)).cell? ⟨A + 1, 2, none⟩ = some (.int .i64 0) := (unhide D).inn.fault
  clear i1 m1
  go_upto_region 6 with fail
  generalize w1.setCell ⟨A + 2, 0, none⟩ (.int .u8 6) = v0 at *
  have k0 : v0.cell? ⟨A + 2, 0, none⟩ = some (.int .u8 6) := (unhide D).cell 0 rfl
  clear c0 g0 w1 f0
  go_wp2_with fail
  refine (Rf.refin_most (unhide D).inn 2147483647 (by decide)).mono ?_
  rintro e u1 ⟨rfl, i1, m1⟩
  have G0 := hide (Rf.Got.most 2147483647 s 1 0)
  generalize (((outMost (2147483647 : Nat) s 1 0).1 : Nat) : Int) = a0 at *
  generalize ahead 1 (outMost (2147483647 : Nat) s 1 0).2.1 (outMost (2147483647 : Nat) s 1 0).2.2 = k1 at *
  generalize (outMost (2147483647 : Nat) s 1 0).2.2 = z1 at *
  replace D := hide ((unhide D).goes m1 i1)
  clear i1 m1 k0
  have c0 := (unhide D).cell 1 rfl
  have g0 := (unhide D).row.free 1 (show 1 < 22 by decide)
  replace D := hide (show DSt W (u1.setCell ⟨A + 2, 1, none⟩ (.int .i64 a0)) (A + 1) (A + 2) A (msgCells { MsgV.zero with kind := 6, move := a0 } none 0 none 0) s k1 z1 from (unhide D).put 1 (show 1 < 22 by decide) (.int .i64 a0))
  obtain ⟨v1, hv⟩ : ∃ v, v = u1.setCell ⟨A + 2, 1, none⟩ (.int .i64 a0) := ⟨_, rfl⟩
  rw [← hv] at D
  have HV := hide hv
  clear hv
  go_upto_region 10 with fail
  rw [← unhide HV]
  clear HV c0 g0
  have k0 : v1.cell? ⟨A + 2, 0, none⟩ = some (.int .u8 6) := (unhide D).cell 0 rfl
  clear v0
  go_wp2_with fail
  refine (Rf.refin_most (unhide D).inn 2147483647 (by decide)).mono ?_
  rintro e u2 ⟨rfl, i1, m1⟩
  have G1 := hide (Rf.Got.most 2147483647 s k1 z1)
  generalize (((outMost (2147483647 : Nat) s k1 z1).1 : Nat) : Int) = a1 at *
  generalize ahead k1 (outMost (2147483647 : Nat) s k1 z1).2.1 (outMost (2147483647 : Nat) s k1 z1).2.2 = k2 at *
  generalize (outMost (2147483647 : Nat) s k1 z1).2.2 = z2 at *
  replace D := hide ((unhide D).goes m1 i1)
  clear i1 m1 k0
  have c0 := (unhide D).cell 2 rfl
  have g0 := (unhide D).row.free 2 (show 2 < 22 by decide)
  replace D := hide (show DSt W (u2.setCell ⟨A + 2, 2, none⟩ (.int .i64 a1)) (A + 1) (A + 2) A (msgCells { MsgV.zero with kind := 6, move := a0, part := a1 } none 0 none 0) s k2 z2 from (unhide D).put 2 (show 2 < 22 by decide) (.int .i64 a1))
  obtain ⟨v2, hv⟩ : ∃ v, v = u2.setCell ⟨A + 2, 2, none⟩ (.int .i64 a1) := ⟨_, rfl⟩
  rw [← hv] at D
  have HV := hide hv
  clear hv
  go_upto_region 11 with fail
  rw [← unhide HV]
  clear HV c0 g0
  have k0 : v2.cell? ⟨A + 2, 0, none⟩ = some (.int .u8 6) := (unhide D).cell 0 rfl
  clear v1
  go_wp2_with fail
  refine (Rf.refin_most (unhide D).inn 2147483647 (by decide)).mono ?_
  rintro e u3 ⟨rfl, i1, m1⟩
  have G2 := hide (Rf.Got.most 2147483647 s k2 z2)
  generalize (((outMost (2147483647 : Nat) s k2 z2).1 : Nat) : Int) = a2 at *
  generalize ahead k2 (outMost (2147483647 : Nat) s k2 z2).2.1 (outMost (2147483647 : Nat) s k2 z2).2.2 = k3 at *
  generalize (outMost (2147483647 : Nat) s k2 z2).2.2 = z3 at *
  replace D := hide ((unhide D).goes m1 i1)
  clear i1 m1 k0
  have c0 := (unhide D).cell 4 rfl
  have g0 := (unhide D).row.free 4 (show 4 < 22 by decide)
  replace D := hide (show DSt W (u3.setCell ⟨A + 2, 4, none⟩ (.int .i64 a2)) (A + 1) (A + 2) A (msgCells { MsgV.zero with kind := 6, move := a0, part := a1, n := a2 } none 0 none 0) s k3 z3 from (unhide D).put 4 (show 4 < 22 by decide) (.int .i64 a2))
  obtain ⟨v3, hv⟩ : ∃ v, v = u3.setCell ⟨A + 2, 4, none⟩ (.int .i64 a2) := ⟨_, rfl⟩
  rw [← hv] at D
  have HV := hide hv
  clear hv
  go_upto_region 26 with fail
  rw [← unhide HV]
  clear HV c0 g0
  have k0 : v3.cell? ⟨A + 2, 0, none⟩ = some (.int .u8 6) := (unhide D).cell 0 rfl
  clear v2
  go_wp2_with fail
  have hB := (unhide D).row.lt
  have HB := hide hB
  clear hB
  refine (Rf.refnumbers_any (unhide D).inn 1024 (by decide)).mono ?_
  rintro e u4 ⟨vo, lo, k4, z4, rfl, how, i1, m1, hg⟩
  have G3 := hide hg
  obtain ⟨ao, co, hvo, hio, hbo⟩ := ints_of (l := lo) how
  subst hvo
  replace D := hide ((unhide D).goes m1 i1)
  clear i1 m1 k0 hg how
  have c0 := (unhide D).cell 20 rfl
  have g0 := (unhide D).row.free 20 (show 20 < 22 by decide)
  replace D := hide (show DSt W (u4.setCell ⟨A + 2, 20, none⟩ (.slice ao lo.length co)) (A + 1) (A + 2) A (msgCells { MsgV.zero with kind := 6, move := a0, part := a1, n := a2, set := lo } none 0 ao co) s k4 z4 from (unhide D).put 20 (show 20 < 22 by decide) (.slice ao lo.length co))
  have HI : Hid (Ints (u4.setCell ⟨A + 2, 20, none⟩ (.slice ao lo.length co)) ao lo ∧ ∀ y, ao = some y → A + 3 ≤ y.block) := hide ⟨ints_beside hio (Moved.put u4 (A + 2) 20 _) fun y hy h => by have := (hbo y hy).1; have := unhide HB; omega, fun y hy => by have := (hbo y hy).1; have := unhide HB; omega⟩
  obtain ⟨v4, hv⟩ : ∃ v, v = u4.setCell ⟨A + 2, 20, none⟩ (.slice ao lo.length co) := ⟨_, rfl⟩
  rw [← hv] at D HI
  have HV := hide hv
  clear hv HB hio hbo
  go_upto_region 44 with fail
  rw [← unhide HV]
  clear HV c0 g0
  have k0 : v4.cell? ⟨A + 2, 0, none⟩ = some (.int .u8 6) := (unhide D).cell 0 rfl
  clear v3
  have HG := hide (got_none (m := { MsgV.zero with kind := 6, move := a0, part := a1, n := a2, set := lo }) (unhide HL) (by decide) (show Rf.Got b6 s 1 0 (f6 (a0, a1, a2, lo)) k4 z4 from Rf.Got.map (g := f6) (a := (a0, a1, a2, lo)) (Rf.Got.seq (unhide G0) (Rf.Got.seq (unhide G1) (Rf.Got.seq (unhide G2) (unhide G3))))))
  clear G0 G1 G2 G3 HL
  have hfl := (unhide D).inn.fault
  have hpl := (unhide D).inn.place
  by_cases hf : z4 = 0
  · by_cases hk : k4 < s.size
    · have HR := hide ((unhide HG).2.1 hf hk)
      subst hf
      have hfl' : v4.cell? ⟨A + 1, 2, none⟩ = some (.int .i64 0) := hfl
      have hk' : (k4 : Int) < (s.size : Int) := by omega
      have HT := hide (unhide D).res.there
      have HRG := hide (unhide D).res.range
      clear hfl HG hk
      go_wp2_with (refine wpList_store_mid rfl 29 (.tmp 2) (.tmp 135) rfl A 0 (msgCells MsgV.zero none 0 none 0).toArray rfl rfl (unhide HT) (by kernel_rfl) (cells_one MsgV.zero none none 0 0) ?_; change wpList _ _ _ _ _ (World.setCells _ A 0 (msgCells MsgV.zero none 0 none 0)); rw [setCells_self _ (unhide HRG)])
      refine bodyPost_ret (v := .tuple #[.agg (msgCells MsgV.zero none 0 none 0).toArray, .int .i64 8]) ?_ rfl ?_
      · exact results_cell_tmp Tryd.results14 _ v4 A _ _ rfl (unhide HRG) Tryd.underlying29 rfl (by kernel_rfl)
      · exact rpost_zero ((unhide HM).trans (unhide D).moved fun i hi => .inr (by have := unhide HA; omega)) (unhide HR)
    · have HR := hide ((unhide HG).2.2 hf hk)
      subst hf
      have hfl' : v4.cell? ⟨A + 1, 2, none⟩ = some (.int .i64 0) := hfl
      have hk' : ¬ ((k4 : Int) < (s.size : Int)) := by omega
      have HT := hide (unhide D).res.there
      have hrg := (unhide D).row.range
      have HRW := hide ((unhide D).res.put (msgCells { MsgV.zero with kind := 6, move := a0, part := a1, n := a2, set := lo } none 0 ao co) rfl).range
      have HRG := hide hrg
      clear hfl HG hk hrg
      go_upto_region 48 with fail
      go_step
      refine wpList_load_mid rfl 29 (.tmp 5) rfl (A + 2) 0 rfl (msgCells { MsgV.zero with kind := 6, move := a0, part := a1, n := a2, set := lo } none 0 ao co) _ (unhide HRG) Tryd.underlying29 rfl (by kernel_rfl) ?_
      refine wpList_store_mid rfl 29 (.tmp 2) (.tmp 136) rfl A 0 (msgCells { MsgV.zero with kind := 6, move := a0, part := a1, n := a2, set := lo } none 0 ao co).toArray rfl rfl (unhide HT) (by kernel_rfl) (cells_one { MsgV.zero with kind := 6, move := a0, part := a1, n := a2, set := lo } none ao 0 co) ?_
      change wpList _ _ _ _ _ (v4.setCells A 0 (msgCells { MsgV.zero with kind := 6, move := a0, part := a1, n := a2, set := lo } none 0 ao co))
      have HMF := hide (setCells_moved v4 A 0 (msgCells { MsgV.zero with kind := 6, move := a0, part := a1, n := a2, set := lo } none 0 ao co))
      generalize v4.setCells A 0 (msgCells { MsgV.zero with kind := 6, move := a0, part := a1, n := a2, set := lo } none 0 ao co) = wf at *
      go_wp2_with fail
      refine bodyPost_ret (v := .tuple #[.agg (msgCells { MsgV.zero with kind := 6, move := a0, part := a1, n := a2, set := lo } none 0 ao co).toArray, .int .i64 0]) ?_ rfl ?_
      · exact results_cell_tmp Tryd.results14 _ wf A _ _ rfl (unhide HRW) Tryd.underlying29 rfl (by kernel_rfl)
      · exact rpost_msg (((unhide HM).trans (unhide D).moved fun i hi => .inr (by have := unhide HA; omega)).trans (unhide HMF) fun i hi => .inr (by have := unhide HA; omega)) (unhide HR) (ints_nil _ _) (ints_beside (unhide HI).1 (unhide HMF) fun y hy h => by have := (unhide HI).2 y hy; omega) (fun y hy => by
          rcases hy with h | h
          · cases h
          · have := (unhide HI).2 y h; have := unhide HA; omega)
  · have HR := hide ((unhide HG).1 hf)
    have hf' : ¬ ((z4 : Int) = 0) := by omega
    clear HG hf
    go_upto_region 45 with fail
    let St : World → Prop := fun v => DSt W v (A + 1) (A + 2) A (msgCells { MsgV.zero with kind := 6, move := a0, part := a1, n := a2, set := lo } none 0 ao co) s k4 z4
    have st : St v4.drew := (unhide D).drew
    have ne : Nonempty (SW St) := ⟨⟨_, st⟩⟩
    have fs : ∀ p : SW St, p.w.cell? ⟨A + 1, 2, none⟩ = some (.int .i64 (z4 : Int)) := fun p => p.ok.inn.fault
    clear hfl hpl k0
    refine wp_region_sw (St := St) (by kernel_rfl) (by kernel_rfl) st ?_
    go_big_quiet_step (fail)
    go_big_quiet_step (fail)
    go_big_quiet_step (fail)
    go_big_quiet_step (fail)
    go_big_quiet_step (fail)
    refine wpQuiet_store_same rfl 29 (.tmp 2) (.tmp 123) rfl A 0 (msgCells MsgV.zero none 0 none 0).toArray rfl rfl (fun v ⟨p, hp⟩ => by rw [hp]; exact p.ok.res.there) (fun v ⟨p, hp⟩ => by rw [hp]; exact p.ok.res.range) (by kernel_rfl) (cells_one MsgV.zero none none 0 0) ?_
    go_simp
    go_big_quiet_step (fail)
    refine wpQuiet_nil ?_
    rintro ⟨w9, st9⟩
    dsimp only
    have S9 := hide (show DSt W w9 (A + 1) (A + 2) A (msgCells { MsgV.zero with kind := 6, move := a0, part := a1, n := a2, set := lo } none 0 ao co) s k4 z4 from st9)
    clear st9
    go_wp2_with fail
    refine bodyPost_ret (v := .tuple #[.agg (msgCells MsgV.zero none 0 none 0).toArray, .int .i64 (z4 : Int)]) ?_ rfl ?_
    · exact results_cell_tmp Tryd.results14 _ w9 A _ _ rfl (unhide S9).res.range Tryd.underlying29 rfl (by kernel_rfl)
    · exact rpost_zero ((unhide HM).trans (unhide S9).moved fun i hi => .inr (by have := unhide HA; omega)) (unhide HR)
end Go.Proofs.YtkbmbcmcnpeabaaDoor

/- The document's own Only: a message with the fields of its kind alone. Condition: its lists lie in memory; its kind is one. -/
import Derived.Test.YtkbmbcmcnpeabaaDoorRowMem
import Derived.Test.YtkbmbcmcnpeabaaDoorRefMem
namespace Go.Proofs.YtkbmbcmcnpeabaaDoor
open Pk Go.RowKit

set_option maxHeartbeats 8000000 in
set_option maxRecDepth 100000 in
theorem refonly_1 (m : MsgV) (a1 a2 : Option Addr) (c1 c2 : Nat) (w : World) (hk : m.kind = 1) :
    Calls Tryd.prog 54 #[.agg (msgCells m a1 c1 a2 c2).toArray] w fun e w' => e = .returned (.agg (msgCells (only m) none 0 none 0).toArray) ∧ Moved (fun _ => False) w w' := by
  obtain ⟨A, hA⟩ : ∃ A, A = w.heap.size := ⟨_, rfl⟩
  obtain ⟨w0, hw0⟩ : ∃ w0, w0 = (w.alloc (.cells (msgCells m a1 c1 a2 c2).toArray 29)).alloc (.cells #[.int .u8 0, .int .i64 0, .int .i64 0, .int .i64 0, .int .i64 0, .int .i64 0, .int .i64 0, .int .u64 0, .int .i64 0, .int .i64 0, .int .i64 0, .int .i64 0, .int .u8 0, .string ⟨#[]⟩, .int .i64 0, .int .i64 0, .int .i64 0, .int .i64 0, .int .i64 0, .slice none 0 0, .slice none 0 0, .string ⟨#[]⟩] 29) := ⟨_, rfl⟩
  have m0 : Moved (fun _ => False) w w0 := by rw [hw0]; exact ((Moved.refl _ _).alloc _).alloc _
  have RA : Hid (RowAt w0 A (msgCells m a1 c1 a2 c2)) := hide (by rw [hw0, hA]; exact row_old (row_new _ _ _) _)
  have RR : Hid (RowAt w0 (A + 1) (msgCells MsgV.zero none 0 none 0)) := hide (by rw [hw0, hA]; exact row_new2 _ (msgCells MsgV.zero none 0 none 0) _ _ _)
  have hsz : w0.heap.size = A + 2 := by rw [hw0, hA]; simp
  have HK := hide hk
  have HW := hide hw0
  have HA := hide hA
  have HM := hide m0
  have k0 : w0.cell? ⟨A, 0, none⟩ = some (.int .u8 1) := by have := (unhide RA).cell 0 (show 0 < 22 by decide); rw [this]; show some (Value.int .u8 ((m.kind.toNat : Nat) : Int)) = _; rw [hk]; rfl
  obtain ⟨w1, hu, hrow, hmf, hth⟩ := keep_at w0 { MsgV.zero with kind := 1 } none none 0 0
  have U1 := hide hu
  have T1 := hide hth
  have hX : Hid (w0.heap.size = A + 2) := hide hsz
  replace RA := hide ((unhide RA).keep hmf id)
  replace RR := hide ((unhide RR).keep hmf id)
  have RX := hide hrow
  have MV := hide hmf
  clear hk hw0 hA m0 hu hrow hmf hth hsz
  go_enter Tryd.func54, Tryd.ntmps54
  go_upto_region 1 with fail
  rw [← unhide HA, ← unhide HW]
  go_upto_region 2 with (refine wpList_store_mid rfl 29 (.tmp 3) (.tmp 7) rfl w0.heap.size 0 (msgCells { MsgV.zero with kind := 1 } none 0 none 0).toArray rfl rfl (unhide T1) (by kernel_rfl) (cells_one { MsgV.zero with kind := 1 } none none 0 0) ?_; change wpList _ _ _ _ _ (World.setCells _ w0.heap.size 0 (msgCells { MsgV.zero with kind := 1 } none 0 none 0)); rw [unhide U1]; clear T1 U1)
  generalize hXX : w0.heap.size = X at *
  replace hX := hide (show X = A + 2 from unhide hX)
  clear hXX k0
  have k0 : w1.cell? ⟨A, 0, none⟩ = some (.int .u8 1) := by have := (unhide RA).cell 0 (show 0 < 22 by decide); rw [this]; show some (Value.int .u8 ((m.kind.toNat : Nat) : Int)) = _; rw [unhide HK]; rfl
  replace MV := hide ((unhide MV).mono (G := fun j => j = X) (fun _ f => f.elim))
  go_upto_region 5 with fail
  have k9 : w1.cell? ⟨A, 9, none⟩ = some (.int .i64 m.item.src) := (unhide RA).cell 9 (show 9 < 22 by decide)
  have k10 : w1.cell? ⟨A, 10, none⟩ = some (.int .i64 m.item.seq) := (unhide RA).cell 10 (show 10 < 22 by decide)
  obtain ⟨w2, hu, hrow, hmf, hth⟩ := keep_row w1 24 [.int .i64 0, .int .i64 0, .int .i64 0, .int .u8 0, .string ⟨#[]⟩, .int .i64 0, .int .i64 0, .int .i64 0] [.int .i64 m.item.src, .int .i64 m.item.seq, .int .i64 0, .int .u8 0, .string ⟨#[]⟩, .int .i64 0, .int .i64 0, .int .i64 0] rfl
  have U2 := hide hu
  have T2 := hide hth
  have mf := hide hmf
  have hrw := hide hrow
  clear hu hth hmf hrow
  go_upto_region 6 with (refine wpList_store_mid rfl 24 (.tmp 4) (.tmp 28) rfl w1.heap.size 0 #[.int .i64 m.item.src, .int .i64 m.item.seq, .int .i64 0, .int .u8 0, .string ⟨#[]⟩, .int .i64 0, .int .i64 0, .int .i64 0] rfl rfl (unhide T2) (by kernel_rfl) (by simp [Value.oneCell']) ?_; change wpList _ _ _ _ _ (World.setCells _ w1.heap.size 0 [.int .i64 m.item.src, .int .i64 m.item.seq, .int .i64 0, .int .u8 0, .string ⟨#[]⟩, .int .i64 0, .int .i64 0, .int .i64 0]); rw [unhide U2])
  have hS : Hid (X < w1.heap.size ∧ A + 1 < w1.heap.size) := hide ⟨(unhide RX).lt, (unhide RR).lt⟩
  replace RA := hide ((unhide RA).keep (unhide mf) id)
  replace RR := hide ((unhide RR).keep (unhide mf) id)
  replace RX := hide ((unhide RX).keep (unhide mf) id)
  replace MV := hide ((unhide MV).trans (unhide mf) fun _ f => f.elim)
  have RS := hrw
  generalize hYY : w1.heap.size = Y at *
  clear hYY k9 k10 k0 T2 U2 mf hrw
  have k0 : w2.cell? ⟨A, 0, none⟩ = some (.int .u8 1) := by have := (unhide RA).cell 0 (show 0 < 22 by decide); rw [this]; show some (Value.int .u8 ((m.kind.toNat : Nat) : Int)) = _; rw [unhide HK]; rfl
  go_upto_region 8 with fail
  obtain ⟨w3, hw⟩ : ∃ w', w2.setCells X 9 (itemCells m.item) = w' := ⟨_, rfl⟩
  have mw : Moved (fun j => j = X) w2 w3 := by rw [← hw]; exact setCells_moved _ _ _ _
  have rx : RowAt w3 X (setsL (msgCells { MsgV.zero with kind := 1 } none 0 none 0) 9 (itemCells m.item)) := by rw [← hw]; exact (unhide RX).sets (itemCells m.item) 9 (show 9 + 8 ≤ 22 by decide)
  have hth := hide ((unhide RX).thereMid 9 8 (show 9 + 8 ≤ 22 by decide))
  have rng := hide (range8 (unhide RA))
  have HWN := hide hw
  clear hw
  go_upto_region 38 with (first | (refine wpList_load_on rfl 24 (.tmp 33) rfl A 9 rfl (itemCells m.item) _ (unhide rng) Tryd.underlying24 rfl (by kernel_rfl) ?_) | (refine wpList_store_mid rfl 24 (.tmp 35) (.tmp 34) rfl X 9 (itemCells m.item).toArray rfl rfl (unhide hth) (by kernel_rfl) (by simp [itemCells, Value.oneCell']) ?_; change wpList _ _ _ _ _ (w2.setCells X 9 (itemCells m.item)); rw [unhide HWN]))
  replace RA := hide ((unhide RA).keep mw (by have := unhide hX; omega))
  replace RR := hide ((unhide RR).keep mw (by have := unhide hX; omega))
  replace RX := hide rx
  replace MV := hide ((unhide MV).trans mw fun _ h => .inl h)
  clear mw rx HWN hth rng k0
  have k0 : w3.cell? ⟨A, 0, none⟩ = some (.int .u8 1) := by have := (unhide RA).cell 0 (show 0 < 22 by decide); rw [this]; show some (Value.int .u8 ((m.kind.toNat : Nat) : Int)) = _; rw [unhide HK]; rfl
  have hfin : (msgCells (only m) none 0 none 0) = (setsL (msgCells { MsgV.zero with kind := 1 } none 0 none 0) 9 (itemCells m.item)) := by
    have hk := unhide HK
    have e : only m = only { m with kind := 1 } := by rw [← hk]
    rw [e]
    rfl
  have RX2 := unhide RX
  rw [← hfin] at RX2
  have hrg := hide RX2.range
  have hth := hide (unhide RR).there
  have RF := hide ((unhide RR).put (msgCells (only m) none 0 none 0) rfl).range
  have mset := setCells_moved w3 (A + 1) 0 (msgCells (only m) none 0 none 0)
  have MF := hide (((unhide HM).trans (unhide MV) fun i hi => .inr (by have := unhide hX; have := unhide HA; omega)).trans mset fun i hi => .inr (by have := unhide HA; omega))
  have RFF := hide hfin
  clear mset RX2 hfin k0
  obtain ⟨cs, hcs⟩ : ∃ cs, (msgCells (only m) none 0 none 0) = cs := ⟨_, rfl⟩
  have hone := cells_one (only m) none none 0 0
  have hlen : cs.length = 22 := by rw [← hcs]; rfl
  rw [hcs] at hrg RF MF hone
  have HCS := hide hcs
  have HONE := hide hone
  have hi22 : (Tryd.prog.info? 29).map (·.size) = some cs.length := by rw [hlen]; kernel_rfl
  have hi22' : (Tryd.prog.info? 29).map (·.size) = some cs.toArray.size := by rw [List.size_toArray, hlen]; kernel_rfl
  have hth' : Hid (w3.there (A + 1) 0 cs.toArray.size) := hide (by rw [List.size_toArray, hlen]; exact unhide hth)
  have HI := hide (And.intro hi22 hi22')
  clear hcs hone hlen hth hi22 hi22'
  obtain ⟨wf, hwf⟩ : ∃ wf, w3.setCells (A + 1) 0 cs = wf := ⟨_, rfl⟩
  rw [hwf] at RF MF
  have HWF := hide hwf
  clear hwf
  go_wp2_with (first | (refine wpList_load_on rfl 29 (.tmp 3) rfl X 0 rfl cs _ (unhide hrg) Tryd.underlying29 rfl (unhide HI).1 ?_) | (refine wpList_store_mid rfl 29 (.tmp 2) (.tmp 109) rfl (A + 1) 0 cs.toArray rfl rfl (unhide hth') (unhide HI).2 (unhide HONE) ?_; change wpList _ _ _ _ _ (w3.setCells (A + 1) 0 cs); rw [unhide HWF]))
  refine bodyPost_ret (v := .agg cs.toArray) ?_ rfl ?_
  · exact results_cell_mid Tryd.results54 _ wf (A + 1) _ _ rfl (unhide RF) Tryd.underlying29 rfl (unhide HI).1
  · exact ⟨by rw [unhide HCS], unhide MF⟩
set_option maxHeartbeats 8000000 in
set_option maxRecDepth 100000 in
theorem refonly_2 (m : MsgV) (a1 a2 : Option Addr) (c1 c2 : Nat) (w : World) (hk : m.kind = 2) :
    Calls Tryd.prog 54 #[.agg (msgCells m a1 c1 a2 c2).toArray] w fun e w' => e = .returned (.agg (msgCells (only m) none 0 none 0).toArray) ∧ Moved (fun _ => False) w w' := by
  obtain ⟨A, hA⟩ : ∃ A, A = w.heap.size := ⟨_, rfl⟩
  obtain ⟨w0, hw0⟩ : ∃ w0, w0 = (w.alloc (.cells (msgCells m a1 c1 a2 c2).toArray 29)).alloc (.cells #[.int .u8 0, .int .i64 0, .int .i64 0, .int .i64 0, .int .i64 0, .int .i64 0, .int .i64 0, .int .u64 0, .int .i64 0, .int .i64 0, .int .i64 0, .int .i64 0, .int .u8 0, .string ⟨#[]⟩, .int .i64 0, .int .i64 0, .int .i64 0, .int .i64 0, .int .i64 0, .slice none 0 0, .slice none 0 0, .string ⟨#[]⟩] 29) := ⟨_, rfl⟩
  have m0 : Moved (fun _ => False) w w0 := by rw [hw0]; exact ((Moved.refl _ _).alloc _).alloc _
  have RA : Hid (RowAt w0 A (msgCells m a1 c1 a2 c2)) := hide (by rw [hw0, hA]; exact row_old (row_new _ _ _) _)
  have RR : Hid (RowAt w0 (A + 1) (msgCells MsgV.zero none 0 none 0)) := hide (by rw [hw0, hA]; exact row_new2 _ (msgCells MsgV.zero none 0 none 0) _ _ _)
  have hsz : w0.heap.size = A + 2 := by rw [hw0, hA]; simp
  have HK := hide hk
  have HW := hide hw0
  have HA := hide hA
  have HM := hide m0
  have k0 : w0.cell? ⟨A, 0, none⟩ = some (.int .u8 2) := by have := (unhide RA).cell 0 (show 0 < 22 by decide); rw [this]; show some (Value.int .u8 ((m.kind.toNat : Nat) : Int)) = _; rw [hk]; rfl
  obtain ⟨w1, hu, hrow, hmf, hth⟩ := keep_at w0 { MsgV.zero with kind := 2 } none none 0 0
  have U1 := hide hu
  have T1 := hide hth
  have hX : Hid (w0.heap.size = A + 2) := hide hsz
  replace RA := hide ((unhide RA).keep hmf id)
  replace RR := hide ((unhide RR).keep hmf id)
  have RX := hide hrow
  have MV := hide hmf
  clear hk hw0 hA m0 hu hrow hmf hth hsz
  go_enter Tryd.func54, Tryd.ntmps54
  go_upto_region 1 with fail
  rw [← unhide HA, ← unhide HW]
  go_upto_region 2 with (refine wpList_store_mid rfl 29 (.tmp 3) (.tmp 7) rfl w0.heap.size 0 (msgCells { MsgV.zero with kind := 2 } none 0 none 0).toArray rfl rfl (unhide T1) (by kernel_rfl) (cells_one { MsgV.zero with kind := 2 } none none 0 0) ?_; change wpList _ _ _ _ _ (World.setCells _ w0.heap.size 0 (msgCells { MsgV.zero with kind := 2 } none 0 none 0)); rw [unhide U1]; clear T1 U1)
  generalize hXX : w0.heap.size = X at *
  replace hX := hide (show X = A + 2 from unhide hX)
  clear hXX k0
  have k0 : w1.cell? ⟨A, 0, none⟩ = some (.int .u8 2) := by have := (unhide RA).cell 0 (show 0 < 22 by decide); rw [this]; show some (Value.int .u8 ((m.kind.toNat : Nat) : Int)) = _; rw [unhide HK]; rfl
  replace MV := hide ((unhide MV).mono (G := fun j => j = X) (fun _ f => f.elim))
  go_upto_region 5 with fail
  have k9 : w1.cell? ⟨A, 9, none⟩ = some (.int .i64 m.item.src) := (unhide RA).cell 9 (show 9 < 22 by decide)
  have k10 : w1.cell? ⟨A, 10, none⟩ = some (.int .i64 m.item.seq) := (unhide RA).cell 10 (show 10 < 22 by decide)
  obtain ⟨w2, hu, hrow, hmf, hth⟩ := keep_row w1 24 [.int .i64 0, .int .i64 0, .int .i64 0, .int .u8 0, .string ⟨#[]⟩, .int .i64 0, .int .i64 0, .int .i64 0] [.int .i64 m.item.src, .int .i64 m.item.seq, .int .i64 0, .int .u8 0, .string ⟨#[]⟩, .int .i64 0, .int .i64 0, .int .i64 0] rfl
  have U2 := hide hu
  have T2 := hide hth
  have mf := hide hmf
  have hrw := hide hrow
  clear hu hth hmf hrow
  go_upto_region 6 with (refine wpList_store_mid rfl 24 (.tmp 4) (.tmp 28) rfl w1.heap.size 0 #[.int .i64 m.item.src, .int .i64 m.item.seq, .int .i64 0, .int .u8 0, .string ⟨#[]⟩, .int .i64 0, .int .i64 0, .int .i64 0] rfl rfl (unhide T2) (by kernel_rfl) (by simp [Value.oneCell']) ?_; change wpList _ _ _ _ _ (World.setCells _ w1.heap.size 0 [.int .i64 m.item.src, .int .i64 m.item.seq, .int .i64 0, .int .u8 0, .string ⟨#[]⟩, .int .i64 0, .int .i64 0, .int .i64 0]); rw [unhide U2])
  have hS : Hid (X < w1.heap.size ∧ A + 1 < w1.heap.size) := hide ⟨(unhide RX).lt, (unhide RR).lt⟩
  replace RA := hide ((unhide RA).keep (unhide mf) id)
  replace RR := hide ((unhide RR).keep (unhide mf) id)
  replace RX := hide ((unhide RX).keep (unhide mf) id)
  replace MV := hide ((unhide MV).trans (unhide mf) fun _ f => f.elim)
  have RS := hrw
  generalize hYY : w1.heap.size = Y at *
  clear hYY k9 k10 k0 T2 U2 mf hrw
  have k0 : w2.cell? ⟨A, 0, none⟩ = some (.int .u8 2) := by have := (unhide RA).cell 0 (show 0 < 22 by decide); rw [this]; show some (Value.int .u8 ((m.kind.toNat : Nat) : Int)) = _; rw [unhide HK]; rfl
  go_upto_region 10 with fail
  obtain ⟨w3, hw⟩ : ∃ w', w2.setCells X 9 [.int .i64 m.item.src, .int .i64 m.item.seq, .int .i64 0, .int .u8 0, .string ⟨#[]⟩, .int .i64 0, .int .i64 0, .int .i64 0] = w' := ⟨_, rfl⟩
  have mw : Moved (fun j => j = X) w2 w3 := by rw [← hw]; exact setCells_moved _ _ _ _
  have rx : RowAt w3 X (setsL (msgCells { MsgV.zero with kind := 2 } none 0 none 0) 9 [.int .i64 m.item.src, .int .i64 m.item.seq, .int .i64 0, .int .u8 0, .string ⟨#[]⟩, .int .i64 0, .int .i64 0, .int .i64 0]) := by rw [← hw]; exact (unhide RX).sets [.int .i64 m.item.src, .int .i64 m.item.seq, .int .i64 0, .int .u8 0, .string ⟨#[]⟩, .int .i64 0, .int .i64 0, .int .i64 0] 9 (show 9 + 8 ≤ 22 by decide)
  have hth := hide ((unhide RX).thereMid 9 8 (show 9 + 8 ≤ 22 by decide))
  have rng := hide ((unhide RS).range)
  have HWN := hide hw
  clear hw
  go_upto_region 11 with (first | (refine wpList_load_on rfl 24 (.tmp 4) rfl Y 0 rfl [.int .i64 m.item.src, .int .i64 m.item.seq, .int .i64 0, .int .u8 0, .string ⟨#[]⟩, .int .i64 0, .int .i64 0, .int .i64 0] _ (unhide rng) Tryd.underlying24 rfl (by kernel_rfl) ?_) | (refine wpList_store_mid rfl 24 (.tmp 39) (.tmp 38) rfl X 9 #[.int .i64 m.item.src, .int .i64 m.item.seq, .int .i64 0, .int .u8 0, .string ⟨#[]⟩, .int .i64 0, .int .i64 0, .int .i64 0] rfl rfl (unhide hth) (by kernel_rfl) (by simp [Value.oneCell']) ?_; change wpList _ _ _ _ _ (w2.setCells X 9 [.int .i64 m.item.src, .int .i64 m.item.seq, .int .i64 0, .int .u8 0, .string ⟨#[]⟩, .int .i64 0, .int .i64 0, .int .i64 0]); rw [unhide HWN]))
  replace RA := hide ((unhide RA).keep mw (by have := unhide hX; omega))
  replace RR := hide ((unhide RR).keep mw (by have := unhide hX; omega))
  replace RX := hide rx
  replace MV := hide ((unhide MV).trans mw fun _ h => .inl h)
  clear mw rx HWN hth rng k0
  have k0 : w3.cell? ⟨A, 0, none⟩ = some (.int .u8 2) := by have := (unhide RA).cell 0 (show 0 < 22 by decide); rw [this]; show some (Value.int .u8 ((m.kind.toNat : Nat) : Int)) = _; rw [unhide HK]; rfl
  go_upto_region 11 with fail
  have ks : w3.cell? ⟨A, 6, none⟩ = some (.int .i64 m.code) := (unhide RA).cell 6 (show 6 < 22 by decide)
  have kd := (unhide RX).cell 6 (show 6 < 22 by decide)
  have kf := (unhide RX).free 6 (show 6 < 22 by decide)
  obtain ⟨w4, hw⟩ : ∃ w', w3.setCell ⟨X, 6, none⟩ (.int .i64 m.code) = w' := ⟨_, rfl⟩
  have mw : Moved (fun j => j = X) w3 w4 := by rw [← hw]; exact Moved.put _ _ _ _
  have rx : RowAt w4 X ((setsL (msgCells { MsgV.zero with kind := 2 } none 0 none 0) 9 [.int .i64 m.item.src, .int .i64 m.item.seq, .int .i64 0, .int .u8 0, .string ⟨#[]⟩, .int .i64 0, .int .i64 0, .int .i64 0]).set 6 (.int .i64 m.code)) := by rw [← hw]; exact (unhide RX).set 6 (show 6 < 22 by decide) _
  have HWN := hide hw
  clear hw
  go_upto_region 38 with fail
  rw [unhide HWN]
  replace RA := hide ((unhide RA).keep mw (by have := unhide hX; omega))
  replace RR := hide ((unhide RR).keep mw (by have := unhide hX; omega))
  replace RX := hide rx
  replace MV := hide ((unhide MV).trans mw fun _ h => .inl h)
  clear ks kd kf mw rx HWN k0
  have k0 : w4.cell? ⟨A, 0, none⟩ = some (.int .u8 2) := by have := (unhide RA).cell 0 (show 0 < 22 by decide); rw [this]; show some (Value.int .u8 ((m.kind.toNat : Nat) : Int)) = _; rw [unhide HK]; rfl
  have hfin : (msgCells (only m) none 0 none 0) = ((setsL (msgCells { MsgV.zero with kind := 2 } none 0 none 0) 9 [.int .i64 m.item.src, .int .i64 m.item.seq, .int .i64 0, .int .u8 0, .string ⟨#[]⟩, .int .i64 0, .int .i64 0, .int .i64 0]).set 6 (.int .i64 m.code)) := by
    have hk := unhide HK
    have e : only m = only { m with kind := 2 } := by rw [← hk]
    rw [e]
    rfl
  have RX2 := unhide RX
  rw [← hfin] at RX2
  have hrg := hide RX2.range
  have hth := hide (unhide RR).there
  have RF := hide ((unhide RR).put (msgCells (only m) none 0 none 0) rfl).range
  have mset := setCells_moved w4 (A + 1) 0 (msgCells (only m) none 0 none 0)
  have MF := hide (((unhide HM).trans (unhide MV) fun i hi => .inr (by have := unhide hX; have := unhide HA; omega)).trans mset fun i hi => .inr (by have := unhide HA; omega))
  have RFF := hide hfin
  clear mset RX2 hfin k0
  obtain ⟨cs, hcs⟩ : ∃ cs, (msgCells (only m) none 0 none 0) = cs := ⟨_, rfl⟩
  have hone := cells_one (only m) none none 0 0
  have hlen : cs.length = 22 := by rw [← hcs]; rfl
  rw [hcs] at hrg RF MF hone
  have HCS := hide hcs
  have HONE := hide hone
  have hi22 : (Tryd.prog.info? 29).map (·.size) = some cs.length := by rw [hlen]; kernel_rfl
  have hi22' : (Tryd.prog.info? 29).map (·.size) = some cs.toArray.size := by rw [List.size_toArray, hlen]; kernel_rfl
  have hth' : Hid (w4.there (A + 1) 0 cs.toArray.size) := hide (by rw [List.size_toArray, hlen]; exact unhide hth)
  have HI := hide (And.intro hi22 hi22')
  clear hcs hone hlen hth hi22 hi22'
  obtain ⟨wf, hwf⟩ : ∃ wf, w4.setCells (A + 1) 0 cs = wf := ⟨_, rfl⟩
  rw [hwf] at RF MF
  have HWF := hide hwf
  clear hwf
  go_wp2_with (first | (refine wpList_load_on rfl 29 (.tmp 3) rfl X 0 rfl cs _ (unhide hrg) Tryd.underlying29 rfl (unhide HI).1 ?_) | (refine wpList_store_mid rfl 29 (.tmp 2) (.tmp 109) rfl (A + 1) 0 cs.toArray rfl rfl (unhide hth') (unhide HI).2 (unhide HONE) ?_; change wpList _ _ _ _ _ (w4.setCells (A + 1) 0 cs); rw [unhide HWF]))
  refine bodyPost_ret (v := .agg cs.toArray) ?_ rfl ?_
  · exact results_cell_mid Tryd.results54 _ wf (A + 1) _ _ rfl (unhide RF) Tryd.underlying29 rfl (unhide HI).1
  · exact ⟨by rw [unhide HCS], unhide MF⟩
set_option maxHeartbeats 8000000 in
set_option maxRecDepth 100000 in
theorem refonly_3 (m : MsgV) (a1 a2 : Option Addr) (c1 c2 : Nat) (w : World) (hk : m.kind = 3) :
    Calls Tryd.prog 54 #[.agg (msgCells m a1 c1 a2 c2).toArray] w fun e w' => e = .returned (.agg (msgCells (only m) a1 c1 none 0).toArray) ∧ Moved (fun _ => False) w w' := by
  obtain ⟨A, hA⟩ : ∃ A, A = w.heap.size := ⟨_, rfl⟩
  obtain ⟨w0, hw0⟩ : ∃ w0, w0 = (w.alloc (.cells (msgCells m a1 c1 a2 c2).toArray 29)).alloc (.cells #[.int .u8 0, .int .i64 0, .int .i64 0, .int .i64 0, .int .i64 0, .int .i64 0, .int .i64 0, .int .u64 0, .int .i64 0, .int .i64 0, .int .i64 0, .int .i64 0, .int .u8 0, .string ⟨#[]⟩, .int .i64 0, .int .i64 0, .int .i64 0, .int .i64 0, .int .i64 0, .slice none 0 0, .slice none 0 0, .string ⟨#[]⟩] 29) := ⟨_, rfl⟩
  have m0 : Moved (fun _ => False) w w0 := by rw [hw0]; exact ((Moved.refl _ _).alloc _).alloc _
  have RA : Hid (RowAt w0 A (msgCells m a1 c1 a2 c2)) := hide (by rw [hw0, hA]; exact row_old (row_new _ _ _) _)
  have RR : Hid (RowAt w0 (A + 1) (msgCells MsgV.zero none 0 none 0)) := hide (by rw [hw0, hA]; exact row_new2 _ (msgCells MsgV.zero none 0 none 0) _ _ _)
  have hsz : w0.heap.size = A + 2 := by rw [hw0, hA]; simp
  have HK := hide hk
  have HW := hide hw0
  have HA := hide hA
  have HM := hide m0
  have k0 : w0.cell? ⟨A, 0, none⟩ = some (.int .u8 3) := by have := (unhide RA).cell 0 (show 0 < 22 by decide); rw [this]; show some (Value.int .u8 ((m.kind.toNat : Nat) : Int)) = _; rw [hk]; rfl
  obtain ⟨w1, hu, hrow, hmf, hth⟩ := keep_at w0 { MsgV.zero with kind := 3 } none none 0 0
  have U1 := hide hu
  have T1 := hide hth
  have hX : Hid (w0.heap.size = A + 2) := hide hsz
  replace RA := hide ((unhide RA).keep hmf id)
  replace RR := hide ((unhide RR).keep hmf id)
  have RX := hide hrow
  have MV := hide hmf
  clear hk hw0 hA m0 hu hrow hmf hth hsz
  go_enter Tryd.func54, Tryd.ntmps54
  go_upto_region 1 with fail
  rw [← unhide HA, ← unhide HW]
  go_upto_region 2 with (refine wpList_store_mid rfl 29 (.tmp 3) (.tmp 7) rfl w0.heap.size 0 (msgCells { MsgV.zero with kind := 3 } none 0 none 0).toArray rfl rfl (unhide T1) (by kernel_rfl) (cells_one { MsgV.zero with kind := 3 } none none 0 0) ?_; change wpList _ _ _ _ _ (World.setCells _ w0.heap.size 0 (msgCells { MsgV.zero with kind := 3 } none 0 none 0)); rw [unhide U1]; clear T1 U1)
  generalize hXX : w0.heap.size = X at *
  replace hX := hide (show X = A + 2 from unhide hX)
  clear hXX k0
  have k0 : w1.cell? ⟨A, 0, none⟩ = some (.int .u8 3) := by have := (unhide RA).cell 0 (show 0 < 22 by decide); rw [this]; show some (Value.int .u8 ((m.kind.toNat : Nat) : Int)) = _; rw [unhide HK]; rfl
  replace MV := hide ((unhide MV).mono (G := fun j => j = X) (fun _ f => f.elim))
  go_upto_region 5 with fail
  have k9 : w1.cell? ⟨A, 9, none⟩ = some (.int .i64 m.item.src) := (unhide RA).cell 9 (show 9 < 22 by decide)
  have k10 : w1.cell? ⟨A, 10, none⟩ = some (.int .i64 m.item.seq) := (unhide RA).cell 10 (show 10 < 22 by decide)
  obtain ⟨w2, hu, hrow, hmf, hth⟩ := keep_row w1 24 [.int .i64 0, .int .i64 0, .int .i64 0, .int .u8 0, .string ⟨#[]⟩, .int .i64 0, .int .i64 0, .int .i64 0] [.int .i64 m.item.src, .int .i64 m.item.seq, .int .i64 0, .int .u8 0, .string ⟨#[]⟩, .int .i64 0, .int .i64 0, .int .i64 0] rfl
  have U2 := hide hu
  have T2 := hide hth
  have mf := hide hmf
  have hrw := hide hrow
  clear hu hth hmf hrow
  go_upto_region 6 with (refine wpList_store_mid rfl 24 (.tmp 4) (.tmp 28) rfl w1.heap.size 0 #[.int .i64 m.item.src, .int .i64 m.item.seq, .int .i64 0, .int .u8 0, .string ⟨#[]⟩, .int .i64 0, .int .i64 0, .int .i64 0] rfl rfl (unhide T2) (by kernel_rfl) (by simp [Value.oneCell']) ?_; change wpList _ _ _ _ _ (World.setCells _ w1.heap.size 0 [.int .i64 m.item.src, .int .i64 m.item.seq, .int .i64 0, .int .u8 0, .string ⟨#[]⟩, .int .i64 0, .int .i64 0, .int .i64 0]); rw [unhide U2])
  have hS : Hid (X < w1.heap.size ∧ A + 1 < w1.heap.size) := hide ⟨(unhide RX).lt, (unhide RR).lt⟩
  replace RA := hide ((unhide RA).keep (unhide mf) id)
  replace RR := hide ((unhide RR).keep (unhide mf) id)
  replace RX := hide ((unhide RX).keep (unhide mf) id)
  replace MV := hide ((unhide MV).trans (unhide mf) fun _ f => f.elim)
  have RS := hrw
  generalize hYY : w1.heap.size = Y at *
  clear hYY k9 k10 k0 T2 U2 mf hrw
  have k0 : w2.cell? ⟨A, 0, none⟩ = some (.int .u8 3) := by have := (unhide RA).cell 0 (show 0 < 22 by decide); rw [this]; show some (Value.int .u8 ((m.kind.toNat : Nat) : Int)) = _; rw [unhide HK]; rfl
  go_upto_region 13 with fail
  obtain ⟨w3, hw⟩ : ∃ w', w2.setCells X 9 [.int .i64 m.item.src, .int .i64 m.item.seq, .int .i64 0, .int .u8 0, .string ⟨#[]⟩, .int .i64 0, .int .i64 0, .int .i64 0] = w' := ⟨_, rfl⟩
  have mw : Moved (fun j => j = X) w2 w3 := by rw [← hw]; exact setCells_moved _ _ _ _
  have rx : RowAt w3 X (setsL (msgCells { MsgV.zero with kind := 3 } none 0 none 0) 9 [.int .i64 m.item.src, .int .i64 m.item.seq, .int .i64 0, .int .u8 0, .string ⟨#[]⟩, .int .i64 0, .int .i64 0, .int .i64 0]) := by rw [← hw]; exact (unhide RX).sets [.int .i64 m.item.src, .int .i64 m.item.seq, .int .i64 0, .int .u8 0, .string ⟨#[]⟩, .int .i64 0, .int .i64 0, .int .i64 0] 9 (show 9 + 8 ≤ 22 by decide)
  have hth := hide ((unhide RX).thereMid 9 8 (show 9 + 8 ≤ 22 by decide))
  have rng := hide ((unhide RS).range)
  have HWN := hide hw
  clear hw
  go_upto_region 14 with (first | (refine wpList_load_on rfl 24 (.tmp 4) rfl Y 0 rfl [.int .i64 m.item.src, .int .i64 m.item.seq, .int .i64 0, .int .u8 0, .string ⟨#[]⟩, .int .i64 0, .int .i64 0, .int .i64 0] _ (unhide rng) Tryd.underlying24 rfl (by kernel_rfl) ?_) | (refine wpList_store_mid rfl 24 (.tmp 46) (.tmp 45) rfl X 9 #[.int .i64 m.item.src, .int .i64 m.item.seq, .int .i64 0, .int .u8 0, .string ⟨#[]⟩, .int .i64 0, .int .i64 0, .int .i64 0] rfl rfl (unhide hth) (by kernel_rfl) (by simp [Value.oneCell']) ?_; change wpList _ _ _ _ _ (w2.setCells X 9 [.int .i64 m.item.src, .int .i64 m.item.seq, .int .i64 0, .int .u8 0, .string ⟨#[]⟩, .int .i64 0, .int .i64 0, .int .i64 0]); rw [unhide HWN]))
  replace RA := hide ((unhide RA).keep mw (by have := unhide hX; omega))
  replace RR := hide ((unhide RR).keep mw (by have := unhide hX; omega))
  replace RX := hide rx
  replace MV := hide ((unhide MV).trans mw fun _ h => .inl h)
  clear mw rx HWN hth rng k0
  have k0 : w3.cell? ⟨A, 0, none⟩ = some (.int .u8 3) := by have := (unhide RA).cell 0 (show 0 < 22 by decide); rw [this]; show some (Value.int .u8 ((m.kind.toNat : Nat) : Int)) = _; rw [unhide HK]; rfl
  go_upto_region 14 with fail
  obtain ⟨w4, hw⟩ : ∃ w', w3.setCells X 17 [.int .i64 m.epoch, .int .i64 m.nodes, .slice a1 m.owner.length c1] = w' := ⟨_, rfl⟩
  have mw : Moved (fun j => j = X) w3 w4 := by rw [← hw]; exact setCells_moved _ _ _ _
  have rx : RowAt w4 X (setsL (setsL (msgCells { MsgV.zero with kind := 3 } none 0 none 0) 9 [.int .i64 m.item.src, .int .i64 m.item.seq, .int .i64 0, .int .u8 0, .string ⟨#[]⟩, .int .i64 0, .int .i64 0, .int .i64 0]) 17 [.int .i64 m.epoch, .int .i64 m.nodes, .slice a1 m.owner.length c1]) := by rw [← hw]; exact (unhide RX).sets [.int .i64 m.epoch, .int .i64 m.nodes, .slice a1 m.owner.length c1] 17 (show 17 + 3 ≤ 22 by decide)
  have hth := hide ((unhide RX).thereMid 17 3 (show 17 + 3 ≤ 22 by decide))
  have rng := hide (range3 (unhide RA))
  have HWN := hide hw
  clear hw
  go_upto_region 38 with (first | (refine wpList_load_on rfl 27 (.tmp 47) rfl A 17 rfl [.int .i64 m.epoch, .int .i64 m.nodes, .slice a1 m.owner.length c1] _ (unhide rng) Tryd.underlying27 rfl (by kernel_rfl) ?_) | (refine wpList_store_mid rfl 27 (.tmp 49) (.tmp 48) rfl X 17 #[.int .i64 m.epoch, .int .i64 m.nodes, .slice a1 m.owner.length c1] rfl rfl (unhide hth) (by kernel_rfl) (by simp [Value.oneCell']) ?_; change wpList _ _ _ _ _ (w3.setCells X 17 [.int .i64 m.epoch, .int .i64 m.nodes, .slice a1 m.owner.length c1]); rw [unhide HWN]))
  replace RA := hide ((unhide RA).keep mw (by have := unhide hX; omega))
  replace RR := hide ((unhide RR).keep mw (by have := unhide hX; omega))
  replace RX := hide rx
  replace MV := hide ((unhide MV).trans mw fun _ h => .inl h)
  clear mw rx HWN hth rng k0
  have k0 : w4.cell? ⟨A, 0, none⟩ = some (.int .u8 3) := by have := (unhide RA).cell 0 (show 0 < 22 by decide); rw [this]; show some (Value.int .u8 ((m.kind.toNat : Nat) : Int)) = _; rw [unhide HK]; rfl
  have hfin : (msgCells (only m) a1 c1 none 0) = (setsL (setsL (msgCells { MsgV.zero with kind := 3 } none 0 none 0) 9 [.int .i64 m.item.src, .int .i64 m.item.seq, .int .i64 0, .int .u8 0, .string ⟨#[]⟩, .int .i64 0, .int .i64 0, .int .i64 0]) 17 [.int .i64 m.epoch, .int .i64 m.nodes, .slice a1 m.owner.length c1]) := by
    have hk := unhide HK
    have e : only m = only { m with kind := 3 } := by rw [← hk]
    rw [e]
    rfl
  have RX2 := unhide RX
  rw [← hfin] at RX2
  have hrg := hide RX2.range
  have hth := hide (unhide RR).there
  have RF := hide ((unhide RR).put (msgCells (only m) a1 c1 none 0) rfl).range
  have mset := setCells_moved w4 (A + 1) 0 (msgCells (only m) a1 c1 none 0)
  have MF := hide (((unhide HM).trans (unhide MV) fun i hi => .inr (by have := unhide hX; have := unhide HA; omega)).trans mset fun i hi => .inr (by have := unhide HA; omega))
  have RFF := hide hfin
  clear mset RX2 hfin k0
  obtain ⟨cs, hcs⟩ : ∃ cs, (msgCells (only m) a1 c1 none 0) = cs := ⟨_, rfl⟩
  have hone := cells_one (only m) a1 none c1 0
  have hlen : cs.length = 22 := by rw [← hcs]; rfl
  rw [hcs] at hrg RF MF hone
  have HCS := hide hcs
  have HONE := hide hone
  have hi22 : (Tryd.prog.info? 29).map (·.size) = some cs.length := by rw [hlen]; kernel_rfl
  have hi22' : (Tryd.prog.info? 29).map (·.size) = some cs.toArray.size := by rw [List.size_toArray, hlen]; kernel_rfl
  have hth' : Hid (w4.there (A + 1) 0 cs.toArray.size) := hide (by rw [List.size_toArray, hlen]; exact unhide hth)
  have HI := hide (And.intro hi22 hi22')
  clear hcs hone hlen hth hi22 hi22'
  obtain ⟨wf, hwf⟩ : ∃ wf, w4.setCells (A + 1) 0 cs = wf := ⟨_, rfl⟩
  rw [hwf] at RF MF
  have HWF := hide hwf
  clear hwf
  go_wp2_with (first | (refine wpList_load_on rfl 29 (.tmp 3) rfl X 0 rfl cs _ (unhide hrg) Tryd.underlying29 rfl (unhide HI).1 ?_) | (refine wpList_store_mid rfl 29 (.tmp 2) (.tmp 109) rfl (A + 1) 0 cs.toArray rfl rfl (unhide hth') (unhide HI).2 (unhide HONE) ?_; change wpList _ _ _ _ _ (w4.setCells (A + 1) 0 cs); rw [unhide HWF]))
  refine bodyPost_ret (v := .agg cs.toArray) ?_ rfl ?_
  · exact results_cell_mid Tryd.results54 _ wf (A + 1) _ _ rfl (unhide RF) Tryd.underlying29 rfl (unhide HI).1
  · exact ⟨by rw [unhide HCS], unhide MF⟩
set_option maxHeartbeats 8000000 in
set_option maxRecDepth 100000 in
theorem refonly_4 (m : MsgV) (a1 a2 : Option Addr) (c1 c2 : Nat) (w : World) (hk : m.kind = 4) :
    Calls Tryd.prog 54 #[.agg (msgCells m a1 c1 a2 c2).toArray] w fun e w' => e = .returned (.agg (msgCells (only m) none 0 none 0).toArray) ∧ Moved (fun _ => False) w w' := by
  obtain ⟨A, hA⟩ : ∃ A, A = w.heap.size := ⟨_, rfl⟩
  obtain ⟨w0, hw0⟩ : ∃ w0, w0 = (w.alloc (.cells (msgCells m a1 c1 a2 c2).toArray 29)).alloc (.cells #[.int .u8 0, .int .i64 0, .int .i64 0, .int .i64 0, .int .i64 0, .int .i64 0, .int .i64 0, .int .u64 0, .int .i64 0, .int .i64 0, .int .i64 0, .int .i64 0, .int .u8 0, .string ⟨#[]⟩, .int .i64 0, .int .i64 0, .int .i64 0, .int .i64 0, .int .i64 0, .slice none 0 0, .slice none 0 0, .string ⟨#[]⟩] 29) := ⟨_, rfl⟩
  have m0 : Moved (fun _ => False) w w0 := by rw [hw0]; exact ((Moved.refl _ _).alloc _).alloc _
  have RA : Hid (RowAt w0 A (msgCells m a1 c1 a2 c2)) := hide (by rw [hw0, hA]; exact row_old (row_new _ _ _) _)
  have RR : Hid (RowAt w0 (A + 1) (msgCells MsgV.zero none 0 none 0)) := hide (by rw [hw0, hA]; exact row_new2 _ (msgCells MsgV.zero none 0 none 0) _ _ _)
  have hsz : w0.heap.size = A + 2 := by rw [hw0, hA]; simp
  have HK := hide hk
  have HW := hide hw0
  have HA := hide hA
  have HM := hide m0
  have k0 : w0.cell? ⟨A, 0, none⟩ = some (.int .u8 4) := by have := (unhide RA).cell 0 (show 0 < 22 by decide); rw [this]; show some (Value.int .u8 ((m.kind.toNat : Nat) : Int)) = _; rw [hk]; rfl
  obtain ⟨w1, hu, hrow, hmf, hth⟩ := keep_at w0 { MsgV.zero with kind := 4 } none none 0 0
  have U1 := hide hu
  have T1 := hide hth
  have hX : Hid (w0.heap.size = A + 2) := hide hsz
  replace RA := hide ((unhide RA).keep hmf id)
  replace RR := hide ((unhide RR).keep hmf id)
  have RX := hide hrow
  have MV := hide hmf
  clear hk hw0 hA m0 hu hrow hmf hth hsz
  go_enter Tryd.func54, Tryd.ntmps54
  go_upto_region 1 with fail
  rw [← unhide HA, ← unhide HW]
  go_upto_region 2 with (refine wpList_store_mid rfl 29 (.tmp 3) (.tmp 7) rfl w0.heap.size 0 (msgCells { MsgV.zero with kind := 4 } none 0 none 0).toArray rfl rfl (unhide T1) (by kernel_rfl) (cells_one { MsgV.zero with kind := 4 } none none 0 0) ?_; change wpList _ _ _ _ _ (World.setCells _ w0.heap.size 0 (msgCells { MsgV.zero with kind := 4 } none 0 none 0)); rw [unhide U1]; clear T1 U1)
  generalize hXX : w0.heap.size = X at *
  replace hX := hide (show X = A + 2 from unhide hX)
  clear hXX k0
  have k0 : w1.cell? ⟨A, 0, none⟩ = some (.int .u8 4) := by have := (unhide RA).cell 0 (show 0 < 22 by decide); rw [this]; show some (Value.int .u8 ((m.kind.toNat : Nat) : Int)) = _; rw [unhide HK]; rfl
  replace MV := hide ((unhide MV).mono (G := fun j => j = X) (fun _ f => f.elim))
  go_upto_region 3 with fail
  have ks : w1.cell? ⟨A, 1, none⟩ = some (.int .i64 m.move) := (unhide RA).cell 1 (show 1 < 22 by decide)
  have kd := (unhide RX).cell 1 (show 1 < 22 by decide)
  have kf := (unhide RX).free 1 (show 1 < 22 by decide)
  obtain ⟨w2, hw⟩ : ∃ w', w1.setCell ⟨X, 1, none⟩ (.int .i64 m.move) = w' := ⟨_, rfl⟩
  have mw : Moved (fun j => j = X) w1 w2 := by rw [← hw]; exact Moved.put _ _ _ _
  have rx : RowAt w2 X ((msgCells { MsgV.zero with kind := 4 } none 0 none 0).set 1 (.int .i64 m.move)) := by rw [← hw]; exact (unhide RX).set 1 (show 1 < 22 by decide) _
  have HWN := hide hw
  clear hw
  go_upto_region 4 with fail
  rw [unhide HWN]
  replace RA := hide ((unhide RA).keep mw (by have := unhide hX; omega))
  replace RR := hide ((unhide RR).keep mw (by have := unhide hX; omega))
  replace RX := hide rx
  replace MV := hide ((unhide MV).trans mw fun _ h => .inl h)
  clear ks kd kf mw rx HWN k0
  have k0 : w2.cell? ⟨A, 0, none⟩ = some (.int .u8 4) := by have := (unhide RA).cell 0 (show 0 < 22 by decide); rw [this]; show some (Value.int .u8 ((m.kind.toNat : Nat) : Int)) = _; rw [unhide HK]; rfl
  go_upto_region 4 with fail
  have ks : w2.cell? ⟨A, 2, none⟩ = some (.int .i64 m.part) := (unhide RA).cell 2 (show 2 < 22 by decide)
  have kd := (unhide RX).cell 2 (show 2 < 22 by decide)
  have kf := (unhide RX).free 2 (show 2 < 22 by decide)
  obtain ⟨w3, hw⟩ : ∃ w', w2.setCell ⟨X, 2, none⟩ (.int .i64 m.part) = w' := ⟨_, rfl⟩
  have mw : Moved (fun j => j = X) w2 w3 := by rw [← hw]; exact Moved.put _ _ _ _
  have rx : RowAt w3 X (((msgCells { MsgV.zero with kind := 4 } none 0 none 0).set 1 (.int .i64 m.move)).set 2 (.int .i64 m.part)) := by rw [← hw]; exact (unhide RX).set 2 (show 2 < 22 by decide) _
  have HWN := hide hw
  clear hw
  go_upto_region 5 with fail
  rw [unhide HWN]
  replace RA := hide ((unhide RA).keep mw (by have := unhide hX; omega))
  replace RR := hide ((unhide RR).keep mw (by have := unhide hX; omega))
  replace RX := hide rx
  replace MV := hide ((unhide MV).trans mw fun _ h => .inl h)
  clear ks kd kf mw rx HWN k0
  have k0 : w3.cell? ⟨A, 0, none⟩ = some (.int .u8 4) := by have := (unhide RA).cell 0 (show 0 < 22 by decide); rw [this]; show some (Value.int .u8 ((m.kind.toNat : Nat) : Int)) = _; rw [unhide HK]; rfl
  have k9 : w3.cell? ⟨A, 9, none⟩ = some (.int .i64 m.item.src) := (unhide RA).cell 9 (show 9 < 22 by decide)
  have k10 : w3.cell? ⟨A, 10, none⟩ = some (.int .i64 m.item.seq) := (unhide RA).cell 10 (show 10 < 22 by decide)
  obtain ⟨w4, hu, hrow, hmf, hth⟩ := keep_row w3 24 [.int .i64 0, .int .i64 0, .int .i64 0, .int .u8 0, .string ⟨#[]⟩, .int .i64 0, .int .i64 0, .int .i64 0] [.int .i64 m.item.src, .int .i64 m.item.seq, .int .i64 0, .int .u8 0, .string ⟨#[]⟩, .int .i64 0, .int .i64 0, .int .i64 0] rfl
  have U2 := hide hu
  have T2 := hide hth
  have mf := hide hmf
  have hrw := hide hrow
  clear hu hth hmf hrow
  go_upto_region 6 with (refine wpList_store_mid rfl 24 (.tmp 4) (.tmp 28) rfl w3.heap.size 0 #[.int .i64 m.item.src, .int .i64 m.item.seq, .int .i64 0, .int .u8 0, .string ⟨#[]⟩, .int .i64 0, .int .i64 0, .int .i64 0] rfl rfl (unhide T2) (by kernel_rfl) (by simp [Value.oneCell']) ?_; change wpList _ _ _ _ _ (World.setCells _ w3.heap.size 0 [.int .i64 m.item.src, .int .i64 m.item.seq, .int .i64 0, .int .u8 0, .string ⟨#[]⟩, .int .i64 0, .int .i64 0, .int .i64 0]); rw [unhide U2])
  have hS : Hid (X < w3.heap.size ∧ A + 1 < w3.heap.size) := hide ⟨(unhide RX).lt, (unhide RR).lt⟩
  replace RA := hide ((unhide RA).keep (unhide mf) id)
  replace RR := hide ((unhide RR).keep (unhide mf) id)
  replace RX := hide ((unhide RX).keep (unhide mf) id)
  replace MV := hide ((unhide MV).trans (unhide mf) fun _ f => f.elim)
  have RS := hrw
  generalize hYY : w3.heap.size = Y at *
  clear hYY k9 k10 k0 T2 U2 mf hrw
  have k0 : w4.cell? ⟨A, 0, none⟩ = some (.int .u8 4) := by have := (unhide RA).cell 0 (show 0 < 22 by decide); rw [this]; show some (Value.int .u8 ((m.kind.toNat : Nat) : Int)) = _; rw [unhide HK]; rfl
  go_upto_region 16 with fail
  have ks : w4.cell? ⟨A, 3, none⟩ = some (.int .i64 m.to_) := (unhide RA).cell 3 (show 3 < 22 by decide)
  have kd := (unhide RX).cell 3 (show 3 < 22 by decide)
  have kf := (unhide RX).free 3 (show 3 < 22 by decide)
  obtain ⟨w5, hw⟩ : ∃ w', w4.setCell ⟨X, 3, none⟩ (.int .i64 m.to_) = w' := ⟨_, rfl⟩
  have mw : Moved (fun j => j = X) w4 w5 := by rw [← hw]; exact Moved.put _ _ _ _
  have rx : RowAt w5 X ((((msgCells { MsgV.zero with kind := 4 } none 0 none 0).set 1 (.int .i64 m.move)).set 2 (.int .i64 m.part)).set 3 (.int .i64 m.to_)) := by rw [← hw]; exact (unhide RX).set 3 (show 3 < 22 by decide) _
  have HWN := hide hw
  clear hw
  go_upto_region 38 with fail
  rw [unhide HWN]
  replace RA := hide ((unhide RA).keep mw (by have := unhide hX; omega))
  replace RR := hide ((unhide RR).keep mw (by have := unhide hX; omega))
  replace RX := hide rx
  replace MV := hide ((unhide MV).trans mw fun _ h => .inl h)
  clear ks kd kf mw rx HWN k0
  have k0 : w5.cell? ⟨A, 0, none⟩ = some (.int .u8 4) := by have := (unhide RA).cell 0 (show 0 < 22 by decide); rw [this]; show some (Value.int .u8 ((m.kind.toNat : Nat) : Int)) = _; rw [unhide HK]; rfl
  have hfin : (msgCells (only m) none 0 none 0) = ((((msgCells { MsgV.zero with kind := 4 } none 0 none 0).set 1 (.int .i64 m.move)).set 2 (.int .i64 m.part)).set 3 (.int .i64 m.to_)) := by
    have hk := unhide HK
    have e : only m = only { m with kind := 4 } := by rw [← hk]
    rw [e]
    rfl
  have RX2 := unhide RX
  rw [← hfin] at RX2
  have hrg := hide RX2.range
  have hth := hide (unhide RR).there
  have RF := hide ((unhide RR).put (msgCells (only m) none 0 none 0) rfl).range
  have mset := setCells_moved w5 (A + 1) 0 (msgCells (only m) none 0 none 0)
  have MF := hide (((unhide HM).trans (unhide MV) fun i hi => .inr (by have := unhide hX; have := unhide HA; omega)).trans mset fun i hi => .inr (by have := unhide HA; omega))
  have RFF := hide hfin
  clear mset RX2 hfin k0
  obtain ⟨cs, hcs⟩ : ∃ cs, (msgCells (only m) none 0 none 0) = cs := ⟨_, rfl⟩
  have hone := cells_one (only m) none none 0 0
  have hlen : cs.length = 22 := by rw [← hcs]; rfl
  rw [hcs] at hrg RF MF hone
  have HCS := hide hcs
  have HONE := hide hone
  have hi22 : (Tryd.prog.info? 29).map (·.size) = some cs.length := by rw [hlen]; kernel_rfl
  have hi22' : (Tryd.prog.info? 29).map (·.size) = some cs.toArray.size := by rw [List.size_toArray, hlen]; kernel_rfl
  have hth' : Hid (w5.there (A + 1) 0 cs.toArray.size) := hide (by rw [List.size_toArray, hlen]; exact unhide hth)
  have HI := hide (And.intro hi22 hi22')
  clear hcs hone hlen hth hi22 hi22'
  obtain ⟨wf, hwf⟩ : ∃ wf, w5.setCells (A + 1) 0 cs = wf := ⟨_, rfl⟩
  rw [hwf] at RF MF
  have HWF := hide hwf
  clear hwf
  go_wp2_with (first | (refine wpList_load_on rfl 29 (.tmp 3) rfl X 0 rfl cs _ (unhide hrg) Tryd.underlying29 rfl (unhide HI).1 ?_) | (refine wpList_store_mid rfl 29 (.tmp 2) (.tmp 109) rfl (A + 1) 0 cs.toArray rfl rfl (unhide hth') (unhide HI).2 (unhide HONE) ?_; change wpList _ _ _ _ _ (w5.setCells (A + 1) 0 cs); rw [unhide HWF]))
  refine bodyPost_ret (v := .agg cs.toArray) ?_ rfl ?_
  · exact results_cell_mid Tryd.results54 _ wf (A + 1) _ _ rfl (unhide RF) Tryd.underlying29 rfl (unhide HI).1
  · exact ⟨by rw [unhide HCS], unhide MF⟩
set_option maxHeartbeats 8000000 in
set_option maxRecDepth 100000 in
theorem refonly_5 (m : MsgV) (a1 a2 : Option Addr) (c1 c2 : Nat) (w : World) (hk : m.kind = 5) :
    Calls Tryd.prog 54 #[.agg (msgCells m a1 c1 a2 c2).toArray] w fun e w' => e = .returned (.agg (msgCells (only m) none 0 none 0).toArray) ∧ Moved (fun _ => False) w w' := by
  obtain ⟨A, hA⟩ : ∃ A, A = w.heap.size := ⟨_, rfl⟩
  obtain ⟨w0, hw0⟩ : ∃ w0, w0 = (w.alloc (.cells (msgCells m a1 c1 a2 c2).toArray 29)).alloc (.cells #[.int .u8 0, .int .i64 0, .int .i64 0, .int .i64 0, .int .i64 0, .int .i64 0, .int .i64 0, .int .u64 0, .int .i64 0, .int .i64 0, .int .i64 0, .int .i64 0, .int .u8 0, .string ⟨#[]⟩, .int .i64 0, .int .i64 0, .int .i64 0, .int .i64 0, .int .i64 0, .slice none 0 0, .slice none 0 0, .string ⟨#[]⟩] 29) := ⟨_, rfl⟩
  have m0 : Moved (fun _ => False) w w0 := by rw [hw0]; exact ((Moved.refl _ _).alloc _).alloc _
  have RA : Hid (RowAt w0 A (msgCells m a1 c1 a2 c2)) := hide (by rw [hw0, hA]; exact row_old (row_new _ _ _) _)
  have RR : Hid (RowAt w0 (A + 1) (msgCells MsgV.zero none 0 none 0)) := hide (by rw [hw0, hA]; exact row_new2 _ (msgCells MsgV.zero none 0 none 0) _ _ _)
  have hsz : w0.heap.size = A + 2 := by rw [hw0, hA]; simp
  have HK := hide hk
  have HW := hide hw0
  have HA := hide hA
  have HM := hide m0
  have k0 : w0.cell? ⟨A, 0, none⟩ = some (.int .u8 5) := by have := (unhide RA).cell 0 (show 0 < 22 by decide); rw [this]; show some (Value.int .u8 ((m.kind.toNat : Nat) : Int)) = _; rw [hk]; rfl
  obtain ⟨w1, hu, hrow, hmf, hth⟩ := keep_at w0 { MsgV.zero with kind := 5 } none none 0 0
  have U1 := hide hu
  have T1 := hide hth
  have hX : Hid (w0.heap.size = A + 2) := hide hsz
  replace RA := hide ((unhide RA).keep hmf id)
  replace RR := hide ((unhide RR).keep hmf id)
  have RX := hide hrow
  have MV := hide hmf
  clear hk hw0 hA m0 hu hrow hmf hth hsz
  go_enter Tryd.func54, Tryd.ntmps54
  go_upto_region 1 with fail
  rw [← unhide HA, ← unhide HW]
  go_upto_region 2 with (refine wpList_store_mid rfl 29 (.tmp 3) (.tmp 7) rfl w0.heap.size 0 (msgCells { MsgV.zero with kind := 5 } none 0 none 0).toArray rfl rfl (unhide T1) (by kernel_rfl) (cells_one { MsgV.zero with kind := 5 } none none 0 0) ?_; change wpList _ _ _ _ _ (World.setCells _ w0.heap.size 0 (msgCells { MsgV.zero with kind := 5 } none 0 none 0)); rw [unhide U1]; clear T1 U1)
  generalize hXX : w0.heap.size = X at *
  replace hX := hide (show X = A + 2 from unhide hX)
  clear hXX k0
  have k0 : w1.cell? ⟨A, 0, none⟩ = some (.int .u8 5) := by have := (unhide RA).cell 0 (show 0 < 22 by decide); rw [this]; show some (Value.int .u8 ((m.kind.toNat : Nat) : Int)) = _; rw [unhide HK]; rfl
  replace MV := hide ((unhide MV).mono (G := fun j => j = X) (fun _ f => f.elim))
  go_upto_region 3 with fail
  have ks : w1.cell? ⟨A, 1, none⟩ = some (.int .i64 m.move) := (unhide RA).cell 1 (show 1 < 22 by decide)
  have kd := (unhide RX).cell 1 (show 1 < 22 by decide)
  have kf := (unhide RX).free 1 (show 1 < 22 by decide)
  obtain ⟨w2, hw⟩ : ∃ w', w1.setCell ⟨X, 1, none⟩ (.int .i64 m.move) = w' := ⟨_, rfl⟩
  have mw : Moved (fun j => j = X) w1 w2 := by rw [← hw]; exact Moved.put _ _ _ _
  have rx : RowAt w2 X ((msgCells { MsgV.zero with kind := 5 } none 0 none 0).set 1 (.int .i64 m.move)) := by rw [← hw]; exact (unhide RX).set 1 (show 1 < 22 by decide) _
  have HWN := hide hw
  clear hw
  go_upto_region 4 with fail
  rw [unhide HWN]
  replace RA := hide ((unhide RA).keep mw (by have := unhide hX; omega))
  replace RR := hide ((unhide RR).keep mw (by have := unhide hX; omega))
  replace RX := hide rx
  replace MV := hide ((unhide MV).trans mw fun _ h => .inl h)
  clear ks kd kf mw rx HWN k0
  have k0 : w2.cell? ⟨A, 0, none⟩ = some (.int .u8 5) := by have := (unhide RA).cell 0 (show 0 < 22 by decide); rw [this]; show some (Value.int .u8 ((m.kind.toNat : Nat) : Int)) = _; rw [unhide HK]; rfl
  go_upto_region 4 with fail
  have ks : w2.cell? ⟨A, 2, none⟩ = some (.int .i64 m.part) := (unhide RA).cell 2 (show 2 < 22 by decide)
  have kd := (unhide RX).cell 2 (show 2 < 22 by decide)
  have kf := (unhide RX).free 2 (show 2 < 22 by decide)
  obtain ⟨w3, hw⟩ : ∃ w', w2.setCell ⟨X, 2, none⟩ (.int .i64 m.part) = w' := ⟨_, rfl⟩
  have mw : Moved (fun j => j = X) w2 w3 := by rw [← hw]; exact Moved.put _ _ _ _
  have rx : RowAt w3 X (((msgCells { MsgV.zero with kind := 5 } none 0 none 0).set 1 (.int .i64 m.move)).set 2 (.int .i64 m.part)) := by rw [← hw]; exact (unhide RX).set 2 (show 2 < 22 by decide) _
  have HWN := hide hw
  clear hw
  go_upto_region 5 with fail
  rw [unhide HWN]
  replace RA := hide ((unhide RA).keep mw (by have := unhide hX; omega))
  replace RR := hide ((unhide RR).keep mw (by have := unhide hX; omega))
  replace RX := hide rx
  replace MV := hide ((unhide MV).trans mw fun _ h => .inl h)
  clear ks kd kf mw rx HWN k0
  have k0 : w3.cell? ⟨A, 0, none⟩ = some (.int .u8 5) := by have := (unhide RA).cell 0 (show 0 < 22 by decide); rw [this]; show some (Value.int .u8 ((m.kind.toNat : Nat) : Int)) = _; rw [unhide HK]; rfl
  have k9 : w3.cell? ⟨A, 9, none⟩ = some (.int .i64 m.item.src) := (unhide RA).cell 9 (show 9 < 22 by decide)
  have k10 : w3.cell? ⟨A, 10, none⟩ = some (.int .i64 m.item.seq) := (unhide RA).cell 10 (show 10 < 22 by decide)
  obtain ⟨w4, hu, hrow, hmf, hth⟩ := keep_row w3 24 [.int .i64 0, .int .i64 0, .int .i64 0, .int .u8 0, .string ⟨#[]⟩, .int .i64 0, .int .i64 0, .int .i64 0] [.int .i64 m.item.src, .int .i64 m.item.seq, .int .i64 0, .int .u8 0, .string ⟨#[]⟩, .int .i64 0, .int .i64 0, .int .i64 0] rfl
  have U2 := hide hu
  have T2 := hide hth
  have mf := hide hmf
  have hrw := hide hrow
  clear hu hth hmf hrow
  go_upto_region 6 with (refine wpList_store_mid rfl 24 (.tmp 4) (.tmp 28) rfl w3.heap.size 0 #[.int .i64 m.item.src, .int .i64 m.item.seq, .int .i64 0, .int .u8 0, .string ⟨#[]⟩, .int .i64 0, .int .i64 0, .int .i64 0] rfl rfl (unhide T2) (by kernel_rfl) (by simp [Value.oneCell']) ?_; change wpList _ _ _ _ _ (World.setCells _ w3.heap.size 0 [.int .i64 m.item.src, .int .i64 m.item.seq, .int .i64 0, .int .u8 0, .string ⟨#[]⟩, .int .i64 0, .int .i64 0, .int .i64 0]); rw [unhide U2])
  have hS : Hid (X < w3.heap.size ∧ A + 1 < w3.heap.size) := hide ⟨(unhide RX).lt, (unhide RR).lt⟩
  replace RA := hide ((unhide RA).keep (unhide mf) id)
  replace RR := hide ((unhide RR).keep (unhide mf) id)
  replace RX := hide ((unhide RX).keep (unhide mf) id)
  replace MV := hide ((unhide MV).trans (unhide mf) fun _ f => f.elim)
  have RS := hrw
  generalize hYY : w3.heap.size = Y at *
  clear hYY k9 k10 k0 T2 U2 mf hrw
  have k0 : w4.cell? ⟨A, 0, none⟩ = some (.int .u8 5) := by have := (unhide RA).cell 0 (show 0 < 22 by decide); rw [this]; show some (Value.int .u8 ((m.kind.toNat : Nat) : Int)) = _; rw [unhide HK]; rfl
  go_upto_region 18 with fail
  have ks : w4.cell? ⟨A, 4, none⟩ = some (.int .i64 m.n) := (unhide RA).cell 4 (show 4 < 22 by decide)
  have kd := (unhide RX).cell 4 (show 4 < 22 by decide)
  have kf := (unhide RX).free 4 (show 4 < 22 by decide)
  obtain ⟨w5, hw⟩ : ∃ w', w4.setCell ⟨X, 4, none⟩ (.int .i64 m.n) = w' := ⟨_, rfl⟩
  have mw : Moved (fun j => j = X) w4 w5 := by rw [← hw]; exact Moved.put _ _ _ _
  have rx : RowAt w5 X ((((msgCells { MsgV.zero with kind := 5 } none 0 none 0).set 1 (.int .i64 m.move)).set 2 (.int .i64 m.part)).set 4 (.int .i64 m.n)) := by rw [← hw]; exact (unhide RX).set 4 (show 4 < 22 by decide) _
  have HWN := hide hw
  clear hw
  go_upto_region 19 with fail
  rw [unhide HWN]
  replace RA := hide ((unhide RA).keep mw (by have := unhide hX; omega))
  replace RR := hide ((unhide RR).keep mw (by have := unhide hX; omega))
  replace RX := hide rx
  replace MV := hide ((unhide MV).trans mw fun _ h => .inl h)
  clear ks kd kf mw rx HWN k0
  have k0 : w5.cell? ⟨A, 0, none⟩ = some (.int .u8 5) := by have := (unhide RA).cell 0 (show 0 < 22 by decide); rw [this]; show some (Value.int .u8 ((m.kind.toNat : Nat) : Int)) = _; rw [unhide HK]; rfl
  go_upto_region 19 with fail
  have ks : w5.cell? ⟨A, 5, none⟩ = some (.int .i64 m.count) := (unhide RA).cell 5 (show 5 < 22 by decide)
  have kd := (unhide RX).cell 5 (show 5 < 22 by decide)
  have kf := (unhide RX).free 5 (show 5 < 22 by decide)
  obtain ⟨w6, hw⟩ : ∃ w', w5.setCell ⟨X, 5, none⟩ (.int .i64 m.count) = w' := ⟨_, rfl⟩
  have mw : Moved (fun j => j = X) w5 w6 := by rw [← hw]; exact Moved.put _ _ _ _
  have rx : RowAt w6 X (((((msgCells { MsgV.zero with kind := 5 } none 0 none 0).set 1 (.int .i64 m.move)).set 2 (.int .i64 m.part)).set 4 (.int .i64 m.n)).set 5 (.int .i64 m.count)) := by rw [← hw]; exact (unhide RX).set 5 (show 5 < 22 by decide) _
  have HWN := hide hw
  clear hw
  go_upto_region 20 with fail
  rw [unhide HWN]
  replace RA := hide ((unhide RA).keep mw (by have := unhide hX; omega))
  replace RR := hide ((unhide RR).keep mw (by have := unhide hX; omega))
  replace RX := hide rx
  replace MV := hide ((unhide MV).trans mw fun _ h => .inl h)
  clear ks kd kf mw rx HWN k0
  have k0 : w6.cell? ⟨A, 0, none⟩ = some (.int .u8 5) := by have := (unhide RA).cell 0 (show 0 < 22 by decide); rw [this]; show some (Value.int .u8 ((m.kind.toNat : Nat) : Int)) = _; rw [unhide HK]; rfl
  go_upto_region 20 with fail
  have ks : w6.cell? ⟨A, 21, none⟩ = some (.string ⟨m.data.toArray⟩) := (unhide RA).cell 21 (show 21 < 22 by decide)
  have kd := (unhide RX).cell 21 (show 21 < 22 by decide)
  have kf := (unhide RX).free 21 (show 21 < 22 by decide)
  obtain ⟨w7, hw⟩ : ∃ w', w6.setCell ⟨X, 21, none⟩ (.string ⟨m.data.toArray⟩) = w' := ⟨_, rfl⟩
  have mw : Moved (fun j => j = X) w6 w7 := by rw [← hw]; exact Moved.put _ _ _ _
  have rx : RowAt w7 X ((((((msgCells { MsgV.zero with kind := 5 } none 0 none 0).set 1 (.int .i64 m.move)).set 2 (.int .i64 m.part)).set 4 (.int .i64 m.n)).set 5 (.int .i64 m.count)).set 21 (.string ⟨m.data.toArray⟩)) := by rw [← hw]; exact (unhide RX).set 21 (show 21 < 22 by decide) _
  have HWN := hide hw
  clear hw
  go_upto_region 38 with fail
  rw [unhide HWN]
  replace RA := hide ((unhide RA).keep mw (by have := unhide hX; omega))
  replace RR := hide ((unhide RR).keep mw (by have := unhide hX; omega))
  replace RX := hide rx
  replace MV := hide ((unhide MV).trans mw fun _ h => .inl h)
  clear ks kd kf mw rx HWN k0
  have k0 : w7.cell? ⟨A, 0, none⟩ = some (.int .u8 5) := by have := (unhide RA).cell 0 (show 0 < 22 by decide); rw [this]; show some (Value.int .u8 ((m.kind.toNat : Nat) : Int)) = _; rw [unhide HK]; rfl
  have hfin : (msgCells (only m) none 0 none 0) = ((((((msgCells { MsgV.zero with kind := 5 } none 0 none 0).set 1 (.int .i64 m.move)).set 2 (.int .i64 m.part)).set 4 (.int .i64 m.n)).set 5 (.int .i64 m.count)).set 21 (.string ⟨m.data.toArray⟩)) := by
    have hk := unhide HK
    have e : only m = only { m with kind := 5 } := by rw [← hk]
    rw [e]
    rfl
  have RX2 := unhide RX
  rw [← hfin] at RX2
  have hrg := hide RX2.range
  have hth := hide (unhide RR).there
  have RF := hide ((unhide RR).put (msgCells (only m) none 0 none 0) rfl).range
  have mset := setCells_moved w7 (A + 1) 0 (msgCells (only m) none 0 none 0)
  have MF := hide (((unhide HM).trans (unhide MV) fun i hi => .inr (by have := unhide hX; have := unhide HA; omega)).trans mset fun i hi => .inr (by have := unhide HA; omega))
  have RFF := hide hfin
  clear mset RX2 hfin k0
  obtain ⟨cs, hcs⟩ : ∃ cs, (msgCells (only m) none 0 none 0) = cs := ⟨_, rfl⟩
  have hone := cells_one (only m) none none 0 0
  have hlen : cs.length = 22 := by rw [← hcs]; rfl
  rw [hcs] at hrg RF MF hone
  have HCS := hide hcs
  have HONE := hide hone
  have hi22 : (Tryd.prog.info? 29).map (·.size) = some cs.length := by rw [hlen]; kernel_rfl
  have hi22' : (Tryd.prog.info? 29).map (·.size) = some cs.toArray.size := by rw [List.size_toArray, hlen]; kernel_rfl
  have hth' : Hid (w7.there (A + 1) 0 cs.toArray.size) := hide (by rw [List.size_toArray, hlen]; exact unhide hth)
  have HI := hide (And.intro hi22 hi22')
  clear hcs hone hlen hth hi22 hi22'
  obtain ⟨wf, hwf⟩ : ∃ wf, w7.setCells (A + 1) 0 cs = wf := ⟨_, rfl⟩
  rw [hwf] at RF MF
  have HWF := hide hwf
  clear hwf
  go_wp2_with (first | (refine wpList_load_on rfl 29 (.tmp 3) rfl X 0 rfl cs _ (unhide hrg) Tryd.underlying29 rfl (unhide HI).1 ?_) | (refine wpList_store_mid rfl 29 (.tmp 2) (.tmp 109) rfl (A + 1) 0 cs.toArray rfl rfl (unhide hth') (unhide HI).2 (unhide HONE) ?_; change wpList _ _ _ _ _ (w7.setCells (A + 1) 0 cs); rw [unhide HWF]))
  refine bodyPost_ret (v := .agg cs.toArray) ?_ rfl ?_
  · exact results_cell_mid Tryd.results54 _ wf (A + 1) _ _ rfl (unhide RF) Tryd.underlying29 rfl (unhide HI).1
  · exact ⟨by rw [unhide HCS], unhide MF⟩
set_option maxHeartbeats 8000000 in
set_option maxRecDepth 100000 in
theorem refonly_6 (m : MsgV) (a1 a2 : Option Addr) (c1 c2 : Nat) (w : World) (hk : m.kind = 6) :
    Calls Tryd.prog 54 #[.agg (msgCells m a1 c1 a2 c2).toArray] w fun e w' => e = .returned (.agg (msgCells (only m) none 0 a2 c2).toArray) ∧ Moved (fun _ => False) w w' := by
  obtain ⟨A, hA⟩ : ∃ A, A = w.heap.size := ⟨_, rfl⟩
  obtain ⟨w0, hw0⟩ : ∃ w0, w0 = (w.alloc (.cells (msgCells m a1 c1 a2 c2).toArray 29)).alloc (.cells #[.int .u8 0, .int .i64 0, .int .i64 0, .int .i64 0, .int .i64 0, .int .i64 0, .int .i64 0, .int .u64 0, .int .i64 0, .int .i64 0, .int .i64 0, .int .i64 0, .int .u8 0, .string ⟨#[]⟩, .int .i64 0, .int .i64 0, .int .i64 0, .int .i64 0, .int .i64 0, .slice none 0 0, .slice none 0 0, .string ⟨#[]⟩] 29) := ⟨_, rfl⟩
  have m0 : Moved (fun _ => False) w w0 := by rw [hw0]; exact ((Moved.refl _ _).alloc _).alloc _
  have RA : Hid (RowAt w0 A (msgCells m a1 c1 a2 c2)) := hide (by rw [hw0, hA]; exact row_old (row_new _ _ _) _)
  have RR : Hid (RowAt w0 (A + 1) (msgCells MsgV.zero none 0 none 0)) := hide (by rw [hw0, hA]; exact row_new2 _ (msgCells MsgV.zero none 0 none 0) _ _ _)
  have hsz : w0.heap.size = A + 2 := by rw [hw0, hA]; simp
  have HK := hide hk
  have HW := hide hw0
  have HA := hide hA
  have HM := hide m0
  have k0 : w0.cell? ⟨A, 0, none⟩ = some (.int .u8 6) := by have := (unhide RA).cell 0 (show 0 < 22 by decide); rw [this]; show some (Value.int .u8 ((m.kind.toNat : Nat) : Int)) = _; rw [hk]; rfl
  obtain ⟨w1, hu, hrow, hmf, hth⟩ := keep_at w0 { MsgV.zero with kind := 6 } none none 0 0
  have U1 := hide hu
  have T1 := hide hth
  have hX : Hid (w0.heap.size = A + 2) := hide hsz
  replace RA := hide ((unhide RA).keep hmf id)
  replace RR := hide ((unhide RR).keep hmf id)
  have RX := hide hrow
  have MV := hide hmf
  clear hk hw0 hA m0 hu hrow hmf hth hsz
  go_enter Tryd.func54, Tryd.ntmps54
  go_upto_region 1 with fail
  rw [← unhide HA, ← unhide HW]
  go_upto_region 2 with (refine wpList_store_mid rfl 29 (.tmp 3) (.tmp 7) rfl w0.heap.size 0 (msgCells { MsgV.zero with kind := 6 } none 0 none 0).toArray rfl rfl (unhide T1) (by kernel_rfl) (cells_one { MsgV.zero with kind := 6 } none none 0 0) ?_; change wpList _ _ _ _ _ (World.setCells _ w0.heap.size 0 (msgCells { MsgV.zero with kind := 6 } none 0 none 0)); rw [unhide U1]; clear T1 U1)
  generalize hXX : w0.heap.size = X at *
  replace hX := hide (show X = A + 2 from unhide hX)
  clear hXX k0
  have k0 : w1.cell? ⟨A, 0, none⟩ = some (.int .u8 6) := by have := (unhide RA).cell 0 (show 0 < 22 by decide); rw [this]; show some (Value.int .u8 ((m.kind.toNat : Nat) : Int)) = _; rw [unhide HK]; rfl
  replace MV := hide ((unhide MV).mono (G := fun j => j = X) (fun _ f => f.elim))
  go_upto_region 3 with fail
  have ks : w1.cell? ⟨A, 1, none⟩ = some (.int .i64 m.move) := (unhide RA).cell 1 (show 1 < 22 by decide)
  have kd := (unhide RX).cell 1 (show 1 < 22 by decide)
  have kf := (unhide RX).free 1 (show 1 < 22 by decide)
  obtain ⟨w2, hw⟩ : ∃ w', w1.setCell ⟨X, 1, none⟩ (.int .i64 m.move) = w' := ⟨_, rfl⟩
  have mw : Moved (fun j => j = X) w1 w2 := by rw [← hw]; exact Moved.put _ _ _ _
  have rx : RowAt w2 X ((msgCells { MsgV.zero with kind := 6 } none 0 none 0).set 1 (.int .i64 m.move)) := by rw [← hw]; exact (unhide RX).set 1 (show 1 < 22 by decide) _
  have HWN := hide hw
  clear hw
  go_upto_region 4 with fail
  rw [unhide HWN]
  replace RA := hide ((unhide RA).keep mw (by have := unhide hX; omega))
  replace RR := hide ((unhide RR).keep mw (by have := unhide hX; omega))
  replace RX := hide rx
  replace MV := hide ((unhide MV).trans mw fun _ h => .inl h)
  clear ks kd kf mw rx HWN k0
  have k0 : w2.cell? ⟨A, 0, none⟩ = some (.int .u8 6) := by have := (unhide RA).cell 0 (show 0 < 22 by decide); rw [this]; show some (Value.int .u8 ((m.kind.toNat : Nat) : Int)) = _; rw [unhide HK]; rfl
  go_upto_region 4 with fail
  have ks : w2.cell? ⟨A, 2, none⟩ = some (.int .i64 m.part) := (unhide RA).cell 2 (show 2 < 22 by decide)
  have kd := (unhide RX).cell 2 (show 2 < 22 by decide)
  have kf := (unhide RX).free 2 (show 2 < 22 by decide)
  obtain ⟨w3, hw⟩ : ∃ w', w2.setCell ⟨X, 2, none⟩ (.int .i64 m.part) = w' := ⟨_, rfl⟩
  have mw : Moved (fun j => j = X) w2 w3 := by rw [← hw]; exact Moved.put _ _ _ _
  have rx : RowAt w3 X (((msgCells { MsgV.zero with kind := 6 } none 0 none 0).set 1 (.int .i64 m.move)).set 2 (.int .i64 m.part)) := by rw [← hw]; exact (unhide RX).set 2 (show 2 < 22 by decide) _
  have HWN := hide hw
  clear hw
  go_upto_region 5 with fail
  rw [unhide HWN]
  replace RA := hide ((unhide RA).keep mw (by have := unhide hX; omega))
  replace RR := hide ((unhide RR).keep mw (by have := unhide hX; omega))
  replace RX := hide rx
  replace MV := hide ((unhide MV).trans mw fun _ h => .inl h)
  clear ks kd kf mw rx HWN k0
  have k0 : w3.cell? ⟨A, 0, none⟩ = some (.int .u8 6) := by have := (unhide RA).cell 0 (show 0 < 22 by decide); rw [this]; show some (Value.int .u8 ((m.kind.toNat : Nat) : Int)) = _; rw [unhide HK]; rfl
  have k9 : w3.cell? ⟨A, 9, none⟩ = some (.int .i64 m.item.src) := (unhide RA).cell 9 (show 9 < 22 by decide)
  have k10 : w3.cell? ⟨A, 10, none⟩ = some (.int .i64 m.item.seq) := (unhide RA).cell 10 (show 10 < 22 by decide)
  obtain ⟨w4, hu, hrow, hmf, hth⟩ := keep_row w3 24 [.int .i64 0, .int .i64 0, .int .i64 0, .int .u8 0, .string ⟨#[]⟩, .int .i64 0, .int .i64 0, .int .i64 0] [.int .i64 m.item.src, .int .i64 m.item.seq, .int .i64 0, .int .u8 0, .string ⟨#[]⟩, .int .i64 0, .int .i64 0, .int .i64 0] rfl
  have U2 := hide hu
  have T2 := hide hth
  have mf := hide hmf
  have hrw := hide hrow
  clear hu hth hmf hrow
  go_upto_region 6 with (refine wpList_store_mid rfl 24 (.tmp 4) (.tmp 28) rfl w3.heap.size 0 #[.int .i64 m.item.src, .int .i64 m.item.seq, .int .i64 0, .int .u8 0, .string ⟨#[]⟩, .int .i64 0, .int .i64 0, .int .i64 0] rfl rfl (unhide T2) (by kernel_rfl) (by simp [Value.oneCell']) ?_; change wpList _ _ _ _ _ (World.setCells _ w3.heap.size 0 [.int .i64 m.item.src, .int .i64 m.item.seq, .int .i64 0, .int .u8 0, .string ⟨#[]⟩, .int .i64 0, .int .i64 0, .int .i64 0]); rw [unhide U2])
  have hS : Hid (X < w3.heap.size ∧ A + 1 < w3.heap.size) := hide ⟨(unhide RX).lt, (unhide RR).lt⟩
  replace RA := hide ((unhide RA).keep (unhide mf) id)
  replace RR := hide ((unhide RR).keep (unhide mf) id)
  replace RX := hide ((unhide RX).keep (unhide mf) id)
  replace MV := hide ((unhide MV).trans (unhide mf) fun _ f => f.elim)
  have RS := hrw
  generalize hYY : w3.heap.size = Y at *
  clear hYY k9 k10 k0 T2 U2 mf hrw
  have k0 : w4.cell? ⟨A, 0, none⟩ = some (.int .u8 6) := by have := (unhide RA).cell 0 (show 0 < 22 by decide); rw [this]; show some (Value.int .u8 ((m.kind.toNat : Nat) : Int)) = _; rw [unhide HK]; rfl
  go_upto_region 22 with fail
  have ks : w4.cell? ⟨A, 4, none⟩ = some (.int .i64 m.n) := (unhide RA).cell 4 (show 4 < 22 by decide)
  have kd := (unhide RX).cell 4 (show 4 < 22 by decide)
  have kf := (unhide RX).free 4 (show 4 < 22 by decide)
  obtain ⟨w5, hw⟩ : ∃ w', w4.setCell ⟨X, 4, none⟩ (.int .i64 m.n) = w' := ⟨_, rfl⟩
  have mw : Moved (fun j => j = X) w4 w5 := by rw [← hw]; exact Moved.put _ _ _ _
  have rx : RowAt w5 X ((((msgCells { MsgV.zero with kind := 6 } none 0 none 0).set 1 (.int .i64 m.move)).set 2 (.int .i64 m.part)).set 4 (.int .i64 m.n)) := by rw [← hw]; exact (unhide RX).set 4 (show 4 < 22 by decide) _
  have HWN := hide hw
  clear hw
  go_upto_region 23 with fail
  rw [unhide HWN]
  replace RA := hide ((unhide RA).keep mw (by have := unhide hX; omega))
  replace RR := hide ((unhide RR).keep mw (by have := unhide hX; omega))
  replace RX := hide rx
  replace MV := hide ((unhide MV).trans mw fun _ h => .inl h)
  clear ks kd kf mw rx HWN k0
  have k0 : w5.cell? ⟨A, 0, none⟩ = some (.int .u8 6) := by have := (unhide RA).cell 0 (show 0 < 22 by decide); rw [this]; show some (Value.int .u8 ((m.kind.toNat : Nat) : Int)) = _; rw [unhide HK]; rfl
  go_upto_region 23 with fail
  have ks : w5.cell? ⟨A, 20, none⟩ = some (.slice a2 m.set.length c2) := (unhide RA).cell 20 (show 20 < 22 by decide)
  have kd := (unhide RX).cell 20 (show 20 < 22 by decide)
  have kf := (unhide RX).free 20 (show 20 < 22 by decide)
  obtain ⟨w6, hw⟩ : ∃ w', w5.setCell ⟨X, 20, none⟩ (.slice a2 m.set.length c2) = w' := ⟨_, rfl⟩
  have mw : Moved (fun j => j = X) w5 w6 := by rw [← hw]; exact Moved.put _ _ _ _
  have rx : RowAt w6 X (((((msgCells { MsgV.zero with kind := 6 } none 0 none 0).set 1 (.int .i64 m.move)).set 2 (.int .i64 m.part)).set 4 (.int .i64 m.n)).set 20 (.slice a2 m.set.length c2)) := by rw [← hw]; exact (unhide RX).set 20 (show 20 < 22 by decide) _
  have HWN := hide hw
  clear hw
  go_upto_region 38 with fail
  rw [unhide HWN]
  replace RA := hide ((unhide RA).keep mw (by have := unhide hX; omega))
  replace RR := hide ((unhide RR).keep mw (by have := unhide hX; omega))
  replace RX := hide rx
  replace MV := hide ((unhide MV).trans mw fun _ h => .inl h)
  clear ks kd kf mw rx HWN k0
  have k0 : w6.cell? ⟨A, 0, none⟩ = some (.int .u8 6) := by have := (unhide RA).cell 0 (show 0 < 22 by decide); rw [this]; show some (Value.int .u8 ((m.kind.toNat : Nat) : Int)) = _; rw [unhide HK]; rfl
  have hfin : (msgCells (only m) none 0 a2 c2) = (((((msgCells { MsgV.zero with kind := 6 } none 0 none 0).set 1 (.int .i64 m.move)).set 2 (.int .i64 m.part)).set 4 (.int .i64 m.n)).set 20 (.slice a2 m.set.length c2)) := by
    have hk := unhide HK
    have e : only m = only { m with kind := 6 } := by rw [← hk]
    rw [e]
    rfl
  have RX2 := unhide RX
  rw [← hfin] at RX2
  have hrg := hide RX2.range
  have hth := hide (unhide RR).there
  have RF := hide ((unhide RR).put (msgCells (only m) none 0 a2 c2) rfl).range
  have mset := setCells_moved w6 (A + 1) 0 (msgCells (only m) none 0 a2 c2)
  have MF := hide (((unhide HM).trans (unhide MV) fun i hi => .inr (by have := unhide hX; have := unhide HA; omega)).trans mset fun i hi => .inr (by have := unhide HA; omega))
  have RFF := hide hfin
  clear mset RX2 hfin k0
  obtain ⟨cs, hcs⟩ : ∃ cs, (msgCells (only m) none 0 a2 c2) = cs := ⟨_, rfl⟩
  have hone := cells_one (only m) none a2 0 c2
  have hlen : cs.length = 22 := by rw [← hcs]; rfl
  rw [hcs] at hrg RF MF hone
  have HCS := hide hcs
  have HONE := hide hone
  have hi22 : (Tryd.prog.info? 29).map (·.size) = some cs.length := by rw [hlen]; kernel_rfl
  have hi22' : (Tryd.prog.info? 29).map (·.size) = some cs.toArray.size := by rw [List.size_toArray, hlen]; kernel_rfl
  have hth' : Hid (w6.there (A + 1) 0 cs.toArray.size) := hide (by rw [List.size_toArray, hlen]; exact unhide hth)
  have HI := hide (And.intro hi22 hi22')
  clear hcs hone hlen hth hi22 hi22'
  obtain ⟨wf, hwf⟩ : ∃ wf, w6.setCells (A + 1) 0 cs = wf := ⟨_, rfl⟩
  rw [hwf] at RF MF
  have HWF := hide hwf
  clear hwf
  go_wp2_with (first | (refine wpList_load_on rfl 29 (.tmp 3) rfl X 0 rfl cs _ (unhide hrg) Tryd.underlying29 rfl (unhide HI).1 ?_) | (refine wpList_store_mid rfl 29 (.tmp 2) (.tmp 109) rfl (A + 1) 0 cs.toArray rfl rfl (unhide hth') (unhide HI).2 (unhide HONE) ?_; change wpList _ _ _ _ _ (w6.setCells (A + 1) 0 cs); rw [unhide HWF]))
  refine bodyPost_ret (v := .agg cs.toArray) ?_ rfl ?_
  · exact results_cell_mid Tryd.results54 _ wf (A + 1) _ _ rfl (unhide RF) Tryd.underlying29 rfl (unhide HI).1
  · exact ⟨by rw [unhide HCS], unhide MF⟩
set_option maxHeartbeats 8000000 in
set_option maxRecDepth 100000 in
theorem refonly_7 (m : MsgV) (a1 a2 : Option Addr) (c1 c2 : Nat) (w : World) (hk : m.kind = 7) :
    Calls Tryd.prog 54 #[.agg (msgCells m a1 c1 a2 c2).toArray] w fun e w' => e = .returned (.agg (msgCells (only m) none 0 none 0).toArray) ∧ Moved (fun _ => False) w w' := by
  obtain ⟨A, hA⟩ : ∃ A, A = w.heap.size := ⟨_, rfl⟩
  obtain ⟨w0, hw0⟩ : ∃ w0, w0 = (w.alloc (.cells (msgCells m a1 c1 a2 c2).toArray 29)).alloc (.cells #[.int .u8 0, .int .i64 0, .int .i64 0, .int .i64 0, .int .i64 0, .int .i64 0, .int .i64 0, .int .u64 0, .int .i64 0, .int .i64 0, .int .i64 0, .int .i64 0, .int .u8 0, .string ⟨#[]⟩, .int .i64 0, .int .i64 0, .int .i64 0, .int .i64 0, .int .i64 0, .slice none 0 0, .slice none 0 0, .string ⟨#[]⟩] 29) := ⟨_, rfl⟩
  have m0 : Moved (fun _ => False) w w0 := by rw [hw0]; exact ((Moved.refl _ _).alloc _).alloc _
  have RA : Hid (RowAt w0 A (msgCells m a1 c1 a2 c2)) := hide (by rw [hw0, hA]; exact row_old (row_new _ _ _) _)
  have RR : Hid (RowAt w0 (A + 1) (msgCells MsgV.zero none 0 none 0)) := hide (by rw [hw0, hA]; exact row_new2 _ (msgCells MsgV.zero none 0 none 0) _ _ _)
  have hsz : w0.heap.size = A + 2 := by rw [hw0, hA]; simp
  have HK := hide hk
  have HW := hide hw0
  have HA := hide hA
  have HM := hide m0
  have k0 : w0.cell? ⟨A, 0, none⟩ = some (.int .u8 7) := by have := (unhide RA).cell 0 (show 0 < 22 by decide); rw [this]; show some (Value.int .u8 ((m.kind.toNat : Nat) : Int)) = _; rw [hk]; rfl
  obtain ⟨w1, hu, hrow, hmf, hth⟩ := keep_at w0 { MsgV.zero with kind := 7 } none none 0 0
  have U1 := hide hu
  have T1 := hide hth
  have hX : Hid (w0.heap.size = A + 2) := hide hsz
  replace RA := hide ((unhide RA).keep hmf id)
  replace RR := hide ((unhide RR).keep hmf id)
  have RX := hide hrow
  have MV := hide hmf
  clear hk hw0 hA m0 hu hrow hmf hth hsz
  go_enter Tryd.func54, Tryd.ntmps54
  go_upto_region 1 with fail
  rw [← unhide HA, ← unhide HW]
  go_upto_region 2 with (refine wpList_store_mid rfl 29 (.tmp 3) (.tmp 7) rfl w0.heap.size 0 (msgCells { MsgV.zero with kind := 7 } none 0 none 0).toArray rfl rfl (unhide T1) (by kernel_rfl) (cells_one { MsgV.zero with kind := 7 } none none 0 0) ?_; change wpList _ _ _ _ _ (World.setCells _ w0.heap.size 0 (msgCells { MsgV.zero with kind := 7 } none 0 none 0)); rw [unhide U1]; clear T1 U1)
  generalize hXX : w0.heap.size = X at *
  replace hX := hide (show X = A + 2 from unhide hX)
  clear hXX k0
  have k0 : w1.cell? ⟨A, 0, none⟩ = some (.int .u8 7) := by have := (unhide RA).cell 0 (show 0 < 22 by decide); rw [this]; show some (Value.int .u8 ((m.kind.toNat : Nat) : Int)) = _; rw [unhide HK]; rfl
  replace MV := hide ((unhide MV).mono (G := fun j => j = X) (fun _ f => f.elim))
  go_upto_region 3 with fail
  have ks : w1.cell? ⟨A, 1, none⟩ = some (.int .i64 m.move) := (unhide RA).cell 1 (show 1 < 22 by decide)
  have kd := (unhide RX).cell 1 (show 1 < 22 by decide)
  have kf := (unhide RX).free 1 (show 1 < 22 by decide)
  obtain ⟨w2, hw⟩ : ∃ w', w1.setCell ⟨X, 1, none⟩ (.int .i64 m.move) = w' := ⟨_, rfl⟩
  have mw : Moved (fun j => j = X) w1 w2 := by rw [← hw]; exact Moved.put _ _ _ _
  have rx : RowAt w2 X ((msgCells { MsgV.zero with kind := 7 } none 0 none 0).set 1 (.int .i64 m.move)) := by rw [← hw]; exact (unhide RX).set 1 (show 1 < 22 by decide) _
  have HWN := hide hw
  clear hw
  go_upto_region 4 with fail
  rw [unhide HWN]
  replace RA := hide ((unhide RA).keep mw (by have := unhide hX; omega))
  replace RR := hide ((unhide RR).keep mw (by have := unhide hX; omega))
  replace RX := hide rx
  replace MV := hide ((unhide MV).trans mw fun _ h => .inl h)
  clear ks kd kf mw rx HWN k0
  have k0 : w2.cell? ⟨A, 0, none⟩ = some (.int .u8 7) := by have := (unhide RA).cell 0 (show 0 < 22 by decide); rw [this]; show some (Value.int .u8 ((m.kind.toNat : Nat) : Int)) = _; rw [unhide HK]; rfl
  go_upto_region 4 with fail
  have ks : w2.cell? ⟨A, 2, none⟩ = some (.int .i64 m.part) := (unhide RA).cell 2 (show 2 < 22 by decide)
  have kd := (unhide RX).cell 2 (show 2 < 22 by decide)
  have kf := (unhide RX).free 2 (show 2 < 22 by decide)
  obtain ⟨w3, hw⟩ : ∃ w', w2.setCell ⟨X, 2, none⟩ (.int .i64 m.part) = w' := ⟨_, rfl⟩
  have mw : Moved (fun j => j = X) w2 w3 := by rw [← hw]; exact Moved.put _ _ _ _
  have rx : RowAt w3 X (((msgCells { MsgV.zero with kind := 7 } none 0 none 0).set 1 (.int .i64 m.move)).set 2 (.int .i64 m.part)) := by rw [← hw]; exact (unhide RX).set 2 (show 2 < 22 by decide) _
  have HWN := hide hw
  clear hw
  go_upto_region 5 with fail
  rw [unhide HWN]
  replace RA := hide ((unhide RA).keep mw (by have := unhide hX; omega))
  replace RR := hide ((unhide RR).keep mw (by have := unhide hX; omega))
  replace RX := hide rx
  replace MV := hide ((unhide MV).trans mw fun _ h => .inl h)
  clear ks kd kf mw rx HWN k0
  have k0 : w3.cell? ⟨A, 0, none⟩ = some (.int .u8 7) := by have := (unhide RA).cell 0 (show 0 < 22 by decide); rw [this]; show some (Value.int .u8 ((m.kind.toNat : Nat) : Int)) = _; rw [unhide HK]; rfl
  have k9 : w3.cell? ⟨A, 9, none⟩ = some (.int .i64 m.item.src) := (unhide RA).cell 9 (show 9 < 22 by decide)
  have k10 : w3.cell? ⟨A, 10, none⟩ = some (.int .i64 m.item.seq) := (unhide RA).cell 10 (show 10 < 22 by decide)
  obtain ⟨w4, hu, hrow, hmf, hth⟩ := keep_row w3 24 [.int .i64 0, .int .i64 0, .int .i64 0, .int .u8 0, .string ⟨#[]⟩, .int .i64 0, .int .i64 0, .int .i64 0] [.int .i64 m.item.src, .int .i64 m.item.seq, .int .i64 0, .int .u8 0, .string ⟨#[]⟩, .int .i64 0, .int .i64 0, .int .i64 0] rfl
  have U2 := hide hu
  have T2 := hide hth
  have mf := hide hmf
  have hrw := hide hrow
  clear hu hth hmf hrow
  go_upto_region 6 with (refine wpList_store_mid rfl 24 (.tmp 4) (.tmp 28) rfl w3.heap.size 0 #[.int .i64 m.item.src, .int .i64 m.item.seq, .int .i64 0, .int .u8 0, .string ⟨#[]⟩, .int .i64 0, .int .i64 0, .int .i64 0] rfl rfl (unhide T2) (by kernel_rfl) (by simp [Value.oneCell']) ?_; change wpList _ _ _ _ _ (World.setCells _ w3.heap.size 0 [.int .i64 m.item.src, .int .i64 m.item.seq, .int .i64 0, .int .u8 0, .string ⟨#[]⟩, .int .i64 0, .int .i64 0, .int .i64 0]); rw [unhide U2])
  have hS : Hid (X < w3.heap.size ∧ A + 1 < w3.heap.size) := hide ⟨(unhide RX).lt, (unhide RR).lt⟩
  replace RA := hide ((unhide RA).keep (unhide mf) id)
  replace RR := hide ((unhide RR).keep (unhide mf) id)
  replace RX := hide ((unhide RX).keep (unhide mf) id)
  replace MV := hide ((unhide MV).trans (unhide mf) fun _ f => f.elim)
  have RS := hrw
  generalize hYY : w3.heap.size = Y at *
  clear hYY k9 k10 k0 T2 U2 mf hrw
  have k0 : w4.cell? ⟨A, 0, none⟩ = some (.int .u8 7) := by have := (unhide RA).cell 0 (show 0 < 22 by decide); rw [this]; show some (Value.int .u8 ((m.kind.toNat : Nat) : Int)) = _; rw [unhide HK]; rfl
  go_upto_region 25 with fail
  have ks : w4.cell? ⟨A, 4, none⟩ = some (.int .i64 m.n) := (unhide RA).cell 4 (show 4 < 22 by decide)
  have kd := (unhide RX).cell 4 (show 4 < 22 by decide)
  have kf := (unhide RX).free 4 (show 4 < 22 by decide)
  obtain ⟨w5, hw⟩ : ∃ w', w4.setCell ⟨X, 4, none⟩ (.int .i64 m.n) = w' := ⟨_, rfl⟩
  have mw : Moved (fun j => j = X) w4 w5 := by rw [← hw]; exact Moved.put _ _ _ _
  have rx : RowAt w5 X ((((msgCells { MsgV.zero with kind := 7 } none 0 none 0).set 1 (.int .i64 m.move)).set 2 (.int .i64 m.part)).set 4 (.int .i64 m.n)) := by rw [← hw]; exact (unhide RX).set 4 (show 4 < 22 by decide) _
  have HWN := hide hw
  clear hw
  go_upto_region 26 with fail
  rw [unhide HWN]
  replace RA := hide ((unhide RA).keep mw (by have := unhide hX; omega))
  replace RR := hide ((unhide RR).keep mw (by have := unhide hX; omega))
  replace RX := hide rx
  replace MV := hide ((unhide MV).trans mw fun _ h => .inl h)
  clear ks kd kf mw rx HWN k0
  have k0 : w5.cell? ⟨A, 0, none⟩ = some (.int .u8 7) := by have := (unhide RA).cell 0 (show 0 < 22 by decide); rw [this]; show some (Value.int .u8 ((m.kind.toNat : Nat) : Int)) = _; rw [unhide HK]; rfl
  go_upto_region 26 with fail
  obtain ⟨w6, hw⟩ : ∃ w', w5.setCells X 9 (itemCells m.item) = w' := ⟨_, rfl⟩
  have mw : Moved (fun j => j = X) w5 w6 := by rw [← hw]; exact setCells_moved _ _ _ _
  have rx : RowAt w6 X (setsL ((((msgCells { MsgV.zero with kind := 7 } none 0 none 0).set 1 (.int .i64 m.move)).set 2 (.int .i64 m.part)).set 4 (.int .i64 m.n)) 9 (itemCells m.item)) := by rw [← hw]; exact (unhide RX).sets (itemCells m.item) 9 (show 9 + 8 ≤ 22 by decide)
  have hth := hide ((unhide RX).thereMid 9 8 (show 9 + 8 ≤ 22 by decide))
  have rng := hide (range8 (unhide RA))
  have HWN := hide hw
  clear hw
  go_upto_region 38 with (first | (refine wpList_load_on rfl 24 (.tmp 79) rfl A 9 rfl (itemCells m.item) _ (unhide rng) Tryd.underlying24 rfl (by kernel_rfl) ?_) | (refine wpList_store_mid rfl 24 (.tmp 81) (.tmp 80) rfl X 9 (itemCells m.item).toArray rfl rfl (unhide hth) (by kernel_rfl) (by simp [itemCells, Value.oneCell']) ?_; change wpList _ _ _ _ _ (w5.setCells X 9 (itemCells m.item)); rw [unhide HWN]))
  replace RA := hide ((unhide RA).keep mw (by have := unhide hX; omega))
  replace RR := hide ((unhide RR).keep mw (by have := unhide hX; omega))
  replace RX := hide rx
  replace MV := hide ((unhide MV).trans mw fun _ h => .inl h)
  clear mw rx HWN hth rng k0
  have k0 : w6.cell? ⟨A, 0, none⟩ = some (.int .u8 7) := by have := (unhide RA).cell 0 (show 0 < 22 by decide); rw [this]; show some (Value.int .u8 ((m.kind.toNat : Nat) : Int)) = _; rw [unhide HK]; rfl
  have hfin : (msgCells (only m) none 0 none 0) = (setsL ((((msgCells { MsgV.zero with kind := 7 } none 0 none 0).set 1 (.int .i64 m.move)).set 2 (.int .i64 m.part)).set 4 (.int .i64 m.n)) 9 (itemCells m.item)) := by
    have hk := unhide HK
    have e : only m = only { m with kind := 7 } := by rw [← hk]
    rw [e]
    rfl
  have RX2 := unhide RX
  rw [← hfin] at RX2
  have hrg := hide RX2.range
  have hth := hide (unhide RR).there
  have RF := hide ((unhide RR).put (msgCells (only m) none 0 none 0) rfl).range
  have mset := setCells_moved w6 (A + 1) 0 (msgCells (only m) none 0 none 0)
  have MF := hide (((unhide HM).trans (unhide MV) fun i hi => .inr (by have := unhide hX; have := unhide HA; omega)).trans mset fun i hi => .inr (by have := unhide HA; omega))
  have RFF := hide hfin
  clear mset RX2 hfin k0
  obtain ⟨cs, hcs⟩ : ∃ cs, (msgCells (only m) none 0 none 0) = cs := ⟨_, rfl⟩
  have hone := cells_one (only m) none none 0 0
  have hlen : cs.length = 22 := by rw [← hcs]; rfl
  rw [hcs] at hrg RF MF hone
  have HCS := hide hcs
  have HONE := hide hone
  have hi22 : (Tryd.prog.info? 29).map (·.size) = some cs.length := by rw [hlen]; kernel_rfl
  have hi22' : (Tryd.prog.info? 29).map (·.size) = some cs.toArray.size := by rw [List.size_toArray, hlen]; kernel_rfl
  have hth' : Hid (w6.there (A + 1) 0 cs.toArray.size) := hide (by rw [List.size_toArray, hlen]; exact unhide hth)
  have HI := hide (And.intro hi22 hi22')
  clear hcs hone hlen hth hi22 hi22'
  obtain ⟨wf, hwf⟩ : ∃ wf, w6.setCells (A + 1) 0 cs = wf := ⟨_, rfl⟩
  rw [hwf] at RF MF
  have HWF := hide hwf
  clear hwf
  go_wp2_with (first | (refine wpList_load_on rfl 29 (.tmp 3) rfl X 0 rfl cs _ (unhide hrg) Tryd.underlying29 rfl (unhide HI).1 ?_) | (refine wpList_store_mid rfl 29 (.tmp 2) (.tmp 109) rfl (A + 1) 0 cs.toArray rfl rfl (unhide hth') (unhide HI).2 (unhide HONE) ?_; change wpList _ _ _ _ _ (w6.setCells (A + 1) 0 cs); rw [unhide HWF]))
  refine bodyPost_ret (v := .agg cs.toArray) ?_ rfl ?_
  · exact results_cell_mid Tryd.results54 _ wf (A + 1) _ _ rfl (unhide RF) Tryd.underlying29 rfl (unhide HI).1
  · exact ⟨by rw [unhide HCS], unhide MF⟩
set_option maxHeartbeats 8000000 in
set_option maxRecDepth 100000 in
theorem refonly_8 (m : MsgV) (a1 a2 : Option Addr) (c1 c2 : Nat) (w : World) (hk : m.kind = 8) :
    Calls Tryd.prog 54 #[.agg (msgCells m a1 c1 a2 c2).toArray] w fun e w' => e = .returned (.agg (msgCells (only m) none 0 none 0).toArray) ∧ Moved (fun _ => False) w w' := by
  obtain ⟨A, hA⟩ : ∃ A, A = w.heap.size := ⟨_, rfl⟩
  obtain ⟨w0, hw0⟩ : ∃ w0, w0 = (w.alloc (.cells (msgCells m a1 c1 a2 c2).toArray 29)).alloc (.cells #[.int .u8 0, .int .i64 0, .int .i64 0, .int .i64 0, .int .i64 0, .int .i64 0, .int .i64 0, .int .u64 0, .int .i64 0, .int .i64 0, .int .i64 0, .int .i64 0, .int .u8 0, .string ⟨#[]⟩, .int .i64 0, .int .i64 0, .int .i64 0, .int .i64 0, .int .i64 0, .slice none 0 0, .slice none 0 0, .string ⟨#[]⟩] 29) := ⟨_, rfl⟩
  have m0 : Moved (fun _ => False) w w0 := by rw [hw0]; exact ((Moved.refl _ _).alloc _).alloc _
  have RA : Hid (RowAt w0 A (msgCells m a1 c1 a2 c2)) := hide (by rw [hw0, hA]; exact row_old (row_new _ _ _) _)
  have RR : Hid (RowAt w0 (A + 1) (msgCells MsgV.zero none 0 none 0)) := hide (by rw [hw0, hA]; exact row_new2 _ (msgCells MsgV.zero none 0 none 0) _ _ _)
  have hsz : w0.heap.size = A + 2 := by rw [hw0, hA]; simp
  have HK := hide hk
  have HW := hide hw0
  have HA := hide hA
  have HM := hide m0
  have k0 : w0.cell? ⟨A, 0, none⟩ = some (.int .u8 8) := by have := (unhide RA).cell 0 (show 0 < 22 by decide); rw [this]; show some (Value.int .u8 ((m.kind.toNat : Nat) : Int)) = _; rw [hk]; rfl
  obtain ⟨w1, hu, hrow, hmf, hth⟩ := keep_at w0 { MsgV.zero with kind := 8 } none none 0 0
  have U1 := hide hu
  have T1 := hide hth
  have hX : Hid (w0.heap.size = A + 2) := hide hsz
  replace RA := hide ((unhide RA).keep hmf id)
  replace RR := hide ((unhide RR).keep hmf id)
  have RX := hide hrow
  have MV := hide hmf
  clear hk hw0 hA m0 hu hrow hmf hth hsz
  go_enter Tryd.func54, Tryd.ntmps54
  go_upto_region 1 with fail
  rw [← unhide HA, ← unhide HW]
  go_upto_region 2 with (refine wpList_store_mid rfl 29 (.tmp 3) (.tmp 7) rfl w0.heap.size 0 (msgCells { MsgV.zero with kind := 8 } none 0 none 0).toArray rfl rfl (unhide T1) (by kernel_rfl) (cells_one { MsgV.zero with kind := 8 } none none 0 0) ?_; change wpList _ _ _ _ _ (World.setCells _ w0.heap.size 0 (msgCells { MsgV.zero with kind := 8 } none 0 none 0)); rw [unhide U1]; clear T1 U1)
  generalize hXX : w0.heap.size = X at *
  replace hX := hide (show X = A + 2 from unhide hX)
  clear hXX k0
  have k0 : w1.cell? ⟨A, 0, none⟩ = some (.int .u8 8) := by have := (unhide RA).cell 0 (show 0 < 22 by decide); rw [this]; show some (Value.int .u8 ((m.kind.toNat : Nat) : Int)) = _; rw [unhide HK]; rfl
  replace MV := hide ((unhide MV).mono (G := fun j => j = X) (fun _ f => f.elim))
  go_upto_region 3 with fail
  have ks : w1.cell? ⟨A, 1, none⟩ = some (.int .i64 m.move) := (unhide RA).cell 1 (show 1 < 22 by decide)
  have kd := (unhide RX).cell 1 (show 1 < 22 by decide)
  have kf := (unhide RX).free 1 (show 1 < 22 by decide)
  obtain ⟨w2, hw⟩ : ∃ w', w1.setCell ⟨X, 1, none⟩ (.int .i64 m.move) = w' := ⟨_, rfl⟩
  have mw : Moved (fun j => j = X) w1 w2 := by rw [← hw]; exact Moved.put _ _ _ _
  have rx : RowAt w2 X ((msgCells { MsgV.zero with kind := 8 } none 0 none 0).set 1 (.int .i64 m.move)) := by rw [← hw]; exact (unhide RX).set 1 (show 1 < 22 by decide) _
  have HWN := hide hw
  clear hw
  go_upto_region 4 with fail
  rw [unhide HWN]
  replace RA := hide ((unhide RA).keep mw (by have := unhide hX; omega))
  replace RR := hide ((unhide RR).keep mw (by have := unhide hX; omega))
  replace RX := hide rx
  replace MV := hide ((unhide MV).trans mw fun _ h => .inl h)
  clear ks kd kf mw rx HWN k0
  have k0 : w2.cell? ⟨A, 0, none⟩ = some (.int .u8 8) := by have := (unhide RA).cell 0 (show 0 < 22 by decide); rw [this]; show some (Value.int .u8 ((m.kind.toNat : Nat) : Int)) = _; rw [unhide HK]; rfl
  go_upto_region 4 with fail
  have ks : w2.cell? ⟨A, 2, none⟩ = some (.int .i64 m.part) := (unhide RA).cell 2 (show 2 < 22 by decide)
  have kd := (unhide RX).cell 2 (show 2 < 22 by decide)
  have kf := (unhide RX).free 2 (show 2 < 22 by decide)
  obtain ⟨w3, hw⟩ : ∃ w', w2.setCell ⟨X, 2, none⟩ (.int .i64 m.part) = w' := ⟨_, rfl⟩
  have mw : Moved (fun j => j = X) w2 w3 := by rw [← hw]; exact Moved.put _ _ _ _
  have rx : RowAt w3 X (((msgCells { MsgV.zero with kind := 8 } none 0 none 0).set 1 (.int .i64 m.move)).set 2 (.int .i64 m.part)) := by rw [← hw]; exact (unhide RX).set 2 (show 2 < 22 by decide) _
  have HWN := hide hw
  clear hw
  go_upto_region 5 with fail
  rw [unhide HWN]
  replace RA := hide ((unhide RA).keep mw (by have := unhide hX; omega))
  replace RR := hide ((unhide RR).keep mw (by have := unhide hX; omega))
  replace RX := hide rx
  replace MV := hide ((unhide MV).trans mw fun _ h => .inl h)
  clear ks kd kf mw rx HWN k0
  have k0 : w3.cell? ⟨A, 0, none⟩ = some (.int .u8 8) := by have := (unhide RA).cell 0 (show 0 < 22 by decide); rw [this]; show some (Value.int .u8 ((m.kind.toNat : Nat) : Int)) = _; rw [unhide HK]; rfl
  have k9 : w3.cell? ⟨A, 9, none⟩ = some (.int .i64 m.item.src) := (unhide RA).cell 9 (show 9 < 22 by decide)
  have k10 : w3.cell? ⟨A, 10, none⟩ = some (.int .i64 m.item.seq) := (unhide RA).cell 10 (show 10 < 22 by decide)
  obtain ⟨w4, hu, hrow, hmf, hth⟩ := keep_row w3 24 [.int .i64 0, .int .i64 0, .int .i64 0, .int .u8 0, .string ⟨#[]⟩, .int .i64 0, .int .i64 0, .int .i64 0] [.int .i64 m.item.src, .int .i64 m.item.seq, .int .i64 0, .int .u8 0, .string ⟨#[]⟩, .int .i64 0, .int .i64 0, .int .i64 0] rfl
  have U2 := hide hu
  have T2 := hide hth
  have mf := hide hmf
  have hrw := hide hrow
  clear hu hth hmf hrow
  go_upto_region 6 with (refine wpList_store_mid rfl 24 (.tmp 4) (.tmp 28) rfl w3.heap.size 0 #[.int .i64 m.item.src, .int .i64 m.item.seq, .int .i64 0, .int .u8 0, .string ⟨#[]⟩, .int .i64 0, .int .i64 0, .int .i64 0] rfl rfl (unhide T2) (by kernel_rfl) (by simp [Value.oneCell']) ?_; change wpList _ _ _ _ _ (World.setCells _ w3.heap.size 0 [.int .i64 m.item.src, .int .i64 m.item.seq, .int .i64 0, .int .u8 0, .string ⟨#[]⟩, .int .i64 0, .int .i64 0, .int .i64 0]); rw [unhide U2])
  have hS : Hid (X < w3.heap.size ∧ A + 1 < w3.heap.size) := hide ⟨(unhide RX).lt, (unhide RR).lt⟩
  replace RA := hide ((unhide RA).keep (unhide mf) id)
  replace RR := hide ((unhide RR).keep (unhide mf) id)
  replace RX := hide ((unhide RX).keep (unhide mf) id)
  replace MV := hide ((unhide MV).trans (unhide mf) fun _ f => f.elim)
  have RS := hrw
  generalize hYY : w3.heap.size = Y at *
  clear hYY k9 k10 k0 T2 U2 mf hrw
  have k0 : w4.cell? ⟨A, 0, none⟩ = some (.int .u8 8) := by have := (unhide RA).cell 0 (show 0 < 22 by decide); rw [this]; show some (Value.int .u8 ((m.kind.toNat : Nat) : Int)) = _; rw [unhide HK]; rfl
  go_upto_region 28 with fail
  have ks : w4.cell? ⟨A, 4, none⟩ = some (.int .i64 m.n) := (unhide RA).cell 4 (show 4 < 22 by decide)
  have kd := (unhide RX).cell 4 (show 4 < 22 by decide)
  have kf := (unhide RX).free 4 (show 4 < 22 by decide)
  obtain ⟨w5, hw⟩ : ∃ w', w4.setCell ⟨X, 4, none⟩ (.int .i64 m.n) = w' := ⟨_, rfl⟩
  have mw : Moved (fun j => j = X) w4 w5 := by rw [← hw]; exact Moved.put _ _ _ _
  have rx : RowAt w5 X ((((msgCells { MsgV.zero with kind := 8 } none 0 none 0).set 1 (.int .i64 m.move)).set 2 (.int .i64 m.part)).set 4 (.int .i64 m.n)) := by rw [← hw]; exact (unhide RX).set 4 (show 4 < 22 by decide) _
  have HWN := hide hw
  clear hw
  go_upto_region 38 with fail
  rw [unhide HWN]
  replace RA := hide ((unhide RA).keep mw (by have := unhide hX; omega))
  replace RR := hide ((unhide RR).keep mw (by have := unhide hX; omega))
  replace RX := hide rx
  replace MV := hide ((unhide MV).trans mw fun _ h => .inl h)
  clear ks kd kf mw rx HWN k0
  have k0 : w5.cell? ⟨A, 0, none⟩ = some (.int .u8 8) := by have := (unhide RA).cell 0 (show 0 < 22 by decide); rw [this]; show some (Value.int .u8 ((m.kind.toNat : Nat) : Int)) = _; rw [unhide HK]; rfl
  have hfin : (msgCells (only m) none 0 none 0) = ((((msgCells { MsgV.zero with kind := 8 } none 0 none 0).set 1 (.int .i64 m.move)).set 2 (.int .i64 m.part)).set 4 (.int .i64 m.n)) := by
    have hk := unhide HK
    have e : only m = only { m with kind := 8 } := by rw [← hk]
    rw [e]
    rfl
  have RX2 := unhide RX
  rw [← hfin] at RX2
  have hrg := hide RX2.range
  have hth := hide (unhide RR).there
  have RF := hide ((unhide RR).put (msgCells (only m) none 0 none 0) rfl).range
  have mset := setCells_moved w5 (A + 1) 0 (msgCells (only m) none 0 none 0)
  have MF := hide (((unhide HM).trans (unhide MV) fun i hi => .inr (by have := unhide hX; have := unhide HA; omega)).trans mset fun i hi => .inr (by have := unhide HA; omega))
  have RFF := hide hfin
  clear mset RX2 hfin k0
  obtain ⟨cs, hcs⟩ : ∃ cs, (msgCells (only m) none 0 none 0) = cs := ⟨_, rfl⟩
  have hone := cells_one (only m) none none 0 0
  have hlen : cs.length = 22 := by rw [← hcs]; rfl
  rw [hcs] at hrg RF MF hone
  have HCS := hide hcs
  have HONE := hide hone
  have hi22 : (Tryd.prog.info? 29).map (·.size) = some cs.length := by rw [hlen]; kernel_rfl
  have hi22' : (Tryd.prog.info? 29).map (·.size) = some cs.toArray.size := by rw [List.size_toArray, hlen]; kernel_rfl
  have hth' : Hid (w5.there (A + 1) 0 cs.toArray.size) := hide (by rw [List.size_toArray, hlen]; exact unhide hth)
  have HI := hide (And.intro hi22 hi22')
  clear hcs hone hlen hth hi22 hi22'
  obtain ⟨wf, hwf⟩ : ∃ wf, w5.setCells (A + 1) 0 cs = wf := ⟨_, rfl⟩
  rw [hwf] at RF MF
  have HWF := hide hwf
  clear hwf
  go_wp2_with (first | (refine wpList_load_on rfl 29 (.tmp 3) rfl X 0 rfl cs _ (unhide hrg) Tryd.underlying29 rfl (unhide HI).1 ?_) | (refine wpList_store_mid rfl 29 (.tmp 2) (.tmp 109) rfl (A + 1) 0 cs.toArray rfl rfl (unhide hth') (unhide HI).2 (unhide HONE) ?_; change wpList _ _ _ _ _ (w5.setCells (A + 1) 0 cs); rw [unhide HWF]))
  refine bodyPost_ret (v := .agg cs.toArray) ?_ rfl ?_
  · exact results_cell_mid Tryd.results54 _ wf (A + 1) _ _ rfl (unhide RF) Tryd.underlying29 rfl (unhide HI).1
  · exact ⟨by rw [unhide HCS], unhide MF⟩
set_option maxHeartbeats 8000000 in
set_option maxRecDepth 100000 in
theorem refonly_9 (m : MsgV) (a1 a2 : Option Addr) (c1 c2 : Nat) (w : World) (hk : m.kind = 9) :
    Calls Tryd.prog 54 #[.agg (msgCells m a1 c1 a2 c2).toArray] w fun e w' => e = .returned (.agg (msgCells (only m) none 0 none 0).toArray) ∧ Moved (fun _ => False) w w' := by
  obtain ⟨A, hA⟩ : ∃ A, A = w.heap.size := ⟨_, rfl⟩
  obtain ⟨w0, hw0⟩ : ∃ w0, w0 = (w.alloc (.cells (msgCells m a1 c1 a2 c2).toArray 29)).alloc (.cells #[.int .u8 0, .int .i64 0, .int .i64 0, .int .i64 0, .int .i64 0, .int .i64 0, .int .i64 0, .int .u64 0, .int .i64 0, .int .i64 0, .int .i64 0, .int .i64 0, .int .u8 0, .string ⟨#[]⟩, .int .i64 0, .int .i64 0, .int .i64 0, .int .i64 0, .int .i64 0, .slice none 0 0, .slice none 0 0, .string ⟨#[]⟩] 29) := ⟨_, rfl⟩
  have m0 : Moved (fun _ => False) w w0 := by rw [hw0]; exact ((Moved.refl _ _).alloc _).alloc _
  have RA : Hid (RowAt w0 A (msgCells m a1 c1 a2 c2)) := hide (by rw [hw0, hA]; exact row_old (row_new _ _ _) _)
  have RR : Hid (RowAt w0 (A + 1) (msgCells MsgV.zero none 0 none 0)) := hide (by rw [hw0, hA]; exact row_new2 _ (msgCells MsgV.zero none 0 none 0) _ _ _)
  have hsz : w0.heap.size = A + 2 := by rw [hw0, hA]; simp
  have HK := hide hk
  have HW := hide hw0
  have HA := hide hA
  have HM := hide m0
  have k0 : w0.cell? ⟨A, 0, none⟩ = some (.int .u8 9) := by have := (unhide RA).cell 0 (show 0 < 22 by decide); rw [this]; show some (Value.int .u8 ((m.kind.toNat : Nat) : Int)) = _; rw [hk]; rfl
  obtain ⟨w1, hu, hrow, hmf, hth⟩ := keep_at w0 { MsgV.zero with kind := 9 } none none 0 0
  have U1 := hide hu
  have T1 := hide hth
  have hX : Hid (w0.heap.size = A + 2) := hide hsz
  replace RA := hide ((unhide RA).keep hmf id)
  replace RR := hide ((unhide RR).keep hmf id)
  have RX := hide hrow
  have MV := hide hmf
  clear hk hw0 hA m0 hu hrow hmf hth hsz
  go_enter Tryd.func54, Tryd.ntmps54
  go_upto_region 1 with fail
  rw [← unhide HA, ← unhide HW]
  go_upto_region 2 with (refine wpList_store_mid rfl 29 (.tmp 3) (.tmp 7) rfl w0.heap.size 0 (msgCells { MsgV.zero with kind := 9 } none 0 none 0).toArray rfl rfl (unhide T1) (by kernel_rfl) (cells_one { MsgV.zero with kind := 9 } none none 0 0) ?_; change wpList _ _ _ _ _ (World.setCells _ w0.heap.size 0 (msgCells { MsgV.zero with kind := 9 } none 0 none 0)); rw [unhide U1]; clear T1 U1)
  generalize hXX : w0.heap.size = X at *
  replace hX := hide (show X = A + 2 from unhide hX)
  clear hXX k0
  have k0 : w1.cell? ⟨A, 0, none⟩ = some (.int .u8 9) := by have := (unhide RA).cell 0 (show 0 < 22 by decide); rw [this]; show some (Value.int .u8 ((m.kind.toNat : Nat) : Int)) = _; rw [unhide HK]; rfl
  replace MV := hide ((unhide MV).mono (G := fun j => j = X) (fun _ f => f.elim))
  go_upto_region 3 with fail
  have ks : w1.cell? ⟨A, 1, none⟩ = some (.int .i64 m.move) := (unhide RA).cell 1 (show 1 < 22 by decide)
  have kd := (unhide RX).cell 1 (show 1 < 22 by decide)
  have kf := (unhide RX).free 1 (show 1 < 22 by decide)
  obtain ⟨w2, hw⟩ : ∃ w', w1.setCell ⟨X, 1, none⟩ (.int .i64 m.move) = w' := ⟨_, rfl⟩
  have mw : Moved (fun j => j = X) w1 w2 := by rw [← hw]; exact Moved.put _ _ _ _
  have rx : RowAt w2 X ((msgCells { MsgV.zero with kind := 9 } none 0 none 0).set 1 (.int .i64 m.move)) := by rw [← hw]; exact (unhide RX).set 1 (show 1 < 22 by decide) _
  have HWN := hide hw
  clear hw
  go_upto_region 4 with fail
  rw [unhide HWN]
  replace RA := hide ((unhide RA).keep mw (by have := unhide hX; omega))
  replace RR := hide ((unhide RR).keep mw (by have := unhide hX; omega))
  replace RX := hide rx
  replace MV := hide ((unhide MV).trans mw fun _ h => .inl h)
  clear ks kd kf mw rx HWN k0
  have k0 : w2.cell? ⟨A, 0, none⟩ = some (.int .u8 9) := by have := (unhide RA).cell 0 (show 0 < 22 by decide); rw [this]; show some (Value.int .u8 ((m.kind.toNat : Nat) : Int)) = _; rw [unhide HK]; rfl
  go_upto_region 4 with fail
  have ks : w2.cell? ⟨A, 2, none⟩ = some (.int .i64 m.part) := (unhide RA).cell 2 (show 2 < 22 by decide)
  have kd := (unhide RX).cell 2 (show 2 < 22 by decide)
  have kf := (unhide RX).free 2 (show 2 < 22 by decide)
  obtain ⟨w3, hw⟩ : ∃ w', w2.setCell ⟨X, 2, none⟩ (.int .i64 m.part) = w' := ⟨_, rfl⟩
  have mw : Moved (fun j => j = X) w2 w3 := by rw [← hw]; exact Moved.put _ _ _ _
  have rx : RowAt w3 X (((msgCells { MsgV.zero with kind := 9 } none 0 none 0).set 1 (.int .i64 m.move)).set 2 (.int .i64 m.part)) := by rw [← hw]; exact (unhide RX).set 2 (show 2 < 22 by decide) _
  have HWN := hide hw
  clear hw
  go_upto_region 5 with fail
  rw [unhide HWN]
  replace RA := hide ((unhide RA).keep mw (by have := unhide hX; omega))
  replace RR := hide ((unhide RR).keep mw (by have := unhide hX; omega))
  replace RX := hide rx
  replace MV := hide ((unhide MV).trans mw fun _ h => .inl h)
  clear ks kd kf mw rx HWN k0
  have k0 : w3.cell? ⟨A, 0, none⟩ = some (.int .u8 9) := by have := (unhide RA).cell 0 (show 0 < 22 by decide); rw [this]; show some (Value.int .u8 ((m.kind.toNat : Nat) : Int)) = _; rw [unhide HK]; rfl
  have k9 : w3.cell? ⟨A, 9, none⟩ = some (.int .i64 m.item.src) := (unhide RA).cell 9 (show 9 < 22 by decide)
  have k10 : w3.cell? ⟨A, 10, none⟩ = some (.int .i64 m.item.seq) := (unhide RA).cell 10 (show 10 < 22 by decide)
  obtain ⟨w4, hu, hrow, hmf, hth⟩ := keep_row w3 24 [.int .i64 0, .int .i64 0, .int .i64 0, .int .u8 0, .string ⟨#[]⟩, .int .i64 0, .int .i64 0, .int .i64 0] [.int .i64 m.item.src, .int .i64 m.item.seq, .int .i64 0, .int .u8 0, .string ⟨#[]⟩, .int .i64 0, .int .i64 0, .int .i64 0] rfl
  have U2 := hide hu
  have T2 := hide hth
  have mf := hide hmf
  have hrw := hide hrow
  clear hu hth hmf hrow
  go_upto_region 6 with (refine wpList_store_mid rfl 24 (.tmp 4) (.tmp 28) rfl w3.heap.size 0 #[.int .i64 m.item.src, .int .i64 m.item.seq, .int .i64 0, .int .u8 0, .string ⟨#[]⟩, .int .i64 0, .int .i64 0, .int .i64 0] rfl rfl (unhide T2) (by kernel_rfl) (by simp [Value.oneCell']) ?_; change wpList _ _ _ _ _ (World.setCells _ w3.heap.size 0 [.int .i64 m.item.src, .int .i64 m.item.seq, .int .i64 0, .int .u8 0, .string ⟨#[]⟩, .int .i64 0, .int .i64 0, .int .i64 0]); rw [unhide U2])
  have hS : Hid (X < w3.heap.size ∧ A + 1 < w3.heap.size) := hide ⟨(unhide RX).lt, (unhide RR).lt⟩
  replace RA := hide ((unhide RA).keep (unhide mf) id)
  replace RR := hide ((unhide RR).keep (unhide mf) id)
  replace RX := hide ((unhide RX).keep (unhide mf) id)
  replace MV := hide ((unhide MV).trans (unhide mf) fun _ f => f.elim)
  have RS := hrw
  generalize hYY : w3.heap.size = Y at *
  clear hYY k9 k10 k0 T2 U2 mf hrw
  have k0 : w4.cell? ⟨A, 0, none⟩ = some (.int .u8 9) := by have := (unhide RA).cell 0 (show 0 < 22 by decide); rw [this]; show some (Value.int .u8 ((m.kind.toNat : Nat) : Int)) = _; rw [unhide HK]; rfl
  go_upto_region 30 with fail
  have ks : w4.cell? ⟨A, 4, none⟩ = some (.int .i64 m.n) := (unhide RA).cell 4 (show 4 < 22 by decide)
  have kd := (unhide RX).cell 4 (show 4 < 22 by decide)
  have kf := (unhide RX).free 4 (show 4 < 22 by decide)
  obtain ⟨w5, hw⟩ : ∃ w', w4.setCell ⟨X, 4, none⟩ (.int .i64 m.n) = w' := ⟨_, rfl⟩
  have mw : Moved (fun j => j = X) w4 w5 := by rw [← hw]; exact Moved.put _ _ _ _
  have rx : RowAt w5 X ((((msgCells { MsgV.zero with kind := 9 } none 0 none 0).set 1 (.int .i64 m.move)).set 2 (.int .i64 m.part)).set 4 (.int .i64 m.n)) := by rw [← hw]; exact (unhide RX).set 4 (show 4 < 22 by decide) _
  have HWN := hide hw
  clear hw
  go_upto_region 31 with fail
  rw [unhide HWN]
  replace RA := hide ((unhide RA).keep mw (by have := unhide hX; omega))
  replace RR := hide ((unhide RR).keep mw (by have := unhide hX; omega))
  replace RX := hide rx
  replace MV := hide ((unhide MV).trans mw fun _ h => .inl h)
  clear ks kd kf mw rx HWN k0
  have k0 : w5.cell? ⟨A, 0, none⟩ = some (.int .u8 9) := by have := (unhide RA).cell 0 (show 0 < 22 by decide); rw [this]; show some (Value.int .u8 ((m.kind.toNat : Nat) : Int)) = _; rw [unhide HK]; rfl
  go_upto_region 31 with fail
  have ks : w5.cell? ⟨A, 8, none⟩ = some (.int .i64 m.at_) := (unhide RA).cell 8 (show 8 < 22 by decide)
  have kd := (unhide RX).cell 8 (show 8 < 22 by decide)
  have kf := (unhide RX).free 8 (show 8 < 22 by decide)
  obtain ⟨w6, hw⟩ : ∃ w', w5.setCell ⟨X, 8, none⟩ (.int .i64 m.at_) = w' := ⟨_, rfl⟩
  have mw : Moved (fun j => j = X) w5 w6 := by rw [← hw]; exact Moved.put _ _ _ _
  have rx : RowAt w6 X (((((msgCells { MsgV.zero with kind := 9 } none 0 none 0).set 1 (.int .i64 m.move)).set 2 (.int .i64 m.part)).set 4 (.int .i64 m.n)).set 8 (.int .i64 m.at_)) := by rw [← hw]; exact (unhide RX).set 8 (show 8 < 22 by decide) _
  have HWN := hide hw
  clear hw
  go_upto_region 32 with fail
  rw [unhide HWN]
  replace RA := hide ((unhide RA).keep mw (by have := unhide hX; omega))
  replace RR := hide ((unhide RR).keep mw (by have := unhide hX; omega))
  replace RX := hide rx
  replace MV := hide ((unhide MV).trans mw fun _ h => .inl h)
  clear ks kd kf mw rx HWN k0
  have k0 : w6.cell? ⟨A, 0, none⟩ = some (.int .u8 9) := by have := (unhide RA).cell 0 (show 0 < 22 by decide); rw [this]; show some (Value.int .u8 ((m.kind.toNat : Nat) : Int)) = _; rw [unhide HK]; rfl
  go_upto_region 32 with fail
  have ks : w6.cell? ⟨A, 7, none⟩ = some (.int .u64 (m.digest : Int)) := (unhide RA).cell 7 (show 7 < 22 by decide)
  have kd := (unhide RX).cell 7 (show 7 < 22 by decide)
  have kf := (unhide RX).free 7 (show 7 < 22 by decide)
  obtain ⟨w7, hw⟩ : ∃ w', w6.setCell ⟨X, 7, none⟩ (.int .u64 (m.digest : Int)) = w' := ⟨_, rfl⟩
  have mw : Moved (fun j => j = X) w6 w7 := by rw [← hw]; exact Moved.put _ _ _ _
  have rx : RowAt w7 X ((((((msgCells { MsgV.zero with kind := 9 } none 0 none 0).set 1 (.int .i64 m.move)).set 2 (.int .i64 m.part)).set 4 (.int .i64 m.n)).set 8 (.int .i64 m.at_)).set 7 (.int .u64 (m.digest : Int))) := by rw [← hw]; exact (unhide RX).set 7 (show 7 < 22 by decide) _
  have HWN := hide hw
  clear hw
  go_upto_region 38 with fail
  rw [unhide HWN]
  replace RA := hide ((unhide RA).keep mw (by have := unhide hX; omega))
  replace RR := hide ((unhide RR).keep mw (by have := unhide hX; omega))
  replace RX := hide rx
  replace MV := hide ((unhide MV).trans mw fun _ h => .inl h)
  clear ks kd kf mw rx HWN k0
  have k0 : w7.cell? ⟨A, 0, none⟩ = some (.int .u8 9) := by have := (unhide RA).cell 0 (show 0 < 22 by decide); rw [this]; show some (Value.int .u8 ((m.kind.toNat : Nat) : Int)) = _; rw [unhide HK]; rfl
  have hfin : (msgCells (only m) none 0 none 0) = ((((((msgCells { MsgV.zero with kind := 9 } none 0 none 0).set 1 (.int .i64 m.move)).set 2 (.int .i64 m.part)).set 4 (.int .i64 m.n)).set 8 (.int .i64 m.at_)).set 7 (.int .u64 (m.digest : Int))) := by
    have hk := unhide HK
    have e : only m = only { m with kind := 9 } := by rw [← hk]
    rw [e]
    rfl
  have RX2 := unhide RX
  rw [← hfin] at RX2
  have hrg := hide RX2.range
  have hth := hide (unhide RR).there
  have RF := hide ((unhide RR).put (msgCells (only m) none 0 none 0) rfl).range
  have mset := setCells_moved w7 (A + 1) 0 (msgCells (only m) none 0 none 0)
  have MF := hide (((unhide HM).trans (unhide MV) fun i hi => .inr (by have := unhide hX; have := unhide HA; omega)).trans mset fun i hi => .inr (by have := unhide HA; omega))
  have RFF := hide hfin
  clear mset RX2 hfin k0
  obtain ⟨cs, hcs⟩ : ∃ cs, (msgCells (only m) none 0 none 0) = cs := ⟨_, rfl⟩
  have hone := cells_one (only m) none none 0 0
  have hlen : cs.length = 22 := by rw [← hcs]; rfl
  rw [hcs] at hrg RF MF hone
  have HCS := hide hcs
  have HONE := hide hone
  have hi22 : (Tryd.prog.info? 29).map (·.size) = some cs.length := by rw [hlen]; kernel_rfl
  have hi22' : (Tryd.prog.info? 29).map (·.size) = some cs.toArray.size := by rw [List.size_toArray, hlen]; kernel_rfl
  have hth' : Hid (w7.there (A + 1) 0 cs.toArray.size) := hide (by rw [List.size_toArray, hlen]; exact unhide hth)
  have HI := hide (And.intro hi22 hi22')
  clear hcs hone hlen hth hi22 hi22'
  obtain ⟨wf, hwf⟩ : ∃ wf, w7.setCells (A + 1) 0 cs = wf := ⟨_, rfl⟩
  rw [hwf] at RF MF
  have HWF := hide hwf
  clear hwf
  go_wp2_with (first | (refine wpList_load_on rfl 29 (.tmp 3) rfl X 0 rfl cs _ (unhide hrg) Tryd.underlying29 rfl (unhide HI).1 ?_) | (refine wpList_store_mid rfl 29 (.tmp 2) (.tmp 109) rfl (A + 1) 0 cs.toArray rfl rfl (unhide hth') (unhide HI).2 (unhide HONE) ?_; change wpList _ _ _ _ _ (w7.setCells (A + 1) 0 cs); rw [unhide HWF]))
  refine bodyPost_ret (v := .agg cs.toArray) ?_ rfl ?_
  · exact results_cell_mid Tryd.results54 _ wf (A + 1) _ _ rfl (unhide RF) Tryd.underlying29 rfl (unhide HI).1
  · exact ⟨by rw [unhide HCS], unhide MF⟩
set_option maxHeartbeats 8000000 in
set_option maxRecDepth 100000 in
theorem refonly_10 (m : MsgV) (a1 a2 : Option Addr) (c1 c2 : Nat) (w : World) (hk : m.kind = 10) :
    Calls Tryd.prog 54 #[.agg (msgCells m a1 c1 a2 c2).toArray] w fun e w' => e = .returned (.agg (msgCells (only m) none 0 none 0).toArray) ∧ Moved (fun _ => False) w w' := by
  obtain ⟨A, hA⟩ : ∃ A, A = w.heap.size := ⟨_, rfl⟩
  obtain ⟨w0, hw0⟩ : ∃ w0, w0 = (w.alloc (.cells (msgCells m a1 c1 a2 c2).toArray 29)).alloc (.cells #[.int .u8 0, .int .i64 0, .int .i64 0, .int .i64 0, .int .i64 0, .int .i64 0, .int .i64 0, .int .u64 0, .int .i64 0, .int .i64 0, .int .i64 0, .int .i64 0, .int .u8 0, .string ⟨#[]⟩, .int .i64 0, .int .i64 0, .int .i64 0, .int .i64 0, .int .i64 0, .slice none 0 0, .slice none 0 0, .string ⟨#[]⟩] 29) := ⟨_, rfl⟩
  have m0 : Moved (fun _ => False) w w0 := by rw [hw0]; exact ((Moved.refl _ _).alloc _).alloc _
  have RA : Hid (RowAt w0 A (msgCells m a1 c1 a2 c2)) := hide (by rw [hw0, hA]; exact row_old (row_new _ _ _) _)
  have RR : Hid (RowAt w0 (A + 1) (msgCells MsgV.zero none 0 none 0)) := hide (by rw [hw0, hA]; exact row_new2 _ (msgCells MsgV.zero none 0 none 0) _ _ _)
  have hsz : w0.heap.size = A + 2 := by rw [hw0, hA]; simp
  have HK := hide hk
  have HW := hide hw0
  have HA := hide hA
  have HM := hide m0
  have k0 : w0.cell? ⟨A, 0, none⟩ = some (.int .u8 10) := by have := (unhide RA).cell 0 (show 0 < 22 by decide); rw [this]; show some (Value.int .u8 ((m.kind.toNat : Nat) : Int)) = _; rw [hk]; rfl
  obtain ⟨w1, hu, hrow, hmf, hth⟩ := keep_at w0 { MsgV.zero with kind := 10 } none none 0 0
  have U1 := hide hu
  have T1 := hide hth
  have hX : Hid (w0.heap.size = A + 2) := hide hsz
  replace RA := hide ((unhide RA).keep hmf id)
  replace RR := hide ((unhide RR).keep hmf id)
  have RX := hide hrow
  have MV := hide hmf
  clear hk hw0 hA m0 hu hrow hmf hth hsz
  go_enter Tryd.func54, Tryd.ntmps54
  go_upto_region 1 with fail
  rw [← unhide HA, ← unhide HW]
  go_upto_region 2 with (refine wpList_store_mid rfl 29 (.tmp 3) (.tmp 7) rfl w0.heap.size 0 (msgCells { MsgV.zero with kind := 10 } none 0 none 0).toArray rfl rfl (unhide T1) (by kernel_rfl) (cells_one { MsgV.zero with kind := 10 } none none 0 0) ?_; change wpList _ _ _ _ _ (World.setCells _ w0.heap.size 0 (msgCells { MsgV.zero with kind := 10 } none 0 none 0)); rw [unhide U1]; clear T1 U1)
  generalize hXX : w0.heap.size = X at *
  replace hX := hide (show X = A + 2 from unhide hX)
  clear hXX k0
  have k0 : w1.cell? ⟨A, 0, none⟩ = some (.int .u8 10) := by have := (unhide RA).cell 0 (show 0 < 22 by decide); rw [this]; show some (Value.int .u8 ((m.kind.toNat : Nat) : Int)) = _; rw [unhide HK]; rfl
  replace MV := hide ((unhide MV).mono (G := fun j => j = X) (fun _ f => f.elim))
  go_upto_region 3 with fail
  have ks : w1.cell? ⟨A, 1, none⟩ = some (.int .i64 m.move) := (unhide RA).cell 1 (show 1 < 22 by decide)
  have kd := (unhide RX).cell 1 (show 1 < 22 by decide)
  have kf := (unhide RX).free 1 (show 1 < 22 by decide)
  obtain ⟨w2, hw⟩ : ∃ w', w1.setCell ⟨X, 1, none⟩ (.int .i64 m.move) = w' := ⟨_, rfl⟩
  have mw : Moved (fun j => j = X) w1 w2 := by rw [← hw]; exact Moved.put _ _ _ _
  have rx : RowAt w2 X ((msgCells { MsgV.zero with kind := 10 } none 0 none 0).set 1 (.int .i64 m.move)) := by rw [← hw]; exact (unhide RX).set 1 (show 1 < 22 by decide) _
  have HWN := hide hw
  clear hw
  go_upto_region 4 with fail
  rw [unhide HWN]
  replace RA := hide ((unhide RA).keep mw (by have := unhide hX; omega))
  replace RR := hide ((unhide RR).keep mw (by have := unhide hX; omega))
  replace RX := hide rx
  replace MV := hide ((unhide MV).trans mw fun _ h => .inl h)
  clear ks kd kf mw rx HWN k0
  have k0 : w2.cell? ⟨A, 0, none⟩ = some (.int .u8 10) := by have := (unhide RA).cell 0 (show 0 < 22 by decide); rw [this]; show some (Value.int .u8 ((m.kind.toNat : Nat) : Int)) = _; rw [unhide HK]; rfl
  go_upto_region 4 with fail
  have ks : w2.cell? ⟨A, 2, none⟩ = some (.int .i64 m.part) := (unhide RA).cell 2 (show 2 < 22 by decide)
  have kd := (unhide RX).cell 2 (show 2 < 22 by decide)
  have kf := (unhide RX).free 2 (show 2 < 22 by decide)
  obtain ⟨w3, hw⟩ : ∃ w', w2.setCell ⟨X, 2, none⟩ (.int .i64 m.part) = w' := ⟨_, rfl⟩
  have mw : Moved (fun j => j = X) w2 w3 := by rw [← hw]; exact Moved.put _ _ _ _
  have rx : RowAt w3 X (((msgCells { MsgV.zero with kind := 10 } none 0 none 0).set 1 (.int .i64 m.move)).set 2 (.int .i64 m.part)) := by rw [← hw]; exact (unhide RX).set 2 (show 2 < 22 by decide) _
  have HWN := hide hw
  clear hw
  go_upto_region 5 with fail
  rw [unhide HWN]
  replace RA := hide ((unhide RA).keep mw (by have := unhide hX; omega))
  replace RR := hide ((unhide RR).keep mw (by have := unhide hX; omega))
  replace RX := hide rx
  replace MV := hide ((unhide MV).trans mw fun _ h => .inl h)
  clear ks kd kf mw rx HWN k0
  have k0 : w3.cell? ⟨A, 0, none⟩ = some (.int .u8 10) := by have := (unhide RA).cell 0 (show 0 < 22 by decide); rw [this]; show some (Value.int .u8 ((m.kind.toNat : Nat) : Int)) = _; rw [unhide HK]; rfl
  have k9 : w3.cell? ⟨A, 9, none⟩ = some (.int .i64 m.item.src) := (unhide RA).cell 9 (show 9 < 22 by decide)
  have k10 : w3.cell? ⟨A, 10, none⟩ = some (.int .i64 m.item.seq) := (unhide RA).cell 10 (show 10 < 22 by decide)
  obtain ⟨w4, hu, hrow, hmf, hth⟩ := keep_row w3 24 [.int .i64 0, .int .i64 0, .int .i64 0, .int .u8 0, .string ⟨#[]⟩, .int .i64 0, .int .i64 0, .int .i64 0] [.int .i64 m.item.src, .int .i64 m.item.seq, .int .i64 0, .int .u8 0, .string ⟨#[]⟩, .int .i64 0, .int .i64 0, .int .i64 0] rfl
  have U2 := hide hu
  have T2 := hide hth
  have mf := hide hmf
  have hrw := hide hrow
  clear hu hth hmf hrow
  go_upto_region 6 with (refine wpList_store_mid rfl 24 (.tmp 4) (.tmp 28) rfl w3.heap.size 0 #[.int .i64 m.item.src, .int .i64 m.item.seq, .int .i64 0, .int .u8 0, .string ⟨#[]⟩, .int .i64 0, .int .i64 0, .int .i64 0] rfl rfl (unhide T2) (by kernel_rfl) (by simp [Value.oneCell']) ?_; change wpList _ _ _ _ _ (World.setCells _ w3.heap.size 0 [.int .i64 m.item.src, .int .i64 m.item.seq, .int .i64 0, .int .u8 0, .string ⟨#[]⟩, .int .i64 0, .int .i64 0, .int .i64 0]); rw [unhide U2])
  have hS : Hid (X < w3.heap.size ∧ A + 1 < w3.heap.size) := hide ⟨(unhide RX).lt, (unhide RR).lt⟩
  replace RA := hide ((unhide RA).keep (unhide mf) id)
  replace RR := hide ((unhide RR).keep (unhide mf) id)
  replace RX := hide ((unhide RX).keep (unhide mf) id)
  replace MV := hide ((unhide MV).trans (unhide mf) fun _ f => f.elim)
  have RS := hrw
  generalize hYY : w3.heap.size = Y at *
  clear hYY k9 k10 k0 T2 U2 mf hrw
  have k0 : w4.cell? ⟨A, 0, none⟩ = some (.int .u8 10) := by have := (unhide RA).cell 0 (show 0 < 22 by decide); rw [this]; show some (Value.int .u8 ((m.kind.toNat : Nat) : Int)) = _; rw [unhide HK]; rfl
  go_upto_region 34 with fail
  have ks : w4.cell? ⟨A, 6, none⟩ = some (.int .i64 m.code) := (unhide RA).cell 6 (show 6 < 22 by decide)
  have kd := (unhide RX).cell 6 (show 6 < 22 by decide)
  have kf := (unhide RX).free 6 (show 6 < 22 by decide)
  obtain ⟨w5, hw⟩ : ∃ w', w4.setCell ⟨X, 6, none⟩ (.int .i64 m.code) = w' := ⟨_, rfl⟩
  have mw : Moved (fun j => j = X) w4 w5 := by rw [← hw]; exact Moved.put _ _ _ _
  have rx : RowAt w5 X ((((msgCells { MsgV.zero with kind := 10 } none 0 none 0).set 1 (.int .i64 m.move)).set 2 (.int .i64 m.part)).set 6 (.int .i64 m.code)) := by rw [← hw]; exact (unhide RX).set 6 (show 6 < 22 by decide) _
  have HWN := hide hw
  clear hw
  go_upto_region 38 with fail
  rw [unhide HWN]
  replace RA := hide ((unhide RA).keep mw (by have := unhide hX; omega))
  replace RR := hide ((unhide RR).keep mw (by have := unhide hX; omega))
  replace RX := hide rx
  replace MV := hide ((unhide MV).trans mw fun _ h => .inl h)
  clear ks kd kf mw rx HWN k0
  have k0 : w5.cell? ⟨A, 0, none⟩ = some (.int .u8 10) := by have := (unhide RA).cell 0 (show 0 < 22 by decide); rw [this]; show some (Value.int .u8 ((m.kind.toNat : Nat) : Int)) = _; rw [unhide HK]; rfl
  have hfin : (msgCells (only m) none 0 none 0) = ((((msgCells { MsgV.zero with kind := 10 } none 0 none 0).set 1 (.int .i64 m.move)).set 2 (.int .i64 m.part)).set 6 (.int .i64 m.code)) := by
    have hk := unhide HK
    have e : only m = only { m with kind := 10 } := by rw [← hk]
    rw [e]
    rfl
  have RX2 := unhide RX
  rw [← hfin] at RX2
  have hrg := hide RX2.range
  have hth := hide (unhide RR).there
  have RF := hide ((unhide RR).put (msgCells (only m) none 0 none 0) rfl).range
  have mset := setCells_moved w5 (A + 1) 0 (msgCells (only m) none 0 none 0)
  have MF := hide (((unhide HM).trans (unhide MV) fun i hi => .inr (by have := unhide hX; have := unhide HA; omega)).trans mset fun i hi => .inr (by have := unhide HA; omega))
  have RFF := hide hfin
  clear mset RX2 hfin k0
  obtain ⟨cs, hcs⟩ : ∃ cs, (msgCells (only m) none 0 none 0) = cs := ⟨_, rfl⟩
  have hone := cells_one (only m) none none 0 0
  have hlen : cs.length = 22 := by rw [← hcs]; rfl
  rw [hcs] at hrg RF MF hone
  have HCS := hide hcs
  have HONE := hide hone
  have hi22 : (Tryd.prog.info? 29).map (·.size) = some cs.length := by rw [hlen]; kernel_rfl
  have hi22' : (Tryd.prog.info? 29).map (·.size) = some cs.toArray.size := by rw [List.size_toArray, hlen]; kernel_rfl
  have hth' : Hid (w5.there (A + 1) 0 cs.toArray.size) := hide (by rw [List.size_toArray, hlen]; exact unhide hth)
  have HI := hide (And.intro hi22 hi22')
  clear hcs hone hlen hth hi22 hi22'
  obtain ⟨wf, hwf⟩ : ∃ wf, w5.setCells (A + 1) 0 cs = wf := ⟨_, rfl⟩
  rw [hwf] at RF MF
  have HWF := hide hwf
  clear hwf
  go_wp2_with (first | (refine wpList_load_on rfl 29 (.tmp 3) rfl X 0 rfl cs _ (unhide hrg) Tryd.underlying29 rfl (unhide HI).1 ?_) | (refine wpList_store_mid rfl 29 (.tmp 2) (.tmp 109) rfl (A + 1) 0 cs.toArray rfl rfl (unhide hth') (unhide HI).2 (unhide HONE) ?_; change wpList _ _ _ _ _ (w5.setCells (A + 1) 0 cs); rw [unhide HWF]))
  refine bodyPost_ret (v := .agg cs.toArray) ?_ rfl ?_
  · exact results_cell_mid Tryd.results54 _ wf (A + 1) _ _ rfl (unhide RF) Tryd.underlying29 rfl (unhide HI).1
  · exact ⟨by rw [unhide HCS], unhide MF⟩
set_option maxHeartbeats 8000000 in
set_option maxRecDepth 100000 in
theorem refonly_11 (m : MsgV) (a1 a2 : Option Addr) (c1 c2 : Nat) (w : World) (hk : m.kind = 11) :
    Calls Tryd.prog 54 #[.agg (msgCells m a1 c1 a2 c2).toArray] w fun e w' => e = .returned (.agg (msgCells (only m) a1 c1 none 0).toArray) ∧ Moved (fun _ => False) w w' := by
  obtain ⟨A, hA⟩ : ∃ A, A = w.heap.size := ⟨_, rfl⟩
  obtain ⟨w0, hw0⟩ : ∃ w0, w0 = (w.alloc (.cells (msgCells m a1 c1 a2 c2).toArray 29)).alloc (.cells #[.int .u8 0, .int .i64 0, .int .i64 0, .int .i64 0, .int .i64 0, .int .i64 0, .int .i64 0, .int .u64 0, .int .i64 0, .int .i64 0, .int .i64 0, .int .i64 0, .int .u8 0, .string ⟨#[]⟩, .int .i64 0, .int .i64 0, .int .i64 0, .int .i64 0, .int .i64 0, .slice none 0 0, .slice none 0 0, .string ⟨#[]⟩] 29) := ⟨_, rfl⟩
  have m0 : Moved (fun _ => False) w w0 := by rw [hw0]; exact ((Moved.refl _ _).alloc _).alloc _
  have RA : Hid (RowAt w0 A (msgCells m a1 c1 a2 c2)) := hide (by rw [hw0, hA]; exact row_old (row_new _ _ _) _)
  have RR : Hid (RowAt w0 (A + 1) (msgCells MsgV.zero none 0 none 0)) := hide (by rw [hw0, hA]; exact row_new2 _ (msgCells MsgV.zero none 0 none 0) _ _ _)
  have hsz : w0.heap.size = A + 2 := by rw [hw0, hA]; simp
  have HK := hide hk
  have HW := hide hw0
  have HA := hide hA
  have HM := hide m0
  have k0 : w0.cell? ⟨A, 0, none⟩ = some (.int .u8 11) := by have := (unhide RA).cell 0 (show 0 < 22 by decide); rw [this]; show some (Value.int .u8 ((m.kind.toNat : Nat) : Int)) = _; rw [hk]; rfl
  obtain ⟨w1, hu, hrow, hmf, hth⟩ := keep_at w0 { MsgV.zero with kind := 11 } none none 0 0
  have U1 := hide hu
  have T1 := hide hth
  have hX : Hid (w0.heap.size = A + 2) := hide hsz
  replace RA := hide ((unhide RA).keep hmf id)
  replace RR := hide ((unhide RR).keep hmf id)
  have RX := hide hrow
  have MV := hide hmf
  clear hk hw0 hA m0 hu hrow hmf hth hsz
  go_enter Tryd.func54, Tryd.ntmps54
  go_upto_region 1 with fail
  rw [← unhide HA, ← unhide HW]
  go_upto_region 2 with (refine wpList_store_mid rfl 29 (.tmp 3) (.tmp 7) rfl w0.heap.size 0 (msgCells { MsgV.zero with kind := 11 } none 0 none 0).toArray rfl rfl (unhide T1) (by kernel_rfl) (cells_one { MsgV.zero with kind := 11 } none none 0 0) ?_; change wpList _ _ _ _ _ (World.setCells _ w0.heap.size 0 (msgCells { MsgV.zero with kind := 11 } none 0 none 0)); rw [unhide U1]; clear T1 U1)
  generalize hXX : w0.heap.size = X at *
  replace hX := hide (show X = A + 2 from unhide hX)
  clear hXX k0
  have k0 : w1.cell? ⟨A, 0, none⟩ = some (.int .u8 11) := by have := (unhide RA).cell 0 (show 0 < 22 by decide); rw [this]; show some (Value.int .u8 ((m.kind.toNat : Nat) : Int)) = _; rw [unhide HK]; rfl
  replace MV := hide ((unhide MV).mono (G := fun j => j = X) (fun _ f => f.elim))
  go_upto_region 3 with fail
  have ks : w1.cell? ⟨A, 1, none⟩ = some (.int .i64 m.move) := (unhide RA).cell 1 (show 1 < 22 by decide)
  have kd := (unhide RX).cell 1 (show 1 < 22 by decide)
  have kf := (unhide RX).free 1 (show 1 < 22 by decide)
  obtain ⟨w2, hw⟩ : ∃ w', w1.setCell ⟨X, 1, none⟩ (.int .i64 m.move) = w' := ⟨_, rfl⟩
  have mw : Moved (fun j => j = X) w1 w2 := by rw [← hw]; exact Moved.put _ _ _ _
  have rx : RowAt w2 X ((msgCells { MsgV.zero with kind := 11 } none 0 none 0).set 1 (.int .i64 m.move)) := by rw [← hw]; exact (unhide RX).set 1 (show 1 < 22 by decide) _
  have HWN := hide hw
  clear hw
  go_upto_region 4 with fail
  rw [unhide HWN]
  replace RA := hide ((unhide RA).keep mw (by have := unhide hX; omega))
  replace RR := hide ((unhide RR).keep mw (by have := unhide hX; omega))
  replace RX := hide rx
  replace MV := hide ((unhide MV).trans mw fun _ h => .inl h)
  clear ks kd kf mw rx HWN k0
  have k0 : w2.cell? ⟨A, 0, none⟩ = some (.int .u8 11) := by have := (unhide RA).cell 0 (show 0 < 22 by decide); rw [this]; show some (Value.int .u8 ((m.kind.toNat : Nat) : Int)) = _; rw [unhide HK]; rfl
  go_upto_region 4 with fail
  have ks : w2.cell? ⟨A, 2, none⟩ = some (.int .i64 m.part) := (unhide RA).cell 2 (show 2 < 22 by decide)
  have kd := (unhide RX).cell 2 (show 2 < 22 by decide)
  have kf := (unhide RX).free 2 (show 2 < 22 by decide)
  obtain ⟨w3, hw⟩ : ∃ w', w2.setCell ⟨X, 2, none⟩ (.int .i64 m.part) = w' := ⟨_, rfl⟩
  have mw : Moved (fun j => j = X) w2 w3 := by rw [← hw]; exact Moved.put _ _ _ _
  have rx : RowAt w3 X (((msgCells { MsgV.zero with kind := 11 } none 0 none 0).set 1 (.int .i64 m.move)).set 2 (.int .i64 m.part)) := by rw [← hw]; exact (unhide RX).set 2 (show 2 < 22 by decide) _
  have HWN := hide hw
  clear hw
  go_upto_region 5 with fail
  rw [unhide HWN]
  replace RA := hide ((unhide RA).keep mw (by have := unhide hX; omega))
  replace RR := hide ((unhide RR).keep mw (by have := unhide hX; omega))
  replace RX := hide rx
  replace MV := hide ((unhide MV).trans mw fun _ h => .inl h)
  clear ks kd kf mw rx HWN k0
  have k0 : w3.cell? ⟨A, 0, none⟩ = some (.int .u8 11) := by have := (unhide RA).cell 0 (show 0 < 22 by decide); rw [this]; show some (Value.int .u8 ((m.kind.toNat : Nat) : Int)) = _; rw [unhide HK]; rfl
  have k9 : w3.cell? ⟨A, 9, none⟩ = some (.int .i64 m.item.src) := (unhide RA).cell 9 (show 9 < 22 by decide)
  have k10 : w3.cell? ⟨A, 10, none⟩ = some (.int .i64 m.item.seq) := (unhide RA).cell 10 (show 10 < 22 by decide)
  obtain ⟨w4, hu, hrow, hmf, hth⟩ := keep_row w3 24 [.int .i64 0, .int .i64 0, .int .i64 0, .int .u8 0, .string ⟨#[]⟩, .int .i64 0, .int .i64 0, .int .i64 0] [.int .i64 m.item.src, .int .i64 m.item.seq, .int .i64 0, .int .u8 0, .string ⟨#[]⟩, .int .i64 0, .int .i64 0, .int .i64 0] rfl
  have U2 := hide hu
  have T2 := hide hth
  have mf := hide hmf
  have hrw := hide hrow
  clear hu hth hmf hrow
  go_upto_region 6 with (refine wpList_store_mid rfl 24 (.tmp 4) (.tmp 28) rfl w3.heap.size 0 #[.int .i64 m.item.src, .int .i64 m.item.seq, .int .i64 0, .int .u8 0, .string ⟨#[]⟩, .int .i64 0, .int .i64 0, .int .i64 0] rfl rfl (unhide T2) (by kernel_rfl) (by simp [Value.oneCell']) ?_; change wpList _ _ _ _ _ (World.setCells _ w3.heap.size 0 [.int .i64 m.item.src, .int .i64 m.item.seq, .int .i64 0, .int .u8 0, .string ⟨#[]⟩, .int .i64 0, .int .i64 0, .int .i64 0]); rw [unhide U2])
  have hS : Hid (X < w3.heap.size ∧ A + 1 < w3.heap.size) := hide ⟨(unhide RX).lt, (unhide RR).lt⟩
  replace RA := hide ((unhide RA).keep (unhide mf) id)
  replace RR := hide ((unhide RR).keep (unhide mf) id)
  replace RX := hide ((unhide RX).keep (unhide mf) id)
  replace MV := hide ((unhide MV).trans (unhide mf) fun _ f => f.elim)
  have RS := hrw
  generalize hYY : w3.heap.size = Y at *
  clear hYY k9 k10 k0 T2 U2 mf hrw
  have k0 : w4.cell? ⟨A, 0, none⟩ = some (.int .u8 11) := by have := (unhide RA).cell 0 (show 0 < 22 by decide); rw [this]; show some (Value.int .u8 ((m.kind.toNat : Nat) : Int)) = _; rw [unhide HK]; rfl
  go_upto_region 37 with fail
  obtain ⟨w5, hw⟩ : ∃ w', w4.setCells X 17 [.int .i64 m.epoch, .int .i64 m.nodes, .slice a1 m.owner.length c1] = w' := ⟨_, rfl⟩
  have mw : Moved (fun j => j = X) w4 w5 := by rw [← hw]; exact setCells_moved _ _ _ _
  have rx : RowAt w5 X (setsL (((msgCells { MsgV.zero with kind := 11 } none 0 none 0).set 1 (.int .i64 m.move)).set 2 (.int .i64 m.part)) 17 [.int .i64 m.epoch, .int .i64 m.nodes, .slice a1 m.owner.length c1]) := by rw [← hw]; exact (unhide RX).sets [.int .i64 m.epoch, .int .i64 m.nodes, .slice a1 m.owner.length c1] 17 (show 17 + 3 ≤ 22 by decide)
  have hth := hide ((unhide RX).thereMid 17 3 (show 17 + 3 ≤ 22 by decide))
  have rng := hide (range3 (unhide RA))
  have HWN := hide hw
  clear hw
  go_upto_region 38 with (first | (refine wpList_load_on rfl 27 (.tmp 106) rfl A 17 rfl [.int .i64 m.epoch, .int .i64 m.nodes, .slice a1 m.owner.length c1] _ (unhide rng) Tryd.underlying27 rfl (by kernel_rfl) ?_) | (refine wpList_store_mid rfl 27 (.tmp 108) (.tmp 107) rfl X 17 #[.int .i64 m.epoch, .int .i64 m.nodes, .slice a1 m.owner.length c1] rfl rfl (unhide hth) (by kernel_rfl) (by simp [Value.oneCell']) ?_; change wpList _ _ _ _ _ (w4.setCells X 17 [.int .i64 m.epoch, .int .i64 m.nodes, .slice a1 m.owner.length c1]); rw [unhide HWN]))
  replace RA := hide ((unhide RA).keep mw (by have := unhide hX; omega))
  replace RR := hide ((unhide RR).keep mw (by have := unhide hX; omega))
  replace RX := hide rx
  replace MV := hide ((unhide MV).trans mw fun _ h => .inl h)
  clear mw rx HWN hth rng k0
  have k0 : w5.cell? ⟨A, 0, none⟩ = some (.int .u8 11) := by have := (unhide RA).cell 0 (show 0 < 22 by decide); rw [this]; show some (Value.int .u8 ((m.kind.toNat : Nat) : Int)) = _; rw [unhide HK]; rfl
  have hfin : (msgCells (only m) a1 c1 none 0) = (setsL (((msgCells { MsgV.zero with kind := 11 } none 0 none 0).set 1 (.int .i64 m.move)).set 2 (.int .i64 m.part)) 17 [.int .i64 m.epoch, .int .i64 m.nodes, .slice a1 m.owner.length c1]) := by
    have hk := unhide HK
    have e : only m = only { m with kind := 11 } := by rw [← hk]
    rw [e]
    rfl
  have RX2 := unhide RX
  rw [← hfin] at RX2
  have hrg := hide RX2.range
  have hth := hide (unhide RR).there
  have RF := hide ((unhide RR).put (msgCells (only m) a1 c1 none 0) rfl).range
  have mset := setCells_moved w5 (A + 1) 0 (msgCells (only m) a1 c1 none 0)
  have MF := hide (((unhide HM).trans (unhide MV) fun i hi => .inr (by have := unhide hX; have := unhide HA; omega)).trans mset fun i hi => .inr (by have := unhide HA; omega))
  have RFF := hide hfin
  clear mset RX2 hfin k0
  obtain ⟨cs, hcs⟩ : ∃ cs, (msgCells (only m) a1 c1 none 0) = cs := ⟨_, rfl⟩
  have hone := cells_one (only m) a1 none c1 0
  have hlen : cs.length = 22 := by rw [← hcs]; rfl
  rw [hcs] at hrg RF MF hone
  have HCS := hide hcs
  have HONE := hide hone
  have hi22 : (Tryd.prog.info? 29).map (·.size) = some cs.length := by rw [hlen]; kernel_rfl
  have hi22' : (Tryd.prog.info? 29).map (·.size) = some cs.toArray.size := by rw [List.size_toArray, hlen]; kernel_rfl
  have hth' : Hid (w5.there (A + 1) 0 cs.toArray.size) := hide (by rw [List.size_toArray, hlen]; exact unhide hth)
  have HI := hide (And.intro hi22 hi22')
  clear hcs hone hlen hth hi22 hi22'
  obtain ⟨wf, hwf⟩ : ∃ wf, w5.setCells (A + 1) 0 cs = wf := ⟨_, rfl⟩
  rw [hwf] at RF MF
  have HWF := hide hwf
  clear hwf
  go_wp2_with (first | (refine wpList_load_on rfl 29 (.tmp 3) rfl X 0 rfl cs _ (unhide hrg) Tryd.underlying29 rfl (unhide HI).1 ?_) | (refine wpList_store_mid rfl 29 (.tmp 2) (.tmp 109) rfl (A + 1) 0 cs.toArray rfl rfl (unhide hth') (unhide HI).2 (unhide HONE) ?_; change wpList _ _ _ _ _ (w5.setCells (A + 1) 0 cs); rw [unhide HWF]))
  refine bodyPost_ret (v := .agg cs.toArray) ?_ rfl ?_
  · exact results_cell_mid Tryd.results54 _ wf (A + 1) _ _ rfl (unhide RF) Tryd.underlying29 rfl (unhide HI).1
  · exact ⟨by rw [unhide HCS], unhide MF⟩
set_option maxHeartbeats 8000000 in
set_option maxRecDepth 100000 in
theorem refonly_12 (m : MsgV) (a1 a2 : Option Addr) (c1 c2 : Nat) (w : World) (hk : m.kind = 12) :
    Calls Tryd.prog 54 #[.agg (msgCells m a1 c1 a2 c2).toArray] w fun e w' => e = .returned (.agg (msgCells (only m) none 0 none 0).toArray) ∧ Moved (fun _ => False) w w' := by
  obtain ⟨A, hA⟩ : ∃ A, A = w.heap.size := ⟨_, rfl⟩
  obtain ⟨w0, hw0⟩ : ∃ w0, w0 = (w.alloc (.cells (msgCells m a1 c1 a2 c2).toArray 29)).alloc (.cells #[.int .u8 0, .int .i64 0, .int .i64 0, .int .i64 0, .int .i64 0, .int .i64 0, .int .i64 0, .int .u64 0, .int .i64 0, .int .i64 0, .int .i64 0, .int .i64 0, .int .u8 0, .string ⟨#[]⟩, .int .i64 0, .int .i64 0, .int .i64 0, .int .i64 0, .int .i64 0, .slice none 0 0, .slice none 0 0, .string ⟨#[]⟩] 29) := ⟨_, rfl⟩
  have m0 : Moved (fun _ => False) w w0 := by rw [hw0]; exact ((Moved.refl _ _).alloc _).alloc _
  have RA : Hid (RowAt w0 A (msgCells m a1 c1 a2 c2)) := hide (by rw [hw0, hA]; exact row_old (row_new _ _ _) _)
  have RR : Hid (RowAt w0 (A + 1) (msgCells MsgV.zero none 0 none 0)) := hide (by rw [hw0, hA]; exact row_new2 _ (msgCells MsgV.zero none 0 none 0) _ _ _)
  have hsz : w0.heap.size = A + 2 := by rw [hw0, hA]; simp
  have HK := hide hk
  have HW := hide hw0
  have HA := hide hA
  have HM := hide m0
  have k0 : w0.cell? ⟨A, 0, none⟩ = some (.int .u8 12) := by have := (unhide RA).cell 0 (show 0 < 22 by decide); rw [this]; show some (Value.int .u8 ((m.kind.toNat : Nat) : Int)) = _; rw [hk]; rfl
  obtain ⟨w1, hu, hrow, hmf, hth⟩ := keep_at w0 { MsgV.zero with kind := 12 } none none 0 0
  have U1 := hide hu
  have T1 := hide hth
  have hX : Hid (w0.heap.size = A + 2) := hide hsz
  replace RA := hide ((unhide RA).keep hmf id)
  replace RR := hide ((unhide RR).keep hmf id)
  have RX := hide hrow
  have MV := hide hmf
  clear hk hw0 hA m0 hu hrow hmf hth hsz
  go_enter Tryd.func54, Tryd.ntmps54
  go_upto_region 1 with fail
  rw [← unhide HA, ← unhide HW]
  go_upto_region 2 with (refine wpList_store_mid rfl 29 (.tmp 3) (.tmp 7) rfl w0.heap.size 0 (msgCells { MsgV.zero with kind := 12 } none 0 none 0).toArray rfl rfl (unhide T1) (by kernel_rfl) (cells_one { MsgV.zero with kind := 12 } none none 0 0) ?_; change wpList _ _ _ _ _ (World.setCells _ w0.heap.size 0 (msgCells { MsgV.zero with kind := 12 } none 0 none 0)); rw [unhide U1]; clear T1 U1)
  generalize hXX : w0.heap.size = X at *
  replace hX := hide (show X = A + 2 from unhide hX)
  clear hXX k0
  have k0 : w1.cell? ⟨A, 0, none⟩ = some (.int .u8 12) := by have := (unhide RA).cell 0 (show 0 < 22 by decide); rw [this]; show some (Value.int .u8 ((m.kind.toNat : Nat) : Int)) = _; rw [unhide HK]; rfl
  replace MV := hide ((unhide MV).mono (G := fun j => j = X) (fun _ f => f.elim))
  go_upto_region 3 with fail
  have ks : w1.cell? ⟨A, 1, none⟩ = some (.int .i64 m.move) := (unhide RA).cell 1 (show 1 < 22 by decide)
  have kd := (unhide RX).cell 1 (show 1 < 22 by decide)
  have kf := (unhide RX).free 1 (show 1 < 22 by decide)
  obtain ⟨w2, hw⟩ : ∃ w', w1.setCell ⟨X, 1, none⟩ (.int .i64 m.move) = w' := ⟨_, rfl⟩
  have mw : Moved (fun j => j = X) w1 w2 := by rw [← hw]; exact Moved.put _ _ _ _
  have rx : RowAt w2 X ((msgCells { MsgV.zero with kind := 12 } none 0 none 0).set 1 (.int .i64 m.move)) := by rw [← hw]; exact (unhide RX).set 1 (show 1 < 22 by decide) _
  have HWN := hide hw
  clear hw
  go_upto_region 4 with fail
  rw [unhide HWN]
  replace RA := hide ((unhide RA).keep mw (by have := unhide hX; omega))
  replace RR := hide ((unhide RR).keep mw (by have := unhide hX; omega))
  replace RX := hide rx
  replace MV := hide ((unhide MV).trans mw fun _ h => .inl h)
  clear ks kd kf mw rx HWN k0
  have k0 : w2.cell? ⟨A, 0, none⟩ = some (.int .u8 12) := by have := (unhide RA).cell 0 (show 0 < 22 by decide); rw [this]; show some (Value.int .u8 ((m.kind.toNat : Nat) : Int)) = _; rw [unhide HK]; rfl
  go_upto_region 4 with fail
  have ks : w2.cell? ⟨A, 2, none⟩ = some (.int .i64 m.part) := (unhide RA).cell 2 (show 2 < 22 by decide)
  have kd := (unhide RX).cell 2 (show 2 < 22 by decide)
  have kf := (unhide RX).free 2 (show 2 < 22 by decide)
  obtain ⟨w3, hw⟩ : ∃ w', w2.setCell ⟨X, 2, none⟩ (.int .i64 m.part) = w' := ⟨_, rfl⟩
  have mw : Moved (fun j => j = X) w2 w3 := by rw [← hw]; exact Moved.put _ _ _ _
  have rx : RowAt w3 X (((msgCells { MsgV.zero with kind := 12 } none 0 none 0).set 1 (.int .i64 m.move)).set 2 (.int .i64 m.part)) := by rw [← hw]; exact (unhide RX).set 2 (show 2 < 22 by decide) _
  have HWN := hide hw
  clear hw
  go_upto_region 5 with fail
  rw [unhide HWN]
  replace RA := hide ((unhide RA).keep mw (by have := unhide hX; omega))
  replace RR := hide ((unhide RR).keep mw (by have := unhide hX; omega))
  replace RX := hide rx
  replace MV := hide ((unhide MV).trans mw fun _ h => .inl h)
  clear ks kd kf mw rx HWN k0
  have k0 : w3.cell? ⟨A, 0, none⟩ = some (.int .u8 12) := by have := (unhide RA).cell 0 (show 0 < 22 by decide); rw [this]; show some (Value.int .u8 ((m.kind.toNat : Nat) : Int)) = _; rw [unhide HK]; rfl
  have k9 : w3.cell? ⟨A, 9, none⟩ = some (.int .i64 m.item.src) := (unhide RA).cell 9 (show 9 < 22 by decide)
  have k10 : w3.cell? ⟨A, 10, none⟩ = some (.int .i64 m.item.seq) := (unhide RA).cell 10 (show 10 < 22 by decide)
  obtain ⟨w4, hu, hrow, hmf, hth⟩ := keep_row w3 24 [.int .i64 0, .int .i64 0, .int .i64 0, .int .u8 0, .string ⟨#[]⟩, .int .i64 0, .int .i64 0, .int .i64 0] [.int .i64 m.item.src, .int .i64 m.item.seq, .int .i64 0, .int .u8 0, .string ⟨#[]⟩, .int .i64 0, .int .i64 0, .int .i64 0] rfl
  have U2 := hide hu
  have T2 := hide hth
  have mf := hide hmf
  have hrw := hide hrow
  clear hu hth hmf hrow
  go_upto_region 6 with (refine wpList_store_mid rfl 24 (.tmp 4) (.tmp 28) rfl w3.heap.size 0 #[.int .i64 m.item.src, .int .i64 m.item.seq, .int .i64 0, .int .u8 0, .string ⟨#[]⟩, .int .i64 0, .int .i64 0, .int .i64 0] rfl rfl (unhide T2) (by kernel_rfl) (by simp [Value.oneCell']) ?_; change wpList _ _ _ _ _ (World.setCells _ w3.heap.size 0 [.int .i64 m.item.src, .int .i64 m.item.seq, .int .i64 0, .int .u8 0, .string ⟨#[]⟩, .int .i64 0, .int .i64 0, .int .i64 0]); rw [unhide U2])
  have hS : Hid (X < w3.heap.size ∧ A + 1 < w3.heap.size) := hide ⟨(unhide RX).lt, (unhide RR).lt⟩
  replace RA := hide ((unhide RA).keep (unhide mf) id)
  replace RR := hide ((unhide RR).keep (unhide mf) id)
  replace RX := hide ((unhide RX).keep (unhide mf) id)
  replace MV := hide ((unhide MV).trans (unhide mf) fun _ f => f.elim)
  have RS := hrw
  generalize hYY : w3.heap.size = Y at *
  clear hYY k9 k10 k0 T2 U2 mf hrw
  have k0 : w4.cell? ⟨A, 0, none⟩ = some (.int .u8 12) := by have := (unhide RA).cell 0 (show 0 < 22 by decide); rw [this]; show some (Value.int .u8 ((m.kind.toNat : Nat) : Int)) = _; rw [unhide HK]; rfl
  go_upto_region 38 with fail
  have hfin : (msgCells (only m) none 0 none 0) = (((msgCells { MsgV.zero with kind := 12 } none 0 none 0).set 1 (.int .i64 m.move)).set 2 (.int .i64 m.part)) := by
    have hk := unhide HK
    have e : only m = only { m with kind := 12 } := by rw [← hk]
    rw [e]
    rfl
  have RX2 := unhide RX
  rw [← hfin] at RX2
  have hrg := hide RX2.range
  have hth := hide (unhide RR).there
  have RF := hide ((unhide RR).put (msgCells (only m) none 0 none 0) rfl).range
  have mset := setCells_moved w4 (A + 1) 0 (msgCells (only m) none 0 none 0)
  have MF := hide (((unhide HM).trans (unhide MV) fun i hi => .inr (by have := unhide hX; have := unhide HA; omega)).trans mset fun i hi => .inr (by have := unhide HA; omega))
  have RFF := hide hfin
  clear mset RX2 hfin k0
  obtain ⟨cs, hcs⟩ : ∃ cs, (msgCells (only m) none 0 none 0) = cs := ⟨_, rfl⟩
  have hone := cells_one (only m) none none 0 0
  have hlen : cs.length = 22 := by rw [← hcs]; rfl
  rw [hcs] at hrg RF MF hone
  have HCS := hide hcs
  have HONE := hide hone
  have hi22 : (Tryd.prog.info? 29).map (·.size) = some cs.length := by rw [hlen]; kernel_rfl
  have hi22' : (Tryd.prog.info? 29).map (·.size) = some cs.toArray.size := by rw [List.size_toArray, hlen]; kernel_rfl
  have hth' : Hid (w4.there (A + 1) 0 cs.toArray.size) := hide (by rw [List.size_toArray, hlen]; exact unhide hth)
  have HI := hide (And.intro hi22 hi22')
  clear hcs hone hlen hth hi22 hi22'
  obtain ⟨wf, hwf⟩ : ∃ wf, w4.setCells (A + 1) 0 cs = wf := ⟨_, rfl⟩
  rw [hwf] at RF MF
  have HWF := hide hwf
  clear hwf
  go_wp2_with (first | (refine wpList_load_on rfl 29 (.tmp 3) rfl X 0 rfl cs _ (unhide hrg) Tryd.underlying29 rfl (unhide HI).1 ?_) | (refine wpList_store_mid rfl 29 (.tmp 2) (.tmp 109) rfl (A + 1) 0 cs.toArray rfl rfl (unhide hth') (unhide HI).2 (unhide HONE) ?_; change wpList _ _ _ _ _ (w4.setCells (A + 1) 0 cs); rw [unhide HWF]))
  refine bodyPost_ret (v := .agg cs.toArray) ?_ rfl ?_
  · exact results_cell_mid Tryd.results54 _ wf (A + 1) _ _ rfl (unhide RF) Tryd.underlying29 rfl (unhide HI).1
  · exact ⟨by rw [unhide HCS], unhide MF⟩
set_option maxHeartbeats 8000000 in
set_option maxRecDepth 100000 in
theorem refonly_13 (m : MsgV) (a1 a2 : Option Addr) (c1 c2 : Nat) (w : World) (hk : m.kind = 13) :
    Calls Tryd.prog 54 #[.agg (msgCells m a1 c1 a2 c2).toArray] w fun e w' => e = .returned (.agg (msgCells (only m) none 0 none 0).toArray) ∧ Moved (fun _ => False) w w' := by
  obtain ⟨A, hA⟩ : ∃ A, A = w.heap.size := ⟨_, rfl⟩
  obtain ⟨w0, hw0⟩ : ∃ w0, w0 = (w.alloc (.cells (msgCells m a1 c1 a2 c2).toArray 29)).alloc (.cells #[.int .u8 0, .int .i64 0, .int .i64 0, .int .i64 0, .int .i64 0, .int .i64 0, .int .i64 0, .int .u64 0, .int .i64 0, .int .i64 0, .int .i64 0, .int .i64 0, .int .u8 0, .string ⟨#[]⟩, .int .i64 0, .int .i64 0, .int .i64 0, .int .i64 0, .int .i64 0, .slice none 0 0, .slice none 0 0, .string ⟨#[]⟩] 29) := ⟨_, rfl⟩
  have m0 : Moved (fun _ => False) w w0 := by rw [hw0]; exact ((Moved.refl _ _).alloc _).alloc _
  have RA : Hid (RowAt w0 A (msgCells m a1 c1 a2 c2)) := hide (by rw [hw0, hA]; exact row_old (row_new _ _ _) _)
  have RR : Hid (RowAt w0 (A + 1) (msgCells MsgV.zero none 0 none 0)) := hide (by rw [hw0, hA]; exact row_new2 _ (msgCells MsgV.zero none 0 none 0) _ _ _)
  have hsz : w0.heap.size = A + 2 := by rw [hw0, hA]; simp
  have HK := hide hk
  have HW := hide hw0
  have HA := hide hA
  have HM := hide m0
  have k0 : w0.cell? ⟨A, 0, none⟩ = some (.int .u8 13) := by have := (unhide RA).cell 0 (show 0 < 22 by decide); rw [this]; show some (Value.int .u8 ((m.kind.toNat : Nat) : Int)) = _; rw [hk]; rfl
  obtain ⟨w1, hu, hrow, hmf, hth⟩ := keep_at w0 { MsgV.zero with kind := 13 } none none 0 0
  have U1 := hide hu
  have T1 := hide hth
  have hX : Hid (w0.heap.size = A + 2) := hide hsz
  replace RA := hide ((unhide RA).keep hmf id)
  replace RR := hide ((unhide RR).keep hmf id)
  have RX := hide hrow
  have MV := hide hmf
  clear hk hw0 hA m0 hu hrow hmf hth hsz
  go_enter Tryd.func54, Tryd.ntmps54
  go_upto_region 1 with fail
  rw [← unhide HA, ← unhide HW]
  go_upto_region 2 with (refine wpList_store_mid rfl 29 (.tmp 3) (.tmp 7) rfl w0.heap.size 0 (msgCells { MsgV.zero with kind := 13 } none 0 none 0).toArray rfl rfl (unhide T1) (by kernel_rfl) (cells_one { MsgV.zero with kind := 13 } none none 0 0) ?_; change wpList _ _ _ _ _ (World.setCells _ w0.heap.size 0 (msgCells { MsgV.zero with kind := 13 } none 0 none 0)); rw [unhide U1]; clear T1 U1)
  generalize hXX : w0.heap.size = X at *
  replace hX := hide (show X = A + 2 from unhide hX)
  clear hXX k0
  have k0 : w1.cell? ⟨A, 0, none⟩ = some (.int .u8 13) := by have := (unhide RA).cell 0 (show 0 < 22 by decide); rw [this]; show some (Value.int .u8 ((m.kind.toNat : Nat) : Int)) = _; rw [unhide HK]; rfl
  replace MV := hide ((unhide MV).mono (G := fun j => j = X) (fun _ f => f.elim))
  go_upto_region 3 with fail
  have ks : w1.cell? ⟨A, 1, none⟩ = some (.int .i64 m.move) := (unhide RA).cell 1 (show 1 < 22 by decide)
  have kd := (unhide RX).cell 1 (show 1 < 22 by decide)
  have kf := (unhide RX).free 1 (show 1 < 22 by decide)
  obtain ⟨w2, hw⟩ : ∃ w', w1.setCell ⟨X, 1, none⟩ (.int .i64 m.move) = w' := ⟨_, rfl⟩
  have mw : Moved (fun j => j = X) w1 w2 := by rw [← hw]; exact Moved.put _ _ _ _
  have rx : RowAt w2 X ((msgCells { MsgV.zero with kind := 13 } none 0 none 0).set 1 (.int .i64 m.move)) := by rw [← hw]; exact (unhide RX).set 1 (show 1 < 22 by decide) _
  have HWN := hide hw
  clear hw
  go_upto_region 4 with fail
  rw [unhide HWN]
  replace RA := hide ((unhide RA).keep mw (by have := unhide hX; omega))
  replace RR := hide ((unhide RR).keep mw (by have := unhide hX; omega))
  replace RX := hide rx
  replace MV := hide ((unhide MV).trans mw fun _ h => .inl h)
  clear ks kd kf mw rx HWN k0
  have k0 : w2.cell? ⟨A, 0, none⟩ = some (.int .u8 13) := by have := (unhide RA).cell 0 (show 0 < 22 by decide); rw [this]; show some (Value.int .u8 ((m.kind.toNat : Nat) : Int)) = _; rw [unhide HK]; rfl
  go_upto_region 4 with fail
  have ks : w2.cell? ⟨A, 2, none⟩ = some (.int .i64 m.part) := (unhide RA).cell 2 (show 2 < 22 by decide)
  have kd := (unhide RX).cell 2 (show 2 < 22 by decide)
  have kf := (unhide RX).free 2 (show 2 < 22 by decide)
  obtain ⟨w3, hw⟩ : ∃ w', w2.setCell ⟨X, 2, none⟩ (.int .i64 m.part) = w' := ⟨_, rfl⟩
  have mw : Moved (fun j => j = X) w2 w3 := by rw [← hw]; exact Moved.put _ _ _ _
  have rx : RowAt w3 X (((msgCells { MsgV.zero with kind := 13 } none 0 none 0).set 1 (.int .i64 m.move)).set 2 (.int .i64 m.part)) := by rw [← hw]; exact (unhide RX).set 2 (show 2 < 22 by decide) _
  have HWN := hide hw
  clear hw
  go_upto_region 5 with fail
  rw [unhide HWN]
  replace RA := hide ((unhide RA).keep mw (by have := unhide hX; omega))
  replace RR := hide ((unhide RR).keep mw (by have := unhide hX; omega))
  replace RX := hide rx
  replace MV := hide ((unhide MV).trans mw fun _ h => .inl h)
  clear ks kd kf mw rx HWN k0
  have k0 : w3.cell? ⟨A, 0, none⟩ = some (.int .u8 13) := by have := (unhide RA).cell 0 (show 0 < 22 by decide); rw [this]; show some (Value.int .u8 ((m.kind.toNat : Nat) : Int)) = _; rw [unhide HK]; rfl
  have k9 : w3.cell? ⟨A, 9, none⟩ = some (.int .i64 m.item.src) := (unhide RA).cell 9 (show 9 < 22 by decide)
  have k10 : w3.cell? ⟨A, 10, none⟩ = some (.int .i64 m.item.seq) := (unhide RA).cell 10 (show 10 < 22 by decide)
  obtain ⟨w4, hu, hrow, hmf, hth⟩ := keep_row w3 24 [.int .i64 0, .int .i64 0, .int .i64 0, .int .u8 0, .string ⟨#[]⟩, .int .i64 0, .int .i64 0, .int .i64 0] [.int .i64 m.item.src, .int .i64 m.item.seq, .int .i64 0, .int .u8 0, .string ⟨#[]⟩, .int .i64 0, .int .i64 0, .int .i64 0] rfl
  have U2 := hide hu
  have T2 := hide hth
  have mf := hide hmf
  have hrw := hide hrow
  clear hu hth hmf hrow
  go_upto_region 6 with (refine wpList_store_mid rfl 24 (.tmp 4) (.tmp 28) rfl w3.heap.size 0 #[.int .i64 m.item.src, .int .i64 m.item.seq, .int .i64 0, .int .u8 0, .string ⟨#[]⟩, .int .i64 0, .int .i64 0, .int .i64 0] rfl rfl (unhide T2) (by kernel_rfl) (by simp [Value.oneCell']) ?_; change wpList _ _ _ _ _ (World.setCells _ w3.heap.size 0 [.int .i64 m.item.src, .int .i64 m.item.seq, .int .i64 0, .int .u8 0, .string ⟨#[]⟩, .int .i64 0, .int .i64 0, .int .i64 0]); rw [unhide U2])
  have hS : Hid (X < w3.heap.size ∧ A + 1 < w3.heap.size) := hide ⟨(unhide RX).lt, (unhide RR).lt⟩
  replace RA := hide ((unhide RA).keep (unhide mf) id)
  replace RR := hide ((unhide RR).keep (unhide mf) id)
  replace RX := hide ((unhide RX).keep (unhide mf) id)
  replace MV := hide ((unhide MV).trans (unhide mf) fun _ f => f.elim)
  have RS := hrw
  generalize hYY : w3.heap.size = Y at *
  clear hYY k9 k10 k0 T2 U2 mf hrw
  have k0 : w4.cell? ⟨A, 0, none⟩ = some (.int .u8 13) := by have := (unhide RA).cell 0 (show 0 < 22 by decide); rw [this]; show some (Value.int .u8 ((m.kind.toNat : Nat) : Int)) = _; rw [unhide HK]; rfl
  go_upto_region 38 with fail
  have hfin : (msgCells (only m) none 0 none 0) = (((msgCells { MsgV.zero with kind := 13 } none 0 none 0).set 1 (.int .i64 m.move)).set 2 (.int .i64 m.part)) := by
    have hk := unhide HK
    have e : only m = only { m with kind := 13 } := by rw [← hk]
    rw [e]
    rfl
  have RX2 := unhide RX
  rw [← hfin] at RX2
  have hrg := hide RX2.range
  have hth := hide (unhide RR).there
  have RF := hide ((unhide RR).put (msgCells (only m) none 0 none 0) rfl).range
  have mset := setCells_moved w4 (A + 1) 0 (msgCells (only m) none 0 none 0)
  have MF := hide (((unhide HM).trans (unhide MV) fun i hi => .inr (by have := unhide hX; have := unhide HA; omega)).trans mset fun i hi => .inr (by have := unhide HA; omega))
  have RFF := hide hfin
  clear mset RX2 hfin k0
  obtain ⟨cs, hcs⟩ : ∃ cs, (msgCells (only m) none 0 none 0) = cs := ⟨_, rfl⟩
  have hone := cells_one (only m) none none 0 0
  have hlen : cs.length = 22 := by rw [← hcs]; rfl
  rw [hcs] at hrg RF MF hone
  have HCS := hide hcs
  have HONE := hide hone
  have hi22 : (Tryd.prog.info? 29).map (·.size) = some cs.length := by rw [hlen]; kernel_rfl
  have hi22' : (Tryd.prog.info? 29).map (·.size) = some cs.toArray.size := by rw [List.size_toArray, hlen]; kernel_rfl
  have hth' : Hid (w4.there (A + 1) 0 cs.toArray.size) := hide (by rw [List.size_toArray, hlen]; exact unhide hth)
  have HI := hide (And.intro hi22 hi22')
  clear hcs hone hlen hth hi22 hi22'
  obtain ⟨wf, hwf⟩ : ∃ wf, w4.setCells (A + 1) 0 cs = wf := ⟨_, rfl⟩
  rw [hwf] at RF MF
  have HWF := hide hwf
  clear hwf
  go_wp2_with (first | (refine wpList_load_on rfl 29 (.tmp 3) rfl X 0 rfl cs _ (unhide hrg) Tryd.underlying29 rfl (unhide HI).1 ?_) | (refine wpList_store_mid rfl 29 (.tmp 2) (.tmp 109) rfl (A + 1) 0 cs.toArray rfl rfl (unhide hth') (unhide HI).2 (unhide HONE) ?_; change wpList _ _ _ _ _ (w4.setCells (A + 1) 0 cs); rw [unhide HWF]))
  refine bodyPost_ret (v := .agg cs.toArray) ?_ rfl ?_
  · exact results_cell_mid Tryd.results54 _ wf (A + 1) _ _ rfl (unhide RF) Tryd.underlying29 rfl (unhide HI).1
  · exact ⟨by rw [unhide HCS], unhide MF⟩
set_option maxHeartbeats 8000000 in
set_option maxRecDepth 100000 in
theorem refonly_14 (m : MsgV) (a1 a2 : Option Addr) (c1 c2 : Nat) (w : World) (hk : m.kind = 14) :
    Calls Tryd.prog 54 #[.agg (msgCells m a1 c1 a2 c2).toArray] w fun e w' => e = .returned (.agg (msgCells (only m) a1 c1 none 0).toArray) ∧ Moved (fun _ => False) w w' := by
  obtain ⟨A, hA⟩ : ∃ A, A = w.heap.size := ⟨_, rfl⟩
  obtain ⟨w0, hw0⟩ : ∃ w0, w0 = (w.alloc (.cells (msgCells m a1 c1 a2 c2).toArray 29)).alloc (.cells #[.int .u8 0, .int .i64 0, .int .i64 0, .int .i64 0, .int .i64 0, .int .i64 0, .int .i64 0, .int .u64 0, .int .i64 0, .int .i64 0, .int .i64 0, .int .i64 0, .int .u8 0, .string ⟨#[]⟩, .int .i64 0, .int .i64 0, .int .i64 0, .int .i64 0, .int .i64 0, .slice none 0 0, .slice none 0 0, .string ⟨#[]⟩] 29) := ⟨_, rfl⟩
  have m0 : Moved (fun _ => False) w w0 := by rw [hw0]; exact ((Moved.refl _ _).alloc _).alloc _
  have RA : Hid (RowAt w0 A (msgCells m a1 c1 a2 c2)) := hide (by rw [hw0, hA]; exact row_old (row_new _ _ _) _)
  have RR : Hid (RowAt w0 (A + 1) (msgCells MsgV.zero none 0 none 0)) := hide (by rw [hw0, hA]; exact row_new2 _ (msgCells MsgV.zero none 0 none 0) _ _ _)
  have hsz : w0.heap.size = A + 2 := by rw [hw0, hA]; simp
  have HK := hide hk
  have HW := hide hw0
  have HA := hide hA
  have HM := hide m0
  have k0 : w0.cell? ⟨A, 0, none⟩ = some (.int .u8 14) := by have := (unhide RA).cell 0 (show 0 < 22 by decide); rw [this]; show some (Value.int .u8 ((m.kind.toNat : Nat) : Int)) = _; rw [hk]; rfl
  obtain ⟨w1, hu, hrow, hmf, hth⟩ := keep_at w0 { MsgV.zero with kind := 14 } none none 0 0
  have U1 := hide hu
  have T1 := hide hth
  have hX : Hid (w0.heap.size = A + 2) := hide hsz
  replace RA := hide ((unhide RA).keep hmf id)
  replace RR := hide ((unhide RR).keep hmf id)
  have RX := hide hrow
  have MV := hide hmf
  clear hk hw0 hA m0 hu hrow hmf hth hsz
  go_enter Tryd.func54, Tryd.ntmps54
  go_upto_region 1 with fail
  rw [← unhide HA, ← unhide HW]
  go_upto_region 2 with (refine wpList_store_mid rfl 29 (.tmp 3) (.tmp 7) rfl w0.heap.size 0 (msgCells { MsgV.zero with kind := 14 } none 0 none 0).toArray rfl rfl (unhide T1) (by kernel_rfl) (cells_one { MsgV.zero with kind := 14 } none none 0 0) ?_; change wpList _ _ _ _ _ (World.setCells _ w0.heap.size 0 (msgCells { MsgV.zero with kind := 14 } none 0 none 0)); rw [unhide U1]; clear T1 U1)
  generalize hXX : w0.heap.size = X at *
  replace hX := hide (show X = A + 2 from unhide hX)
  clear hXX k0
  have k0 : w1.cell? ⟨A, 0, none⟩ = some (.int .u8 14) := by have := (unhide RA).cell 0 (show 0 < 22 by decide); rw [this]; show some (Value.int .u8 ((m.kind.toNat : Nat) : Int)) = _; rw [unhide HK]; rfl
  replace MV := hide ((unhide MV).mono (G := fun j => j = X) (fun _ f => f.elim))
  go_upto_region 5 with fail
  have k9 : w1.cell? ⟨A, 9, none⟩ = some (.int .i64 m.item.src) := (unhide RA).cell 9 (show 9 < 22 by decide)
  have k10 : w1.cell? ⟨A, 10, none⟩ = some (.int .i64 m.item.seq) := (unhide RA).cell 10 (show 10 < 22 by decide)
  obtain ⟨w2, hu, hrow, hmf, hth⟩ := keep_row w1 24 [.int .i64 0, .int .i64 0, .int .i64 0, .int .u8 0, .string ⟨#[]⟩, .int .i64 0, .int .i64 0, .int .i64 0] [.int .i64 m.item.src, .int .i64 m.item.seq, .int .i64 0, .int .u8 0, .string ⟨#[]⟩, .int .i64 0, .int .i64 0, .int .i64 0] rfl
  have U2 := hide hu
  have T2 := hide hth
  have mf := hide hmf
  have hrw := hide hrow
  clear hu hth hmf hrow
  go_upto_region 6 with (refine wpList_store_mid rfl 24 (.tmp 4) (.tmp 28) rfl w1.heap.size 0 #[.int .i64 m.item.src, .int .i64 m.item.seq, .int .i64 0, .int .u8 0, .string ⟨#[]⟩, .int .i64 0, .int .i64 0, .int .i64 0] rfl rfl (unhide T2) (by kernel_rfl) (by simp [Value.oneCell']) ?_; change wpList _ _ _ _ _ (World.setCells _ w1.heap.size 0 [.int .i64 m.item.src, .int .i64 m.item.seq, .int .i64 0, .int .u8 0, .string ⟨#[]⟩, .int .i64 0, .int .i64 0, .int .i64 0]); rw [unhide U2])
  have hS : Hid (X < w1.heap.size ∧ A + 1 < w1.heap.size) := hide ⟨(unhide RX).lt, (unhide RR).lt⟩
  replace RA := hide ((unhide RA).keep (unhide mf) id)
  replace RR := hide ((unhide RR).keep (unhide mf) id)
  replace RX := hide ((unhide RX).keep (unhide mf) id)
  replace MV := hide ((unhide MV).trans (unhide mf) fun _ f => f.elim)
  have RS := hrw
  generalize hYY : w1.heap.size = Y at *
  clear hYY k9 k10 k0 T2 U2 mf hrw
  have k0 : w2.cell? ⟨A, 0, none⟩ = some (.int .u8 14) := by have := (unhide RA).cell 0 (show 0 < 22 by decide); rw [this]; show some (Value.int .u8 ((m.kind.toNat : Nat) : Int)) = _; rw [unhide HK]; rfl
  go_upto_region 37 with fail
  obtain ⟨w3, hw⟩ : ∃ w', w2.setCells X 17 [.int .i64 m.epoch, .int .i64 m.nodes, .slice a1 m.owner.length c1] = w' := ⟨_, rfl⟩
  have mw : Moved (fun j => j = X) w2 w3 := by rw [← hw]; exact setCells_moved _ _ _ _
  have rx : RowAt w3 X (setsL (msgCells { MsgV.zero with kind := 14 } none 0 none 0) 17 [.int .i64 m.epoch, .int .i64 m.nodes, .slice a1 m.owner.length c1]) := by rw [← hw]; exact (unhide RX).sets [.int .i64 m.epoch, .int .i64 m.nodes, .slice a1 m.owner.length c1] 17 (show 17 + 3 ≤ 22 by decide)
  have hth := hide ((unhide RX).thereMid 17 3 (show 17 + 3 ≤ 22 by decide))
  have rng := hide (range3 (unhide RA))
  have HWN := hide hw
  clear hw
  go_upto_region 38 with (first | (refine wpList_load_on rfl 27 (.tmp 106) rfl A 17 rfl [.int .i64 m.epoch, .int .i64 m.nodes, .slice a1 m.owner.length c1] _ (unhide rng) Tryd.underlying27 rfl (by kernel_rfl) ?_) | (refine wpList_store_mid rfl 27 (.tmp 108) (.tmp 107) rfl X 17 #[.int .i64 m.epoch, .int .i64 m.nodes, .slice a1 m.owner.length c1] rfl rfl (unhide hth) (by kernel_rfl) (by simp [Value.oneCell']) ?_; change wpList _ _ _ _ _ (w2.setCells X 17 [.int .i64 m.epoch, .int .i64 m.nodes, .slice a1 m.owner.length c1]); rw [unhide HWN]))
  replace RA := hide ((unhide RA).keep mw (by have := unhide hX; omega))
  replace RR := hide ((unhide RR).keep mw (by have := unhide hX; omega))
  replace RX := hide rx
  replace MV := hide ((unhide MV).trans mw fun _ h => .inl h)
  clear mw rx HWN hth rng k0
  have k0 : w3.cell? ⟨A, 0, none⟩ = some (.int .u8 14) := by have := (unhide RA).cell 0 (show 0 < 22 by decide); rw [this]; show some (Value.int .u8 ((m.kind.toNat : Nat) : Int)) = _; rw [unhide HK]; rfl
  have hfin : (msgCells (only m) a1 c1 none 0) = (setsL (msgCells { MsgV.zero with kind := 14 } none 0 none 0) 17 [.int .i64 m.epoch, .int .i64 m.nodes, .slice a1 m.owner.length c1]) := by
    have hk := unhide HK
    have e : only m = only { m with kind := 14 } := by rw [← hk]
    rw [e]
    rfl
  have RX2 := unhide RX
  rw [← hfin] at RX2
  have hrg := hide RX2.range
  have hth := hide (unhide RR).there
  have RF := hide ((unhide RR).put (msgCells (only m) a1 c1 none 0) rfl).range
  have mset := setCells_moved w3 (A + 1) 0 (msgCells (only m) a1 c1 none 0)
  have MF := hide (((unhide HM).trans (unhide MV) fun i hi => .inr (by have := unhide hX; have := unhide HA; omega)).trans mset fun i hi => .inr (by have := unhide HA; omega))
  have RFF := hide hfin
  clear mset RX2 hfin k0
  obtain ⟨cs, hcs⟩ : ∃ cs, (msgCells (only m) a1 c1 none 0) = cs := ⟨_, rfl⟩
  have hone := cells_one (only m) a1 none c1 0
  have hlen : cs.length = 22 := by rw [← hcs]; rfl
  rw [hcs] at hrg RF MF hone
  have HCS := hide hcs
  have HONE := hide hone
  have hi22 : (Tryd.prog.info? 29).map (·.size) = some cs.length := by rw [hlen]; kernel_rfl
  have hi22' : (Tryd.prog.info? 29).map (·.size) = some cs.toArray.size := by rw [List.size_toArray, hlen]; kernel_rfl
  have hth' : Hid (w3.there (A + 1) 0 cs.toArray.size) := hide (by rw [List.size_toArray, hlen]; exact unhide hth)
  have HI := hide (And.intro hi22 hi22')
  clear hcs hone hlen hth hi22 hi22'
  obtain ⟨wf, hwf⟩ : ∃ wf, w3.setCells (A + 1) 0 cs = wf := ⟨_, rfl⟩
  rw [hwf] at RF MF
  have HWF := hide hwf
  clear hwf
  go_wp2_with (first | (refine wpList_load_on rfl 29 (.tmp 3) rfl X 0 rfl cs _ (unhide hrg) Tryd.underlying29 rfl (unhide HI).1 ?_) | (refine wpList_store_mid rfl 29 (.tmp 2) (.tmp 109) rfl (A + 1) 0 cs.toArray rfl rfl (unhide hth') (unhide HI).2 (unhide HONE) ?_; change wpList _ _ _ _ _ (w3.setCells (A + 1) 0 cs); rw [unhide HWF]))
  refine bodyPost_ret (v := .agg cs.toArray) ?_ rfl ?_
  · exact results_cell_mid Tryd.results54 _ wf (A + 1) _ _ rfl (unhide RF) Tryd.underlying29 rfl (unhide HI).1
  · exact ⟨by rw [unhide HCS], unhide MF⟩
theorem refonly_any (m : MsgV) (a1 a2 : Option Addr) (c1 c2 : Nat) (w : World) (hk : 1 ≤ m.kind.toNat ∧ m.kind.toNat ≤ 14) (hI1 : Ints w a1 m.owner) (hI2 : Ints w a2 m.set) :
    Calls Tryd.prog 54 #[.agg (msgCells m a1 c1 a2 c2).toArray] w fun e w' => Moved (fun _ => False) w w' ∧ ∃ b1 d1 b2 d2, e = .returned (.agg (msgCells (only m) b1 d1 b2 d2).toArray) ∧ Ints w' b1 (only m).owner ∧ Ints w' b2 (only m).set := by
  rcases kind_cases hk with h1 | h1 | h1 | h1 | h1 | h1 | h1 | h1 | h1 | h1 | h1 | h1 | h1 | h1
  · have e1 : (only m).owner = [] ∧ (only m).set = [] := by unfold only; rw [h1]; exact ⟨rfl, rfl⟩
    refine (refonly_1 m a1 a2 c1 c2 w (UInt8.toNat_inj.1 h1)).mono ?_
    rintro e w' ⟨rfl, hm⟩
    exact ⟨hm, _, _, _, _, rfl, by rw [e1.1]; exact ints_nil _ _, by rw [e1.2]; exact ints_nil _ _⟩
  · have e1 : (only m).owner = [] ∧ (only m).set = [] := by unfold only; rw [h1]; exact ⟨rfl, rfl⟩
    refine (refonly_2 m a1 a2 c1 c2 w (UInt8.toNat_inj.1 h1)).mono ?_
    rintro e w' ⟨rfl, hm⟩
    exact ⟨hm, _, _, _, _, rfl, by rw [e1.1]; exact ints_nil _ _, by rw [e1.2]; exact ints_nil _ _⟩
  · have e1 : (only m).owner = m.owner ∧ (only m).set = [] := by unfold only; rw [h1]; exact ⟨rfl, rfl⟩
    refine (refonly_3 m a1 a2 c1 c2 w (UInt8.toNat_inj.1 h1)).mono ?_
    rintro e w' ⟨rfl, hm⟩
    exact ⟨hm, _, _, _, _, rfl, by rw [e1.1]; exact hI1.keep hm fun _ _ => id, by rw [e1.2]; exact ints_nil _ _⟩
  · have e1 : (only m).owner = [] ∧ (only m).set = [] := by unfold only; rw [h1]; exact ⟨rfl, rfl⟩
    refine (refonly_4 m a1 a2 c1 c2 w (UInt8.toNat_inj.1 h1)).mono ?_
    rintro e w' ⟨rfl, hm⟩
    exact ⟨hm, _, _, _, _, rfl, by rw [e1.1]; exact ints_nil _ _, by rw [e1.2]; exact ints_nil _ _⟩
  · have e1 : (only m).owner = [] ∧ (only m).set = [] := by unfold only; rw [h1]; exact ⟨rfl, rfl⟩
    refine (refonly_5 m a1 a2 c1 c2 w (UInt8.toNat_inj.1 h1)).mono ?_
    rintro e w' ⟨rfl, hm⟩
    exact ⟨hm, _, _, _, _, rfl, by rw [e1.1]; exact ints_nil _ _, by rw [e1.2]; exact ints_nil _ _⟩
  · have e1 : (only m).owner = [] ∧ (only m).set = m.set := by unfold only; rw [h1]; exact ⟨rfl, rfl⟩
    refine (refonly_6 m a1 a2 c1 c2 w (UInt8.toNat_inj.1 h1)).mono ?_
    rintro e w' ⟨rfl, hm⟩
    exact ⟨hm, _, _, _, _, rfl, by rw [e1.1]; exact ints_nil _ _, by rw [e1.2]; exact hI2.keep hm fun _ _ => id⟩
  · have e1 : (only m).owner = [] ∧ (only m).set = [] := by unfold only; rw [h1]; exact ⟨rfl, rfl⟩
    refine (refonly_7 m a1 a2 c1 c2 w (UInt8.toNat_inj.1 h1)).mono ?_
    rintro e w' ⟨rfl, hm⟩
    exact ⟨hm, _, _, _, _, rfl, by rw [e1.1]; exact ints_nil _ _, by rw [e1.2]; exact ints_nil _ _⟩
  · have e1 : (only m).owner = [] ∧ (only m).set = [] := by unfold only; rw [h1]; exact ⟨rfl, rfl⟩
    refine (refonly_8 m a1 a2 c1 c2 w (UInt8.toNat_inj.1 h1)).mono ?_
    rintro e w' ⟨rfl, hm⟩
    exact ⟨hm, _, _, _, _, rfl, by rw [e1.1]; exact ints_nil _ _, by rw [e1.2]; exact ints_nil _ _⟩
  · have e1 : (only m).owner = [] ∧ (only m).set = [] := by unfold only; rw [h1]; exact ⟨rfl, rfl⟩
    refine (refonly_9 m a1 a2 c1 c2 w (UInt8.toNat_inj.1 h1)).mono ?_
    rintro e w' ⟨rfl, hm⟩
    exact ⟨hm, _, _, _, _, rfl, by rw [e1.1]; exact ints_nil _ _, by rw [e1.2]; exact ints_nil _ _⟩
  · have e1 : (only m).owner = [] ∧ (only m).set = [] := by unfold only; rw [h1]; exact ⟨rfl, rfl⟩
    refine (refonly_10 m a1 a2 c1 c2 w (UInt8.toNat_inj.1 h1)).mono ?_
    rintro e w' ⟨rfl, hm⟩
    exact ⟨hm, _, _, _, _, rfl, by rw [e1.1]; exact ints_nil _ _, by rw [e1.2]; exact ints_nil _ _⟩
  · have e1 : (only m).owner = m.owner ∧ (only m).set = [] := by unfold only; rw [h1]; exact ⟨rfl, rfl⟩
    refine (refonly_11 m a1 a2 c1 c2 w (UInt8.toNat_inj.1 h1)).mono ?_
    rintro e w' ⟨rfl, hm⟩
    exact ⟨hm, _, _, _, _, rfl, by rw [e1.1]; exact hI1.keep hm fun _ _ => id, by rw [e1.2]; exact ints_nil _ _⟩
  · have e1 : (only m).owner = [] ∧ (only m).set = [] := by unfold only; rw [h1]; exact ⟨rfl, rfl⟩
    refine (refonly_12 m a1 a2 c1 c2 w (UInt8.toNat_inj.1 h1)).mono ?_
    rintro e w' ⟨rfl, hm⟩
    exact ⟨hm, _, _, _, _, rfl, by rw [e1.1]; exact ints_nil _ _, by rw [e1.2]; exact ints_nil _ _⟩
  · have e1 : (only m).owner = [] ∧ (only m).set = [] := by unfold only; rw [h1]; exact ⟨rfl, rfl⟩
    refine (refonly_13 m a1 a2 c1 c2 w (UInt8.toNat_inj.1 h1)).mono ?_
    rintro e w' ⟨rfl, hm⟩
    exact ⟨hm, _, _, _, _, rfl, by rw [e1.1]; exact ints_nil _ _, by rw [e1.2]; exact ints_nil _ _⟩
  · have e1 : (only m).owner = m.owner ∧ (only m).set = [] := by unfold only; rw [h1]; exact ⟨rfl, rfl⟩
    refine (refonly_14 m a1 a2 c1 c2 w (UInt8.toNat_inj.1 h1)).mono ?_
    rintro e w' ⟨rfl, hm⟩
    exact ⟨hm, _, _, _, _, rfl, by rw [e1.1]; exact hI1.keep hm fun _ _ => id, by rw [e1.2]; exact ints_nil _ _⟩
end Go.Proofs.YtkbmbcmcnpeabaaDoor

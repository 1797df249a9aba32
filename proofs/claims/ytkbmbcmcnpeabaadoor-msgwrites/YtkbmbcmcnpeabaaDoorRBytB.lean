/- The document's own Bytes: right messages of the kinds 5, 6. Conditions: the message is one that Go's types can hold, its lists lie in memory, and the document's Right says so. -/
import Derived.Test.YtkbmbcmcnpeabaaDoorRItem
namespace Go.Proofs.YtkbmbcmcnpeabaaDoor.Rw
open Pk Go.RowKit

set_option maxHeartbeats 8000000 in
set_option maxRecDepth 100000 in
theorem refbytes_5 (m : MsgV) (a1 a2 : Option Addr) (c1 c2 : Nat) (w : World) (hI1 : Ints w a1 m.owner) (hI2 : Ints w a2 m.set) (hr : Right m) (hk : m.kind.toNat = 5)
    (hR : ∀ v : World, Ints v a1 m.owner → Ints v a2 m.set → Calls Tryd.prog 25 #[.agg (msgCells m a1 c1 a2 c2).toArray] v fun e v' => Moved (fun _ => False) v v' ∧ e = .returned (.int .i64 0)) :
    Calls Tryd.prog 9 #[.agg (msgCells m a1 c1 a2 c2).toArray] w fun e w' => Moved (fun _ => False) w w' ∧ e = .returned (.tuple #[.string ⟨(msgBytes m).toArray⟩, .int .i64 0]) := by
  obtain ⟨A, hA⟩ : ∃ A, A = w.heap.size := ⟨_, rfl⟩
  obtain ⟨W, hW⟩ : ∃ W, W = w.alloc (.cells (msgCells m a1 c1 a2 c2).toArray 29) := ⟨_, rfl⟩
  have mW : Moved (fun _ => False) w W := by rw [hW]; exact (Moved.refl _ _).alloc _
  have RA : RowAt W A (msgCells m a1 c1 a2 c2) := by rw [hW, hA]; exact row_new _ _ _
  have hRW := hR W (hI1.keep mW fun _ _ => id) (hI2.keep mW fun _ _ => id)
  obtain ⟨CL, hCL⟩ : ∃ CL : World → Prop, CL = fun v => Moved (fun _ => False) W v := ⟨_, rfl⟩
  have un : ∀ v, CL v → Moved (fun _ => False) W v := fun v h => by rw [hCL] at h; exact h
  have re : ∀ v v', CL v → Moved (fun _ => False) v v' → CL v' := fun v v' h h' => by rw [hCL] at h ⊢; exact h.trans h' fun _ f => f.elim
  have drew : ∀ v, CL v → CL v.drew := fun v h => by rw [hCL] at h ⊢; exact h.drew
  have base : CL W := by rw [hCL]; exact Moved.refl _ _
  have ne : Nonempty (SX CL) := ⟨⟨W, base⟩⟩
  have kc : ∀ (p : SX CL) (i : Nat) (v : Value), (msgCells m a1 c1 a2 c2)[i]? = some v → p.w.cell? ⟨A, i, none⟩ = some v := fun p i v hv => by
    obtain ⟨hi, _⟩ := List.getElem?_eq_some_iff.1 hv
    have := (RA.keep (un _ p.ok) id).cell i hi
    rw [List.getD_eq_getElem?_getD, hv] at this
    exact this
  have k0 : ∀ p : SX CL, p.w.cell? ⟨A, 0, none⟩ = some (.int .u8 5) := fun p => by have := kc p 0 _ rfl; rw [hk] at this; exact this
  have k9 : ∀ p : SX CL, p.w.cell? ⟨A, 9, none⟩ = some (.int .i64 m.item.src) := fun p => kc p 9 _ rfl
  have k10 : ∀ p : SX CL, p.w.cell? ⟨A, 10, none⟩ = some (.int .i64 m.item.seq) := fun p => kc p 10 _ rfl
  have k17 : ∀ p : SX CL, p.w.cell? ⟨A, 17, none⟩ = some (.int .i64 m.epoch) := fun p => kc p 17 _ rfl
  have k18 : ∀ p : SX CL, p.w.cell? ⟨A, 18, none⟩ = some (.int .i64 m.nodes) := fun p => kc p 18 _ rfl
  have k19 : ∀ p : SX CL, p.w.cell? ⟨A, 19, none⟩ = some (.slice a1 m.owner.length c1) := fun p => kc p 19 _ rfl
  have k1 : ∀ p : SX CL, p.w.cell? ⟨A, 1, none⟩ = some (.int .i64 m.move) := fun p => kc p 1 _ rfl
  have k2 : ∀ p : SX CL, p.w.cell? ⟨A, 2, none⟩ = some (.int .i64 m.part) := fun p => kc p 2 _ rfl
  have k4 : ∀ p : SX CL, p.w.cell? ⟨A, 4, none⟩ = some (.int .i64 m.n) := fun p => kc p 4 _ rfl
  have k5 : ∀ p : SX CL, p.w.cell? ⟨A, 5, none⟩ = some (.int .i64 m.count) := fun p => kc p 5 _ rfl
  have k21 : ∀ p : SX CL, p.w.cell? ⟨A, 21, none⟩ = some (.string ⟨m.data.toArray⟩) := fun p => kc p 21 _ rfl
  have RG := hide RA.range
  have bel : ∀ v v', CL v → Below v.heap.size v v' → CL v' := fun v v' h hb => re v v' h (Moved.of_below (F := fun _ => False) hb)
  have c26 := hide (fun (n : Int) (hn : In n) (p : SX CL) => ((rnum_any n (in_le hn).1 (by have := in_le hn; omega) p.w).mono fun e w'' ⟨he, hb⟩ => ⟨he, ⟨w'', bel _ _ p.ok hb⟩, rfl⟩ : Calls Tryd.prog 26 #[.int .i64 n] p.w fun e w'' => e = .returned (.string (nB n)) ∧ ∃ q : SX CL, w'' = q.w))
  have c27 := hide (fun (p : SX CL) => ((reflist_any a1 m.owner c1 p.w (hI1.keep (mW.trans (un _ p.ok) fun _ f => f.elim) fun _ _ => id) (by have := hr.ok.owner.1; omega) hr.ok.owner.2).mono fun e w'' ⟨he, hb⟩ => ⟨he, ⟨w'', bel _ _ p.ok hb⟩, rfl⟩ : Calls Tryd.prog 27 #[.slice a1 m.owner.length c1] p.w fun e w'' => e = .returned (.string (lB m.owner)) ∧ ∃ q : SX CL, w'' = q.w))
  have c29 := hide (fun (p : SX CL) => ((reftext_any ⟨m.data.toArray⟩ (by rw [size_of]; have := hr.ok.data; omega) p.w).mono fun e w'' ⟨he, hb⟩ => ⟨he, ⟨w'', bel _ _ p.ok hb⟩, rfl⟩ : Calls Tryd.prog 29 #[.string ⟨m.data.toArray⟩] p.w fun e w'' => e = .returned (.string (tB m.data)) ∧ ∃ q : SX CL, w'' = q.w))
  have z29 := tB_size (l := m.data) (by have := hr.ok.data; omega)
  have z29b := hr.ok.data
  have i5 := hr.ok.count
  have z5 := nB_size i5
  have i9 := hr.ok.item.src
  have i10 := hr.ok.item.seq
  have i17 := hr.ok.epoch
  have i18 := hr.ok.nodes
  have z9 := nB_size i9
  have z10 := nB_size i10
  have z17 := nB_size i17
  have z18 := nB_size i18
  have z19 := lB_size hr.ok.owner.2 (by have := hr.ok.owner.1; omega)
  have z19b := hr.ok.owner.1
  have i1 := hr.ok.move
  have i2 := hr.ok.part
  have z1 := nB_size i1
  have z2 := nB_size i2
  have i4 := hr.ok.n
  have z4 := nB_size i4
  have BE := hide (bytes_5 hr hk)
  obtain ⟨ks, hks⟩ : ∃ k : ByteArray, k = (⟨#[m.kind]⟩ : ByteArray) := ⟨_, rfl⟩
  have zk : ks.size = 1 := by rw [hks]; rfl
  rw [← hks] at BE
  have CV := hide (fun (v : World) => (by rw [hks]; exact Rf.conv_one v.heap.size m.kind _ (by rw [hk]; simp) : Sem.run Tryd.prog (convert 48 9 (.slice (some ⟨v.heap.size, 0, none⟩) 1 1)) (v.alloc (.cells #[.int .u8 5] 5)) = .ok (.string ks) (v.alloc (.cells #[.int .u8 5] 5))))
  have al : ∀ v, CL v → CL (v.alloc (.cells #[.int .u8 5] 5)) := fun v h => re _ _ h ((Moved.refl _ _).alloc _)
  have HW := hide hW
  have HA := hide hA
  have fin : ∀ v, CL v → Moved (fun _ => False) w v := fun v h => mW.trans (un v h) fun _ f => f.elim
  have BS := hide base
  have UN := hide un
  have RE := hide re
  have HR := hide hRW
  clear hCL un re bel kc hW hA hRW RA hI1 hI2 hR hr hks hk mW base
  go_enter Tryd.func9, Tryd.ntmps9
  go_upto_region 1 with fail
  rw [← unhide HA]
  try change Code.wp _ _ _ _ (w.alloc (.cells (msgCells m a1 c1 a2 c2).toArray 29))
  rw [← unhide HW]
  go_step
  refine wpList_load_mid rfl 29 (.tmp 1) rfl A 0 rfl (msgCells m a1 c1 a2 c2) _ (unhide RG) Tryd.underlying29 rfl (by kernel_rfl) ?_
  go_wp2_with fail
  refine (unhide HR).mono ?_
  rintro e w1 ⟨hm, rfl⟩
  have OK1 : CL w1 := unhide RE _ _ (unhide BS) hm
  clear hm HR
  have cv := unhide CV w1
  have h0 := k0 ⟨w1, OK1⟩
  try dsimp only at h0
  go_upto_region 5 with fail
  have OK2 := al _ OK1
  clear cv h0 OK1
  generalize w1.alloc (.cells #[.int .u8 5] 5) = w2 at *
  have h0 := k0 ⟨w2, OK2⟩
  try dsimp only at h0
  have s1a : ¬ (9223372036854775807 < ks.size + (nB m.move).size) := by omega
  have s1b : ¬ (9223372036854775807 < ks.size + (nB m.move).size + (nB m.part).size) := by omega
  go_upto_region 6 with fail
  refine wp_region_sx (St := CL) (by kernel_rfl) (by kernel_rfl) (drew _ OK2) ?_
  repeat (go_big_quiet_step (first | (go_at_call 26; exact unhide c26 _ (by assumption) _)))
  refine wpQuiet_nil ?_
  first | (rintro w3 ⟨p0, e0⟩; have OK3 := p0.ok; rw [← e0] at OK3; clear e0) | rintro ⟨w3, OK3⟩
  try dsimp only
  clear OK2
  obtain ⟨s1, hs1⟩ : ∃ s, s = ks ++ nB m.move ++ nB m.part := ⟨_, rfl⟩
  have zs1 : s1.size ≤ 30 := by rw [hs1]; simp only [ByteArray.size_append]; omega
  rw [← hs1] at BE ⊢
  clear s1a s1b hs1 h0 k1 k2 i1 i2 z1 z2
  have s2 : ¬ (9223372036854775807 < (nB m.item.src).size + (nB m.item.seq).size) := by omega
  go_upto_region 7 with fail
  refine wp_region_sx (St := CL) (by kernel_rfl) (by kernel_rfl) (drew _ OK3) ?_
  repeat (go_big_quiet_step (first | (go_at_call 26; exact unhide c26 _ (by assumption) _)))
  refine wpQuiet_nil ?_
  first | (rintro w4 ⟨p0, e0⟩; have OK4 := p0.ok; rw [← e0] at OK4; clear e0) | rintro ⟨w4, OK4⟩
  try dsimp only
  clear OK3
  obtain ⟨wh, hwh⟩ : ∃ s, s = nB m.item.src ++ nB m.item.seq := ⟨_, rfl⟩
  rw [← hwh]
  clear s2 hwh k9 k10
  have s3 : ¬ (9223372036854775807 < (nB m.epoch).size + (nB m.nodes).size) := by omega
  have s4 : ¬ (9223372036854775807 < (nB m.epoch).size + (nB m.nodes).size + (lB m.owner).size) := by omega
  go_upto_region 8 with fail
  refine wp_region_sx (St := CL) (by kernel_rfl) (by kernel_rfl) (drew _ OK4) ?_
  repeat (go_big_quiet_step (first | (go_at_call 26; exact unhide c26 _ (by assumption) _) | (go_at_call 27; exact unhide c27 _)))
  refine wpQuiet_nil ?_
  first | (rintro w5 ⟨p0, e0⟩; have OK5 := p0.ok; rw [← e0] at OK5; clear e0) | rintro ⟨w5, OK5⟩
  try dsimp only
  clear OK4
  obtain ⟨tb, htb⟩ : ∃ s, s = nB m.epoch ++ nB m.nodes ++ lB m.owner := ⟨_, rfl⟩
  have ztb : tb.size ≤ 1000 := by rw [htb]; simp only [ByteArray.size_append]; omega
  rw [← htb]
  clear s3 s4 htb k17 k18 k19 c27
  have h0 := k0 ⟨w5, OK5⟩
  try dsimp only at h0
  have q0 : ¬ (9223372036854775807 < s1.size + (nB m.n).size) := by omega
  have q1 : ¬ (9223372036854775807 < s1.size + (nB m.n).size + (nB m.count).size) := by omega
  have q2 : ¬ (9223372036854775807 < s1.size + (nB m.n).size + (nB m.count).size + (tB m.data).size) := by omega
  go_upto_region 19 with fail
  refine wp_region_sx (St := CL) (by kernel_rfl) (by kernel_rfl) (drew _ OK5) ?_
  repeat (go_big_quiet_step (first | (go_at_call 26; exact unhide c26 _ (by assumption) _) | (go_at_call 29; exact unhide c29 _)))
  refine wpQuiet_nil ?_
  first | (rintro w6 ⟨p0, e0⟩; have OK6 := p0.ok; rw [← e0] at OK6; clear e0) | rintro ⟨w6, OK6⟩
  try dsimp only
  clear OK5
  go_wp2_with fail
  go_ret2
  exact ⟨fin _ OK6, by rw [unhide BE]; rfl⟩
set_option maxHeartbeats 8000000 in
set_option maxRecDepth 100000 in
theorem refbytes_6 (m : MsgV) (a1 a2 : Option Addr) (c1 c2 : Nat) (w : World) (hI1 : Ints w a1 m.owner) (hI2 : Ints w a2 m.set) (hr : Right m) (hk : m.kind.toNat = 6)
    (hR : ∀ v : World, Ints v a1 m.owner → Ints v a2 m.set → Calls Tryd.prog 25 #[.agg (msgCells m a1 c1 a2 c2).toArray] v fun e v' => Moved (fun _ => False) v v' ∧ e = .returned (.int .i64 0)) :
    Calls Tryd.prog 9 #[.agg (msgCells m a1 c1 a2 c2).toArray] w fun e w' => Moved (fun _ => False) w w' ∧ e = .returned (.tuple #[.string ⟨(msgBytes m).toArray⟩, .int .i64 0]) := by
  obtain ⟨A, hA⟩ : ∃ A, A = w.heap.size := ⟨_, rfl⟩
  obtain ⟨W, hW⟩ : ∃ W, W = w.alloc (.cells (msgCells m a1 c1 a2 c2).toArray 29) := ⟨_, rfl⟩
  have mW : Moved (fun _ => False) w W := by rw [hW]; exact (Moved.refl _ _).alloc _
  have RA : RowAt W A (msgCells m a1 c1 a2 c2) := by rw [hW, hA]; exact row_new _ _ _
  have hRW := hR W (hI1.keep mW fun _ _ => id) (hI2.keep mW fun _ _ => id)
  obtain ⟨CL, hCL⟩ : ∃ CL : World → Prop, CL = fun v => Moved (fun _ => False) W v := ⟨_, rfl⟩
  have un : ∀ v, CL v → Moved (fun _ => False) W v := fun v h => by rw [hCL] at h; exact h
  have re : ∀ v v', CL v → Moved (fun _ => False) v v' → CL v' := fun v v' h h' => by rw [hCL] at h ⊢; exact h.trans h' fun _ f => f.elim
  have drew : ∀ v, CL v → CL v.drew := fun v h => by rw [hCL] at h ⊢; exact h.drew
  have base : CL W := by rw [hCL]; exact Moved.refl _ _
  have ne : Nonempty (SX CL) := ⟨⟨W, base⟩⟩
  have kc : ∀ (p : SX CL) (i : Nat) (v : Value), (msgCells m a1 c1 a2 c2)[i]? = some v → p.w.cell? ⟨A, i, none⟩ = some v := fun p i v hv => by
    obtain ⟨hi, _⟩ := List.getElem?_eq_some_iff.1 hv
    have := (RA.keep (un _ p.ok) id).cell i hi
    rw [List.getD_eq_getElem?_getD, hv] at this
    exact this
  have k0 : ∀ p : SX CL, p.w.cell? ⟨A, 0, none⟩ = some (.int .u8 6) := fun p => by have := kc p 0 _ rfl; rw [hk] at this; exact this
  have k9 : ∀ p : SX CL, p.w.cell? ⟨A, 9, none⟩ = some (.int .i64 m.item.src) := fun p => kc p 9 _ rfl
  have k10 : ∀ p : SX CL, p.w.cell? ⟨A, 10, none⟩ = some (.int .i64 m.item.seq) := fun p => kc p 10 _ rfl
  have k17 : ∀ p : SX CL, p.w.cell? ⟨A, 17, none⟩ = some (.int .i64 m.epoch) := fun p => kc p 17 _ rfl
  have k18 : ∀ p : SX CL, p.w.cell? ⟨A, 18, none⟩ = some (.int .i64 m.nodes) := fun p => kc p 18 _ rfl
  have k19 : ∀ p : SX CL, p.w.cell? ⟨A, 19, none⟩ = some (.slice a1 m.owner.length c1) := fun p => kc p 19 _ rfl
  have k1 : ∀ p : SX CL, p.w.cell? ⟨A, 1, none⟩ = some (.int .i64 m.move) := fun p => kc p 1 _ rfl
  have k2 : ∀ p : SX CL, p.w.cell? ⟨A, 2, none⟩ = some (.int .i64 m.part) := fun p => kc p 2 _ rfl
  have k4 : ∀ p : SX CL, p.w.cell? ⟨A, 4, none⟩ = some (.int .i64 m.n) := fun p => kc p 4 _ rfl
  have k20 : ∀ p : SX CL, p.w.cell? ⟨A, 20, none⟩ = some (.slice a2 m.set.length c2) := fun p => kc p 20 _ rfl
  have RG := hide RA.range
  have bel : ∀ v v', CL v → Below v.heap.size v v' → CL v' := fun v v' h hb => re v v' h (Moved.of_below (F := fun _ => False) hb)
  have c26 := hide (fun (n : Int) (hn : In n) (p : SX CL) => ((rnum_any n (in_le hn).1 (by have := in_le hn; omega) p.w).mono fun e w'' ⟨he, hb⟩ => ⟨he, ⟨w'', bel _ _ p.ok hb⟩, rfl⟩ : Calls Tryd.prog 26 #[.int .i64 n] p.w fun e w'' => e = .returned (.string (nB n)) ∧ ∃ q : SX CL, w'' = q.w))
  have c27 := hide (fun (p : SX CL) => ((reflist_any a1 m.owner c1 p.w (hI1.keep (mW.trans (un _ p.ok) fun _ f => f.elim) fun _ _ => id) (by have := hr.ok.owner.1; omega) hr.ok.owner.2).mono fun e w'' ⟨he, hb⟩ => ⟨he, ⟨w'', bel _ _ p.ok hb⟩, rfl⟩ : Calls Tryd.prog 27 #[.slice a1 m.owner.length c1] p.w fun e w'' => e = .returned (.string (lB m.owner)) ∧ ∃ q : SX CL, w'' = q.w))
  have c27b := hide (fun (p : SX CL) => ((reflist_any a2 m.set c2 p.w (hI2.keep (mW.trans (un _ p.ok) fun _ f => f.elim) fun _ _ => id) hr.ok.set.1 hr.ok.set.2).mono fun e w'' ⟨he, hb⟩ => ⟨he, ⟨w'', bel _ _ p.ok hb⟩, rfl⟩ : Calls Tryd.prog 27 #[.slice a2 m.set.length c2] p.w fun e w'' => e = .returned (.string (lB m.set)) ∧ ∃ q : SX CL, w'' = q.w))
  have i9 := hr.ok.item.src
  have i10 := hr.ok.item.seq
  have i17 := hr.ok.epoch
  have i18 := hr.ok.nodes
  have z9 := nB_size i9
  have z10 := nB_size i10
  have z17 := nB_size i17
  have z18 := nB_size i18
  have z19 := lB_size hr.ok.owner.2 (by have := hr.ok.owner.1; omega)
  have z19b := hr.ok.owner.1
  have z20 := lB_size hr.ok.set.2 (by have := hr.ok.set.1; omega)
  have z20b := hr.ok.set.1
  have i1 := hr.ok.move
  have i2 := hr.ok.part
  have z1 := nB_size i1
  have z2 := nB_size i2
  have i4 := hr.ok.n
  have z4 := nB_size i4
  have BE := hide (bytes_6 hr hk)
  obtain ⟨ks, hks⟩ : ∃ k : ByteArray, k = (⟨#[m.kind]⟩ : ByteArray) := ⟨_, rfl⟩
  have zk : ks.size = 1 := by rw [hks]; rfl
  rw [← hks] at BE
  have CV := hide (fun (v : World) => (by rw [hks]; exact Rf.conv_one v.heap.size m.kind _ (by rw [hk]; simp) : Sem.run Tryd.prog (convert 48 9 (.slice (some ⟨v.heap.size, 0, none⟩) 1 1)) (v.alloc (.cells #[.int .u8 6] 5)) = .ok (.string ks) (v.alloc (.cells #[.int .u8 6] 5))))
  have al : ∀ v, CL v → CL (v.alloc (.cells #[.int .u8 6] 5)) := fun v h => re _ _ h ((Moved.refl _ _).alloc _)
  have HW := hide hW
  have HA := hide hA
  have fin : ∀ v, CL v → Moved (fun _ => False) w v := fun v h => mW.trans (un v h) fun _ f => f.elim
  have BS := hide base
  have UN := hide un
  have RE := hide re
  have HR := hide hRW
  clear hCL un re bel kc hW hA hRW RA hI1 hI2 hR hr hks hk mW base
  go_enter Tryd.func9, Tryd.ntmps9
  go_upto_region 1 with fail
  rw [← unhide HA]
  try change Code.wp _ _ _ _ (w.alloc (.cells (msgCells m a1 c1 a2 c2).toArray 29))
  rw [← unhide HW]
  go_step
  refine wpList_load_mid rfl 29 (.tmp 1) rfl A 0 rfl (msgCells m a1 c1 a2 c2) _ (unhide RG) Tryd.underlying29 rfl (by kernel_rfl) ?_
  go_wp2_with fail
  refine (unhide HR).mono ?_
  rintro e w1 ⟨hm, rfl⟩
  have OK1 : CL w1 := unhide RE _ _ (unhide BS) hm
  clear hm HR
  have cv := unhide CV w1
  have h0 := k0 ⟨w1, OK1⟩
  try dsimp only at h0
  go_upto_region 5 with fail
  have OK2 := al _ OK1
  clear cv h0 OK1
  generalize w1.alloc (.cells #[.int .u8 6] 5) = w2 at *
  have h0 := k0 ⟨w2, OK2⟩
  try dsimp only at h0
  have s1a : ¬ (9223372036854775807 < ks.size + (nB m.move).size) := by omega
  have s1b : ¬ (9223372036854775807 < ks.size + (nB m.move).size + (nB m.part).size) := by omega
  go_upto_region 6 with fail
  refine wp_region_sx (St := CL) (by kernel_rfl) (by kernel_rfl) (drew _ OK2) ?_
  repeat (go_big_quiet_step (first | (go_at_call 26; exact unhide c26 _ (by assumption) _)))
  refine wpQuiet_nil ?_
  first | (rintro w3 ⟨p0, e0⟩; have OK3 := p0.ok; rw [← e0] at OK3; clear e0) | rintro ⟨w3, OK3⟩
  try dsimp only
  clear OK2
  obtain ⟨s1, hs1⟩ : ∃ s, s = ks ++ nB m.move ++ nB m.part := ⟨_, rfl⟩
  have zs1 : s1.size ≤ 30 := by rw [hs1]; simp only [ByteArray.size_append]; omega
  rw [← hs1] at BE ⊢
  clear s1a s1b hs1 h0 k1 k2 i1 i2 z1 z2
  have s2 : ¬ (9223372036854775807 < (nB m.item.src).size + (nB m.item.seq).size) := by omega
  go_upto_region 7 with fail
  refine wp_region_sx (St := CL) (by kernel_rfl) (by kernel_rfl) (drew _ OK3) ?_
  repeat (go_big_quiet_step (first | (go_at_call 26; exact unhide c26 _ (by assumption) _)))
  refine wpQuiet_nil ?_
  first | (rintro w4 ⟨p0, e0⟩; have OK4 := p0.ok; rw [← e0] at OK4; clear e0) | rintro ⟨w4, OK4⟩
  try dsimp only
  clear OK3
  obtain ⟨wh, hwh⟩ : ∃ s, s = nB m.item.src ++ nB m.item.seq := ⟨_, rfl⟩
  rw [← hwh]
  clear s2 hwh k9 k10
  have s3 : ¬ (9223372036854775807 < (nB m.epoch).size + (nB m.nodes).size) := by omega
  have s4 : ¬ (9223372036854775807 < (nB m.epoch).size + (nB m.nodes).size + (lB m.owner).size) := by omega
  go_upto_region 8 with fail
  refine wp_region_sx (St := CL) (by kernel_rfl) (by kernel_rfl) (drew _ OK4) ?_
  repeat (go_big_quiet_step (first | (go_at_call 26; exact unhide c26 _ (by assumption) _) | (go_at_call 27; exact unhide c27 _)))
  refine wpQuiet_nil ?_
  first | (rintro w5 ⟨p0, e0⟩; have OK5 := p0.ok; rw [← e0] at OK5; clear e0) | rintro ⟨w5, OK5⟩
  try dsimp only
  clear OK4
  obtain ⟨tb, htb⟩ : ∃ s, s = nB m.epoch ++ nB m.nodes ++ lB m.owner := ⟨_, rfl⟩
  have ztb : tb.size ≤ 1000 := by rw [htb]; simp only [ByteArray.size_append]; omega
  rw [← htb]
  clear s3 s4 htb k17 k18 k19 c27
  have h0 := k0 ⟨w5, OK5⟩
  try dsimp only at h0
  have q0 : ¬ (9223372036854775807 < s1.size + (nB m.n).size) := by omega
  have q1 : ¬ (9223372036854775807 < s1.size + (nB m.n).size + (lB m.set).size) := by omega
  go_upto_region 21 with fail
  refine wp_region_sx (St := CL) (by kernel_rfl) (by kernel_rfl) (drew _ OK5) ?_
  repeat (go_big_quiet_step (first | (go_at_call 26; exact unhide c26 _ (by assumption) _) | (go_at_call 27; exact unhide c27b _)))
  refine wpQuiet_nil ?_
  first | (rintro w6 ⟨p0, e0⟩; have OK6 := p0.ok; rw [← e0] at OK6; clear e0) | rintro ⟨w6, OK6⟩
  try dsimp only
  clear OK5
  go_wp2_with fail
  go_ret2
  exact ⟨fin _ OK6, by rw [unhide BE]; rfl⟩
end Go.Proofs.YtkbmbcmcnpeabaaDoor.Rw

namespace Go.Proofs.YtkbmbcmcnpeabaaDoor.Rw
open Pk Go.RowKit

set_option maxHeartbeats 8000000 in
set_option maxRecDepth 100000 in
theorem refbytes_7 (m : MsgV) (a1 a2 : Option Addr) (c1 c2 : Nat) (w : World) (hI1 : Ints w a1 m.owner) (hI2 : Ints w a2 m.set) (hr : Right m) (hk : m.kind.toNat = 7)
    (hR : ∀ v : World, Ints v a1 m.owner → Ints v a2 m.set → Calls Tryd.prog 25 #[.agg (msgCells m a1 c1 a2 c2).toArray] v fun e v' => Moved (fun _ => False) v v' ∧ e = .returned (.int .i64 0)) :
    Calls Tryd.prog 9 #[.agg (msgCells m a1 c1 a2 c2).toArray] w fun e w' => Moved (fun _ => False) w w' ∧ e = .returned (.tuple #[.string ⟨(msgBytes m).toArray⟩, .int .i64 0]) := by
  obtain ⟨A, hA⟩ : ∃ A, A = w.heap.size := ⟨_, rfl⟩
  obtain ⟨W, hW⟩ : ∃ W, W = w.alloc (.cells (msgCells m a1 c1 a2 c2).toArray 29) := ⟨_, rfl⟩
  have mW : Moved (fun _ => False) w W := by rw [hW]; exact (Moved.refl _ _).alloc _
  have RA : RowAt W A (msgCells m a1 c1 a2 c2) := by rw [hW, hA]; exact row_new _ _ _
  have hRW := hR W (hI1.keep mW fun _ _ => id) (hI2.keep mW fun _ _ => id)
  obtain ⟨CL, hCL⟩ : ∃ CL : World → Prop, CL = fun v => Moved (fun _ => False) W v := ⟨_, rfl⟩
  have un : ∀ v, CL v → Moved (fun _ => False) W v := fun v h => by rw [hCL] at h; exact h
  have re : ∀ v v', CL v → Moved (fun _ => False) v v' → CL v' := fun v v' h h' => by rw [hCL] at h ⊢; exact h.trans h' fun _ f => f.elim
  have drew : ∀ v, CL v → CL v.drew := fun v h => by rw [hCL] at h ⊢; exact h.drew
  have base : CL W := by rw [hCL]; exact Moved.refl _ _
  have ne : Nonempty (SX CL) := ⟨⟨W, base⟩⟩
  have kc : ∀ (p : SX CL) (i : Nat) (v : Value), (msgCells m a1 c1 a2 c2)[i]? = some v → p.w.cell? ⟨A, i, none⟩ = some v := fun p i v hv => by
    obtain ⟨hi, _⟩ := List.getElem?_eq_some_iff.1 hv
    have := (RA.keep (un _ p.ok) id).cell i hi
    rw [List.getD_eq_getElem?_getD, hv] at this
    exact this
  have k0 : ∀ p : SX CL, p.w.cell? ⟨A, 0, none⟩ = some (.int .u8 7) := fun p => by have := kc p 0 _ rfl; rw [hk] at this; exact this
  have k9 : ∀ p : SX CL, p.w.cell? ⟨A, 9, none⟩ = some (.int .i64 m.item.src) := fun p => kc p 9 _ rfl
  have k10 : ∀ p : SX CL, p.w.cell? ⟨A, 10, none⟩ = some (.int .i64 m.item.seq) := fun p => kc p 10 _ rfl
  have k17 : ∀ p : SX CL, p.w.cell? ⟨A, 17, none⟩ = some (.int .i64 m.epoch) := fun p => kc p 17 _ rfl
  have k18 : ∀ p : SX CL, p.w.cell? ⟨A, 18, none⟩ = some (.int .i64 m.nodes) := fun p => kc p 18 _ rfl
  have k19 : ∀ p : SX CL, p.w.cell? ⟨A, 19, none⟩ = some (.slice a1 m.owner.length c1) := fun p => kc p 19 _ rfl
  have k1 : ∀ p : SX CL, p.w.cell? ⟨A, 1, none⟩ = some (.int .i64 m.move) := fun p => kc p 1 _ rfl
  have k2 : ∀ p : SX CL, p.w.cell? ⟨A, 2, none⟩ = some (.int .i64 m.part) := fun p => kc p 2 _ rfl
  have k4 : ∀ p : SX CL, p.w.cell? ⟨A, 4, none⟩ = some (.int .i64 m.n) := fun p => kc p 4 _ rfl
  have QJ : Hid (∀ v, (∃ p : SX CL, v = p.w) → v.rangeAt A 9 (itemCells m.item)) := hide (by rintro v ⟨⟨v, h⟩, rfl⟩; exact range8 (RA.keep (un _ h) id))
  have RG := hide RA.range
  have bel : ∀ v v', CL v → Below v.heap.size v v' → CL v' := fun v v' h hb => re v v' h (Moved.of_below (F := fun _ => False) hb)
  have c26 := hide (fun (n : Int) (hn : In n) (p : SX CL) => ((rnum_any n (in_le hn).1 (by have := in_le hn; omega) p.w).mono fun e w'' ⟨he, hb⟩ => ⟨he, ⟨w'', bel _ _ p.ok hb⟩, rfl⟩ : Calls Tryd.prog 26 #[.int .i64 n] p.w fun e w'' => e = .returned (.string (nB n)) ∧ ∃ q : SX CL, w'' = q.w))
  have c27 := hide (fun (p : SX CL) => ((reflist_any a1 m.owner c1 p.w (hI1.keep (mW.trans (un _ p.ok) fun _ f => f.elim) fun _ _ => id) (by have := hr.ok.owner.1; omega) hr.ok.owner.2).mono fun e w'' ⟨he, hb⟩ => ⟨he, ⟨w'', bel _ _ p.ok hb⟩, rfl⟩ : Calls Tryd.prog 27 #[.slice a1 m.owner.length c1] p.w fun e w'' => e = .returned (.string (lB m.owner)) ∧ ∃ q : SX CL, w'' = q.w))
  have c28 := hide (fun (p : SX CL) => ((refitem_any m.item hr.ok.item p.w).mono fun e w'' ⟨he, hb⟩ => ⟨he, ⟨w'', bel _ _ p.ok hb⟩, rfl⟩ : Calls Tryd.prog 28 #[.agg (itemCells m.item).toArray] p.w fun e w'' => e = .returned (.string (iB m.item)) ∧ ∃ q : SX CL, w'' = q.w))
  have z28 := iB_size hr.ok.item
  have i9 := hr.ok.item.src
  have i10 := hr.ok.item.seq
  have i17 := hr.ok.epoch
  have i18 := hr.ok.nodes
  have z9 := nB_size i9
  have z10 := nB_size i10
  have z17 := nB_size i17
  have z18 := nB_size i18
  have z19 := lB_size hr.ok.owner.2 (by have := hr.ok.owner.1; omega)
  have z19b := hr.ok.owner.1
  have i1 := hr.ok.move
  have i2 := hr.ok.part
  have z1 := nB_size i1
  have z2 := nB_size i2
  have i4 := hr.ok.n
  have z4 := nB_size i4
  have BE := hide (bytes_7 hr hk)
  obtain ⟨ks, hks⟩ : ∃ k : ByteArray, k = (⟨#[m.kind]⟩ : ByteArray) := ⟨_, rfl⟩
  have zk : ks.size = 1 := by rw [hks]; rfl
  rw [← hks] at BE
  have CV := hide (fun (v : World) => (by rw [hks]; exact Rf.conv_one v.heap.size m.kind _ (by rw [hk]; simp) : Sem.run Tryd.prog (convert 48 9 (.slice (some ⟨v.heap.size, 0, none⟩) 1 1)) (v.alloc (.cells #[.int .u8 7] 5)) = .ok (.string ks) (v.alloc (.cells #[.int .u8 7] 5))))
  have al : ∀ v, CL v → CL (v.alloc (.cells #[.int .u8 7] 5)) := fun v h => re _ _ h ((Moved.refl _ _).alloc _)
  have HW := hide hW
  have HA := hide hA
  have fin : ∀ v, CL v → Moved (fun _ => False) w v := fun v h => mW.trans (un v h) fun _ f => f.elim
  have BS := hide base
  have UN := hide un
  have RE := hide re
  have HR := hide hRW
  clear hCL un re bel kc hW hA hRW RA hI1 hI2 hR hr hks hk mW base
  go_enter Tryd.func9, Tryd.ntmps9
  go_upto_region 1 with fail
  rw [← unhide HA]
  try change Code.wp _ _ _ _ (w.alloc (.cells (msgCells m a1 c1 a2 c2).toArray 29))
  rw [← unhide HW]
  go_step
  refine wpList_load_mid rfl 29 (.tmp 1) rfl A 0 rfl (msgCells m a1 c1 a2 c2) _ (unhide RG) Tryd.underlying29 rfl (by kernel_rfl) ?_
  go_wp2_with fail
  refine (unhide HR).mono ?_
  rintro e w1 ⟨hm, rfl⟩
  have OK1 : CL w1 := unhide RE _ _ (unhide BS) hm
  clear hm HR
  have cv := unhide CV w1
  have h0 := k0 ⟨w1, OK1⟩
  try dsimp only at h0
  go_upto_region 5 with fail
  have OK2 := al _ OK1
  clear cv h0 OK1
  generalize w1.alloc (.cells #[.int .u8 7] 5) = w2 at *
  have h0 := k0 ⟨w2, OK2⟩
  try dsimp only at h0
  have s1a : ¬ (9223372036854775807 < ks.size + (nB m.move).size) := by omega
  have s1b : ¬ (9223372036854775807 < ks.size + (nB m.move).size + (nB m.part).size) := by omega
  go_upto_region 6 with fail
  refine wp_region_sx (St := CL) (by kernel_rfl) (by kernel_rfl) (drew _ OK2) ?_
  repeat (go_big_quiet_step (first | (go_at_call 26; exact unhide c26 _ (by assumption) _)))
  refine wpQuiet_nil ?_
  first | (rintro w3 ⟨p0, e0⟩; have OK3 := p0.ok; rw [← e0] at OK3; clear e0) | rintro ⟨w3, OK3⟩
  try dsimp only
  clear OK2
  obtain ⟨s1, hs1⟩ : ∃ s, s = ks ++ nB m.move ++ nB m.part := ⟨_, rfl⟩
  have zs1 : s1.size ≤ 30 := by rw [hs1]; simp only [ByteArray.size_append]; omega
  rw [← hs1] at BE ⊢
  clear s1a s1b hs1 h0 k1 k2 i1 i2 z1 z2
  have s2 : ¬ (9223372036854775807 < (nB m.item.src).size + (nB m.item.seq).size) := by omega
  go_upto_region 7 with fail
  refine wp_region_sx (St := CL) (by kernel_rfl) (by kernel_rfl) (drew _ OK3) ?_
  repeat (go_big_quiet_step (first | (go_at_call 26; exact unhide c26 _ (by assumption) _)))
  refine wpQuiet_nil ?_
  first | (rintro w4 ⟨p0, e0⟩; have OK4 := p0.ok; rw [← e0] at OK4; clear e0) | rintro ⟨w4, OK4⟩
  try dsimp only
  clear OK3
  obtain ⟨wh, hwh⟩ : ∃ s, s = nB m.item.src ++ nB m.item.seq := ⟨_, rfl⟩
  rw [← hwh]
  clear s2 hwh k9 k10
  have s3 : ¬ (9223372036854775807 < (nB m.epoch).size + (nB m.nodes).size) := by omega
  have s4 : ¬ (9223372036854775807 < (nB m.epoch).size + (nB m.nodes).size + (lB m.owner).size) := by omega
  go_upto_region 8 with fail
  refine wp_region_sx (St := CL) (by kernel_rfl) (by kernel_rfl) (drew _ OK4) ?_
  repeat (go_big_quiet_step (first | (go_at_call 26; exact unhide c26 _ (by assumption) _) | (go_at_call 27; exact unhide c27 _)))
  refine wpQuiet_nil ?_
  first | (rintro w5 ⟨p0, e0⟩; have OK5 := p0.ok; rw [← e0] at OK5; clear e0) | rintro ⟨w5, OK5⟩
  try dsimp only
  clear OK4
  obtain ⟨tb, htb⟩ : ∃ s, s = nB m.epoch ++ nB m.nodes ++ lB m.owner := ⟨_, rfl⟩
  have ztb : tb.size ≤ 1000 := by rw [htb]; simp only [ByteArray.size_append]; omega
  rw [← htb]
  clear s3 s4 htb k17 k18 k19 c27
  have h0 := k0 ⟨w5, OK5⟩
  try dsimp only at h0
  have q0 : ¬ (9223372036854775807 < s1.size + (nB m.n).size) := by omega
  have q1 : ¬ (9223372036854775807 < s1.size + (nB m.n).size + (iB m.item).size) := by omega
  go_upto_region 23 with fail
  refine wp_region_sx (St := CL) (by kernel_rfl) (by kernel_rfl) (drew _ OK5) ?_
  go_big_quiet_step (fail)
  go_big_quiet_step (fail)
  go_big_quiet_step (fail)
  go_big_quiet_step (first | (go_at_call 26; exact unhide c26 _ (by assumption) _))
  go_big_quiet_step (fail)
  go_big_quiet_step (fail)
  refine wpQuiet_load_onx rfl 24 (.tmp 122) rfl A 9 rfl (itemCells m.item) _ (unhide QJ) Tryd.underlying24 rfl (by kernel_rfl) ?_
  go_simp
  repeat (go_big_quiet_step (first | (go_at_call 28; exact unhide c28 _)))
  refine wpQuiet_nil ?_
  first | (rintro w6 ⟨p0, e0⟩; have OK6 := p0.ok; rw [← e0] at OK6; clear e0) | rintro ⟨w6, OK6⟩
  try dsimp only
  clear OK5
  go_wp2_with fail
  go_ret2
  exact ⟨fin _ OK6, by rw [unhide BE]; rfl⟩
set_option maxHeartbeats 8000000 in
set_option maxRecDepth 100000 in
theorem refbytes_9 (m : MsgV) (a1 a2 : Option Addr) (c1 c2 : Nat) (w : World) (hI1 : Ints w a1 m.owner) (hI2 : Ints w a2 m.set) (hr : Right m) (hk : m.kind.toNat = 9)
    (hR : ∀ v : World, Ints v a1 m.owner → Ints v a2 m.set → Calls Tryd.prog 25 #[.agg (msgCells m a1 c1 a2 c2).toArray] v fun e v' => Moved (fun _ => False) v v' ∧ e = .returned (.int .i64 0)) :
    Calls Tryd.prog 9 #[.agg (msgCells m a1 c1 a2 c2).toArray] w fun e w' => Moved (fun _ => False) w w' ∧ e = .returned (.tuple #[.string ⟨(msgBytes m).toArray⟩, .int .i64 0]) := by
  obtain ⟨A, hA⟩ : ∃ A, A = w.heap.size := ⟨_, rfl⟩
  obtain ⟨W, hW⟩ : ∃ W, W = w.alloc (.cells (msgCells m a1 c1 a2 c2).toArray 29) := ⟨_, rfl⟩
  have mW : Moved (fun _ => False) w W := by rw [hW]; exact (Moved.refl _ _).alloc _
  have RA : RowAt W A (msgCells m a1 c1 a2 c2) := by rw [hW, hA]; exact row_new _ _ _
  have hRW := hR W (hI1.keep mW fun _ _ => id) (hI2.keep mW fun _ _ => id)
  obtain ⟨CL, hCL⟩ : ∃ CL : World → Prop, CL = fun v => Moved (fun _ => False) W v := ⟨_, rfl⟩
  have un : ∀ v, CL v → Moved (fun _ => False) W v := fun v h => by rw [hCL] at h; exact h
  have re : ∀ v v', CL v → Moved (fun _ => False) v v' → CL v' := fun v v' h h' => by rw [hCL] at h ⊢; exact h.trans h' fun _ f => f.elim
  have drew : ∀ v, CL v → CL v.drew := fun v h => by rw [hCL] at h ⊢; exact h.drew
  have base : CL W := by rw [hCL]; exact Moved.refl _ _
  have ne : Nonempty (SX CL) := ⟨⟨W, base⟩⟩
  have kc : ∀ (p : SX CL) (i : Nat) (v : Value), (msgCells m a1 c1 a2 c2)[i]? = some v → p.w.cell? ⟨A, i, none⟩ = some v := fun p i v hv => by
    obtain ⟨hi, _⟩ := List.getElem?_eq_some_iff.1 hv
    have := (RA.keep (un _ p.ok) id).cell i hi
    rw [List.getD_eq_getElem?_getD, hv] at this
    exact this
  have k0 : ∀ p : SX CL, p.w.cell? ⟨A, 0, none⟩ = some (.int .u8 9) := fun p => by have := kc p 0 _ rfl; rw [hk] at this; exact this
  have k9 : ∀ p : SX CL, p.w.cell? ⟨A, 9, none⟩ = some (.int .i64 m.item.src) := fun p => kc p 9 _ rfl
  have k10 : ∀ p : SX CL, p.w.cell? ⟨A, 10, none⟩ = some (.int .i64 m.item.seq) := fun p => kc p 10 _ rfl
  have k17 : ∀ p : SX CL, p.w.cell? ⟨A, 17, none⟩ = some (.int .i64 m.epoch) := fun p => kc p 17 _ rfl
  have k18 : ∀ p : SX CL, p.w.cell? ⟨A, 18, none⟩ = some (.int .i64 m.nodes) := fun p => kc p 18 _ rfl
  have k19 : ∀ p : SX CL, p.w.cell? ⟨A, 19, none⟩ = some (.slice a1 m.owner.length c1) := fun p => kc p 19 _ rfl
  have k1 : ∀ p : SX CL, p.w.cell? ⟨A, 1, none⟩ = some (.int .i64 m.move) := fun p => kc p 1 _ rfl
  have k2 : ∀ p : SX CL, p.w.cell? ⟨A, 2, none⟩ = some (.int .i64 m.part) := fun p => kc p 2 _ rfl
  have k4 : ∀ p : SX CL, p.w.cell? ⟨A, 4, none⟩ = some (.int .i64 m.n) := fun p => kc p 4 _ rfl
  have k8 : ∀ p : SX CL, p.w.cell? ⟨A, 8, none⟩ = some (.int .i64 m.at_) := fun p => kc p 8 _ rfl
  have k7 : ∀ p : SX CL, p.w.cell? ⟨A, 7, none⟩ = some (.int .u64 (m.digest : Int)) := fun p => kc p 7 _ rfl
  have RG := hide RA.range
  have bel : ∀ v v', CL v → Below v.heap.size v v' → CL v' := fun v v' h hb => re v v' h (Moved.of_below (F := fun _ => False) hb)
  have c26 := hide (fun (n : Int) (hn : In n) (p : SX CL) => ((rnum_any n (in_le hn).1 (by have := in_le hn; omega) p.w).mono fun e w'' ⟨he, hb⟩ => ⟨he, ⟨w'', bel _ _ p.ok hb⟩, rfl⟩ : Calls Tryd.prog 26 #[.int .i64 n] p.w fun e w'' => e = .returned (.string (nB n)) ∧ ∃ q : SX CL, w'' = q.w))
  have c27 := hide (fun (p : SX CL) => ((reflist_any a1 m.owner c1 p.w (hI1.keep (mW.trans (un _ p.ok) fun _ f => f.elim) fun _ _ => id) (by have := hr.ok.owner.1; omega) hr.ok.owner.2).mono fun e w'' ⟨he, hb⟩ => ⟨he, ⟨w'', bel _ _ p.ok hb⟩, rfl⟩ : Calls Tryd.prog 27 #[.slice a1 m.owner.length c1] p.w fun e w'' => e = .returned (.string (lB m.owner)) ∧ ∃ q : SX CL, w'' = q.w))
  have c30 := hide (fun (n : Nat) (hn : n < 2 ^ 64) (p : SX CL) => ((Rf.refnum_any n p.w hn).mono fun e w'' ⟨he, hb⟩ => ⟨he, ⟨w'', bel _ _ p.ok hb⟩, rfl⟩ : Calls Tryd.prog 30 #[.int .u64 (n : Int)] p.w fun e w'' => e = .returned (.string (uB n)) ∧ ∃ q : SX CL, w'' = q.w))
  have c31 := hide (fun (n : Int) (hn : I64 n) (p : SX CL) => ((Rf.zig_any n hn p.w).mono fun e w'' ⟨he, hw⟩ => ⟨he, p, hw⟩ : Calls Tryd.prog 31 #[.int .i64 n] p.w fun e w'' => e = .returned (.int .u64 ((zig n : Nat) : Int)) ∧ ∃ q : SX CL, w'' = q.w))
  have j7 := hr.ok.digest
  have j8 := hr.ok.at_
  have j8z := zl j8
  have z30 := uB_size j7
  have z31 := uB_size j8z
  have i9 := hr.ok.item.src
  have i10 := hr.ok.item.seq
  have i17 := hr.ok.epoch
  have i18 := hr.ok.nodes
  have z9 := nB_size i9
  have z10 := nB_size i10
  have z17 := nB_size i17
  have z18 := nB_size i18
  have z19 := lB_size hr.ok.owner.2 (by have := hr.ok.owner.1; omega)
  have z19b := hr.ok.owner.1
  have i1 := hr.ok.move
  have i2 := hr.ok.part
  have z1 := nB_size i1
  have z2 := nB_size i2
  have i4 := hr.ok.n
  have z4 := nB_size i4
  have BE := hide (bytes_9 hr hk)
  obtain ⟨ks, hks⟩ : ∃ k : ByteArray, k = (⟨#[m.kind]⟩ : ByteArray) := ⟨_, rfl⟩
  have zk : ks.size = 1 := by rw [hks]; rfl
  rw [← hks] at BE
  have CV := hide (fun (v : World) => (by rw [hks]; exact Rf.conv_one v.heap.size m.kind _ (by rw [hk]; simp) : Sem.run Tryd.prog (convert 48 9 (.slice (some ⟨v.heap.size, 0, none⟩) 1 1)) (v.alloc (.cells #[.int .u8 9] 5)) = .ok (.string ks) (v.alloc (.cells #[.int .u8 9] 5))))
  have al : ∀ v, CL v → CL (v.alloc (.cells #[.int .u8 9] 5)) := fun v h => re _ _ h ((Moved.refl _ _).alloc _)
  have HW := hide hW
  have HA := hide hA
  have fin : ∀ v, CL v → Moved (fun _ => False) w v := fun v h => mW.trans (un v h) fun _ f => f.elim
  have BS := hide base
  have UN := hide un
  have RE := hide re
  have HR := hide hRW
  clear hCL un re bel kc hW hA hRW RA hI1 hI2 hR hr hks hk mW base
  go_enter Tryd.func9, Tryd.ntmps9
  go_upto_region 1 with fail
  rw [← unhide HA]
  try change Code.wp _ _ _ _ (w.alloc (.cells (msgCells m a1 c1 a2 c2).toArray 29))
  rw [← unhide HW]
  go_step
  refine wpList_load_mid rfl 29 (.tmp 1) rfl A 0 rfl (msgCells m a1 c1 a2 c2) _ (unhide RG) Tryd.underlying29 rfl (by kernel_rfl) ?_
  go_wp2_with fail
  refine (unhide HR).mono ?_
  rintro e w1 ⟨hm, rfl⟩
  have OK1 : CL w1 := unhide RE _ _ (unhide BS) hm
  clear hm HR
  have cv := unhide CV w1
  have h0 := k0 ⟨w1, OK1⟩
  try dsimp only at h0
  go_upto_region 5 with fail
  have OK2 := al _ OK1
  clear cv h0 OK1
  generalize w1.alloc (.cells #[.int .u8 9] 5) = w2 at *
  have h0 := k0 ⟨w2, OK2⟩
  try dsimp only at h0
  have s1a : ¬ (9223372036854775807 < ks.size + (nB m.move).size) := by omega
  have s1b : ¬ (9223372036854775807 < ks.size + (nB m.move).size + (nB m.part).size) := by omega
  go_upto_region 6 with fail
  refine wp_region_sx (St := CL) (by kernel_rfl) (by kernel_rfl) (drew _ OK2) ?_
  repeat (go_big_quiet_step (first | (go_at_call 26; exact unhide c26 _ (by assumption) _)))
  refine wpQuiet_nil ?_
  first | (rintro w3 ⟨p0, e0⟩; have OK3 := p0.ok; rw [← e0] at OK3; clear e0) | rintro ⟨w3, OK3⟩
  try dsimp only
  clear OK2
  obtain ⟨s1, hs1⟩ : ∃ s, s = ks ++ nB m.move ++ nB m.part := ⟨_, rfl⟩
  have zs1 : s1.size ≤ 30 := by rw [hs1]; simp only [ByteArray.size_append]; omega
  rw [← hs1] at BE ⊢
  clear s1a s1b hs1 h0 k1 k2 i1 i2 z1 z2
  have s2 : ¬ (9223372036854775807 < (nB m.item.src).size + (nB m.item.seq).size) := by omega
  go_upto_region 7 with fail
  refine wp_region_sx (St := CL) (by kernel_rfl) (by kernel_rfl) (drew _ OK3) ?_
  repeat (go_big_quiet_step (first | (go_at_call 26; exact unhide c26 _ (by assumption) _)))
  refine wpQuiet_nil ?_
  first | (rintro w4 ⟨p0, e0⟩; have OK4 := p0.ok; rw [← e0] at OK4; clear e0) | rintro ⟨w4, OK4⟩
  try dsimp only
  clear OK3
  obtain ⟨wh, hwh⟩ : ∃ s, s = nB m.item.src ++ nB m.item.seq := ⟨_, rfl⟩
  rw [← hwh]
  clear s2 hwh k9 k10
  have s3 : ¬ (9223372036854775807 < (nB m.epoch).size + (nB m.nodes).size) := by omega
  have s4 : ¬ (9223372036854775807 < (nB m.epoch).size + (nB m.nodes).size + (lB m.owner).size) := by omega
  go_upto_region 8 with fail
  refine wp_region_sx (St := CL) (by kernel_rfl) (by kernel_rfl) (drew _ OK4) ?_
  repeat (go_big_quiet_step (first | (go_at_call 26; exact unhide c26 _ (by assumption) _) | (go_at_call 27; exact unhide c27 _)))
  refine wpQuiet_nil ?_
  first | (rintro w5 ⟨p0, e0⟩; have OK5 := p0.ok; rw [← e0] at OK5; clear e0) | rintro ⟨w5, OK5⟩
  try dsimp only
  clear OK4
  obtain ⟨tb, htb⟩ : ∃ s, s = nB m.epoch ++ nB m.nodes ++ lB m.owner := ⟨_, rfl⟩
  have ztb : tb.size ≤ 1000 := by rw [htb]; simp only [ByteArray.size_append]; omega
  rw [← htb]
  clear s3 s4 htb k17 k18 k19 c27
  have h0 := k0 ⟨w5, OK5⟩
  try dsimp only at h0
  have q0 : ¬ (9223372036854775807 < s1.size + (nB m.n).size) := by omega
  have q1 : ¬ (9223372036854775807 < s1.size + (nB m.n).size + (uB (zig m.at_)).size) := by omega
  have q2 : ¬ (9223372036854775807 < s1.size + (nB m.n).size + (uB (zig m.at_)).size + (uB m.digest).size) := by omega
  go_upto_region 27 with fail
  refine wp_region_sx (St := CL) (by kernel_rfl) (by kernel_rfl) (drew _ OK5) ?_
  repeat (go_big_quiet_step (first | (go_at_call 26; exact unhide c26 _ (by assumption) _) | (go_at_call 31; exact unhide c31 _ (by assumption) _) | (go_at_call 30; exact unhide c30 _ (by assumption) _)))
  refine wpQuiet_nil ?_
  first | (rintro w6 ⟨p0, e0⟩; have OK6 := p0.ok; rw [← e0] at OK6; clear e0) | rintro ⟨w6, OK6⟩
  try dsimp only
  clear OK5
  go_wp2_with fail
  go_ret2
  exact ⟨fin _ OK6, by rw [unhide BE]; rfl⟩
end Go.Proofs.YtkbmbcmcnpeabaaDoor.Rw

namespace Go.Proofs.YtkbmbcmcnpeabaaDoor.Rw
open Pk Go.RowKit

set_option maxHeartbeats 8000000 in
set_option maxRecDepth 100000 in
theorem refbytes_11 (m : MsgV) (a1 a2 : Option Addr) (c1 c2 : Nat) (w : World) (hI1 : Ints w a1 m.owner) (hI2 : Ints w a2 m.set) (hr : Right m) (hk : m.kind.toNat = 11)
    (hR : ∀ v : World, Ints v a1 m.owner → Ints v a2 m.set → Calls Tryd.prog 25 #[.agg (msgCells m a1 c1 a2 c2).toArray] v fun e v' => Moved (fun _ => False) v v' ∧ e = .returned (.int .i64 0)) :
    Calls Tryd.prog 9 #[.agg (msgCells m a1 c1 a2 c2).toArray] w fun e w' => Moved (fun _ => False) w w' ∧ e = .returned (.tuple #[.string ⟨(msgBytes m).toArray⟩, .int .i64 0]) := by
  obtain ⟨A, hA⟩ : ∃ A, A = w.heap.size := ⟨_, rfl⟩
  obtain ⟨W, hW⟩ : ∃ W, W = w.alloc (.cells (msgCells m a1 c1 a2 c2).toArray 29) := ⟨_, rfl⟩
  have mW : Moved (fun _ => False) w W := by rw [hW]; exact (Moved.refl _ _).alloc _
  have RA : RowAt W A (msgCells m a1 c1 a2 c2) := by rw [hW, hA]; exact row_new _ _ _
  have hRW := hR W (hI1.keep mW fun _ _ => id) (hI2.keep mW fun _ _ => id)
  obtain ⟨CL, hCL⟩ : ∃ CL : World → Prop, CL = fun v => Moved (fun _ => False) W v := ⟨_, rfl⟩
  have un : ∀ v, CL v → Moved (fun _ => False) W v := fun v h => by rw [hCL] at h; exact h
  have re : ∀ v v', CL v → Moved (fun _ => False) v v' → CL v' := fun v v' h h' => by rw [hCL] at h ⊢; exact h.trans h' fun _ f => f.elim
  have drew : ∀ v, CL v → CL v.drew := fun v h => by rw [hCL] at h ⊢; exact h.drew
  have base : CL W := by rw [hCL]; exact Moved.refl _ _
  have ne : Nonempty (SX CL) := ⟨⟨W, base⟩⟩
  have kc : ∀ (p : SX CL) (i : Nat) (v : Value), (msgCells m a1 c1 a2 c2)[i]? = some v → p.w.cell? ⟨A, i, none⟩ = some v := fun p i v hv => by
    obtain ⟨hi, _⟩ := List.getElem?_eq_some_iff.1 hv
    have := (RA.keep (un _ p.ok) id).cell i hi
    rw [List.getD_eq_getElem?_getD, hv] at this
    exact this
  have k0 : ∀ p : SX CL, p.w.cell? ⟨A, 0, none⟩ = some (.int .u8 11) := fun p => by have := kc p 0 _ rfl; rw [hk] at this; exact this
  have k9 : ∀ p : SX CL, p.w.cell? ⟨A, 9, none⟩ = some (.int .i64 m.item.src) := fun p => kc p 9 _ rfl
  have k10 : ∀ p : SX CL, p.w.cell? ⟨A, 10, none⟩ = some (.int .i64 m.item.seq) := fun p => kc p 10 _ rfl
  have k17 : ∀ p : SX CL, p.w.cell? ⟨A, 17, none⟩ = some (.int .i64 m.epoch) := fun p => kc p 17 _ rfl
  have k18 : ∀ p : SX CL, p.w.cell? ⟨A, 18, none⟩ = some (.int .i64 m.nodes) := fun p => kc p 18 _ rfl
  have k19 : ∀ p : SX CL, p.w.cell? ⟨A, 19, none⟩ = some (.slice a1 m.owner.length c1) := fun p => kc p 19 _ rfl
  have k1 : ∀ p : SX CL, p.w.cell? ⟨A, 1, none⟩ = some (.int .i64 m.move) := fun p => kc p 1 _ rfl
  have k2 : ∀ p : SX CL, p.w.cell? ⟨A, 2, none⟩ = some (.int .i64 m.part) := fun p => kc p 2 _ rfl
  have RG := hide RA.range
  have bel : ∀ v v', CL v → Below v.heap.size v v' → CL v' := fun v v' h hb => re v v' h (Moved.of_below (F := fun _ => False) hb)
  have c26 := hide (fun (n : Int) (hn : In n) (p : SX CL) => ((rnum_any n (in_le hn).1 (by have := in_le hn; omega) p.w).mono fun e w'' ⟨he, hb⟩ => ⟨he, ⟨w'', bel _ _ p.ok hb⟩, rfl⟩ : Calls Tryd.prog 26 #[.int .i64 n] p.w fun e w'' => e = .returned (.string (nB n)) ∧ ∃ q : SX CL, w'' = q.w))
  have c27 := hide (fun (p : SX CL) => ((reflist_any a1 m.owner c1 p.w (hI1.keep (mW.trans (un _ p.ok) fun _ f => f.elim) fun _ _ => id) (by have := hr.ok.owner.1; omega) hr.ok.owner.2).mono fun e w'' ⟨he, hb⟩ => ⟨he, ⟨w'', bel _ _ p.ok hb⟩, rfl⟩ : Calls Tryd.prog 27 #[.slice a1 m.owner.length c1] p.w fun e w'' => e = .returned (.string (lB m.owner)) ∧ ∃ q : SX CL, w'' = q.w))
  have i9 := hr.ok.item.src
  have i10 := hr.ok.item.seq
  have i17 := hr.ok.epoch
  have i18 := hr.ok.nodes
  have z9 := nB_size i9
  have z10 := nB_size i10
  have z17 := nB_size i17
  have z18 := nB_size i18
  have z19 := lB_size hr.ok.owner.2 (by have := hr.ok.owner.1; omega)
  have z19b := hr.ok.owner.1
  have i1 := hr.ok.move
  have i2 := hr.ok.part
  have z1 := nB_size i1
  have z2 := nB_size i2
  have BE := hide (bytes_11 hr hk)
  obtain ⟨ks, hks⟩ : ∃ k : ByteArray, k = (⟨#[m.kind]⟩ : ByteArray) := ⟨_, rfl⟩
  have zk : ks.size = 1 := by rw [hks]; rfl
  rw [← hks] at BE
  have CV := hide (fun (v : World) => (by rw [hks]; exact Rf.conv_one v.heap.size m.kind _ (by rw [hk]; simp) : Sem.run Tryd.prog (convert 48 9 (.slice (some ⟨v.heap.size, 0, none⟩) 1 1)) (v.alloc (.cells #[.int .u8 11] 5)) = .ok (.string ks) (v.alloc (.cells #[.int .u8 11] 5))))
  have al : ∀ v, CL v → CL (v.alloc (.cells #[.int .u8 11] 5)) := fun v h => re _ _ h ((Moved.refl _ _).alloc _)
  have HW := hide hW
  have HA := hide hA
  have fin : ∀ v, CL v → Moved (fun _ => False) w v := fun v h => mW.trans (un v h) fun _ f => f.elim
  have BS := hide base
  have UN := hide un
  have RE := hide re
  have HR := hide hRW
  clear hCL un re bel kc hW hA hRW RA hI1 hI2 hR hr hks hk mW base
  go_enter Tryd.func9, Tryd.ntmps9
  go_upto_region 1 with fail
  rw [← unhide HA]
  try change Code.wp _ _ _ _ (w.alloc (.cells (msgCells m a1 c1 a2 c2).toArray 29))
  rw [← unhide HW]
  go_step
  refine wpList_load_mid rfl 29 (.tmp 1) rfl A 0 rfl (msgCells m a1 c1 a2 c2) _ (unhide RG) Tryd.underlying29 rfl (by kernel_rfl) ?_
  go_wp2_with fail
  refine (unhide HR).mono ?_
  rintro e w1 ⟨hm, rfl⟩
  have OK1 : CL w1 := unhide RE _ _ (unhide BS) hm
  clear hm HR
  have cv := unhide CV w1
  have h0 := k0 ⟨w1, OK1⟩
  try dsimp only at h0
  go_upto_region 5 with fail
  have OK2 := al _ OK1
  clear cv h0 OK1
  generalize w1.alloc (.cells #[.int .u8 11] 5) = w2 at *
  have h0 := k0 ⟨w2, OK2⟩
  try dsimp only at h0
  have s1a : ¬ (9223372036854775807 < ks.size + (nB m.move).size) := by omega
  have s1b : ¬ (9223372036854775807 < ks.size + (nB m.move).size + (nB m.part).size) := by omega
  go_upto_region 6 with fail
  refine wp_region_sx (St := CL) (by kernel_rfl) (by kernel_rfl) (drew _ OK2) ?_
  repeat (go_big_quiet_step (first | (go_at_call 26; exact unhide c26 _ (by assumption) _)))
  refine wpQuiet_nil ?_
  first | (rintro w3 ⟨p0, e0⟩; have OK3 := p0.ok; rw [← e0] at OK3; clear e0) | rintro ⟨w3, OK3⟩
  try dsimp only
  clear OK2
  obtain ⟨s1, hs1⟩ : ∃ s, s = ks ++ nB m.move ++ nB m.part := ⟨_, rfl⟩
  have zs1 : s1.size ≤ 30 := by rw [hs1]; simp only [ByteArray.size_append]; omega
  rw [← hs1] at BE ⊢
  clear s1a s1b hs1 h0 k1 k2 i1 i2 z1 z2
  have s2 : ¬ (9223372036854775807 < (nB m.item.src).size + (nB m.item.seq).size) := by omega
  go_upto_region 7 with fail
  refine wp_region_sx (St := CL) (by kernel_rfl) (by kernel_rfl) (drew _ OK3) ?_
  repeat (go_big_quiet_step (first | (go_at_call 26; exact unhide c26 _ (by assumption) _)))
  refine wpQuiet_nil ?_
  first | (rintro w4 ⟨p0, e0⟩; have OK4 := p0.ok; rw [← e0] at OK4; clear e0) | rintro ⟨w4, OK4⟩
  try dsimp only
  clear OK3
  obtain ⟨wh, hwh⟩ : ∃ s, s = nB m.item.src ++ nB m.item.seq := ⟨_, rfl⟩
  rw [← hwh]
  clear s2 hwh k9 k10
  have s3 : ¬ (9223372036854775807 < (nB m.epoch).size + (nB m.nodes).size) := by omega
  have s4 : ¬ (9223372036854775807 < (nB m.epoch).size + (nB m.nodes).size + (lB m.owner).size) := by omega
  go_upto_region 8 with fail
  refine wp_region_sx (St := CL) (by kernel_rfl) (by kernel_rfl) (drew _ OK4) ?_
  repeat (go_big_quiet_step (first | (go_at_call 26; exact unhide c26 _ (by assumption) _) | (go_at_call 27; exact unhide c27 _)))
  refine wpQuiet_nil ?_
  first | (rintro w5 ⟨p0, e0⟩; have OK5 := p0.ok; rw [← e0] at OK5; clear e0) | rintro ⟨w5, OK5⟩
  try dsimp only
  clear OK4
  obtain ⟨tb, htb⟩ : ∃ s, s = nB m.epoch ++ nB m.nodes ++ lB m.owner := ⟨_, rfl⟩
  have ztb : tb.size ≤ 1000 := by rw [htb]; simp only [ByteArray.size_append]; omega
  rw [← htb] at BE ⊢
  clear s3 s4 htb k17 k18 k19 c27
  have h0 := k0 ⟨w5, OK5⟩
  try dsimp only at h0
  have q0 : ¬ (9223372036854775807 < s1.size + tb.size) := by omega
  go_wp2_with fail
  go_ret2
  exact ⟨fin _ OK5, by rw [unhide BE]; rfl⟩
set_option maxHeartbeats 8000000 in
set_option maxRecDepth 100000 in
theorem refbytes_12 (m : MsgV) (a1 a2 : Option Addr) (c1 c2 : Nat) (w : World) (hI1 : Ints w a1 m.owner) (hI2 : Ints w a2 m.set) (hr : Right m) (hk : m.kind.toNat = 12)
    (hR : ∀ v : World, Ints v a1 m.owner → Ints v a2 m.set → Calls Tryd.prog 25 #[.agg (msgCells m a1 c1 a2 c2).toArray] v fun e v' => Moved (fun _ => False) v v' ∧ e = .returned (.int .i64 0)) :
    Calls Tryd.prog 9 #[.agg (msgCells m a1 c1 a2 c2).toArray] w fun e w' => Moved (fun _ => False) w w' ∧ e = .returned (.tuple #[.string ⟨(msgBytes m).toArray⟩, .int .i64 0]) := by
  obtain ⟨A, hA⟩ : ∃ A, A = w.heap.size := ⟨_, rfl⟩
  obtain ⟨W, hW⟩ : ∃ W, W = w.alloc (.cells (msgCells m a1 c1 a2 c2).toArray 29) := ⟨_, rfl⟩
  have mW : Moved (fun _ => False) w W := by rw [hW]; exact (Moved.refl _ _).alloc _
  have RA : RowAt W A (msgCells m a1 c1 a2 c2) := by rw [hW, hA]; exact row_new _ _ _
  have hRW := hR W (hI1.keep mW fun _ _ => id) (hI2.keep mW fun _ _ => id)
  obtain ⟨CL, hCL⟩ : ∃ CL : World → Prop, CL = fun v => Moved (fun _ => False) W v := ⟨_, rfl⟩
  have un : ∀ v, CL v → Moved (fun _ => False) W v := fun v h => by rw [hCL] at h; exact h
  have re : ∀ v v', CL v → Moved (fun _ => False) v v' → CL v' := fun v v' h h' => by rw [hCL] at h ⊢; exact h.trans h' fun _ f => f.elim
  have drew : ∀ v, CL v → CL v.drew := fun v h => by rw [hCL] at h ⊢; exact h.drew
  have base : CL W := by rw [hCL]; exact Moved.refl _ _
  have ne : Nonempty (SX CL) := ⟨⟨W, base⟩⟩
  have kc : ∀ (p : SX CL) (i : Nat) (v : Value), (msgCells m a1 c1 a2 c2)[i]? = some v → p.w.cell? ⟨A, i, none⟩ = some v := fun p i v hv => by
    obtain ⟨hi, _⟩ := List.getElem?_eq_some_iff.1 hv
    have := (RA.keep (un _ p.ok) id).cell i hi
    rw [List.getD_eq_getElem?_getD, hv] at this
    exact this
  have k0 : ∀ p : SX CL, p.w.cell? ⟨A, 0, none⟩ = some (.int .u8 12) := fun p => by have := kc p 0 _ rfl; rw [hk] at this; exact this
  have k9 : ∀ p : SX CL, p.w.cell? ⟨A, 9, none⟩ = some (.int .i64 m.item.src) := fun p => kc p 9 _ rfl
  have k10 : ∀ p : SX CL, p.w.cell? ⟨A, 10, none⟩ = some (.int .i64 m.item.seq) := fun p => kc p 10 _ rfl
  have k17 : ∀ p : SX CL, p.w.cell? ⟨A, 17, none⟩ = some (.int .i64 m.epoch) := fun p => kc p 17 _ rfl
  have k18 : ∀ p : SX CL, p.w.cell? ⟨A, 18, none⟩ = some (.int .i64 m.nodes) := fun p => kc p 18 _ rfl
  have k19 : ∀ p : SX CL, p.w.cell? ⟨A, 19, none⟩ = some (.slice a1 m.owner.length c1) := fun p => kc p 19 _ rfl
  have k1 : ∀ p : SX CL, p.w.cell? ⟨A, 1, none⟩ = some (.int .i64 m.move) := fun p => kc p 1 _ rfl
  have k2 : ∀ p : SX CL, p.w.cell? ⟨A, 2, none⟩ = some (.int .i64 m.part) := fun p => kc p 2 _ rfl
  have RG := hide RA.range
  have bel : ∀ v v', CL v → Below v.heap.size v v' → CL v' := fun v v' h hb => re v v' h (Moved.of_below (F := fun _ => False) hb)
  have c26 := hide (fun (n : Int) (hn : In n) (p : SX CL) => ((rnum_any n (in_le hn).1 (by have := in_le hn; omega) p.w).mono fun e w'' ⟨he, hb⟩ => ⟨he, ⟨w'', bel _ _ p.ok hb⟩, rfl⟩ : Calls Tryd.prog 26 #[.int .i64 n] p.w fun e w'' => e = .returned (.string (nB n)) ∧ ∃ q : SX CL, w'' = q.w))
  have c27 := hide (fun (p : SX CL) => ((reflist_any a1 m.owner c1 p.w (hI1.keep (mW.trans (un _ p.ok) fun _ f => f.elim) fun _ _ => id) (by have := hr.ok.owner.1; omega) hr.ok.owner.2).mono fun e w'' ⟨he, hb⟩ => ⟨he, ⟨w'', bel _ _ p.ok hb⟩, rfl⟩ : Calls Tryd.prog 27 #[.slice a1 m.owner.length c1] p.w fun e w'' => e = .returned (.string (lB m.owner)) ∧ ∃ q : SX CL, w'' = q.w))
  have i9 := hr.ok.item.src
  have i10 := hr.ok.item.seq
  have i17 := hr.ok.epoch
  have i18 := hr.ok.nodes
  have z9 := nB_size i9
  have z10 := nB_size i10
  have z17 := nB_size i17
  have z18 := nB_size i18
  have z19 := lB_size hr.ok.owner.2 (by have := hr.ok.owner.1; omega)
  have z19b := hr.ok.owner.1
  have i1 := hr.ok.move
  have i2 := hr.ok.part
  have z1 := nB_size i1
  have z2 := nB_size i2
  have BE := hide (bytes_12 hr hk)
  obtain ⟨ks, hks⟩ : ∃ k : ByteArray, k = (⟨#[m.kind]⟩ : ByteArray) := ⟨_, rfl⟩
  have zk : ks.size = 1 := by rw [hks]; rfl
  rw [← hks] at BE
  have CV := hide (fun (v : World) => (by rw [hks]; exact Rf.conv_one v.heap.size m.kind _ (by rw [hk]; simp) : Sem.run Tryd.prog (convert 48 9 (.slice (some ⟨v.heap.size, 0, none⟩) 1 1)) (v.alloc (.cells #[.int .u8 12] 5)) = .ok (.string ks) (v.alloc (.cells #[.int .u8 12] 5))))
  have al : ∀ v, CL v → CL (v.alloc (.cells #[.int .u8 12] 5)) := fun v h => re _ _ h ((Moved.refl _ _).alloc _)
  have HW := hide hW
  have HA := hide hA
  have fin : ∀ v, CL v → Moved (fun _ => False) w v := fun v h => mW.trans (un v h) fun _ f => f.elim
  have BS := hide base
  have UN := hide un
  have RE := hide re
  have HR := hide hRW
  clear hCL un re bel kc hW hA hRW RA hI1 hI2 hR hr hks hk mW base
  go_enter Tryd.func9, Tryd.ntmps9
  go_upto_region 1 with fail
  rw [← unhide HA]
  try change Code.wp _ _ _ _ (w.alloc (.cells (msgCells m a1 c1 a2 c2).toArray 29))
  rw [← unhide HW]
  go_step
  refine wpList_load_mid rfl 29 (.tmp 1) rfl A 0 rfl (msgCells m a1 c1 a2 c2) _ (unhide RG) Tryd.underlying29 rfl (by kernel_rfl) ?_
  go_wp2_with fail
  refine (unhide HR).mono ?_
  rintro e w1 ⟨hm, rfl⟩
  have OK1 : CL w1 := unhide RE _ _ (unhide BS) hm
  clear hm HR
  have cv := unhide CV w1
  have h0 := k0 ⟨w1, OK1⟩
  try dsimp only at h0
  go_upto_region 5 with fail
  have OK2 := al _ OK1
  clear cv h0 OK1
  generalize w1.alloc (.cells #[.int .u8 12] 5) = w2 at *
  have h0 := k0 ⟨w2, OK2⟩
  try dsimp only at h0
  have s1a : ¬ (9223372036854775807 < ks.size + (nB m.move).size) := by omega
  have s1b : ¬ (9223372036854775807 < ks.size + (nB m.move).size + (nB m.part).size) := by omega
  go_upto_region 6 with fail
  refine wp_region_sx (St := CL) (by kernel_rfl) (by kernel_rfl) (drew _ OK2) ?_
  repeat (go_big_quiet_step (first | (go_at_call 26; exact unhide c26 _ (by assumption) _)))
  refine wpQuiet_nil ?_
  first | (rintro w3 ⟨p0, e0⟩; have OK3 := p0.ok; rw [← e0] at OK3; clear e0) | rintro ⟨w3, OK3⟩
  try dsimp only
  clear OK2
  obtain ⟨s1, hs1⟩ : ∃ s, s = ks ++ nB m.move ++ nB m.part := ⟨_, rfl⟩
  have zs1 : s1.size ≤ 30 := by rw [hs1]; simp only [ByteArray.size_append]; omega
  rw [← hs1] at BE ⊢
  clear s1a s1b hs1 h0 k1 k2 i1 i2 z1 z2
  have s2 : ¬ (9223372036854775807 < (nB m.item.src).size + (nB m.item.seq).size) := by omega
  go_upto_region 7 with fail
  refine wp_region_sx (St := CL) (by kernel_rfl) (by kernel_rfl) (drew _ OK3) ?_
  repeat (go_big_quiet_step (first | (go_at_call 26; exact unhide c26 _ (by assumption) _)))
  refine wpQuiet_nil ?_
  first | (rintro w4 ⟨p0, e0⟩; have OK4 := p0.ok; rw [← e0] at OK4; clear e0) | rintro ⟨w4, OK4⟩
  try dsimp only
  clear OK3
  obtain ⟨wh, hwh⟩ : ∃ s, s = nB m.item.src ++ nB m.item.seq := ⟨_, rfl⟩
  rw [← hwh]
  clear s2 hwh k9 k10
  have s3 : ¬ (9223372036854775807 < (nB m.epoch).size + (nB m.nodes).size) := by omega
  have s4 : ¬ (9223372036854775807 < (nB m.epoch).size + (nB m.nodes).size + (lB m.owner).size) := by omega
  go_upto_region 8 with fail
  refine wp_region_sx (St := CL) (by kernel_rfl) (by kernel_rfl) (drew _ OK4) ?_
  repeat (go_big_quiet_step (first | (go_at_call 26; exact unhide c26 _ (by assumption) _) | (go_at_call 27; exact unhide c27 _)))
  refine wpQuiet_nil ?_
  first | (rintro w5 ⟨p0, e0⟩; have OK5 := p0.ok; rw [← e0] at OK5; clear e0) | rintro ⟨w5, OK5⟩
  try dsimp only
  clear OK4
  obtain ⟨tb, htb⟩ : ∃ s, s = nB m.epoch ++ nB m.nodes ++ lB m.owner := ⟨_, rfl⟩
  have ztb : tb.size ≤ 1000 := by rw [htb]; simp only [ByteArray.size_append]; omega
  rw [← htb]
  clear s3 s4 htb k17 k18 k19 c27
  have h0 := k0 ⟨w5, OK5⟩
  try dsimp only at h0
  go_wp2_with fail
  go_ret2
  exact ⟨fin _ OK5, by rw [unhide BE]; rfl⟩
set_option maxHeartbeats 8000000 in
set_option maxRecDepth 100000 in
theorem refbytes_13 (m : MsgV) (a1 a2 : Option Addr) (c1 c2 : Nat) (w : World) (hI1 : Ints w a1 m.owner) (hI2 : Ints w a2 m.set) (hr : Right m) (hk : m.kind.toNat = 13)
    (hR : ∀ v : World, Ints v a1 m.owner → Ints v a2 m.set → Calls Tryd.prog 25 #[.agg (msgCells m a1 c1 a2 c2).toArray] v fun e v' => Moved (fun _ => False) v v' ∧ e = .returned (.int .i64 0)) :
    Calls Tryd.prog 9 #[.agg (msgCells m a1 c1 a2 c2).toArray] w fun e w' => Moved (fun _ => False) w w' ∧ e = .returned (.tuple #[.string ⟨(msgBytes m).toArray⟩, .int .i64 0]) := by
  obtain ⟨A, hA⟩ : ∃ A, A = w.heap.size := ⟨_, rfl⟩
  obtain ⟨W, hW⟩ : ∃ W, W = w.alloc (.cells (msgCells m a1 c1 a2 c2).toArray 29) := ⟨_, rfl⟩
  have mW : Moved (fun _ => False) w W := by rw [hW]; exact (Moved.refl _ _).alloc _
  have RA : RowAt W A (msgCells m a1 c1 a2 c2) := by rw [hW, hA]; exact row_new _ _ _
  have hRW := hR W (hI1.keep mW fun _ _ => id) (hI2.keep mW fun _ _ => id)
  obtain ⟨CL, hCL⟩ : ∃ CL : World → Prop, CL = fun v => Moved (fun _ => False) W v := ⟨_, rfl⟩
  have un : ∀ v, CL v → Moved (fun _ => False) W v := fun v h => by rw [hCL] at h; exact h
  have re : ∀ v v', CL v → Moved (fun _ => False) v v' → CL v' := fun v v' h h' => by rw [hCL] at h ⊢; exact h.trans h' fun _ f => f.elim
  have drew : ∀ v, CL v → CL v.drew := fun v h => by rw [hCL] at h ⊢; exact h.drew
  have base : CL W := by rw [hCL]; exact Moved.refl _ _
  have ne : Nonempty (SX CL) := ⟨⟨W, base⟩⟩
  have kc : ∀ (p : SX CL) (i : Nat) (v : Value), (msgCells m a1 c1 a2 c2)[i]? = some v → p.w.cell? ⟨A, i, none⟩ = some v := fun p i v hv => by
    obtain ⟨hi, _⟩ := List.getElem?_eq_some_iff.1 hv
    have := (RA.keep (un _ p.ok) id).cell i hi
    rw [List.getD_eq_getElem?_getD, hv] at this
    exact this
  have k0 : ∀ p : SX CL, p.w.cell? ⟨A, 0, none⟩ = some (.int .u8 13) := fun p => by have := kc p 0 _ rfl; rw [hk] at this; exact this
  have k9 : ∀ p : SX CL, p.w.cell? ⟨A, 9, none⟩ = some (.int .i64 m.item.src) := fun p => kc p 9 _ rfl
  have k10 : ∀ p : SX CL, p.w.cell? ⟨A, 10, none⟩ = some (.int .i64 m.item.seq) := fun p => kc p 10 _ rfl
  have k17 : ∀ p : SX CL, p.w.cell? ⟨A, 17, none⟩ = some (.int .i64 m.epoch) := fun p => kc p 17 _ rfl
  have k18 : ∀ p : SX CL, p.w.cell? ⟨A, 18, none⟩ = some (.int .i64 m.nodes) := fun p => kc p 18 _ rfl
  have k19 : ∀ p : SX CL, p.w.cell? ⟨A, 19, none⟩ = some (.slice a1 m.owner.length c1) := fun p => kc p 19 _ rfl
  have k1 : ∀ p : SX CL, p.w.cell? ⟨A, 1, none⟩ = some (.int .i64 m.move) := fun p => kc p 1 _ rfl
  have k2 : ∀ p : SX CL, p.w.cell? ⟨A, 2, none⟩ = some (.int .i64 m.part) := fun p => kc p 2 _ rfl
  have RG := hide RA.range
  have bel : ∀ v v', CL v → Below v.heap.size v v' → CL v' := fun v v' h hb => re v v' h (Moved.of_below (F := fun _ => False) hb)
  have c26 := hide (fun (n : Int) (hn : In n) (p : SX CL) => ((rnum_any n (in_le hn).1 (by have := in_le hn; omega) p.w).mono fun e w'' ⟨he, hb⟩ => ⟨he, ⟨w'', bel _ _ p.ok hb⟩, rfl⟩ : Calls Tryd.prog 26 #[.int .i64 n] p.w fun e w'' => e = .returned (.string (nB n)) ∧ ∃ q : SX CL, w'' = q.w))
  have c27 := hide (fun (p : SX CL) => ((reflist_any a1 m.owner c1 p.w (hI1.keep (mW.trans (un _ p.ok) fun _ f => f.elim) fun _ _ => id) (by have := hr.ok.owner.1; omega) hr.ok.owner.2).mono fun e w'' ⟨he, hb⟩ => ⟨he, ⟨w'', bel _ _ p.ok hb⟩, rfl⟩ : Calls Tryd.prog 27 #[.slice a1 m.owner.length c1] p.w fun e w'' => e = .returned (.string (lB m.owner)) ∧ ∃ q : SX CL, w'' = q.w))
  have i9 := hr.ok.item.src
  have i10 := hr.ok.item.seq
  have i17 := hr.ok.epoch
  have i18 := hr.ok.nodes
  have z9 := nB_size i9
  have z10 := nB_size i10
  have z17 := nB_size i17
  have z18 := nB_size i18
  have z19 := lB_size hr.ok.owner.2 (by have := hr.ok.owner.1; omega)
  have z19b := hr.ok.owner.1
  have i1 := hr.ok.move
  have i2 := hr.ok.part
  have z1 := nB_size i1
  have z2 := nB_size i2
  have BE := hide (bytes_13 hr hk)
  obtain ⟨ks, hks⟩ : ∃ k : ByteArray, k = (⟨#[m.kind]⟩ : ByteArray) := ⟨_, rfl⟩
  have zk : ks.size = 1 := by rw [hks]; rfl
  rw [← hks] at BE
  have CV := hide (fun (v : World) => (by rw [hks]; exact Rf.conv_one v.heap.size m.kind _ (by rw [hk]; simp) : Sem.run Tryd.prog (convert 48 9 (.slice (some ⟨v.heap.size, 0, none⟩) 1 1)) (v.alloc (.cells #[.int .u8 13] 5)) = .ok (.string ks) (v.alloc (.cells #[.int .u8 13] 5))))
  have al : ∀ v, CL v → CL (v.alloc (.cells #[.int .u8 13] 5)) := fun v h => re _ _ h ((Moved.refl _ _).alloc _)
  have HW := hide hW
  have HA := hide hA
  have fin : ∀ v, CL v → Moved (fun _ => False) w v := fun v h => mW.trans (un v h) fun _ f => f.elim
  have BS := hide base
  have UN := hide un
  have RE := hide re
  have HR := hide hRW
  clear hCL un re bel kc hW hA hRW RA hI1 hI2 hR hr hks hk mW base
  go_enter Tryd.func9, Tryd.ntmps9
  go_upto_region 1 with fail
  rw [← unhide HA]
  try change Code.wp _ _ _ _ (w.alloc (.cells (msgCells m a1 c1 a2 c2).toArray 29))
  rw [← unhide HW]
  go_step
  refine wpList_load_mid rfl 29 (.tmp 1) rfl A 0 rfl (msgCells m a1 c1 a2 c2) _ (unhide RG) Tryd.underlying29 rfl (by kernel_rfl) ?_
  go_wp2_with fail
  refine (unhide HR).mono ?_
  rintro e w1 ⟨hm, rfl⟩
  have OK1 : CL w1 := unhide RE _ _ (unhide BS) hm
  clear hm HR
  have cv := unhide CV w1
  have h0 := k0 ⟨w1, OK1⟩
  try dsimp only at h0
  go_upto_region 5 with fail
  have OK2 := al _ OK1
  clear cv h0 OK1
  generalize w1.alloc (.cells #[.int .u8 13] 5) = w2 at *
  have h0 := k0 ⟨w2, OK2⟩
  try dsimp only at h0
  have s1a : ¬ (9223372036854775807 < ks.size + (nB m.move).size) := by omega
  have s1b : ¬ (9223372036854775807 < ks.size + (nB m.move).size + (nB m.part).size) := by omega
  go_upto_region 6 with fail
  refine wp_region_sx (St := CL) (by kernel_rfl) (by kernel_rfl) (drew _ OK2) ?_
  repeat (go_big_quiet_step (first | (go_at_call 26; exact unhide c26 _ (by assumption) _)))
  refine wpQuiet_nil ?_
  first | (rintro w3 ⟨p0, e0⟩; have OK3 := p0.ok; rw [← e0] at OK3; clear e0) | rintro ⟨w3, OK3⟩
  try dsimp only
  clear OK2
  obtain ⟨s1, hs1⟩ : ∃ s, s = ks ++ nB m.move ++ nB m.part := ⟨_, rfl⟩
  have zs1 : s1.size ≤ 30 := by rw [hs1]; simp only [ByteArray.size_append]; omega
  rw [← hs1] at BE ⊢
  clear s1a s1b hs1 h0 k1 k2 i1 i2 z1 z2
  have s2 : ¬ (9223372036854775807 < (nB m.item.src).size + (nB m.item.seq).size) := by omega
  go_upto_region 7 with fail
  refine wp_region_sx (St := CL) (by kernel_rfl) (by kernel_rfl) (drew _ OK3) ?_
  repeat (go_big_quiet_step (first | (go_at_call 26; exact unhide c26 _ (by assumption) _)))
  refine wpQuiet_nil ?_
  first | (rintro w4 ⟨p0, e0⟩; have OK4 := p0.ok; rw [← e0] at OK4; clear e0) | rintro ⟨w4, OK4⟩
  try dsimp only
  clear OK3
  obtain ⟨wh, hwh⟩ : ∃ s, s = nB m.item.src ++ nB m.item.seq := ⟨_, rfl⟩
  rw [← hwh]
  clear s2 hwh k9 k10
  have s3 : ¬ (9223372036854775807 < (nB m.epoch).size + (nB m.nodes).size) := by omega
  have s4 : ¬ (9223372036854775807 < (nB m.epoch).size + (nB m.nodes).size + (lB m.owner).size) := by omega
  go_upto_region 8 with fail
  refine wp_region_sx (St := CL) (by kernel_rfl) (by kernel_rfl) (drew _ OK4) ?_
  repeat (go_big_quiet_step (first | (go_at_call 26; exact unhide c26 _ (by assumption) _) | (go_at_call 27; exact unhide c27 _)))
  refine wpQuiet_nil ?_
  first | (rintro w5 ⟨p0, e0⟩; have OK5 := p0.ok; rw [← e0] at OK5; clear e0) | rintro ⟨w5, OK5⟩
  try dsimp only
  clear OK4
  obtain ⟨tb, htb⟩ : ∃ s, s = nB m.epoch ++ nB m.nodes ++ lB m.owner := ⟨_, rfl⟩
  have ztb : tb.size ≤ 1000 := by rw [htb]; simp only [ByteArray.size_append]; omega
  rw [← htb]
  clear s3 s4 htb k17 k18 k19 c27
  have h0 := k0 ⟨w5, OK5⟩
  try dsimp only at h0
  go_wp2_with fail
  go_ret2
  exact ⟨fin _ OK5, by rw [unhide BE]; rfl⟩
set_option maxHeartbeats 8000000 in
set_option maxRecDepth 100000 in
theorem refbytes_14 (m : MsgV) (a1 a2 : Option Addr) (c1 c2 : Nat) (w : World) (hI1 : Ints w a1 m.owner) (hI2 : Ints w a2 m.set) (hr : Right m) (hk : m.kind.toNat = 14)
    (hR : ∀ v : World, Ints v a1 m.owner → Ints v a2 m.set → Calls Tryd.prog 25 #[.agg (msgCells m a1 c1 a2 c2).toArray] v fun e v' => Moved (fun _ => False) v v' ∧ e = .returned (.int .i64 0)) :
    Calls Tryd.prog 9 #[.agg (msgCells m a1 c1 a2 c2).toArray] w fun e w' => Moved (fun _ => False) w w' ∧ e = .returned (.tuple #[.string ⟨(msgBytes m).toArray⟩, .int .i64 0]) := by
  obtain ⟨A, hA⟩ : ∃ A, A = w.heap.size := ⟨_, rfl⟩
  obtain ⟨W, hW⟩ : ∃ W, W = w.alloc (.cells (msgCells m a1 c1 a2 c2).toArray 29) := ⟨_, rfl⟩
  have mW : Moved (fun _ => False) w W := by rw [hW]; exact (Moved.refl _ _).alloc _
  have RA : RowAt W A (msgCells m a1 c1 a2 c2) := by rw [hW, hA]; exact row_new _ _ _
  have hRW := hR W (hI1.keep mW fun _ _ => id) (hI2.keep mW fun _ _ => id)
  obtain ⟨CL, hCL⟩ : ∃ CL : World → Prop, CL = fun v => Moved (fun _ => False) W v := ⟨_, rfl⟩
  have un : ∀ v, CL v → Moved (fun _ => False) W v := fun v h => by rw [hCL] at h; exact h
  have re : ∀ v v', CL v → Moved (fun _ => False) v v' → CL v' := fun v v' h h' => by rw [hCL] at h ⊢; exact h.trans h' fun _ f => f.elim
  have drew : ∀ v, CL v → CL v.drew := fun v h => by rw [hCL] at h ⊢; exact h.drew
  have base : CL W := by rw [hCL]; exact Moved.refl _ _
  have ne : Nonempty (SX CL) := ⟨⟨W, base⟩⟩
  have kc : ∀ (p : SX CL) (i : Nat) (v : Value), (msgCells m a1 c1 a2 c2)[i]? = some v → p.w.cell? ⟨A, i, none⟩ = some v := fun p i v hv => by
    obtain ⟨hi, _⟩ := List.getElem?_eq_some_iff.1 hv
    have := (RA.keep (un _ p.ok) id).cell i hi
    rw [List.getD_eq_getElem?_getD, hv] at this
    exact this
  have k0 : ∀ p : SX CL, p.w.cell? ⟨A, 0, none⟩ = some (.int .u8 14) := fun p => by have := kc p 0 _ rfl; rw [hk] at this; exact this
  have k9 : ∀ p : SX CL, p.w.cell? ⟨A, 9, none⟩ = some (.int .i64 m.item.src) := fun p => kc p 9 _ rfl
  have k10 : ∀ p : SX CL, p.w.cell? ⟨A, 10, none⟩ = some (.int .i64 m.item.seq) := fun p => kc p 10 _ rfl
  have k17 : ∀ p : SX CL, p.w.cell? ⟨A, 17, none⟩ = some (.int .i64 m.epoch) := fun p => kc p 17 _ rfl
  have k18 : ∀ p : SX CL, p.w.cell? ⟨A, 18, none⟩ = some (.int .i64 m.nodes) := fun p => kc p 18 _ rfl
  have k19 : ∀ p : SX CL, p.w.cell? ⟨A, 19, none⟩ = some (.slice a1 m.owner.length c1) := fun p => kc p 19 _ rfl
  have RG := hide RA.range
  have bel : ∀ v v', CL v → Below v.heap.size v v' → CL v' := fun v v' h hb => re v v' h (Moved.of_below (F := fun _ => False) hb)
  have c26 := hide (fun (n : Int) (hn : In n) (p : SX CL) => ((rnum_any n (in_le hn).1 (by have := in_le hn; omega) p.w).mono fun e w'' ⟨he, hb⟩ => ⟨he, ⟨w'', bel _ _ p.ok hb⟩, rfl⟩ : Calls Tryd.prog 26 #[.int .i64 n] p.w fun e w'' => e = .returned (.string (nB n)) ∧ ∃ q : SX CL, w'' = q.w))
  have c27 := hide (fun (p : SX CL) => ((reflist_any a1 m.owner c1 p.w (hI1.keep (mW.trans (un _ p.ok) fun _ f => f.elim) fun _ _ => id) (by have := hr.ok.owner.1; omega) hr.ok.owner.2).mono fun e w'' ⟨he, hb⟩ => ⟨he, ⟨w'', bel _ _ p.ok hb⟩, rfl⟩ : Calls Tryd.prog 27 #[.slice a1 m.owner.length c1] p.w fun e w'' => e = .returned (.string (lB m.owner)) ∧ ∃ q : SX CL, w'' = q.w))
  have i9 := hr.ok.item.src
  have i10 := hr.ok.item.seq
  have i17 := hr.ok.epoch
  have i18 := hr.ok.nodes
  have z9 := nB_size i9
  have z10 := nB_size i10
  have z17 := nB_size i17
  have z18 := nB_size i18
  have z19 := lB_size hr.ok.owner.2 (by have := hr.ok.owner.1; omega)
  have z19b := hr.ok.owner.1
  have BE := hide (bytes_14 hr hk)
  obtain ⟨ks, hks⟩ : ∃ k : ByteArray, k = (⟨#[m.kind]⟩ : ByteArray) := ⟨_, rfl⟩
  have zk : ks.size = 1 := by rw [hks]; rfl
  rw [← hks] at BE
  have CV := hide (fun (v : World) => (by rw [hks]; exact Rf.conv_one v.heap.size m.kind _ (by rw [hk]; simp) : Sem.run Tryd.prog (convert 48 9 (.slice (some ⟨v.heap.size, 0, none⟩) 1 1)) (v.alloc (.cells #[.int .u8 14] 5)) = .ok (.string ks) (v.alloc (.cells #[.int .u8 14] 5))))
  have al : ∀ v, CL v → CL (v.alloc (.cells #[.int .u8 14] 5)) := fun v h => re _ _ h ((Moved.refl _ _).alloc _)
  have HW := hide hW
  have HA := hide hA
  have fin : ∀ v, CL v → Moved (fun _ => False) w v := fun v h => mW.trans (un v h) fun _ f => f.elim
  have BS := hide base
  have UN := hide un
  have RE := hide re
  have HR := hide hRW
  clear hCL un re bel kc hW hA hRW RA hI1 hI2 hR hr hks hk mW base
  go_enter Tryd.func9, Tryd.ntmps9
  go_upto_region 1 with fail
  rw [← unhide HA]
  try change Code.wp _ _ _ _ (w.alloc (.cells (msgCells m a1 c1 a2 c2).toArray 29))
  rw [← unhide HW]
  go_step
  refine wpList_load_mid rfl 29 (.tmp 1) rfl A 0 rfl (msgCells m a1 c1 a2 c2) _ (unhide RG) Tryd.underlying29 rfl (by kernel_rfl) ?_
  go_wp2_with fail
  refine (unhide HR).mono ?_
  rintro e w1 ⟨hm, rfl⟩
  have OK1 : CL w1 := unhide RE _ _ (unhide BS) hm
  clear hm HR
  have cv := unhide CV w1
  have h0 := k0 ⟨w1, OK1⟩
  try dsimp only at h0
  go_upto_region 5 with fail
  have OK2 := al _ OK1
  clear cv h0 OK1
  generalize w1.alloc (.cells #[.int .u8 14] 5) = w2 at *
  have h0 := k0 ⟨w2, OK2⟩
  try dsimp only at h0
  obtain ⟨s1, hs1⟩ : ∃ s, s = ks := ⟨_, rfl⟩
  have zs1 : s1.size ≤ 30 := by rw [hs1]; omega
  rw [← hs1] at BE
  have HS1 := hide hs1
  have s2 : ¬ (9223372036854775807 < (nB m.item.src).size + (nB m.item.seq).size) := by omega
  go_upto_region 7 with fail
  rw [← unhide HS1]
  clear hs1 h0
  refine wp_region_sx (St := CL) (by kernel_rfl) (by kernel_rfl) (drew _ OK2) ?_
  repeat (go_big_quiet_step (first | (go_at_call 26; exact unhide c26 _ (by assumption) _)))
  refine wpQuiet_nil ?_
  first | (rintro w3 ⟨p0, e0⟩; have OK3 := p0.ok; rw [← e0] at OK3; clear e0) | rintro ⟨w3, OK3⟩
  try dsimp only
  clear OK2
  obtain ⟨wh, hwh⟩ : ∃ s, s = nB m.item.src ++ nB m.item.seq := ⟨_, rfl⟩
  rw [← hwh]
  clear s2 hwh k9 k10
  have s3 : ¬ (9223372036854775807 < (nB m.epoch).size + (nB m.nodes).size) := by omega
  have s4 : ¬ (9223372036854775807 < (nB m.epoch).size + (nB m.nodes).size + (lB m.owner).size) := by omega
  go_upto_region 8 with fail
  refine wp_region_sx (St := CL) (by kernel_rfl) (by kernel_rfl) (drew _ OK3) ?_
  repeat (go_big_quiet_step (first | (go_at_call 26; exact unhide c26 _ (by assumption) _) | (go_at_call 27; exact unhide c27 _)))
  refine wpQuiet_nil ?_
  first | (rintro w4 ⟨p0, e0⟩; have OK4 := p0.ok; rw [← e0] at OK4; clear e0) | rintro ⟨w4, OK4⟩
  try dsimp only
  clear OK3
  obtain ⟨tb, htb⟩ : ∃ s, s = nB m.epoch ++ nB m.nodes ++ lB m.owner := ⟨_, rfl⟩
  have ztb : tb.size ≤ 1000 := by rw [htb]; simp only [ByteArray.size_append]; omega
  rw [← htb] at BE ⊢
  clear s3 s4 htb k17 k18 k19 c27
  have h0 := k0 ⟨w4, OK4⟩
  try dsimp only at h0
  have q0 : ¬ (9223372036854775807 < s1.size + tb.size) := by omega
  go_wp2_with fail
  go_ret2
  exact ⟨fin _ OK4, by rw [unhide BE]; rfl⟩
end Go.Proofs.YtkbmbcmcnpeabaaDoor.Rw

/- The program's Same: whether two messages are. Conditions: their lists lie in memory, and are no longer than a slice can be. -/
import Derived.Test.YtkbmbcmcnpeabaaDoorSameB
namespace Go.Proofs.YtkbmbcmcnpeabaaDoor
open Pk Go.RowKit

theorem ops_all {P : Program} {ops : Array Oper} {Q : Exit → Act → World → Prop} {a : Act} {w : World} {n : Nat} {C : Act → World → Prop} (hn : ops.size = n) (h : Seg P ops 0 n C a w) (k : ∀ a' w', C a' w' → Q .normal a' w') : wpOps P ops Q (List.range ops.size) a w := by
  have := h Q fun a' w' hc => by
    rw [hn, Nat.sub_self]
    exact k a' w' hc
  rw [List.range_eq_range']
  exact this
theorem box_run (xs : List Value) (w : World) : (Instr.box 29 (.agg xs.toArray)).run Tryd.prog w = .ok (.pointer (some ⟨w.heap.size, 0, none⟩)) (w.alloc (.cells xs.toArray 29)) := by
  simp [go_sem]
theorem same_head {o : Array Oper} (ho : o = firstOf Tryd.f18.body) (us vs : List Value) {a : Act} {w : World} (h0 : a.tmps[0]? = some (.agg us.toArray)) (h1 : a.tmps[1]? = some (.agg vs.toArray)) (hs : a.tmps.size = 114) :
    Seg Tryd.prog o 0 3 (fun a' w' => w' = (w.alloc (.cells us.toArray 29)).alloc (.cells vs.toArray 29) ∧ a'.defers = a.defers ∧ a'.tmps.size = 114 ∧ a'.tmps[2]? = some (.pointer (some ⟨w.heap.size, 0, none⟩)) ∧ a'.tmps[3]? = some (.pointer (some ⟨w.heap.size + 1, 0, none⟩))) a w := by
  have k0 : OpAt o 0 (.box 29 (.tmp 0)) (some 2) none := by rw [ho]; unfold OpAt; kernel_rfl
  have k1 : OpAt o 1 (.box 29 (.tmp 1)) (some 3) none := by rw [ho]; unfold OpAt; kernel_rfl
  have k2 : OpAt o 2 (.assign (.const (.bool false))) (some 4) none := by rw [ho]; unfold OpAt; kernel_rfl
  refine Seg.trans (j := 1) (C := fun a' w' => w' = w.alloc (.cells us.toArray 29) ∧ Low 2 a a' ∧ a'.tmps[2]? = some (.pointer (some ⟨w.heap.size, 0, none⟩))) (Seg.value k0 trivial (fun q hq => by simp [execOp, hq, eval_tmp h0, box_run us w]) ⟨rfl, Low.put _ (by decide), put_same _ (by rw [hs]; decide)⟩) ?_
  rintro a1 w1 ⟨rfl, l1, v1⟩
  refine Seg.trans (j := 2) (C := fun a' w' => w' = (w.alloc (.cells us.toArray 29)).alloc (.cells vs.toArray 29) ∧ Low 3 a1 a' ∧ a'.tmps[3]? = some (.pointer (some ⟨w.heap.size + 1, 0, none⟩))) (Seg.value (v := .pointer (some ⟨w.heap.size + 1, 0, none⟩)) k1 trivial (fun q hq => by simp [execOp, hq, eval_tmp ((l1.2.2 1 (by decide)).trans h1), box_run vs _]) ⟨rfl, Low.put _ (by decide), put_same _ (by rw [l1.1, hs]; decide)⟩) ?_
  rintro a2 w2 ⟨rfl, l2, v2⟩
  refine Seg.value k2 trivial (fun q hq => by simp [execOp, hq, Act.eval]; exact ⟨rfl, rfl⟩) ?_
  have l3 : Low 4 a2 (a2.put (some 4) (.bool false)) := Low.put _ (by decide)
  exact ⟨rfl, by rw [l3.2.1, l2.2.1, l1.2.1], by rw [l3.1, l2.1, l1.1, hs], by rw [l3.2.2 2 (by decide), l2.2.2 2 (by decide)]; exact v1, by rw [l3.2.2 3 (by decide)]; exact v2⟩
set_option maxHeartbeats 1000000 in
theorem same_any (m n : MsgV) (a1 a2 b1 b2 : Option Addr) (ac1 ac2 bc1 bc2 : Nat) (w : World) (ha1 : Ints w a1 m.owner) (ha2 : Ints w a2 m.set) (hb1 : Ints w b1 n.owner) (hb2 : Ints w b2 n.set) (l1 : m.owner.length ≤ maxLen) (l2 : m.set.length ≤ maxLen) :
    Calls Tryd.prog 18 #[.agg (msgCells m a1 ac1 a2 ac2).toArray, .agg (msgCells n b1 bc1 b2 bc2).toArray] w fun e w' => e = .returned (.bool (sameMsg m n)) ∧ Moved (fun _ => False) w w' := by
  obtain ⟨ops, hops⟩ : ∃ ops, ops = second Tryd.f18.body := ⟨_, rfl⟩
  obtain ⟨o0, ho0⟩ : ∃ o, o = firstOf Tryd.f18.body := ⟨_, rfl⟩
  refine calls_of_wp Tryd.func18 same_body ?_
  rw [← hops, ← ho0]
  refine wp_seq (wp_region ?_)
  refine ops_all (by rw [ho0]; kernel_rfl) (same_head ho0 (msgCells m a1 ac1 a2 ac2) (msgCells n b1 bc1 b2 bc2) (by simp) (by simp) (by simp [Tryd.ntmps18])) ?_
  rintro a0 w0 ⟨hw0, hd0, hs0, hA0, hB0⟩
  refine wp_seq (wp_region ?_)
  obtain ⟨A, hA⟩ : ∃ A, A = w.heap.size := ⟨_, rfl⟩
  rw [← hA] at hA0 hB0
  have M0 : Moved (fun _ => False) w w0 := by rw [hw0]; exact ((Moved.refl _ _).alloc _).alloc _
  have R1 : RowAt w0 A (msgCells m a1 ac1 a2 ac2) := by rw [hw0, hA]; exact row_old (row_new _ _ _) _
  have R2 : RowAt w0 (A + 1) (msgCells n b1 bc1 b2 bc2) := by rw [hw0, hA]; exact row_new2 _ _ _ _ _
  have hB : ∀ w', Moved (fun _ => False) w0 w' → Both w' A (A + 1) (msgCells m a1 ac1 a2 ac2) (msgCells n b1 bc1 b2 bc2) := fun w' h => Both.keep ⟨R1, R2⟩ h
  have hI : ∀ w', Moved (fun _ => False) w0 w' → Ints w' a1 m.owner ∧ Ints w' a2 m.set ∧ Ints w' b1 n.owner ∧ Ints w' b2 n.set := fun w' h =>
    have h' := M0.trans h fun _ f => f.elim
    ⟨ha1.keep h' fun _ _ => id, ha2.keep h' fun _ _ => id, hb1.keep h' fun _ _ => id, hb2.keep h' fun _ _ => id⟩
  refine ops_all (C := fun a' w' => Moved (fun _ => False) w0 w' ∧ a'.defers = [] ∧ a'.tmps[4]? = some (.bool (sameMsg m n))) (same_size hops) (Seg.trans (sc0 (W := Moved (fun _ => False) w0) hops (Moved.refl _ _) hs0 hA0 hB0 (fun w' h => ld_u8 ((hB w' h).ca (i := 0) rfl)) (fun w' h => ld_u8 ((hB w' h).cb (i := 0) rfl)) (eqv_kind _ _)) ?_) ?_
  rotate_left
  · intro a' w' hc
    obtain ⟨hW, hd, hv⟩ : Moved (fun _ => False) w0 w' ∧ a'.defers = [] ∧ a'.tmps[4]? = some (.bool (sameMsg m n)) := hc
    refine wp_ret ⟨hd, .bool (sameMsg m n), ?_, rfl, M0.trans hW fun _ f => f.elim⟩
    simp [results, Tryd.results18, hv]
  rintro a1 w1 ⟨hW1, hl1, hv1⟩
  have hs1 := hl1.1.trans hs0
  have hA1 := (hl1.2.2 2 (by decide)).trans hA0
  have hB1 := (hl1.2.2 3 (by decide)).trans hB0
  have hd1 := hl1.2.1.trans hd0
  refine Seg.trans (sc1 hops hW1 hs1 hA1 hB1 hv1 (fun w' h => ld_int ((hB w' h).ca (i := 1) rfl)) (fun w' h => ld_int ((hB w' h).cb (i := 1) rfl)) (eqv_int _ _)) ?_
  rintro a2 w2 ⟨hW2, hl2, hv2⟩
  have hs2 := hl2.1.trans hs1
  have hA2 := (hl2.2.2 2 (by decide)).trans hA1
  have hB2 := (hl2.2.2 3 (by decide)).trans hB1
  have hd2 := hl2.2.1.trans hd1
  refine Seg.trans (sc2 hops hW2 hs2 hA2 hB2 hv2 (fun w' h => ld_int ((hB w' h).ca (i := 2) rfl)) (fun w' h => ld_int ((hB w' h).cb (i := 2) rfl)) (eqv_int _ _)) ?_
  rintro a3 w3 ⟨hW3, hl3, hv3⟩
  have hs3 := hl3.1.trans hs2
  have hA3 := (hl3.2.2 2 (by decide)).trans hA2
  have hB3 := (hl3.2.2 3 (by decide)).trans hB2
  have hd3 := hl3.2.1.trans hd2
  refine Seg.trans (sc3 hops hW3 hs3 hA3 hB3 hv3 (fun w' h => ld_int ((hB w' h).ca (i := 3) rfl)) (fun w' h => ld_int ((hB w' h).cb (i := 3) rfl)) (eqv_int _ _)) ?_
  rintro a4 w4 ⟨hW4, hl4, hv4⟩
  have hs4 := hl4.1.trans hs3
  have hA4 := (hl4.2.2 2 (by decide)).trans hA3
  have hB4 := (hl4.2.2 3 (by decide)).trans hB3
  have hd4 := hl4.2.1.trans hd3
  refine Seg.trans (sc4 hops hW4 hs4 hA4 hB4 hv4 (fun w' h => ld_int ((hB w' h).ca (i := 4) rfl)) (fun w' h => ld_int ((hB w' h).cb (i := 4) rfl)) (eqv_int _ _)) ?_
  rintro a5 w5 ⟨hW5, hl5, hv5⟩
  have hs5 := hl5.1.trans hs4
  have hA5 := (hl5.2.2 2 (by decide)).trans hA4
  have hB5 := (hl5.2.2 3 (by decide)).trans hB4
  have hd5 := hl5.2.1.trans hd4
  refine Seg.trans (sc5 hops hW5 hs5 hA5 hB5 hv5 (fun w' h => ld_int ((hB w' h).ca (i := 5) rfl)) (fun w' h => ld_int ((hB w' h).cb (i := 5) rfl)) (eqv_int _ _)) ?_
  rintro a6 w6 ⟨hW6, hl6, hv6⟩
  have hs6 := hl6.1.trans hs5
  have hA6 := (hl6.2.2 2 (by decide)).trans hA5
  have hB6 := (hl6.2.2 3 (by decide)).trans hB5
  have hd6 := hl6.2.1.trans hd5
  refine Seg.trans (sc6 hops hW6 hs6 hA6 hB6 hv6 (fun w' h => ld_int ((hB w' h).ca (i := 6) rfl)) (fun w' h => ld_int ((hB w' h).cb (i := 6) rfl)) (eqv_int _ _)) ?_
  rintro a7 w7 ⟨hW7, hl7, hv7⟩
  have hs7 := hl7.1.trans hs6
  have hA7 := (hl7.2.2 2 (by decide)).trans hA6
  have hB7 := (hl7.2.2 3 (by decide)).trans hB6
  have hd7 := hl7.2.1.trans hd6
  refine Seg.trans (sc7 hops hW7 hs7 hA7 hB7 hv7 (fun w' h => ld_u64 ((hB w' h).ca (i := 7) rfl)) (fun w' h => ld_u64 ((hB w' h).cb (i := 7) rfl)) (eqv_dig _ _)) ?_
  rintro a8 w8 ⟨hW8, hl8, hv8⟩
  have hs8 := hl8.1.trans hs7
  have hA8 := (hl8.2.2 2 (by decide)).trans hA7
  have hB8 := (hl8.2.2 3 (by decide)).trans hB7
  have hd8 := hl8.2.1.trans hd7
  refine Seg.trans (sc8 hops hW8 hs8 hA8 hB8 hv8 (fun w' h => ld_i64 ((hB w' h).ca (i := 8) rfl)) (fun w' h => ld_i64 ((hB w' h).cb (i := 8) rfl)) (eqv_i64 _ _)) ?_
  rintro a9 w9 ⟨hW9, hl9, hv9⟩
  have hs9 := hl9.1.trans hs8
  have hA9 := (hl9.2.2 2 (by decide)).trans hA8
  have hB9 := (hl9.2.2 3 (by decide)).trans hB8
  have hd9 := hl9.2.1.trans hd8
  refine Seg.trans (sc9 hops hW9 hs9 hA9 hB9 hv9 (fun w' h => run_loadAt_mid w' A 9 24 (itemCells m.item) _ (range_item (hB w' h).ra) Tryd.underlying24 rfl (by kernel_rfl)) (fun w' h => run_loadAt_mid w' (A + 1) 9 24 (itemCells n.item) _ (range_item (hB w' h).rb) Tryd.underlying24 rfl (by kernel_rfl)) (eqv_item _ _)) ?_
  rintro a10 w10 ⟨hW10, hl10, hv10⟩
  have hs10 := hl10.1.trans hs9
  have hA10 := (hl10.2.2 2 (by decide)).trans hA9
  have hB10 := (hl10.2.2 3 (by decide)).trans hB9
  have hd10 := hl10.2.1.trans hd9
  refine Seg.trans (sc10 hops hW10 hs10 hA10 hB10 hv10 (fun w' h => ld_int ((hB w' h).ca (i := 17) rfl)) (fun w' h => ld_int ((hB w' h).cb (i := 17) rfl)) (eqv_int _ _)) ?_
  rintro a11 w11 ⟨hW11, hl11, hv11⟩
  have hs11 := hl11.1.trans hs10
  have hA11 := (hl11.2.2 2 (by decide)).trans hA10
  have hB11 := (hl11.2.2 3 (by decide)).trans hB10
  have hd11 := hl11.2.1.trans hd10
  refine Seg.trans (sc11 hops hW11 hs11 hA11 hB11 hv11 (fun w' h => ld_int ((hB w' h).ca (i := 18) rfl)) (fun w' h => ld_int ((hB w' h).cb (i := 18) rfl)) (eqv_int _ _)) ?_
  rintro a12 w12 ⟨hW12, hl12, hv12⟩
  have hs12 := hl12.1.trans hs11
  have hA12 := (hl12.2.2 2 (by decide)).trans hA11
  have hB12 := (hl12.2.2 3 (by decide)).trans hB11
  have hd12 := hl12.2.1.trans hd11
  refine Seg.trans (sc12 hops hW12 hs12 hA12 hB12 hv12 (fun w' h => ld_ints ((hB w' h).ca (i := 19) rfl)) (fun w' h => ld_ints ((hB w' h).cb (i := 19) rfl)) (fun w' h => (equal_any m.owner n.owner _ _ _ _ (hI w' h).1 (hI w' h).2.2.1 l1).mono fun e w'' ⟨he, hm⟩ => ⟨he, h.trans hm fun _ f => f.elim⟩)) ?_
  rintro a13 w13 ⟨hW13, hl13, hv13⟩
  have hs13 := hl13.1.trans hs12
  have hA13 := (hl13.2.2 2 (by decide)).trans hA12
  have hB13 := (hl13.2.2 3 (by decide)).trans hB12
  have hd13 := hl13.2.1.trans hd12
  refine Seg.trans (sc13 hops hW13 hs13 hA13 hB13 hv13 (fun w' h => ld_ints ((hB w' h).ca (i := 20) rfl)) (fun w' h => ld_ints ((hB w' h).cb (i := 20) rfl)) (fun w' h => (equal_any m.set n.set _ _ _ _ (hI w' h).2.1 (hI w' h).2.2.2 l2).mono fun e w'' ⟨he, hm⟩ => ⟨he, h.trans hm fun _ f => f.elim⟩)) ?_
  rintro a14 w14 ⟨hW14, hl14, hv14⟩
  have hs14 := hl14.1.trans hs13
  have hA14 := (hl14.2.2 2 (by decide)).trans hA13
  have hB14 := (hl14.2.2 3 (by decide)).trans hB13
  have hd14 := hl14.2.1.trans hd13
  refine Seg.mono (sc14 hops hW14 hs14 hA14 hB14 hv14 (fun w' h => ld_str ((hB w' h).ca (i := 21) rfl)) (fun w' h => ld_str ((hB w' h).cb (i := 21) rfl)) (eqv_str _ _)) ?_
  rintro a15 w15 ⟨hW15, hd15, hv15⟩
  exact ⟨hW15, hd15.trans hd14, hv15⟩
end Go.Proofs.YtkbmbcmcnpeabaaDoor

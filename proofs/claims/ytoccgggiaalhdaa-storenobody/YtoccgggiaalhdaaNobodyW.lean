/- What StoreNobody does: it answers true, and nothing that was there has turned. Conditions: the window's numbers are 64 bits wide. -/
import Derived.Test.YtoccgggiaalhdaaWakes
import Derived.Test.YtoccgggiaalhdaaArgs
namespace Go.Proofs.Ytoccgggiaalhdaa
open Go.RowKit
theorem wpList_load_agg {P : Program} {ops : Array Oper} {rest : List Oper} {op : Oper} {a : Act} {w : World} {Q : Exit → Act → World → Prop} (hw : Region.wanted op (yielded ops a.tmps) = true) (ty : TypeId) (x : Operand) (ho : op.op = .load ty x)
    (b o : Nat) (hx : a.eval x = .pointer (some ⟨b, o, none⟩)) (z : AggV) (d : TypeDesc) (hc : w.rangeAt b o (cellsA z))
    (hu : P.underlying ty = some d) (hd : d.isRow = true) (hi : (P.info? ty).map (·.size) = some (cellsA z).length)
    (h : wpList P ops Q rest (a.put op.dst (aggV z)) w) : wpList P ops Q (op :: rest) a w := wpList_load_on hw ty x ho b o hx (cellsA z) d hc hu hd hi h
@[go_sem] theorem same00 : sameA zero ⟨0, 0, 0, 0, 0, 0, 0, 0⟩ = true := by unfold sameA; exact decide_eq_true rfl
set_option maxRecDepth 100000 in
set_option maxHeartbeats 4000000 in
theorem nobody_any (s : ByteArray) (at_ v : Int) (x : Win AggV) (w : World) (hs : s.size ≤ maxLen) (_hx : x.agg.In) (hxk : x.key.length ≤ maxLen) :
    Calls Try.prog 4 #[.string s, .int .i64 at_, .int .i64 v, .agg (outV x).toArray] w fun e w' => e = .returned (.bool true) ∧ Below w.heap.size w w' := by
  obtain ⟨k, rfl⟩ : ∃ k : List UInt8, s = ⟨k.toArray⟩ := ⟨s.data.toList, by cases s; simp⟩
  have hz : (⟨k.toArray⟩ : ByteArray).size = k.length := by simp [ByteArray.size]
  rw [hz] at hs
  obtain ⟨xk, xs, ⟨g0, g1, g2, g3, g4, g5, g6, g7⟩⟩ := x
  have hz2 : (⟨xk.toArray⟩ : ByteArray).size = xk.length := by simp [ByteArray.size]
  obtain ⟨W, hW⟩ : ∃ W, W = w.alloc (.cells #[.string ⟨xk.toArray⟩, .int .i64 xs, .int .i64 g0, .int .i64 g1, .int .i64 g2, .int .i64 g3, .int .i64 g4, .int .i64 g5, .int .i64 g6, .int .i64 g7] 34) := ⟨_, rfl⟩
  obtain ⟨H, hH⟩ : ∃ H, H = w.heap.size := ⟨_, rfl⟩
  have R0 : RowAt W H [.string ⟨xk.toArray⟩, .int .i64 xs, .int .i64 g0, .int .i64 g1, .int .i64 g2, .int .i64 g3, .int .i64 g4, .int .i64 g5, .int .i64 g6, .int .i64 g7] := by rw [hW, hH]; exact row_new _ _ _
  have c0 : W.cell? ⟨H, 0, none⟩ = some (.string ⟨xk.toArray⟩) := R0.cell 0 (Nat.succ_pos _)
  have RW := hide R0.range
  have BW := hide (by rw [hW]; exact (Below.refl _ _).alloc (Nat.le_refl _) _ : Below w.heap.size w W)
  have HW := hide hW
  have HH := hide hH
  have WK := hide wakes_any
  have HSET := hide (fun v => set_nil (⟨xk, xs, ⟨g0, g1, g2, g3, g4, g5, g6, g7⟩⟩ : Win AggV) v)
  simp only [outV_eq] at HSET
  clear hW hH R0
  simp only [outV_eq]
  dsimp only at hxk
  by_cases h1 : (100 : Int) < (k.length : Int)
  · go_enter Try.func4, Try.ntmps4
    go_upto_region 1 with fail
    rw [← unhide HH]
    try change Code.wp _ _ _ _ (w.alloc (.cells #[.string ⟨xk.toArray⟩, .int .i64 xs, .int .i64 g0, .int .i64 g1, .int .i64 g2, .int .i64 g3, .int .i64 g4, .int .i64 g5, .int .i64 g6, .int .i64 g7] 34))
    rw [← unhide HW]
    go_wp2_with (first | (go_at_call 10; refine (unhide WK _).mono ?_; rintro e w' ⟨rfl, hb⟩))
    go_ret
    exact ⟨rfl, (unhide BW).trans (hb.mono (unhide BW).size)⟩
  · by_cases h2 : (100 : Int) < (xk.length : Int)
    · go_enter Try.func4, Try.ntmps4
      go_upto_region 1 with fail
      rw [← unhide HH]
      try change Code.wp _ _ _ _ (w.alloc (.cells #[.string ⟨xk.toArray⟩, .int .i64 xs, .int .i64 g0, .int .i64 g1, .int .i64 g2, .int .i64 g3, .int .i64 g4, .int .i64 g5, .int .i64 g6, .int .i64 g7] 34))
      rw [← unhide HW]
      go_wp2_with (first | (go_at_call 10; refine (unhide WK _).mono ?_; rintro e w' ⟨rfl, hb⟩))
      go_ret
      exact ⟨rfl, (unhide BW).trans (hb.mono (unhide BW).size)⟩
    · go_enter Try.func4, Try.ntmps4
      go_upto_region 1 with fail
      rw [← unhide HH]
      try change Code.wp _ _ _ _ (w.alloc (.cells #[.string ⟨xk.toArray⟩, .int .i64 xs, .int .i64 g0, .int .i64 g1, .int .i64 g2, .int .i64 g3, .int .i64 g4, .int .i64 g5, .int .i64 g6, .int .i64 g7] 34))
      rw [← unhide HW]
      go_upto_region 4 with fail
      go_wp2_with (first | (go_at_call 12; refine (sput_nil _ _ _ _).mono ?_; rintro e w' ⟨rfl, hw⟩; rw [hw]) | (refine wpList_load_on rfl 34 (.tmp 7) rfl H 0 rfl [.string ⟨xk.toArray⟩, .int .i64 xs, .int .i64 g0, .int .i64 g1, .int .i64 g2, .int .i64 g3, .int .i64 g4, .int .i64 g5, .int .i64 g6, .int .i64 g7] _ (unhide RW) Try.underlying34 rfl (by kernel_rfl) ?_) | (go_at_call 14; refine (unhide HSET _).mono ?_; rintro e w1 ⟨rfl, hb⟩; have B1 := hide ((unhide BW).trans (hb.mono (unhide BW).size)); clear hb) | (go_at_call 19; refine (get_nil _ _ _).mono ?_; rintro e w2 ⟨rfl, hb⟩; have B2 := hide ((unhide B1).trans (hb.mono (unhide B1).size)); clear hb; obtain ⟨w3, hu, hrow, hmf, hth⟩ := keep_row w2 32 [.int .i64 0, .int .i64 0, .int .i64 0, .int .i64 0, .int .i64 0, .int .i64 0, .int .i64 0, .int .i64 0] (cellsA zero) rfl; have U := hide hu; have T := hide hth; have RG := hide hrow.range; have B3 := hide ((unhide B2).trans ((hmf.below (fun _ f => f.elim) (Nat.le_refl _)).mono (unhide B2).size)); clear hu hth hmf hrow) | (refine wpList_store_mid rfl 32 (.tmp 12) (.tmp 37) rfl w2.heap.size 0 (cellsA zero).toArray rfl rfl (unhide T) (by kernel_rfl) (by simp [Value.oneCell', cellsA, I]) ?_; change wpList _ _ _ _ _ (World.setCells _ w2.heap.size 0 (cellsA zero)); rw [unhide U]) | (refine wpList_load_agg rfl 32 (.tmp 12) rfl w2.heap.size 0 rfl zero _ (unhide RG) Try.underlying32 rfl (by kernel_rfl) ?_) | (go_at_call 24; refine (all_nil _).mono ?_; rintro e w' ⟨rfl, hw⟩; rw [hw]) | (go_at_call 16; refine (take_nil _ _).mono ?_; rintro e w' ⟨rfl, hw⟩; rw [hw]) | (go_at_call 21; refine (len_nil _).mono ?_; rintro e w' ⟨rfl, hw⟩; rw [hw]) | (go_at_call 25; refine (twin_nil _).mono ?_; rintro e w' ⟨rfl, hw⟩; rw [hw]) | (go_at_call 10; refine (unhide WK _).mono ?_; rintro e w' ⟨rfl, hb⟩; have B4 := hide ((unhide B3).trans (hb.mono (unhide B3).size)); clear hb))
      go_ret
      exact ⟨rfl, unhide B4⟩
end Go.Proofs.Ytoccgggiaalhdaa

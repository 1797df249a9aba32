/- The chapter's examples that each law asks besides ('wakes'): it answers true, and nothing that was there has turned. -/
import Derived.Test.YtjmbiljeincocaaSeq
namespace Go.Proofs.Ytjmbiljeincocaa
open Go.RowKit Go.Shelf

attribute [local go_sem] Oper.semAt_some run_fnil

def tens (n : Nat) : List Int := (List.range n).map (fun i : Nat => (10 : Int) * (i : Int))
theorem tens_succ (n : Nat) : tens (n + 1) = tens n ++ [10 * (n : Int)] := by simp [tens, List.range_succ]
theorem tens_len (n : Nat) : (tens n).length = n := by simp [tens]
def Tens (pre : List Int) : Prop := pre = tens pre.length
theorem Tens.snoc {pre : List Int} {x : Int} (h : Tens pre) (hx : x = 10 * (pre.length : Int)) : Tens (pre ++ [x]) := by
  unfold Tens at h ⊢; rw [List.length_append, List.length_singleton, tens_succ, ← h, hx]
theorem Tens.last {pre : List Int} {x : Int} (h : Tens (pre ++ [x])) : x = 10 * (pre.length : Int) := by
  unfold Tens at h
  rw [List.length_append, List.length_singleton, tens_succ] at h
  have := List.append_inj_right' h rfl
  simpa using this
theorem starts_36 : startsL 36 14 = tens 3 := by decide
theorem tens_pre {pre : List Int} {n : Nat} (h : pre <+: tens n) : Tens pre := by
  unfold Tens
  have hl : pre.length ≤ n := by have := h.length_le; rwa [tens_len] at this
  rw [List.prefix_iff_eq_take] at h
  rw [h]
  unfold tens
  rw [← List.map_take, List.length_map, List.take_range, List.length_range]

theorem ten_w {k : Nat} (h : k < 1000) : IntKind.i64.wrap (10 * (k : Int)) = 10 * (k : Int) := Go.IntWalk.i64_in _ (by omega)
theorem one_w {k : Nat} (h : k < 1000) : IntKind.i64.wrap ((k : Int) + 1) = (k : Int) + 1 := Go.IntWalk.i64_in _ (by omega)

set_option maxRecDepth 100000 in
set_option maxHeartbeats 2000000 in
theorem wakes_in (w : World) : CallsIn Fence.wide 11 Try.prog 19 #[] w fun e W' => e = .returned (.bool true) ∧ Below w.heap.size w W' := by
  refine callsIn_of_wp_marks Try.func19 rfl trivial ?_ rfl
  simp only [Try.ntmps19, List.size_toArray, List.length_nil, Nat.reduceSub, Array.replicate_succ, Array.replicate_zero, List.push_toArray, List.append_toArray, List.nil_append, List.cons_append]
  gi_wp2
  refine ⟨trivial, (callsIn_wide.2 (starts_any _ _ _)).mono ?_⟩
  rintro e w' ⟨rfl, rfl⟩
  gi_wp2
  refine ⟨trivial, (callsIn_wide.2 (starts_any _ _ _)).mono ?_⟩
  rintro e w' ⟨rfl, rfl⟩
  gi_wp2
  obtain ⟨W0, hW0⟩ : ∃ W0, ((((((w.alloc (Obj.cells #[Value.bool false] 4)).alloc (Obj.cells #[Value.int IntKind.i64 0] 3)).alloc (Obj.cells #[Value.int IntKind.i64 36] 2)).alloc (Obj.cells #[Value.int IntKind.i64 14] 2)).alloc (Obj.cells #[Value.int IntKind.i64 36] 2)).alloc (Obj.cells #[Value.int IntKind.i64 14] 2)) = W0 := ⟨_, rfl⟩
  have hsz : W0.heap.size = w.heap.size + 6 := by rw [← hW0]; simp
  have b0 : Boxed W0 w.heap.size 4 (.bool false) := by rw [← hW0]; exact (((((Boxed.new w 4 _).alloc _).alloc _).alloc _).alloc _).alloc _
  have b1 : Boxed W0 (w.heap.size + 1) 3 (.int .i64 0) := by
    rw [← hW0]; have := Boxed.new (w.alloc (Obj.cells #[Value.bool false] 4)) 3 (.int .i64 0); rw [World.size_alloc] at this; exact (((this.alloc _).alloc _).alloc _).alloc _
  have b4 : Boxed W0 (w.heap.size + 1 + 1 + 1 + 1) 2 (.int .i64 36) := by
    rw [← hW0]; have := Boxed.new ((((w.alloc (Obj.cells #[Value.bool false] 4)).alloc (Obj.cells #[Value.int IntKind.i64 0] 3)).alloc (Obj.cells #[Value.int IntKind.i64 36] 2)).alloc (Obj.cells #[Value.int IntKind.i64 14] 2)) 2 (.int .i64 36); simp only [World.size_alloc] at this; exact this.alloc _
  have b5 : Boxed W0 (w.heap.size + 1 + 1 + 1 + 1 + 1) 2 (.int .i64 14) := by
    rw [← hW0]; have := Boxed.new (((((w.alloc (Obj.cells #[Value.bool false] 4)).alloc (Obj.cells #[Value.int IntKind.i64 0] 3)).alloc (Obj.cells #[Value.int IntKind.i64 36] 2)).alloc (Obj.cells #[Value.int IntKind.i64 14] 2)).alloc (Obj.cells #[Value.int IntKind.i64 36] 2)) 2 (.int .i64 14); simp only [World.size_alloc] at this; exact this
  have hB0 : Below w.heap.size w W0 := by
    rw [← hW0]; exact ((((((Below.refl _ w).alloc (Nat.le_refl _) _).alloc (by simp) _).alloc (by simp; omega) _).alloc (by simp; omega) _).alloc (by simp; omega) _).alloc (by simp; omega) _
  rw [hW0]
  clear hW0
  refine wpIn_rangeFunc_ownF rfl (by omega) (gf := 22) (lb := #[.pointer (some ⟨w.heap.size + 1 + 1 + 1 + 1 + 1, 0, none⟩), .pointer (some ⟨w.heap.size + 1 + 1 + 1 + 1, 0, none⟩)]) rfl trivial (enters_of Try.func22 (by kernel_rfl) rfl)
    (starts_stops _ _ 36 14 W0 b4 b5) Kb.trans (fun W l o o' _ h1 h2 _ => Kb.putObj W l o o' h1 h2) (Below.refl _ _) (fun _ => rfl)
    (fun pre W => Tens pre ∧ Boxed W w.heap.size 4 (.bool false) ∧ Boxed W (w.heap.size + 1) 3 (.int .i64 (pre.length : Int)) ∧ Below w.heap.size w W)
    (fun c pre _ => c = .ret ∧ ¬ Tens pre)
    (OwnFrom.and (ownFrom_pure _ _) (OwnFrom.and (Own.from (boxed_own _ _ _) _) (OwnFrom.and (Own.from (boxed_own _ _ _) _) (ownFrom_below (Nat.le_refl _) (by omega)))))
    (fun _ => ownFrom_pure _ _)
    ⟨rfl, b0, b1, hB0⟩
    (fun x => { tmps := #[.pointer (some ⟨w.heap.size, 0, none⟩), .pointer (some ⟨w.heap.size + 1, 0, none⟩), .int .i64 x,
          Value.func (Fn.func 22) #[] #[Value.pointer (some { block := w.heap.size + 1 + 1 + 1, off := 0 }), Value.pointer (some { block := w.heap.size + 1 + 1, off := 0 })],
          Value.bool false,
          Value.func (Fn.func 22) #[] #[Value.pointer (some { block := w.heap.size + 1 + 1 + 1 + 1 + 1, off := 0 }), Value.pointer (some { block := w.heap.size + 1 + 1 + 1 + 1, off := 0 })],
          .int .i64 x, undef, undef, undef, undef, undef, undef, undef, undef, undef, undef, undef, undef, undef, undef,
          undef, undef, undef, undef, undef, undef, undef, undef, undef, undef, undef, undef], defers := [] }) ?assign ?body ?done ?stop
  case assign =>
    intro l x W K hK
    gi_wp2
    exact hK
  case body =>
    rintro l pre x W ⟨hT, c0, c1, hB⟩ hlen
    have ew := ten_w hlen
    have ew1 := one_w hlen
    have k0 := c0.cell
    have k1 := c1.cell
    have f0 := c0.frozen
    have f1 := c1.frozen
    by_cases hx : x = 10 * (pre.length : Int)
    · gi_wp2
      exact ⟨KeepsOthers.setCell _ _ _, (Kb.refl _ W).set (by omega) _, hT.snoc hx, c0.other (by omega) _, by simpa using c1.set _, hB.setCell (p := ⟨w.heap.size + 1, 0, none⟩) (by simp) _⟩
    · gi_wp2
      exact ⟨KeepsOthers.setCell _ _ _, rfl, fun h => hx h.last⟩
  case done =>
    rintro D ys W hD rfl ⟨_, c0, c1, hB⟩ hK
    rw [starts_36, tens_len] at c1
    have k0 := c0.cell
    have k1 := c1.cell
    have f0 := c0.frozen
    gi_wp2
    refine ⟨trivial, (callsIn_wide.2 (start_any _ _)).mono ?_⟩
    rintro e w' ⟨rfl, rfl⟩
    rw [show startI 9 = 0 by decide]
    gi_wp2
    refine ⟨trivial, (callsIn_wide.2 (end_any _ _)).mono ?_⟩
    rintro e w' ⟨rfl, rfl⟩
    rw [show endI 10 = 20 by decide]
    gi_wp2
    refine ⟨trivial, (callsIn_wide.2 (over_any _ _ _)).mono ?_⟩
    rintro e w' ⟨rfl, rfl⟩
    rw [show overI 0 15 = true by decide]
    gi_wp2
    refine ⟨trivial, (callsIn_wide.2 (over_any _ _ _)).mono ?_⟩
    rintro e w' ⟨rfl, rfl⟩
    rw [show overI 0 14 = false by decide]
    gi_wp2
    refine ⟨trivial, (callsIn_wide.2 (late_any _ _ _)).mono ?_⟩
    rintro e w' ⟨rfl, rfl⟩
    rw [show lateI 9 15 = true by decide]
    gi_wp2
    have hK' := (KeepsOthers.setCell w' ⟨w.heap.size, 0, none⟩ (.bool true)).same D _ hK rfl
    refine ⟨by simp, .inl ⟨_, _, rfl, run_takeDeferred hK', ?_⟩⟩
    have hc5 := cell_kept (c0.set (.bool true)).cell (grownBy_putObj' _ D (.deferred none)) (fun r e => by cases e; exact ⟨_, hK', rfl⟩)
    refine ⟨.bool true, ?_, rfl, (hB.setCell (p := ⟨w.heap.size, 0, none⟩) (by simp) _).trans (belowK_b (w := w) (Nat.le_refl _) _ D _ _ (by omega) hK' rfl rfl)⟩
    simp [results, Try.f19, go_sem, hc5]
  case stop =>
    rintro D c pre W _ hpre ⟨_, hn⟩ _
    rw [starts_36] at hpre
    exact (hn (tens_pre hpre)).elim

theorem wakes_any (w : World) : Calls Try.prog 19 #[] w fun e W' => e = .returned (.bool true) ∧ Below w.heap.size w W' := callsIn_wide.1 (wakes_in w)
end Go.Proofs.Ytjmbiljeincocaa

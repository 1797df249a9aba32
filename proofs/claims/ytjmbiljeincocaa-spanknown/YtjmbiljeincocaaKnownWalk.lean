/- SpanKnown's walk: the chapter's examples, and the ends. -/
import Derived.Test.YtjmbiljeincocaaApp
namespace Go.Proofs.Ytjmbiljeincocaa
open Go.RowKit Go.Shelf

attribute [local go_sem] Oper.semAt_some run_fnil

theorem St.rowed {w0 W : World} {bs : List (Nat × TypeId × Value)} {Ds : List Nat} {v : Value} {l : List Int} (h : St w0 bs [] Ds W) (hr : W.ownsRow w0.heap.size 2 1 v l.length (intCells l)) : St w0 bs [(v, l)] Ds W :=
  ⟨h.box, fun r hx => by obtain rfl := List.mem_singleton.1 hx; exact hr, h.mark, h.ge, h.mge, h.below⟩
theorem upL_whole {m : Int} (hm : 0 ≤ m ∧ m ≤ 1099511627776) : ∀ (k : Nat) (x : Int), 0 ≤ x → x % 10 = 0 → x + 10 * k + 5 ≤ m → (upL m k x).length = k
  | 0, x, _, _, _ => rfl
  | k + 1, x, h0, h1, h => by
    have ho : isOver x m := ⟨by omega, hm, by omega⟩
    rw [upL, if_pos ho, List.length_cons, upL_whole hm k (x + 10) (by omega) (by omega) (by omega)]
theorem starts_top : (startsL 1099511627776 0).length = 1000 := by
  unfold startsL
  rw [if_pos (by omega)]
  have e : firstI 0 = 0 := by decide
  rw [e]
  exact upL_whole (by omega) 1000 0 (by omega) (by omega) (by omega)
/-- The boxes of the second way. -/
def BK (h g bm bs : Nat) (v : Value) (n : Nat) : List (Nat × TypeId × Value) := [(g, 3, .int .i64 n), (h, 26, v), (bm, 2, .int .i64 1099511627776), (bs, 2, .int .i64 0)]

set_option maxRecDepth 100000 in
set_option maxHeartbeats 4000000 in
theorem known_in (w : World) : CallsIn Fence.wide 11 Try.prog 7 #[] w fun e W' => e = .returned (.bool true) ∧ Below w.heap.size w W' := by
  refine callsIn_of_wp_marks Try.func7 rfl trivial ?_ rfl
  simp only [Try.ntmps7, List.size_toArray, List.length_nil, Nat.reduceSub, Array.replicate_succ, Array.replicate_zero, List.push_toArray, List.append_toArray, List.nil_append, List.cons_append]
  gi_wp2
  refine ⟨trivial, (callsIn_wide.2 (starts_any _ _ _)).mono ?_⟩
  rintro e w2 ⟨rfl, rfl⟩
  gi_wp2
  refine ⟨trivial, (callsIn_wide.2 (starts_any _ _ _)).mono ?_⟩
  rintro e w2 ⟨rfl, rfl⟩
  gi_wp2
  obtain ⟨W0, hW0⟩ : ∃ W0, (((((w.alloc (Obj.cells #[Value.slice none 0 0] 26)).alloc (Obj.cells #[Value.int IntKind.i64 36] 2)).alloc (Obj.cells #[Value.int IntKind.i64 14] 2)).alloc (Obj.cells #[Value.int IntKind.i64 36] 2)).alloc (Obj.cells #[Value.int IntKind.i64 14] 2)) = W0 := ⟨_, rfl⟩
  have hsz : W0.heap.size = w.heap.size + 5 := by rw [← hW0]; simp
  have S0' := (((((St.start w).add (.slice none 0 0) 26).add (.int .i64 36) 2).add (.int .i64 14) 2).add (.int .i64 36) 2).add (.int .i64 14) 2
  simp only [World.size_alloc] at S0'
  rw [hW0] at S0' ⊢
  clear hW0
  obtain ⟨h, hh⟩ : ∃ h, w.heap.size = h := ⟨_, rfl⟩
  simp only [hh] at S0' hsz ⊢
  have A0 : Acc w h (h + 5) [(h + 1 + 1 + 1, 2, .int .i64 36), (h + 1 + 1 + 1 + 1, 2, .int .i64 14)] [] [] W0 := ⟨_, S0'.perm (by simp), owns_none _ _⟩
  clear S0'
  have hb1 : ∀ y ∈ ([(h + 1 + 1 + 1, 2, .int .i64 36), (h + 1 + 1 + 1 + 1, 2, .int .i64 14)] : List (Nat × TypeId × Value)), y.1 ≠ h ∧ y.1 < h + 5 := by
    intro y hy
    simp at hy
    rcases hy with rfl | rfl <;> simp <;> omega
  obtain ⟨v0, hv0, _⟩ := A0.ex
  have b4 := hv0.box (h + 1 + 1 + 1, 2, .int .i64 36) (by simp)
  have b5 := hv0.box (h + 1 + 1 + 1 + 1, 2, .int .i64 14) (by simp)
  clear hv0
  refine wpIn_rangeFunc_ownF rfl (by omega) (gf := 22) (lb := #[.pointer (some ⟨h + 1 + 1 + 1 + 1, 0, none⟩), .pointer (some ⟨h + 1 + 1 + 1, 0, none⟩)]) rfl trivial (enters_of Try.func22 (by kernel_rfl) rfl)
    (starts_stops _ _ 36 14 W0 b4 b5) Kb.trans (fun W l o o' _ h1 h2 _ => Kb.putObj W l o o' h1 h2) (Below.refl _ _) (fun _ => rfl)
    (fun pre W => Acc w h (h + 5) [(h + 1 + 1 + 1, 2, .int .i64 36), (h + 1 + 1 + 1 + 1, 2, .int .i64 14)] [] pre W)
    (fun _ _ _ => False)
    (Acc.own (by omega) (by simp))
    (fun _ => ownFrom_pure _ _)
    A0
    _ (fun l x W K hK => by gi_wp2; exact hK) ?body ?done ?stop
  case body =>
    rintro l pre x W hA hlen
    obtain ⟨v1, hv1, _⟩ := hA.ex
    have hlt := (hv1.box (h + 1 + 1 + 1 + 1, 2, .int .i64 14) (by simp)).lt
    obtain ⟨v, g, cap, w3, k1, k2, k3, hr, hK, hKb, hA'⟩ := hA.step x (by omega) (by omega) hlt hb1
    have HR := hide hr
    have HK := hide hK
    have HKb := hide (hKb (h + 1 + 1 + 1, 2, .int .i64 36) (by simp))
    have HA := hide hA'
    clear hr hK hKb hA' hA hv1 hlt A0 b4 b5 hb1
    gi_wp2_with (gi_at_builtin; refine wpListIn_app rfl _ _ 26 26 rfl rfl rfl (unhide HR) ?_)
    exact ⟨unhide HK, unhide HKb, unhide HA⟩
  case stop =>
    rintro D c pre W _ _ k _
    exact k.elim
  case done =>
    rintro D1 ys W hD rfl hA hK0
    obtain ⟨v, hS, hR⟩ := hA.ex
    rw [show startsL 36 14 = [0, 10, 20] by decide] at hR
    obtain ⟨gr, cap, rfl⟩ := ownsRow_succ hR
    have S1 := hide (((hS.give hK0 (by omega)).perm (bs' := [(h, 26, .slice (some ⟨gr, 0, none⟩) 3 cap)]) (by simp)).rowed (owns_le hR (by omega)))
    have hDl := (Array.getElem?_eq_some_iff.1 hK0).1
    clear hA hS hR hK0 A0 b4 b5 hb1
    gi_wp2
    refine ⟨trivial, (callsIn_wide.2 (starts_any _ _ _)).mono ?_⟩
    rintro e w2 ⟨rfl, rfl⟩
    gi_wp2
    refine ⟨trivial, (callsIn_wide.2 (starts_any _ _ _)).mono ?_⟩
    rintro e w2 ⟨rfl, rfl⟩
    gi_wp2
    obtain ⟨W2, hW2⟩ : ∃ W2, (((((W.alloc (Obj.cells #[Value.int IntKind.i64 0] 3)).alloc (Obj.cells #[Value.int IntKind.i64 1099511627776] 2)).alloc (Obj.cells #[Value.int IntKind.i64 0] 2)).alloc (Obj.cells #[Value.int IntKind.i64 1099511627776] 2)).alloc (Obj.cells #[Value.int IntKind.i64 0] 2)) = W2 := ⟨_, rfl⟩
    have hsz2 : W2.heap.size = W.heap.size + 5 := by rw [← hW2]; simp
    have S' := (((((unhide S1).add (.int .i64 0) 3).add (.int .i64 1099511627776) 2).add (.int .i64 0) 2).add (.int .i64 1099511627776) 2).add (.int .i64 0) 2
    simp only [World.size_alloc] at S'
    rw [hW2] at S' ⊢
    clear hW2 S1
    obtain ⟨g, hg⟩ : ∃ g, g = W.heap.size := ⟨_, rfl⟩
    rw [← hg] at S' hsz2 hDl ⊢
    obtain ⟨bm, hbm⟩ : ∃ b, b = g + 1 + 1 + 1 := ⟨_, rfl⟩
    obtain ⟨bs, hbs⟩ : ∃ b, b = g + 1 + 1 + 1 + 1 := ⟨_, rfl⟩
    rw [← hbs, ← hbm]
    have S : St w (BK h g bm bs (.slice (some ⟨gr, 0, none⟩) 3 cap) 0) [(.slice (some ⟨gr, 0, none⟩) 3 cap, [0, 10, 20])] [D1] W2 := S'.perm (by rw [hbm, hbs]; simp [BK])
    clear S' hg
    have nb : ¬ bm = g ∧ ¬ bs = g := by omega
    clear hbm hbs
    refine wpIn_rangeFunc_ownF rfl (by omega) (gf := 22) (lb := #[.pointer (some ⟨bs, 0, none⟩), .pointer (some ⟨bm, 0, none⟩)]) rfl trivial (enters_of Try.func22 (by kernel_rfl) rfl)
      (starts_stops bm bs 1099511627776 0 W2 (S.box (bm, 2, .int .i64 1099511627776) (by simp [BK])) (S.box (bs, 2, .int .i64 0) (by simp [BK]))) Kb.trans (fun W l o o' _ h1 h2 _ => Kb.putObj W l o o' h1 h2) (Below.refl _ _) (fun _ => rfl)
      (fun pre W => St w (BK h g bm bs (.slice (some ⟨gr, 0, none⟩) 3 cap) pre.length) [(.slice (some ⟨gr, 0, none⟩) 3 cap, [0, 10, 20])] [D1] W)
      (fun _ _ _ => False)
      (St.own _ _ (by omega) (by simp; omega))
      (fun _ => ownFrom_pure _ _)
      S
      _ (fun l x W K hK => by gi_wp2; exact hK) ?body ?done ?stop
    case body =>
      clear S
      rintro l pre x W hS hlen
      have ew1 := one_w hlen
      have c9 := hS.box (g, 3, .int .i64 pre.length) (by simp [BK])
      have k9 := c9.cell
      have f9 := c9.frozen
      have HS := hide hS
      clear c9 hS
      gi_wp2
      refine ⟨KeepsOthers.setCell _ _ _, (Kb.refl _ W).set (by omega) _, ?_⟩
      show St w (BK h g bm bs (.slice (some ⟨gr, 0, none⟩) 3 cap) (pre ++ [x]).length) _ _ _
      rw [List.length_append, List.length_singleton]
      exact (unhide HS).set (by simp; omega) (by decide) _
    case stop =>
      rintro D c pre W _ _ k _
      exact k.elim
    case done =>
      rintro D2 ys W5 hD2 rfl hS hK
      rw [starts_top] at hS
      have c9 := hS.box (g, 3, .int .i64 (1000 : Nat)) (by simp [BK])
      have c7 := hS.box (h, 26, .slice (some ⟨gr, 0, none⟩) 3 cap) (by simp [BK])
      have k9 : W5.cell? ⟨g, 0, none⟩ = some (.int .i64 1000) := c9.cell
      have k7 := c7.cell
      obtain ⟨A', cap', e, hI⟩ := ints_of_owns (hS.row _ List.mem_cons_self)
      cases e
      have i0 : W5.cell? ⟨gr, 0, none⟩ = some (.int .i64 0) := by obtain ⟨y, e, hc⟩ := hI 0 (by simp); cases e; simpa [Addr.add_lit] using hc
      have i1 : W5.cell? ⟨gr, 1, none⟩ = some (.int .i64 10) := by obtain ⟨y, e, hc⟩ := hI 1 (by simp); cases e; simpa [Addr.add_lit] using hc
      have i2 : W5.cell? ⟨gr, 2, none⟩ = some (.int .i64 20) := by obtain ⟨y, e, hc⟩ := hI 2 (by simp); cases e; simpa [Addr.add_lit] using hc
      have S6 := hide (hS.give hK (by omega))
      clear hS c9 c7 hK S hI
      gi_wp2
      refine ⟨trivial, (callsIn_wide.2 (start_any _ _)).mono ?_⟩
      rintro e w' ⟨rfl, hw⟩; replace hw := hw.symm; subst hw
      rw [show startI 0 = 0 by decide]
      gi_wp2
      refine ⟨trivial, (callsIn_wide.2 (start_any _ _)).mono ?_⟩
      rintro e w' ⟨rfl, hw⟩; replace hw := hw.symm; subst hw
      rw [show startI 9 = 0 by decide]
      gi_wp2
      refine ⟨trivial, (callsIn_wide.2 (start_any _ _)).mono ?_⟩
      rintro e w' ⟨rfl, hw⟩; replace hw := hw.symm; subst hw
      rw [show startI 10 = 10 by decide]
      gi_wp2
      refine ⟨trivial, (callsIn_wide.2 (start_any _ _)).mono ?_⟩
      rintro e w' ⟨rfl, hw⟩; replace hw := hw.symm; subst hw
      rw [show startI (-1) = -1 by decide]
      gi_wp2
      refine ⟨trivial, (callsIn_wide.2 (start_any _ _)).mono ?_⟩
      rintro e w' ⟨rfl, hw⟩; replace hw := hw.symm; subst hw
      rw [show startI 1099511627776 = 1099511627770 by decide]
      gi_wp2
      refine ⟨trivial, (callsIn_wide.2 (start_any _ _)).mono ?_⟩
      rintro e w' ⟨rfl, hw⟩; replace hw := hw.symm; subst hw
      rw [show startI 1099511627777 = -1 by decide]
      gi_wp2
      refine ⟨trivial, (callsIn_wide.2 (end_any _ _)).mono ?_⟩
      rintro e w' ⟨rfl, hw⟩; replace hw := hw.symm; subst hw
      rw [show endI 10 = 20 by decide]
      gi_wp2
      refine ⟨trivial, (callsIn_wide.2 (end_any _ _)).mono ?_⟩
      rintro e w' ⟨rfl, hw⟩; replace hw := hw.symm; subst hw
      rw [show endI 11 = -1 by decide]
      gi_wp2
      refine ⟨trivial, (callsIn_wide.2 (end_any _ _)).mono ?_⟩
      rintro e w' ⟨rfl, hw⟩; replace hw := hw.symm; subst hw
      rw [show endI (-10) = -1 by decide]
      gi_wp2
      refine ⟨trivial, (callsIn_wide.2 (end_any _ _)).mono ?_⟩
      rintro e w' ⟨rfl, hw⟩; replace hw := hw.symm; subst hw
      rw [show endI 0 = 10 by decide]
      gi_wp2
      refine ⟨trivial, (callsIn_wide.2 (over_any _ _ _)).mono ?_⟩
      rintro e w' ⟨rfl, hw⟩; replace hw := hw.symm; subst hw
      rw [show overI 0 14 = false by decide]
      gi_wp2
      refine ⟨trivial, (callsIn_wide.2 (over_any _ _ _)).mono ?_⟩
      rintro e w' ⟨rfl, hw⟩; replace hw := hw.symm; subst hw
      rw [show overI 0 15 = true by decide]
      gi_wp2
      refine ⟨trivial, (callsIn_wide.2 (late_any _ _ _)).mono ?_⟩
      rintro e w' ⟨rfl, hw⟩; replace hw := hw.symm; subst hw
      rw [show lateI 9 15 = true by decide]
      gi_wp2
      refine ⟨trivial, (callsIn_wide.2 (late_any _ _ _)).mono ?_⟩
      rintro e w' ⟨rfl, hw⟩; replace hw := hw.symm; subst hw
      rw [show lateI 10 24 = false by decide]
      gi_wp2
      refine ⟨trivial, (callsIn_wide.2 (late_any _ _ _)).mono ?_⟩
      rintro e w' ⟨rfl, hw⟩; replace hw := hw.symm; subst hw
      rw [show lateI 10 25 = true by decide]
      gi_wp2
      refine ⟨trivial, (callsIn_wide.2 (over_any _ _ _)).mono ?_⟩
      rintro e w' ⟨rfl, hw⟩; replace hw := hw.symm; subst hw
      rw [show overI 0 1099511627777 = false by decide]
      gi_wp2
      refine ⟨trivial, (callsIn_wide.2 (over_any _ _ _)).mono ?_⟩
      rintro e w' ⟨rfl, hw⟩; replace hw := hw.symm; subst hw
      rw [show overI (-10) 100 = false by decide]
      gi_wp2
      refine ⟨trivial, (callsIn_wide.2 (wakes_any _)).mono ?_⟩
      rintro e W7 ⟨rfl, hb⟩
      have T1 := (unhide S6).call hb
      clear S6 hb
      gi_wp2
      have T2 := T1.take (show D2 ∉ [D1] by simp; omega)
      have T3 := T2.take (show D1 ∉ [] by simp)
      refine ⟨by simp, .inl ⟨_, _, rfl, run_takeDeferred (T1.mark D2 List.mem_cons_self), ?_⟩⟩
      refine ⟨by simp, .inl ⟨_, _, rfl, run_takeDeferred (T2.mark D1 List.mem_cons_self), ?_⟩⟩
      exact ⟨.bool true, by simp [results, Try.f7, go_sem], rfl, T3.below⟩

theorem known_any (w : World) : Calls Try.prog 7 #[] w fun e W' => e = .returned (.bool true) ∧ Below w.heap.size w W' := callsIn_wide.1 (known_in w)
end Go.Proofs.Ytjmbiljeincocaa

/- A body that puts one number more on a row of one's own, in a variable's box, within a round of a range over a function. No conditions. -/
import Derived.Test.YtjmbiljeincocaaSt
namespace Go.Proofs.Ytjmbiljeincocaa
open Go.RowKit Go.Shelf

theorem wpListIn_app {F : Fence} {n : Nat} {w : World} {ops : Array Oper} {rest : List Oper} {o : Oper} {a : Act} {Q : Exit → Act → World → Prop} (hgd : o.guard = none) (s x : Operand) (t tx : TypeId)
    (ho : o.op = .call { callee := .builtin .append, args := #[s, x], argTypes := #[t, tx] }) {v xv v' : Value} {w' : World} (hs : a.eval s = v) (hx : a.eval x = xv)
    (hr : ∀ ty, (Builtin.append_ #[t, tx] ty #[v, xv]).run Try.prog w = .ok v' w') (h : wpListIn F n Try.prog ops Q rest (a.put o.dst v') w') : wpListIn F n Try.prog ops Q (o :: rest) a w := by
  refine wpListIn_plain hgd fun K hK' => ?_
  unfold Oper.wpIn
  refine ⟨?_, ?_⟩
  · simp [Oper.about, ho, resolve, Target.leads, Sem.run_pure]
  · rw [Oper.semAt_plain F _ _ (by rw [ho]; intro c hc'; cases hc')]
    simp [execOp, ho, resolve, invoke, builtin, hs, hx, hr, Result.andThen]
    exact hK' _ _ h

/-- One int more: what the append does to the world, told whole. -/
theorem app_grown {w : World} {base : Nat} {v : Value} {l : List Int} (h : w.ownsRow base 2 1 v l.length (intCells l)) (x : Int) (hl : l.length ≤ 100000) (hb : base ≤ w.heap.size) :
    ∃ g cap w', (∀ ty, (Builtin.append_ #[26, 26] ty #[v, .slice (some ⟨w.heap.size, 0, none⟩) 1 1]).run Try.prog (w.alloc (.cells #[.int .i64 x] 2)) = .ok (.slice (some ⟨g, 0, none⟩) (l.length + 1) cap) w') ∧
      w'.ownsRow base 2 1 (.slice (some ⟨g, 0, none⟩) (l.length + 1) cap) (l ++ [x]).length (intCells (l ++ [x])) ∧ (w.alloc (.cells #[.int .i64 x] 2)).grownBy w' v.ownBlock := by
  obtain ⟨i0, hi, hz0, hz1, hz2⟩ := info_parts info2
  have hnews : ∀ j u, (intCells [x])[j]? = some u → (w.alloc (.cells #[.int .i64 x] 2)).cell? ((⟨w.heap.size, 0, none⟩ : Addr).add j) = some u := fun j u hj => by
    match j, hj with
    | 0, hj =>
      simp [intCells] at hj
      subst hj
      rw [Addr.add_lit]; simp
    | j + 1, hj => simp [intCells] at hj
  have h1 : ∀ u ∈ intCells [x], u.oneCell' = true := fun u hu => by simp [intCells] at hu; subst hu; rfl
  have key : ∀ ty, ∃ v' w', (Builtin.append_ #[26, 26] ty #[v, .slice (some ⟨w.heap.size, 0, none⟩) 1 1]).run Try.prog (w.alloc (.cells #[.int .i64 x] 2)) = .ok v' w' ∧ w'.ownsRow base 2 1 v' (l.length + 1) (intCells l ++ intCells [x]) ∧ (w.alloc (.cells #[.int .i64 x] 2)).grownBy w' v.ownBlock := fun ty => by
    obtain ⟨v', w', h2, h3, h4, _⟩ := run_append_own (P := Try.prog) (w.alloc (.cells #[.int .i64 x] 2)) base 26 ty 2 i0 (.int .i64 0) 1 8 Try.underlying26 hi hz0 hz1 hz2 rfl (by decide) v l.length (intCells l) (h.alloc _) ⟨w.heap.size, 0, none⟩ 1 1 (intCells [x]) rfl hnews h1
      (by unfold maxLen; omega) (by omega) (by simp; omega)
    exact ⟨v', w', h2, h3, h4⟩
  obtain ⟨v', w', h2, h3, h4⟩ := key 0
  have hc : intCells (l ++ [x]) = intCells l ++ intCells [x] := by simp [intCells]
  have hn : (l ++ [x]).length = l.length + 1 := by simp
  obtain ⟨g, cap, rfl⟩ := ownsRow_succ h3
  rw [hc, hn]
  exact ⟨g, cap, w', fun ty => h2, h3, h4⟩
theorem owns_le {w : World} {b c e size n : Nat} {v : Value} {xs : List Value} (h : w.ownsRow c e size v n xs) (hb : b ≤ c) : w.ownsRow b e size v n xs :=
  ⟨h.1, h.2.imp id (by rintro ⟨g, cap, cur, e, a0, a2⟩; exact ⟨g, cap, cur, e, Nat.le_trans hb a0, a2⟩)⟩
theorem Kb.kept {B : Nat} {X Y : World} {row : Option Nat} (hg : X.grownBy Y row) (hne : some B ≠ row) : Kb B X Y := fun _ _ e => e.kept hg hne

/-- Boxes bs, and box b, which holds a row of one's own that lies from rb on. -/
structure Acc (w0 : World) (b rb : Nat) (bs : List (Nat × TypeId × Value)) (Ds : List Nat) (l : List Int) (W : World) : Prop where
  ex : ∃ v, St w0 ((b, 26, v) :: bs) [] Ds W ∧ W.ownsRow rb 2 1 v l.length (intCells l)
theorem Acc.own {w0 : World} {b rb B : Nat} {bs : List (Nat × TypeId × Value)} {Ds : List Nat} (hB : w0.heap.size ≤ B) (hD : ∀ D ∈ Ds, D < B) : OwnFrom B (fun (l : List Int) W => Acc w0 b rb bs Ds l W) := by
  rintro l X Y row ⟨v, h1, h2⟩ hg hr
  refine ⟨v, h1.grown hg (fun r e => ⟨Nat.le_trans hB (hr r e).1, fun hm => by have := hD r hm; have := (hr r e).1; omega, fun o ho => by obtain ⟨o', k1, k2⟩ := (hr r e).2; rw [ho] at k1; cases k1; exact k2⟩), h2.kept hg ?_⟩
  rcases h2.2 with ⟨e, _⟩ | ⟨g, cap, cur, e, _, hgb, _⟩
  · exact .inl (by rw [e]; rfl)
  · refine .inr fun e' => ?_
    obtain ⟨o, ho, hc⟩ := (hr g (by rw [← e', e]; rfl)).2
    rw [hgb] at ho; cases ho; cases hc
/-- What the walk of 'l = append(l, x)' owes, ahead of it. -/
theorem Acc.step {w0 W : World} {b rb : Nat} {bs : List (Nat × TypeId × Value)} {Ds : List Nat} {l : List Int} (h : Acc w0 b rb bs Ds l W) (x : Int) (hl : l.length ≤ 100000) (hrb : w0.heap.size ≤ rb) (hW : rb ≤ W.heap.size)
    (hb : ∀ y ∈ bs, y.1 ≠ b ∧ y.1 < rb) :
    ∃ v g cap w3, W.cell? ⟨b, 0, none⟩ = some v ∧ w3.cell? ⟨b, 0, none⟩ = some v ∧ w3.frozen? ⟨b, 0, none⟩ = false ∧
      (∀ ty, (Builtin.append_ #[26, 26] ty #[v, .slice (some ⟨W.heap.size, 0, none⟩) 1 1]).run Try.prog (W.alloc (.cells #[.int .i64 x] 2)) = .ok (.slice (some ⟨g, 0, none⟩) (l.length + 1) cap) w3) ∧
      KeepsOthers W (w3.setCell ⟨b, 0, none⟩ (.slice (some ⟨g, 0, none⟩) (l.length + 1) cap)) ∧ (∀ y ∈ bs, Kb y.1 W (w3.setCell ⟨b, 0, none⟩ (.slice (some ⟨g, 0, none⟩) (l.length + 1) cap))) ∧
      Acc w0 b rb bs Ds (l ++ [x]) (w3.setCell ⟨b, 0, none⟩ (.slice (some ⟨g, 0, none⟩) (l.length + 1) cap)) := by
  obtain ⟨v, hS, hR⟩ := h.ex
  obtain ⟨g, cap, w3, hr, hown, hg⟩ := app_grown hR x hl hW
  have hv : Boxed W b 26 v := hS.box (b, 26, v) List.mem_cons_self
  have hge : w0.heap.size ≤ b := hS.ge (b, 26, v) List.mem_cons_self
  obtain ⟨a1, a2, a3, a4, a5⟩ := Boxed.appended (n₀ := w0.heap.size) hv (by decide) (owns_le hR hrb) hS.below.size hge (owns_le hown hrb) hg
  have hlt := hR.lt
  refine ⟨v, g, cap, w3, hv.cell, a1.cell, a1.frozen, hr, a4, fun y hy t u e => ?_, ⟨.slice (some ⟨g, 0, none⟩) (l.length + 1) cap, ⟨fun y hy => ?_, by simp, fun D hD' => ?_, fun y hy => ?_, hS.mge, hS.below.trans a5⟩, ?_⟩⟩
  · refine Boxed.other ((e.alloc _).kept hg (fun e' => ?_)) (hb y hy).1 _
    have := (hlt y.1 e'.symm).1; have := (hb y hy).2; omega
  · rcases List.mem_cons.1 hy with rfl | hy
    · exact a2
    · refine Boxed.other (((hS.box y (List.mem_cons_of_mem _ hy)).alloc _).kept hg (fun e' => ?_)) (hb y hy).1 _
      have := (hlt y.1 e'.symm).1; have := (hb y hy).2; omega
  · exact a4.same D _ (hS.mark D hD') rfl
  · rcases List.mem_cons.1 hy with rfl | hy
    · exact hge
    · exact hS.ge y (List.mem_cons_of_mem _ hy)
  · exact hown.kept (grownBy_setCell' w3 b _) (.inr (a1.not_row (by decide) hown).symm)
end Go.Proofs.Ytjmbiljeincocaa

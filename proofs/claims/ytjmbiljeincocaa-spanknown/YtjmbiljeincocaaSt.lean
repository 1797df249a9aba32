/- What a law's own code holds while it ranges over functions: boxes, rows of numbers, marks for deferred calls. No conditions. -/
import Derived.Test.YtjmbiljeincocaaWakes
import Derived.Test.YtjmbiljeincocaaLst
namespace Go.Proofs.Ytjmbiljeincocaa
open Go.RowKit Go.Shelf

structure St (w0 : World) (bs : List (Nat × TypeId × Value)) (rs : List (Value × List Int)) (Ds : List Nat) (W : World) : Prop where
  box : ∀ x ∈ bs, Boxed W x.1 x.2.1 x.2.2
  row : ∀ r ∈ rs, W.ownsRow w0.heap.size 2 1 r.1 r.2.length (intCells r.2)
  mark : ∀ D ∈ Ds, W.heap[D]? = some (.deferred (some []))
  ge : ∀ x ∈ bs, w0.heap.size ≤ x.1
  mge : ∀ D ∈ Ds, w0.heap.size ≤ D
  below : Below w0.heap.size w0 W
variable {w0 X Y W W' : World} {bs : List (Nat × TypeId × Value)} {rs : List (Value × List Int)} {Ds : List Nat}

theorem St.start (w : World) : St w [] [] [] w := ⟨by simp, by simp, by simp, by simp, by simp, Below.refl _ _⟩
theorem St.grown {row : Option Nat} (h : St w0 bs rs Ds X) (hg : X.grownBy Y row) (hr : ∀ r, row = some r → w0.heap.size ≤ r ∧ r ∉ Ds ∧ ∀ o : Obj, X.heap[r]? = some o → o.isCells = false) : St w0 bs rs Ds Y := by
  refine ⟨fun x hx => ?_, fun r hx => ?_, fun D hx => ?_, h.ge, h.mge, h.below.grown hg h.below.size (fun k e => (hr k e).1)⟩
  · refine (h.box x hx).kept hg (fun e => ?_)
    have := (hr _ e.symm).2.2 _ (h.box x hx)
    cases this
  · have hR := h.row r hx
    refine hR.kept hg ?_
    rcases hR.2 with ⟨e, _⟩ | ⟨g, cap, cur, e, _, hgb, _⟩
    · exact .inl (by rw [e]; rfl)
    · refine .inr fun e' => ?_
      have := (hr g (by rw [← e', e]; rfl)).2.2 _ hgb
      cases this
  · have := h.mark D hx
    refine (hg.block D (Array.getElem?_eq_some_iff.1 this).1 (fun e => ?_)).trans this
    exact (hr D e.symm).2.1 hx
theorem St.own {β : Type} {B : Nat} (f : β → List (Nat × TypeId × Value)) (g : β → List (Value × List Int)) (hB : w0.heap.size ≤ B) (hD : ∀ D ∈ Ds, D < B) : OwnFrom B (fun s W => St w0 (f s) (g s) Ds W) :=
  fun s X Y row hs hg hr => hs.grown hg (fun r e => ⟨Nat.le_trans hB (hr r e).1, fun hm => by have := hD r hm; have := (hr r e).1; omega, fun o ho => by obtain ⟨o', h1, h2⟩ := (hr r e).2; rw [ho] at h1; cases h1; exact h2⟩)
theorem St.alloc (h : St w0 bs rs Ds W) (o : Obj) : St w0 bs rs Ds (W.alloc o) := h.grown (World.grownBy_alloc W o none) (fun r e => by cases e)
theorem St.add (h : St w0 bs rs Ds W) (v : Value) (t : TypeId) : St w0 ((W.heap.size, t, v) :: bs) rs Ds (W.alloc (.cells #[v] t)) := by
  have h' := h.alloc (.cells #[v] t)
  refine ⟨fun x hx => ?_, h'.row, h'.mark, fun x hx => ?_, h'.mge, h'.below⟩
  · rcases List.mem_cons.1 hx with rfl | hx
    · exact Boxed.new W t v
    · exact h'.box x hx
  · rcases List.mem_cons.1 hx with rfl | hx
    · exact h.below.size
    · exact h.ge x hx
theorem St.call (h : St w0 bs rs Ds W) (hb : Below W.heap.size W W') : St w0 bs rs Ds W' := by
  refine ⟨fun x hx => ?_, fun r hx => ?_, fun D hx => ?_, h.ge, h.mge, h.below.trans (hb.mono h.below.size)⟩
  · exact (hb.block _ (h.box x hx).lt).trans (h.box x hx)
  · obtain ⟨h1, h2⟩ := h.row r hx
    refine ⟨h1, h2.imp id ?_⟩
    rintro ⟨g, cap, cur, e, a0, a2, a3⟩
    exact ⟨g, cap, cur, e, a0, (hb.block g (Array.getElem?_eq_some_iff.1 a2).1).trans a2, a3⟩
  · have := h.mark D hx
    exact (hb.block D (Array.getElem?_eq_some_iff.1 this).1).trans this
theorem St.set {b : Nat} {t : TypeId} {v : Value} (h : St w0 ((b, t, v) :: bs) rs Ds W) (hn : ∀ x ∈ bs, x.1 ≠ b) (ht : t ≠ 2) (v' : Value) : St w0 ((b, t, v') :: bs) rs Ds (W.setCell ⟨b, 0, none⟩ v') := by
  have hb : Boxed W b t v := h.box (b, t, v) List.mem_cons_self
  refine ⟨fun x hx => ?_, fun r hx => ?_, fun D hx => ?_, fun x hx => ?_, h.mge, h.below.setCell (p := ⟨b, 0, none⟩) (h.ge (b, t, v) List.mem_cons_self) _⟩
  · rcases List.mem_cons.1 hx with rfl | hx
    · exact hb.set v'
    · exact (h.box x (List.mem_cons_of_mem _ hx)).other (hn x hx) v'
  · exact (h.row r hx).kept (grownBy_setCell' W b v') (.inr (hb.not_row ht (h.row r hx)).symm)
  · have := h.mark D hx
    refine ((grownBy_setCell' W b v').block D (Array.getElem?_eq_some_iff.1 this).1 (fun e => ?_)).trans this
    rw [Option.some.inj e, show W.heap[b]? = _ from hb] at this
    cases this
  · rcases List.mem_cons.1 hx with rfl | hx
    · exact h.ge (b, t, v) List.mem_cons_self
    · exact h.ge x (List.mem_cons_of_mem _ hx)
theorem St.give (h : St w0 bs rs Ds W) {D : Nat} (hD : W.heap[D]? = some (.deferred (some []))) (hg : w0.heap.size ≤ D) : St w0 bs rs (D :: Ds) W :=
  ⟨h.box, h.row, fun x hx => (List.mem_cons.1 hx).elim (fun e => by rw [e]; exact hD) (h.mark x), h.ge, fun x hx => (List.mem_cons.1 hx).elim (fun e => by rw [e]; exact hg) (h.mge x), h.below⟩
theorem St.lose {D : Nat} (h : St w0 bs rs (D :: Ds) W) : St w0 bs rs Ds W := ⟨h.box, h.row, fun x hx => h.mark x (List.mem_cons_of_mem _ hx), h.ge, fun x hx => h.mge x (List.mem_cons_of_mem _ hx), h.below⟩
theorem St.take {D : Nat} (h : St w0 bs rs (D :: Ds) W) (hn : D ∉ Ds) : St w0 bs rs Ds (W.putObj D (.deferred none)) :=
  h.lose.grown (grownBy_putObj' W D (.deferred none)) (fun r e => by
    cases e
    exact ⟨h.mge D List.mem_cons_self, hn, fun o ho => by rw [h.mark D List.mem_cons_self] at ho; cases ho; rfl⟩)
theorem St.perm {bs' : List (Nat × TypeId × Value)} (h : St w0 bs rs Ds W) (hp : ∀ x ∈ bs', x ∈ bs) : St w0 bs' rs Ds W := ⟨fun x hx => h.box x (hp x hx), h.row, h.mark, fun x hx => h.ge x (hp x hx), h.mge, h.below⟩
theorem St.lt (h : St w0 bs rs Ds W) : ∀ D ∈ Ds, D < W.heap.size := fun D hD => (Array.getElem?_eq_some_iff.1 (h.mark D hD)).1
/-- A row more, which a call has made. -/
theorem St.more {v : Value} {l : List Int} (h : St w0 bs rs Ds W) (hb : Below W.heap.size W W') (hr : W'.ownsRow W.heap.size 2 1 v l.length (intCells l)) : St w0 bs ((v, l) :: rs) Ds W' := by
  have h' := h.call hb
  refine ⟨h'.box, fun r hx => ?_, h'.mark, h'.ge, h'.mge, h'.below⟩
  rcases List.mem_cons.1 hx with rfl | hx
  · exact ⟨hr.1, hr.2.imp id (by rintro ⟨g, cap, cur, e, a0, a2, a3⟩; exact ⟨g, cap, cur, e, Nat.le_trans h.below.size a0, a2, a3⟩)⟩
  · exact h'.row r hx
end Go.Proofs.Ytjmbiljeincocaa

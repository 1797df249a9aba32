/- What a law's own code holds of the document's numbers: variables' boxes, rows, a row that is overwritten. No conditions. -/
import Derived.Test.YtdmjkbcjljnleaaRefC
import Derived.Test.YtdmjkbcjljnleaaRefD
namespace Go.Proofs.Ytdmjkbcjljnleaa
open Go.RowKit

/-- A variable's own box. -/
def hBox (q : Nat) (x : Value) : Held := ⟨fun k => k = q, fun v => RowAt v q [x], fun v h k hk => by rw [hk]; exact h.lt, fun v v' h hz hk => by
  have hq := hk q rfl
  exact ⟨Nat.lt_of_lt_of_le h.lt hz, fun i hi => (World.cell?_of_block (w := v) hq).trans (h.cell i hi), fun i hi => (World.frozen?_of_block (w := v) hq).trans (h.free i hi)⟩⟩
/-- Cells that may be written, whatever they hold. -/
def hThere (g n : Nat) : Held := ⟨fun k => k = g, fun v => g < v.heap.size ∧ ∀ i, i < n → (∃ z, v.cell? ⟨g, i, none⟩ = some z) ∧ v.frozen? ⟨g, i, none⟩ = false, fun v h k hk => by rw [hk]; exact h.1, fun v v' h hz hk => by
  have hq := hk g rfl
  refine ⟨Nat.lt_of_lt_of_le h.1 hz, fun i hi => ?_⟩
  obtain ⟨⟨z, e1⟩, e2⟩ := h.2 i hi
  exact ⟨⟨z, (World.cell?_of_block (w := v) hq).trans e1⟩, (World.frozen?_of_block (w := v) hq).trans e2⟩⟩
/-- What a step of the document's leaves that puts its answer into a new variable: the variable's box, the row. -/
structure VarOut (wr wx : World) (a1 : Option Addr) (c1 : Nat) (L : List Int) (q : Nat) (a2 : Option Addr) (c2 : Nat) (L' : List Int) : Prop where
  bel : Below wr.heap.size wr wx
  big : wr.heap.size ≤ q
  box : RowAt wx q [.slice a2 L'.length c2]
  row : IntK.Row wx 0 a2 c2 L'
  new_ : (a2 = a1 ∧ c2 = c1 ∧ L' = L) ∨ ∀ k, own a2 L'.length c2 = some k → wr.heap.size ≤ k
  sep : ∀ k, own a2 L'.length c2 = some k → k ≠ q
section
variable {w0 wr wx w2 : World} {a1 a2 : Option Addr} {c1 c2 q : Nat} {L L' : List Int} {R : List Held}
/-- The step first, then the box. -/
theorem VarOut.first (st : RStep wr.drew w2 a1 c1 L a2 c2 L') : VarOut wr (w2.alloc (.cells #[.slice a2 L'.length c2] 35)) a1 c1 L w2.heap.size a2 c2 L' := by
  have b2 : Below wr.heap.size wr w2 := ((Below.refl _ _).drew).trans st.bel
  refine ⟨b2.alloc b2.size _, b2.size, row_new w2 [.slice a2 L'.length c2] 35, row_below st.row ((Below.refl _ _).alloc (Nat.le_refl _) _), st.new_.imp id fun h k e => h k e, fun k e => by have := (row_lt st.row k e).2; omega⟩
/-- The box first, then the step. -/
theorem VarOut.second (h1 : IntK.Row wr 0 a1 c1 L) (st : RStep (wr.drew.alloc (.cells #[.slice none 0 0] 35)) w2 a1 c1 L a2 c2 L') : VarOut wr (w2.setCell ⟨wr.heap.size, 0, none⟩ (.slice a2 L'.length c2)) a1 c1 L wr.heap.size a2 c2 L' := by
  have bA : Below wr.heap.size wr (wr.drew.alloc (.cells #[.slice none 0 0] 35)) := ((Below.refl _ _).drew).alloc (Nat.le_refl _) _
  have bs : Below wr.heap.size (wr.drew.alloc (.cells #[.slice none 0 0] 35)) w2 := st.bel.mono bA.size
  have r2 : RowAt w2 wr.heap.size [.slice none 0 0] := (row_new wr.drew [.slice none 0 0] 35).keep (Moved.of_below (F := fun _ => False) st.bel) id
  have hnew : (a2 = a1 ∧ c2 = c1 ∧ L' = L) ∨ ∀ k, own a2 L'.length c2 = some k → wr.heap.size + 1 ≤ k := st.new_.imp id fun h k e => by have := h k e; simpa using this
  have hsep : ∀ k, own a2 L'.length c2 = some k → k ≠ wr.heap.size := fun k e => by
    rcases hnew with ⟨e1, e2, e3⟩ | h
    · rw [e1, e2, e3] at e
      have := (row_lt h1 k e).2
      omega
    · have := h k e; omega
  exact ⟨(bA.trans bs).setCell (Nat.le_refl _) _, Nat.le_refl _, r2.set 0 (Nat.succ_pos _) _, row_keep st.row ((Moved.refl (fun k => k = wr.heap.size) w2).setCell (p := ⟨wr.heap.size, 0, none⟩) (.inl rfl) _) (fun i e g => hsep i g.2 e), hnew.imp id fun h k e => by have := h k e; omega, hsep⟩
theorem HR.var (h : HR w0 wr (hRow IntK a1 c1 L :: R)) (o : VarOut wr wx a1 c1 L q a2 c2 L') : HR w0 wx (hBox q (.slice a2 L'.length c2) :: hRow IntK a2 c2 L' :: R) := by
  have hb := h.below o.bel
  obtain ⟨p1, p2⟩ := List.pairwise_cons.1 h.apart
  have hz := h.bel.size
  have hrow : ∀ k, own a2 L'.length c2 = some k → own a1 L.length c1 = some k ∨ wr.heap.size ≤ k := fun k e => by
    rcases o.new_ with ⟨rfl, rfl, rfl⟩ | hn
    · exact .inl e
    · exact .inr (hn k e)
  refine ⟨hb.bel, fun r hr => ?_, fun r hr k hk => ?_, List.pairwise_cons.2 ⟨fun r hr k hk hrk => ?_, List.pairwise_cons.2 ⟨fun r hr k hk hrk => ?_, p2⟩⟩⟩
  · rcases List.mem_cons.1 hr with rfl | hr
    · exact o.box
    · rcases List.mem_cons.1 hr with rfl | hr
      · exact o.row
      · exact hb.ok r (List.mem_cons_of_mem _ hr)
  · rcases List.mem_cons.1 hr with rfl | hr
    · have e : k = q := hk
      have := o.big; omega
    · rcases List.mem_cons.1 hr with rfl | hr
      · rcases hrow k hk with e | e
        · exact h.big _ List.mem_cons_self k e
        · omega
      · exact h.big r (List.mem_cons_of_mem _ hr) k hk
  · have e : k = q := hk
    have hq := o.big
    rcases List.mem_cons.1 hr with rfl | hr
    · exact o.sep k hrk e
    · have := r.lt wr (h.ok r (List.mem_cons_of_mem _ hr)) k hrk
      omega
  · rcases hrow k hk with e | e
    · exact p1 r hr k e hrk
    · have := r.lt wr (h.ok r (List.mem_cons_of_mem _ hr)) k hrk
      omega
theorem HR.store {p : Nat} {x y : Value} {v : World} (h : HR w0 v (hBox p x :: R)) : HR w0 (v.setCell ⟨p, 0, Option.none⟩ y) (hBox p y :: R) :=
  h.turn (r := hBox p x) ((Moved.refl (fun k => k = p) v).setCell (p := ⟨p, 0, Option.none⟩) (.inl rfl) y) ((h.ok _ List.mem_cons_self : RowAt v p [x]).set 0 (Nat.succ_pos _) y) fun _ hk => .inl hk
theorem HR.box {p : Nat} {x : Value} {v : World} (h : HR w0 v R) (m : hBox p x ∈ R) : v.cell? ⟨p, 0, Option.none⟩ = some x ∧ v.frozen? ⟨p, 0, Option.none⟩ = false := by
  have r : RowAt v p [x] := h.ok _ m
  exact ⟨r.cell 0 (Nat.succ_pos _), r.free 0 (Nat.succ_pos _)⟩
/-- A row is given up to be overwritten. -/
theorem HR.open_ {a : Option Addr} {c : Nat} {l : List Int} {v : World} (h : HR w0 v (hRow IntK a c l :: R)) : (l = []) ∨ ∃ g, a = some ⟨g, 0, Option.none⟩ ∧ HR w0 v (hThere g l.length :: R) := by
  have r : IntK.Row v 0 a c l := h.ok _ List.mem_cons_self
  rcases r.2 with ⟨_, h0⟩ | ⟨g, cap, cur, hv, hbg, hg, hnc, hcm, hcs, htake⟩
  · exact .inl (List.length_eq_zero_iff.1 h0)
  · simp only [Value.slice.injEq] at hv
    obtain ⟨rfl, _, rfl⟩ := hv
    refine .inr ⟨g, rfl, h.turn (r := hRow IntK (some ⟨g, 0, Option.none⟩) c l) (Moved.refl _ _) ⟨(Array.getElem?_eq_some_iff.1 hg).1, fun i hi => ⟨?_, ?_⟩⟩ fun k hk => .inl ?_⟩
    · have hic : i < cur.size := by rw [hcs]; simp [IntK]; omega
      refine ⟨cur[i], ?_⟩
      simp [World.cell?, hg, hic]
    · simp [World.frozen?, hg]
    · have e : k = g := hk
      rw [e]; rfl
theorem HR.over {g n i : Nat} {v : World} (h : HR w0 v (hThere g n :: R)) (y : Value) (hi : i < n) : HR w0 (v.setCell ⟨g, i, Option.none⟩ y) (hThere g n :: R) := by
  have r := (h.ok _ List.mem_cons_self : g < v.heap.size ∧ ∀ i, i < n → (∃ z, v.cell? ⟨g, i, Option.none⟩ = some z) ∧ v.frozen? ⟨g, i, Option.none⟩ = false)
  refine h.turn (r := hThere g n) ((Moved.refl (fun k => k = g) v).setCell (p := ⟨g, i, Option.none⟩) (.inl rfl) y) ⟨by rw [World.size_setCell]; exact r.1, fun j hj => ⟨?_, ?_⟩⟩ fun k hk => .inl hk
  · by_cases e : i = j
    · subst e
      obtain ⟨z, hz⟩ := (r.2 i hi).1
      exact ⟨y, by rw [World.cell?_setCell_same (h := hz)]⟩
    · obtain ⟨z, hz⟩ := (r.2 j hj).1
      exact ⟨z, by rw [World.cell?_setCell_other (h := fun he => e (congrArg Addr.off he))]; exact hz⟩
  · rw [World.frozen?_setCell]; exact (r.2 j hj).2
end
/-- The document's list behind acts. -/
def refL (l : List ActM) : List Int := radds [] (l.flatMap toldA)
theorem refL_rel (l : List ActM) : RelA (after l) (refL l) := rel_adds rel_none _
theorem radds_append (l s t : List Int) : radds l (s ++ t) = radds (radds l s) t := List.foldl_append ..
theorem refL_snoc {l : List ActM} {k : Nat} {x : ActM} (h : l[k]? = some x) : refL (l.take (k + 1)) = radds (refL (l.take k)) (toldA x) := by
  unfold refL
  rw [take_snoc h, List.flatMap_append, radds_append]
  simp
theorem refL_len {l : List ActM} (h : Mild l) (k : Nat) : (refL (l.take k)).length ≤ 13200 := by
  have h1 := radds_length [] ((l.take k).flatMap toldA)
  have h2 := flat_len fun x hx => toldA_len h (List.mem_of_mem_take (i := k) hx)
  have h3 : (l.take k).length ≤ 60 := by have := h.len; rw [List.length_take]; omega
  have h4 : ([] : List Int).length = 0 := rfl
  unfold refL
  omega
end Go.Proofs.Ytdmjkbcjljnleaa

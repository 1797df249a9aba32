/- What a law's own code holds: tables and rows, each in blocks of its own that were made since a world. No conditions. -/
import Derived.Test.YtoofaldblldncabIns
namespace Go.Proofs.Ytoofaldblldncab
open Go.RowKit

/-- Something in memory: the blocks that are its own, and what it says of a world. -/
structure Held where
  own : Nat → Prop
  ok : World → Prop
  lt : ∀ v, ok v → ∀ k, own k → k < v.heap.size
  stay : ∀ v v', ok v → v.heap.size ≤ v'.heap.size → (∀ k, own k → v'.heap[k]? = v.heap[k]?) → ok v'
/-- All of R is there, apart, made since w0. -/
structure HR (w0 v : World) (R : List Held) : Prop where
  bel : Below w0.heap.size w0 v
  ok : ∀ r ∈ R, r.ok v
  big : ∀ r ∈ R, ∀ k, r.own k → w0.heap.size ≤ k
  apart : R.Pairwise (fun r s => ∀ k, r.own k → ¬ s.own k)
section
variable {w0 v v' : World} {r r' : Held} {R S : List Held}
theorem HR.start (w0 : World) : HR w0 w0 [] := ⟨Below.refl _ _, fun _ h => by (cases h), fun _ h => by (cases h), List.Pairwise.nil⟩
theorem HR.turn (h : HR w0 v (r :: R)) (m : Moved r.own v v') (hr : r'.ok v') (hn : ∀ k, r'.own k → r.own k ∨ v.heap.size ≤ k) : HR w0 v' (r' :: R) := by
  obtain ⟨a1, a2⟩ := List.pairwise_cons.1 h.apart
  have hz := h.bel.size
  refine ⟨h.bel.trans (m.below (h.big r List.mem_cons_self) hz), fun s hs => ?_, fun s hs k hk => ?_, List.pairwise_cons.2 ⟨fun s hs k hk hsk => ?_, a2⟩⟩
  · rcases List.mem_cons.1 hs with rfl | hs
    · exact hr
    · have o := h.ok s (List.mem_cons_of_mem _ hs)
      exact s.stay v v' o m.size fun k hk => m.block k (s.lt v o k hk) fun f => a1 s hs k f hk
  · rcases List.mem_cons.1 hs with rfl | hs
    · exact (hn k hk).elim (h.big r List.mem_cons_self k) (fun g => Nat.le_trans hz g)
    · exact h.big s (List.mem_cons_of_mem _ hs) k hk
  · rcases hn k hk with g | g
    · exact a1 s hs k g hsk
    · have := s.lt v (h.ok s (List.mem_cons_of_mem _ hs)) k hsk; omega
theorem HR.below (h : HR w0 v R) (b : Below v.heap.size v v') : HR w0 v' R :=
  ⟨h.bel.trans (b.mono h.bel.size), fun s hs => s.stay v v' (h.ok s hs) b.size fun k hk => b.block k (s.lt v (h.ok s hs) k hk), h.big, h.apart⟩
theorem HR.add (h : HR w0 v R) (b : Below v.heap.size v v') (hr : r.ok v') (hn : ∀ k, r.own k → v.heap.size ≤ k) : HR w0 v' (r :: R) := by
  have h' := h.below b
  refine ⟨h'.bel, fun s hs => ?_, fun s hs k hk => ?_, List.pairwise_cons.2 ⟨fun s hs k hk hsk => ?_, h.apart⟩⟩
  · rcases List.mem_cons.1 hs with rfl | hs
    · exact hr
    · exact h'.ok s hs
  · rcases List.mem_cons.1 hs with rfl | hs
    · exact Nat.le_trans h.bel.size (hn k hk)
    · exact h.big s hs k hk
  · have h1 := hn k hk
    have h2 := s.lt v (h.ok s hs) k hsk
    omega
theorem HR.perm (h : HR w0 v R) (p : R.Perm S) : HR w0 v S :=
  ⟨h.bel, fun s hs => h.ok s (p.mem_iff.2 hs), fun s hs => h.big s (p.mem_iff.2 hs), (p.pairwise_iff (fun {a b} (h : ∀ k, a.own k → ¬ b.own k) k hb ha => h k ha hb)).1 h.apart⟩
theorem HR.sub (h : HR w0 v R) (p : List.Sublist S R) : HR w0 v S :=
  ⟨h.bel, fun s hs => h.ok s (p.subset hs), fun s hs => h.big s (p.subset hs), h.apart.sublist p⟩
theorem HR.swap (h : HR w0 v (r :: r' :: R)) : HR w0 v (r' :: r :: R) := h.perm (List.Perm.swap _ _ _)
theorem HR.drop1 (h : HR w0 v (r :: R)) : HR w0 v R := h.sub (List.sublist_cons_self _ _)
end
/-- A table. -/
def hTab (p : Nat) (F : Nat → Prop) (T : Tab) : Held := ⟨F, fun v => TIs v p F T, fun _ h => h.lt, fun v v' h hz hk => by
  obtain ⟨M, h, rfl⟩ := h
  have key : ∀ i, i < 4 → SrcAt v' p (i * 2) (M i) (T i) := fun i hi => by
    have s := h.src i hi
    have hp := hk p (.inl rfl)
    exact ⟨(World.cell?_of_block (w := v) hp).trans s.c0, (World.cell?_of_block (w := v) hp).trans s.c1, (World.frozen?_of_block (w := v) hp).trans s.f0, (World.frozen?_of_block (w := v) hp).trans s.f1, s.mo.keep fun b e => hk b (.inr ⟨i, hi, e⟩), s.fine⟩
  exact ⟨M, ⟨key, h.apart⟩, rfl⟩⟩
/-- A row. -/
def hRow {β : Type} (K : RowK β) (a : Option Addr) (c : Nat) (l : List β) : Held := ⟨fun k => own a l.length c = some k, fun v => K.Row v 0 a c l, fun v h k e => (row_lt h k e).2, fun v v' h hz hk => by
  refine ⟨h.1, h.2.imp id ?_⟩
  rintro ⟨g, cap, cur, e1, e2, e3, e4⟩
  exact ⟨g, cap, cur, e1, e2, (hk g (by show (Value.slice a l.length c).ownBlock = some g; rw [e1]; rfl)).trans e3, e4⟩⟩
section
variable {w0 v : World} {p : Nat} {F : Nat → Prop} {T : Tab} {R : List Held}
theorem HR.tab (h : HR w0 v R) (m : hTab p F T ∈ R) : TIs v p F T := h.ok _ m
theorem HR.row {β : Type} {K : RowK β} {a : Option Addr} {c : Nat} {l : List β} (h : HR w0 v R) (m : hRow K a c l ∈ R) : K.At v a l := (h.ok _ m : K.Row v 0 a c l).at_
theorem HR.new (h : HR w0 v R) : Calls Try.prog 5 #[] v fun e v' => ∃ q F, e = .returned (.pointer (some ⟨q, 0, none⟩)) ∧ HR w0 v' (hTab q F new_ :: R) :=
  (new_any v).mono fun _ _ ⟨h1, h2, h3⟩ => ⟨_, _, h1, h.add h2 h3 (foot_none _)⟩
theorem HR.note (h : HR w0 v (hTab p F T :: R)) (hT : T.Ok) (src seq low code : Int) :
    Calls Try.prog 8 #[.pointer (some ⟨p, 0, none⟩), .int .i64 src, .int .i64 seq, .int .i64 low, .int .i64 code] v fun e v' => e = .returned (.int .i64 (noteE T src seq low code)) ∧ ∃ F', HR w0 v' (hTab p F' (note T src seq low code) :: R) :=
  (tnote_any (h.tab List.mem_cons_self) hT src seq low code).mono fun _ _ ⟨h1, F', d1, d2, d3⟩ => ⟨h1, F', h.turn (r := hTab p F T) d3 d1 d2⟩
theorem HR.ask (h : HR w0 v R) (m : hTab p F T ∈ R) (src seq low : Int) :
    Calls Try.prog 11 #[.pointer (some ⟨p, 0, none⟩), .int .i64 src, .int .i64 seq, .int .i64 low] v fun e v' => e = .returned (.tuple #[.int .i64 (Ytoofaldblldncab.ask T src seq low).1, .int .i64 (Ytoofaldblldncab.ask T src seq low).2]) ∧ v' = v := task_any (h.tab m) src seq low
theorem HR.all (h : HR w0 v R) (m : hTab p F T ∈ R) (hT : T.Ok) : Calls Try.prog 10 #[.pointer (some ⟨p, 0, none⟩)] v fun e v' => ∃ a c, e = .returned (.slice a (Ytoofaldblldncab.all T).length c) ∧ HR w0 v' (hRow EntK a c (Ytoofaldblldncab.all T) :: R) :=
  (all_any (h.tab m) hT).mono fun _ _ ⟨a, c, h1, h2, h3⟩ => ⟨a, c, h1, h.add h3 (row_base h2 (Nat.zero_le _)) fun k e => (row_lt h2 k e).1⟩
theorem HR.twin (h : HR w0 v R) (m : hTab p F T ∈ R) : Calls Try.prog 7 #[.pointer (some ⟨p, 0, none⟩)] v fun e v' => ∃ q F', e = .returned (.pointer (some ⟨q, 0, none⟩)) ∧ HR w0 v' (hTab q F' T :: R) :=
  (twin_any (h.tab m)).mono fun _ _ ⟨q, F', h1, h2, h3, h4⟩ => ⟨q, F', h1, h.add h4 h2 h3⟩
/-- An append to a row. -/
theorem HR.grow {β : Type} {K : RowK β} {a : Option Addr} {c : Nat} {l : List β} (hK : K.Law Try.prog) (h : HR w0 v (hRow K a c l :: R)) (z : β) (ty : TypeId) (hl : l.length ≤ 100000) :
    ∃ a' c' w', (Builtin.append_ #[K.t, K.t] K.t #[.slice a l.length c, .slice (some ⟨v.heap.size, 0, none⟩) 1 1]).run Try.prog (v.alloc (.cells (K.f z).toArray ty)) = .ok (.slice a' (l.length + 1) c') w' ∧ HR w0 w' (hRow K a' c' (l ++ [z]) :: R) := by
  obtain ⟨a', c', w', h1, h2, h3, h4, h5⟩ := grow_one hK (h.ok _ List.mem_cons_self : K.Row v 0 a c l) z ty hl (Nat.zero_le _)
  refine ⟨a', c', w', h1, h.turn (r := hRow K a c l) h4 h2 fun k e => ?_⟩
  have e' : own a' (l.length + 1) c' = some k := by
    have : own a' (l ++ [z]).length c' = some k := e
    rwa [List.length_append] at this
  rcases h5 with h5 | h5
  · rw [h5] at e'; exact .inl e'
  · rw [h5] at e'; cases e'; exact .inr (by omega)
/-- A row without data. -/
theorem HR.none {β : Type} (K : RowK β) (h : HR w0 v R) : HR w0 v (hRow K none 0 [] :: R) := h.add (Below.refl _ _) (row_none _ _) fun k e => by cases e
end
end Go.Proofs.Ytoofaldblldncab

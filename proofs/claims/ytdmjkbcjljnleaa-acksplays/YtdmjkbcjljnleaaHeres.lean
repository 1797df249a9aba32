/- What a law's own code holds: acks and rows, each in blocks of its own that were made since a world. No conditions. -/
import Derived.Test.YtdmjkbcjljnleaaIns
namespace Go.Proofs.Ytdmjkbcjljnleaa
open Go.RowKit

/-- Something in memory: the blocks that are its own, and what it says of a world. -/
structure Held where
  own : Nat → Prop
  ok : World → Prop
  lt : ∀ v, ok v → ∀ k, own k → k < v.heap.size
  stay : ∀ v v', ok v → v.heap.size ≤ v'.heap.size → (∀ k, own k → v'.heap[k]? = v.heap[k]?) → ok v'
/-- All of R is there, apart, made since w0. -/
structure HR (w0 v : World) (R : List Held) : Prop where
  bel : Below w0.heap.size w0 v
  ok : ∀ r ∈ R, r.ok v
  big : ∀ r ∈ R, ∀ k, r.own k → w0.heap.size ≤ k
  apart : R.Pairwise (fun r s => ∀ k, r.own k → ¬ s.own k)
section
variable {w0 v v' : World} {r r' : Held} {R S : List Held}
theorem HR.start (w0 : World) : HR w0 w0 [] := ⟨Below.refl _ _, fun _ h => by (cases h), fun _ h => by (cases h), List.Pairwise.nil⟩
theorem HR.turn (h : HR w0 v (r :: R)) (m : Moved r.own v v') (hr : r'.ok v') (hn : ∀ k, r'.own k → r.own k ∨ v.heap.size ≤ k) : HR w0 v' (r' :: R) := by
  obtain ⟨a1, a2⟩ := List.pairwise_cons.1 h.apart
  have hz := h.bel.size
  refine ⟨h.bel.trans (m.below (h.big r List.mem_cons_self) hz), fun s hs => ?_, fun s hs k hk => ?_, List.pairwise_cons.2 ⟨fun s hs k hk hsk => ?_, a2⟩⟩
  · rcases List.mem_cons.1 hs with rfl | hs
    · exact hr
    · have o := h.ok s (List.mem_cons_of_mem _ hs)
      exact s.stay v v' o m.size fun k hk => m.block k (s.lt v o k hk) fun f => a1 s hs k f hk
  · rcases List.mem_cons.1 hs with rfl | hs
    · exact (hn k hk).elim (h.big r List.mem_cons_self k) (fun g => Nat.le_trans hz g)
    · exact h.big s (List.mem_cons_of_mem _ hs) k hk
  · rcases hn k hk with g | g
    · exact a1 s hs k g hsk
    · have := s.lt v (h.ok s (List.mem_cons_of_mem _ hs)) k hsk; omega
theorem HR.below (h : HR w0 v R) (b : Below v.heap.size v v') : HR w0 v' R :=
  ⟨h.bel.trans (b.mono h.bel.size), fun s hs => s.stay v v' (h.ok s hs) b.size fun k hk => b.block k (s.lt v (h.ok s hs) k hk), h.big, h.apart⟩
theorem HR.add (h : HR w0 v R) (b : Below v.heap.size v v') (hr : r.ok v') (hn : ∀ k, r.own k → v.heap.size ≤ k) : HR w0 v' (r :: R) := by
  have h' := h.below b
  refine ⟨h'.bel, fun s hs => ?_, fun s hs k hk => ?_, List.pairwise_cons.2 ⟨fun s hs k hk hsk => ?_, h.apart⟩⟩
  · rcases List.mem_cons.1 hs with rfl | hs
    · exact hr
    · exact h'.ok s hs
  · rcases List.mem_cons.1 hs with rfl | hs
    · exact Nat.le_trans h.bel.size (hn k hk)
    · exact h.big s hs k hk
  · have h1 := hn k hk
    have h2 := s.lt v (h.ok s hs) k hsk
    omega
theorem HR.perm (h : HR w0 v R) (p : R.Perm S) : HR w0 v S :=
  ⟨h.bel, fun s hs => h.ok s (p.mem_iff.2 hs), fun s hs => h.big s (p.mem_iff.2 hs), (p.pairwise_iff (fun {a b} (h : ∀ k, a.own k → ¬ b.own k) k hb ha => h k ha hb)).1 h.apart⟩
theorem HR.sub (h : HR w0 v R) (p : List.Sublist S R) : HR w0 v S :=
  ⟨h.bel, fun s hs => h.ok s (p.subset hs), fun s hs => h.big s (p.subset hs), h.apart.sublist p⟩
theorem HR.swap (h : HR w0 v (r :: r' :: R)) : HR w0 v (r' :: r :: R) := h.perm (List.Perm.swap _ _ _)
theorem HR.drop1 (h : HR w0 v (r :: R)) : HR w0 v R := h.sub (List.sublist_cons_self _ _)
end
/-- Acks. -/
def hAck (p : Nat) (m : Option Nat) (s : AckV) : Held := ⟨SFoot p m, fun v => AcIs v p m s, fun _ h k hk => by
  rcases hk with rfl | e
  · exact h.1.lt
  · exact h.1.mo.lt k e, fun v v' h hz hk => by
  have hp := hk p (.inl rfl)
  exact ⟨⟨(World.cell?_of_block (w := v) hp).trans h.1.c0, (World.cell?_of_block (w := v) hp).trans h.1.c1, (World.frozen?_of_block (w := v) hp).trans h.1.f0, (World.frozen?_of_block (w := v) hp).trans h.1.f1, h.1.mo.keep fun b e => hk b (.inr e)⟩, h.2⟩⟩
/-- A row. -/
def hRow {β : Type} (K : RowK β) (a : Option Addr) (c : Nat) (l : List β) : Held := ⟨fun k => own a l.length c = some k, fun v => K.Row v 0 a c l, fun v h k e => (row_lt h k e).2, fun v v' h hz hk => by
  refine ⟨h.1, h.2.imp id ?_⟩
  rintro ⟨g, cap, cur, e1, e2, e3, e4⟩
  exact ⟨g, cap, cur, e1, e2, (hk g (by show (Value.slice a l.length c).ownBlock = some g; rw [e1]; rfl)).trans e3, e4⟩⟩
section
variable {w0 v : World} {p : Nat} {m : Option Nat} {s : AckV} {R : List Held}
theorem HR.ack (h : HR w0 v R) (x : hAck p m s ∈ R) : AcIs v p m s := h.ok _ x
theorem HR.fine (h : HR w0 v R) (x : hAck p m s ∈ R) : Fine s := (h.ack x).2
theorem HR.row {β : Type} {K : RowK β} {a : Option Addr} {c : Nat} {l : List β} (h : HR w0 v R) (x : hRow K a c l ∈ R) : K.At v a l := (h.ok _ x : K.Row v 0 a c l).at_
theorem HR.new (h : HR w0 v R) : Calls Try.prog 8 #[] v fun e v' => ∃ q, e = .returned (.pointer (some ⟨q, 0, none⟩)) ∧ HR w0 v' (hAck q none none0 :: R) :=
  (new_any v).mono fun _ _ ⟨h1, h2, h3⟩ => ⟨_, h1, h.add h3 h2 fun k hk => by
    rcases hk with rfl | e
    · exact Nat.le_refl _
    · cases e⟩
theorem HR.did {v' : World} {s' : AckV} {m' : Option Nat} (h : HR w0 v (hAck p m s :: R)) (d : ADid v v' p m s' m') : HR w0 v' (hAck p m' s' :: R) :=
  h.turn (r := hAck p m s) d.moved d.is_ fun k hk => by
    rcases hk with e | e
    · exact .inl (.inl e)
    · exact (d.new_ k e).imp .inr id
theorem HR.put (h : HR w0 v (hAck p m s :: R)) {n : Int} (hn : i64 n) (hl : s.total < 900000000000) :
    Calls Try.prog 9 #[.pointer (some ⟨p, 0, none⟩), .int .i64 n] v fun e v' => e = .returned (.bool (s.fresh n)) ∧ ∃ m', HR w0 v' (hAck p m' (s.add n) :: R) :=
  (add_any (h.ack List.mem_cons_self) hn (by have := set_total (h.fine List.mem_cons_self); omega)).mono fun _ _ ⟨h1, m', d⟩ => ⟨h1, m', h.did d⟩
theorem HR.has (h : HR w0 v R) (x : hAck p m s ∈ R) {n : Int} (hn : i64 n) :
    Calls Try.prog 22 #[.pointer (some ⟨p, 0, none⟩), .int .i64 n] v fun e v' => e = .returned (.bool (s.has n)) ∧ HR w0 v' R :=
  (has_any (h.ack x).1 (h.ack x).2.pre hn).mono fun _ _ ⟨h1, hb⟩ => ⟨h1, h.below hb⟩
theorem HR.low (h : HR w0 v R) (x : hAck p m s ∈ R) : Calls Try.prog 10 #[.pointer (some ⟨p, 0, none⟩)] v fun e v' => e = .returned (.int .i64 s.low) ∧ v' = v := low_any (h.ack x).1.c0
theorem HR.whole (h : HR w0 v R) (x : hAck p m s ∈ R) (upto : Int) : Calls Try.prog 15 #[.pointer (some ⟨p, 0, none⟩), .int .i64 upto] v fun e v' => e = .returned (.bool (decide (min upto 2147483647 ≤ s.low))) ∧ v' = v := whole_any (h.ack x).1.c0 upto
theorem HR.set (h : HR w0 v R) (x : hAck p m s ∈ R) (hl : s.total < 900000000000) : Calls Try.prog 12 #[.pointer (some ⟨p, 0, none⟩)] v fun e v' => ∃ a c, e = .returned (.slice a s.set.length c) ∧ HR w0 v' (hRow IntK a c s.set :: R) :=
  (set_any (h.ack x) (by have := set_total (h.fine x); omega)).mono fun _ _ ⟨a, c, h1, h2, h3⟩ => ⟨a, c, h1, h.add h3 (row_base h2 (Nat.zero_le _)) fun k e => (row_lt h2 k e).1⟩
theorem HR.missing (h : HR w0 v R) (x : hAck p m s ∈ R) {upto : Int} (hu : min upto 1048576 - s.low ≤ 100000) : Calls Try.prog 14 #[.pointer (some ⟨p, 0, none⟩), .int .i64 upto] v fun e v' => ∃ a c, e = .returned (.slice a (s.miss (min upto 1048576)).length c) ∧ HR w0 v' (hRow IntK a c (s.miss (min upto 1048576)) :: R) :=
  (missing_any (h.ack x) hu).mono fun _ _ ⟨a, c, h1, h2, h3⟩ => ⟨a, c, h1, h.add h3 (row_base h2 (Nat.zero_le _)) fun k e => (row_lt h2 k e).1⟩
/-- Of a slice that came in. -/
theorem HR.merge (h : HR w0 v (hAck p m s :: R)) (low : Int) {a : Option Addr} {c : Nat} {l : List Int} (hAt : IntK.At w0 a l) (hin : ∀ y ∈ l, i64 y) (hl : s.total + l.length < 900000000000) :
    Calls Try.prog 13 #[.pointer (some ⟨p, 0, none⟩), .int .i64 low, .slice a l.length c] v fun e v' => e = .returned (.int .i64 (s.news (told low l))) ∧ ∃ m', HR w0 v' (hAck p m' (s.merge low l) :: R) :=
  (merge_any (h.ack List.mem_cons_self) low (hAt.below (Nat.le_refl _) h.bel) (fun h0 x e f => by
    rcases hAt with h1 | ⟨g, o, rfl, hg, _⟩
    · exact h0 h1
    · cases e; have := h.big _ List.mem_cons_self g f; omega) hin hl).mono fun _ _ ⟨h1, m', d⟩ => ⟨h1, m', h.did d⟩
/-- Of a row in hand. -/
theorem HR.mergeRow (h : HR w0 v (hAck p m s :: R)) (low : Int) {a : Option Addr} {c : Nat} {l : List Int} (x : hRow IntK a c l ∈ R) (hin : ∀ y ∈ l, i64 y) (hl : s.total + l.length < 900000000000) :
    Calls Try.prog 13 #[.pointer (some ⟨p, 0, none⟩), .int .i64 low, .slice a l.length c] v fun e v' => e = .returned (.int .i64 (s.news (told low l))) ∧ ∃ m', HR w0 v' (hAck p m' (s.merge low l) :: R) :=
  (merge_any (h.ack List.mem_cons_self) low (h.row (List.mem_cons_of_mem _ x)) (fun h0 y e f => by
    subst e
    exact (List.pairwise_cons.1 h.apart).1 _ x y.block f (by show own (some y) l.length c = some y.block; rfl)) hin hl).mono fun _ _ ⟨h1, m', d⟩ => ⟨h1, m', h.did d⟩
/-- An append to a row. -/
theorem HR.grow {β : Type} {K : RowK β} {a : Option Addr} {c : Nat} {l : List β} (hK : K.Law Try.prog) (h : HR w0 v (hRow K a c l :: R)) (z : β) (ty : TypeId) (hl : l.length ≤ 100000) :
    ∃ a' c' w', (Builtin.append_ #[K.t, K.t] K.t #[.slice a l.length c, .slice (some ⟨v.heap.size, 0, none⟩) 1 1]).run Try.prog (v.alloc (.cells (K.f z).toArray ty)) = .ok (.slice a' (l.length + 1) c') w' ∧ HR w0 w' (hRow K a' c' (l ++ [z]) :: R) := by
  obtain ⟨a', c', w', h1, h2, h3, h4, h5⟩ := grow_one hK (h.ok _ List.mem_cons_self : K.Row v 0 a c l) z ty hl (Nat.zero_le _)
  refine ⟨a', c', w', h1, h.turn (r := hRow K a c l) h4 h2 fun k e => ?_⟩
  have e' : own a' (l.length + 1) c' = some k := by
    have : own a' (l ++ [z]).length c' = some k := e
    rwa [List.length_append] at this
  rcases h5 with h5 | h5
  · rw [h5] at e'; exact .inl e'
  · rw [h5] at e'; cases e'; exact .inr (by omega)
/-- A row without data. -/
theorem HR.none {β : Type} (K : RowK β) (h : HR w0 v R) : HR w0 v (hRow K none 0 [] :: R) := h.add (Below.refl _ _) (row_none _ _) fun k e => by cases e
end
end Go.Proofs.Ytdmjkbcjljnleaa

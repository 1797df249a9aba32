/- A store as a plain row of windows: what Put, Set and Take do to it, and what follows of that. The agg and the span of it are handed in. No Go. -/
import Derived.Test.YtigmhljaoicdbaaGreatGShelf
import Derived.Test.YtigmhljaoicdbaaGreatGCmp
import Derived.Test.YtigmhljaoicdbaaGreatSpCalls
import Derived.Deep.MidRow
namespace Go.Proofs.YtigmhljaoicdbaaGreat

/-- What a store leans on: of values: none, one more, whether right and not without any; of moments: whether one, its Start, whether a Start, whether over. -/
structure Ops (α : Type) where
  zero : α
  add : α → Int → α
  ok : α → Bool
  right : Int → Bool
  start : Int → Int
  isStart : Int → Bool
  over : Int → Int → Bool
structure Ops.Law {α : Type} (O : Ops α) (num : Int → Prop) : Prop where
  start : ∀ a, O.right a = true → O.isStart (O.start a) = true
  first : ∀ v, num v → O.ok (O.add O.zero v) = true
  more : ∀ a v, O.ok a = true → num v → O.ok (O.add a v) = true
variable {α : Type} {O : Ops α} {num : Int → Prop} {l : List (Win α)}

def keyOk (k : List UInt8) : Bool := decide (1 ≤ k.length ∧ k.length ≤ 16)
def putS (O : Ops α) (l : List (Win α)) (k : List UInt8) (at_ v : Int) : List (Win α) × Nat :=
  if keyOk k = true ∧ O.right at_ = true then
    match look l k (O.start at_) with
    | some a => (ins ⟨k, O.start at_, O.add a v⟩ l, 0)
    | none => if 32 ≤ l.length then (l, 6) else (ins ⟨k, O.start at_, O.add O.zero v⟩ l, 0)
  else (l, 1)
def setS (O : Ops α) (l : List (Win α)) (w : Win α) : List (Win α) × Nat :=
  if keyOk w.key = true ∧ O.isStart w.start = true ∧ O.ok w.agg = true then
    if (look l w.key w.start).isSome then (l, 5) else if 32 ≤ l.length then (l, 6) else (ins w l, 0)
  else (l, 1)
def takeS (O : Ops α) (l : List (Win α)) (m : Int) : List (Win α) × List (Win α) := (l.filter (fun a => !O.over a.start m), l.filter (fun a => O.over a.start m))

/-- What a store always is. -/
structure Good (O : Ops α) (l : List (Win α)) : Prop where
  rise : Rise l
  most : l.length ≤ 32
  all : ∀ a ∈ l, keyOk a.key = true ∧ O.isStart a.start = true ∧ O.ok a.agg = true
theorem good_nil : Good O ([] : List (Win α)) := ⟨List.Pairwise.nil, Nat.zero_le _, fun _ h => by cases h⟩
theorem good_ins {w : Win α} (h : Good O l) (hw : keyOk w.key = true ∧ O.isStart w.start = true ∧ O.ok w.agg = true) (hl : (look l w.key w.start).isSome ∨ l.length < 32) : Good O (ins w l) := by
  refine ⟨ins_rise h.rise, ?_, fun a ha => ?_⟩
  · rw [ins_len h.rise]
    have := h.most
    split
    · exact this
    · rename_i hn
      rcases hl with k | k
      · exact absurd k hn
      · omega
  · rcases ins_mem ha with rfl | ha
    · exact hw
    · exact h.all a ha
theorem put_no {k : List UInt8} {a v : Int} (h : ¬ (keyOk k = true ∧ O.right a = true)) : putS O l k a v = (l, 1) := if_neg h
theorem put_open {k : List UInt8} {a v : Int} {x : α} (h : keyOk k = true ∧ O.right a = true) (hx : look l k (O.start a) = some x) : putS O l k a v = (ins ⟨k, O.start a, O.add x v⟩ l, 0) := by
  unfold putS; rw [if_pos h, hx]
theorem put_full {k : List UInt8} {a v : Int} (h : keyOk k = true ∧ O.right a = true) (hx : look l k (O.start a) = none) (hl : 32 ≤ l.length) : putS O l k a v = (l, 6) := by
  unfold putS; rw [if_pos h, hx]; exact if_pos hl
theorem put_new {k : List UInt8} {a v : Int} (h : keyOk k = true ∧ O.right a = true) (hx : look l k (O.start a) = none) (hl : ¬ 32 ≤ l.length) : putS O l k a v = (ins ⟨k, O.start a, O.add O.zero v⟩ l, 0) := by
  unfold putS; rw [if_pos h, hx]; exact if_neg hl
/-- The four ways of a Put. -/
theorem put_ways (l : List (Win α)) (k : List UInt8) (a v : Int) :
    (¬ (keyOk k = true ∧ O.right a = true) ∧ putS O l k a v = (l, 1)) ∨
    ((keyOk k = true ∧ O.right a = true) ∧ ((∃ x, look l k (O.start a) = some x ∧ putS O l k a v = (ins ⟨k, O.start a, O.add x v⟩ l, 0)) ∨
      (look l k (O.start a) = none ∧ ((32 ≤ l.length ∧ putS O l k a v = (l, 6)) ∨ (¬ 32 ≤ l.length ∧ putS O l k a v = (ins ⟨k, O.start a, O.add O.zero v⟩ l, 0)))))) := by
  by_cases h : keyOk k = true ∧ O.right a = true
  · refine .inr ⟨h, ?_⟩
    cases hx : look l k (O.start a) with
    | some x => exact .inl ⟨x, rfl, put_open h hx⟩
    | none =>
      refine .inr ⟨rfl, ?_⟩
      by_cases hl : 32 ≤ l.length
      · exact .inl ⟨hl, put_full h hx hl⟩
      · exact .inr ⟨hl, put_new h hx hl⟩
  · exact .inl ⟨h, put_no h⟩
theorem put_good (hO : O.Law num) (h : Good O l) {k : List UInt8} {a v : Int} (hv : num v) : Good O (putS O l k a v).1 := by
  rcases put_ways (O := O) l k a v with ⟨_, e⟩ | ⟨hk, ⟨x, hx, e⟩ | ⟨hx, ⟨_, e⟩ | ⟨hl, e⟩⟩⟩
  · rw [e]; exact h
  · rw [e]
    exact good_ins h ⟨hk.1, hO.start a hk.2, hO.more x v (h.all _ (look_some hx)).2.2 hv⟩ (.inl (by rw [hx]; rfl))
  · rw [e]; exact h
  · rw [e]
    exact good_ins h ⟨hk.1, hO.start a hk.2, hO.first v hv⟩ (.inr (by omega))
theorem set_ways (l : List (Win α)) (w : Win α) :
    (¬ (keyOk w.key = true ∧ O.isStart w.start = true ∧ O.ok w.agg = true) ∧ setS O l w = (l, 1)) ∨
    ((keyOk w.key = true ∧ O.isStart w.start = true ∧ O.ok w.agg = true) ∧ (((look l w.key w.start).isSome = true ∧ setS O l w = (l, 5)) ∨
      (look l w.key w.start = none ∧ ((32 ≤ l.length ∧ setS O l w = (l, 6)) ∨ (¬ 32 ≤ l.length ∧ setS O l w = (ins w l, 0)))))) := by
  unfold setS
  by_cases h : keyOk w.key = true ∧ O.isStart w.start = true ∧ O.ok w.agg = true
  · refine .inr ⟨h, ?_⟩
    rw [if_pos h]
    cases hx : look l w.key w.start with
    | some x => exact .inl ⟨rfl, if_pos rfl⟩
    | none =>
      refine .inr ⟨rfl, ?_⟩
      rw [if_neg (by simp)]
      by_cases hl : 32 ≤ l.length
      · exact .inl ⟨hl, if_pos hl⟩
      · exact .inr ⟨hl, if_neg hl⟩
  · exact .inl ⟨h, if_neg h⟩
theorem set_good (h : Good O l) (w : Win α) : Good O (setS O l w).1 := by
  rcases set_ways (O := O) l w with ⟨_, e⟩ | ⟨hk, ⟨_, e⟩ | ⟨hx, ⟨_, e⟩ | ⟨hl, e⟩⟩⟩
  · rw [e]; exact h
  · rw [e]; exact h
  · rw [e]; exact h
  · rw [e]; exact good_ins h hk (.inr (by omega))
theorem filter_good {p : Win α → Bool} (h : Good O l) : Good O (l.filter p) :=
  ⟨rise_filter h.rise, Nat.le_trans (List.length_filter_le _ _) h.most, fun a ha => h.all a (List.mem_filter.1 ha).1⟩
theorem take_good (h : Good O l) (m : Int) : Good O (takeS O l m).1 ∧ Good O (takeS O l m).2 := ⟨filter_good h, filter_good h⟩
theorem take_len (l : List (Win α)) (m : Int) : (takeS O l m).2.length + (takeS O l m).1.length = l.length := by
  unfold takeS
  induction l with
  | nil => rfl
  | cons a l ih =>
    simp only [List.filter_cons]
    cases O.over a.start m <;> simp at ih ⊢ <;> omega
theorem take_over {m : Int} {a : Win α} : (a ∈ (takeS O l m).2 → O.over a.start m = true) ∧ (a ∈ (takeS O l m).1 → O.over a.start m = false) :=
  ⟨fun h => (List.mem_filter.1 h).2, fun h => by simpa using (List.mem_filter.1 h).2⟩
theorem look_take (m : Int) (k : List UInt8) (s : Int) : look (takeS O l m).1 k s = (if O.over s m then none else look l k s) ∧ look (takeS O l m).2 k s = (if O.over s m then look l k s else none) := by
  unfold takeS
  refine ⟨?_, look_filter (p := fun x => O.over x m) k s⟩
  have := look_filter (p := fun x => !O.over x m) (l := l) k s
  rw [this]
  cases O.over s m <;> rfl

/-- What is refused changes nothing; the error says why. -/
theorem put_refused (h : Good O l) {k : List UInt8} {a v : Int} :
    ((putS O l k a v).2 = 0 ∧ (keyOk k = true ∧ O.right a = true) ∧ ((look l k (O.start a)).isSome = true ∨ l.length < 32)) ∨
    ((putS O l k a v).1 = l ∧ ((putS O l k a v).2 = 1 ∧ ¬ (keyOk k = true ∧ O.right a = true) ∨ (putS O l k a v).2 = 6 ∧ look l k (O.start a) = none ∧ l.length = 32 ∧ keyOk k = true ∧ O.right a = true)) := by
  rcases put_ways (O := O) l k a v with ⟨hn, e⟩ | ⟨hk, ⟨x, hx, e⟩ | ⟨hx, ⟨hl, e⟩ | ⟨hl, e⟩⟩⟩
  · rw [e]; exact .inr ⟨rfl, .inl ⟨rfl, hn⟩⟩
  · rw [e]; exact .inl ⟨rfl, hk, .inl (by rw [hx]; rfl)⟩
  · rw [e]; exact .inr ⟨rfl, .inr ⟨rfl, hx, Nat.le_antisymm h.most hl, hk⟩⟩
  · rw [e]; exact .inl ⟨rfl, hk, .inr (by omega)⟩
/-- A window behind a Put. -/
theorem look_put (h : Good O l) {k : List UInt8} {a v : Int} (k' : List UInt8) (s : Int) :
    look (putS O l k a v).1 k' s = if (putS O l k a v).2 = 0 ∧ k = k' ∧ O.start a = s then some (O.add ((look l k' s).getD O.zero) v) else look l k' s := by
  rcases put_ways (O := O) l k a v with ⟨hn, e⟩ | ⟨hk, ⟨x, hx, e⟩ | ⟨hx, ⟨hl, e⟩ | ⟨hl, e⟩⟩⟩
  · rw [e]; exact (if_neg (fun h => by cases h.1)).symm
  · rw [e]
    show look (ins _ l) k' s = _
    rw [look_ins h.rise]
    by_cases hh : k = k' ∧ O.start a = s
    · obtain ⟨rfl, rfl⟩ := hh
      rw [if_pos (show at_ k (O.start a) _ from ⟨rfl, rfl⟩), if_pos ⟨rfl, rfl, rfl⟩, hx]; rfl
    · rw [if_neg (show ¬ at_ k' s (⟨k, O.start a, O.add x v⟩ : Win α) from fun hx => hh hx), if_neg (fun hx => hh hx.2)]
  · rw [e]; exact (if_neg (fun h => by cases h.1)).symm
  · rw [e]
    show look (ins _ l) k' s = _
    rw [look_ins h.rise]
    by_cases hh : k = k' ∧ O.start a = s
    · obtain ⟨rfl, rfl⟩ := hh
      rw [if_pos (show at_ k (O.start a) _ from ⟨rfl, rfl⟩), if_pos ⟨rfl, rfl, rfl⟩, hx]; rfl
    · rw [if_neg (show ¬ at_ k' s (⟨k, O.start a, O.add O.zero v⟩ : Win α) from fun hx => hh hx), if_neg (fun hx => hh hx.2)]
theorem put_len (h : Good O l) {k : List UInt8} {a v : Int} : (putS O l k a v).1.length = if (putS O l k a v).2 = 0 ∧ (look l k (O.start a)).isSome = false then l.length + 1 else l.length := by
  rcases put_ways (O := O) l k a v with ⟨hn, e⟩ | ⟨hk, ⟨x, hx, e⟩ | ⟨hx, ⟨hl, e⟩ | ⟨hl, e⟩⟩⟩
  · rw [e]; exact (if_neg (fun h => by cases h.1)).symm
  · rw [e]
    show (ins _ l).length = _
    rw [ins_len h.rise, hx]; simp
  · rw [e]; exact (if_neg (fun h => by cases h.1)).symm
  · rw [e]
    show (ins _ l).length = _
    rw [ins_len h.rise, hx]; simp
/-- Two values for two windows may come in either row, if both find room. -/
theorem put_comm (hO : O.Law num) (h : Good O l) {k k' : List UInt8} {a a' v v' : Int} (hv : num v) (_ : num v') (hn : ¬ (k = k' ∧ O.start a = O.start a'))
    (h1 : (putS O l k a v).2 ≠ 6) (h2 : (putS O (putS O l k a v).1 k' a' v').2 ≠ 6) :
    (putS O (putS O l k' a' v').1 k a v).2 = (putS O l k a v).2 ∧ (putS O l k' a' v').2 = (putS O (putS O l k a v).1 k' a' v').2 ∧
    (putS O (putS O l k a v).1 k' a' v').1 = (putS O (putS O l k' a' v').1 k a v).1 := by
  have g1 := put_good hO h (k := k) (a := a) hv
  have hn' : ¬ (k' = k ∧ O.start a' = O.start a) := fun e => hn ⟨e.1.symm, e.2.symm⟩
  have L1 : look (putS O l k a v).1 k' (O.start a') = look l k' (O.start a') := by rw [look_put h, if_neg (fun e => hn e.2)]
  have L2 : look (putS O l k' a' v').1 k (O.start a) = look l k (O.start a) := by rw [look_put h, if_neg (fun e => hn' e.2)]
  have N1 := put_len h (k := k) (a := a) (v := v)
  have N2 := put_len h (k := k') (a := a') (v := v')
  have cm : ∀ x y : α, ins ⟨k', O.start a', y⟩ (ins ⟨k, O.start a, x⟩ l) = ins ⟨k, O.start a, x⟩ (ins ⟨k', O.start a', y⟩ l) := fun x y => ins_comm h.rise (show ¬ at_ k (O.start a) _ from hn')
  by_cases hk : keyOk k = true ∧ O.right a = true
  · by_cases hk' : keyOk k' = true ∧ O.right a' = true
    · cases hx : look l k (O.start a) with
      | some x =>
        rw [hx] at L2
        have e1 := put_open (v := v) hk hx
        cases hy : look l k' (O.start a') with
        | some y =>
          rw [hy] at L1
          have e2 := put_open (v := v') hk' hy
          have e3 := put_open (v := v') hk' L1
          have e4 := put_open (v := v) hk L2
          rw [e3, e4, e1, e2]; exact ⟨rfl, rfl, cm _ _⟩
        | none =>
          rw [hy] at L1
          by_cases hl : 32 ≤ l.length
          · rw [e1] at N1 L1 h2
            have hl1 : 32 ≤ (ins ⟨k, O.start a, O.add x v⟩ l).length := by have := ins_len h.rise (w := ⟨k, O.start a, O.add x v⟩); rw [this]; split <;> omega
            exact absurd (by rw [put_full hk' L1 hl1]) h2
          · have e2 := put_new (v := v') hk' hy hl
            have hl1 : ¬ 32 ≤ (putS O l k a v).1.length := by rw [N1, hx]; simp; omega
            have e3 := put_new (v := v') hk' L1 hl1
            have e4 := put_open (v := v) hk L2
            rw [e3, e4, e1, e2]; exact ⟨rfl, rfl, cm _ _⟩
      | none =>
        rw [hx] at L2
        by_cases hl : 32 ≤ l.length
        · exact absurd (by rw [put_full hk hx hl]) h1
        · have e1 := put_new (v := v) hk hx hl
          cases hy : look l k' (O.start a') with
          | some y =>
            rw [hy] at L1
            have e2 := put_open (v := v') hk' hy
            have e3 := put_open (v := v') hk' L1
            have hl2 : ¬ 32 ≤ (putS O l k' a' v').1.length := by rw [N2, hy]; simp; omega
            have e4 := put_new (v := v) hk L2 hl2
            rw [e3, e4, e1, e2]; exact ⟨rfl, rfl, cm _ _⟩
          | none =>
            rw [hy] at L1
            have e2 := put_new (v := v') hk' hy hl
            have n1 : (putS O l k a v).1.length = l.length + 1 := by rw [N1, e1, hx]; simp
            have n2 : (putS O l k' a' v').1.length = l.length + 1 := by rw [N2, e2, hy]; simp
            by_cases hl1 : 32 ≤ l.length + 1
            · exact absurd (by rw [put_full hk' L1 (by rw [n1]; exact hl1)]) h2
            · have e3 := put_new (v := v') hk' L1 (by rw [n1]; exact hl1)
              have e4 := put_new (v := v) hk L2 (by rw [n2]; exact hl1)
              rw [e3, e4, e1, e2]; exact ⟨rfl, rfl, cm _ _⟩
    · rw [put_no (l := l) hk', put_no hk']; exact ⟨rfl, rfl, rfl⟩
  · rw [put_no (l := l) hk, put_no hk]; exact ⟨rfl, rfl, rfl⟩
/-- A row that is set into an empty store, window by window, the last one first. -/
theorem set_all : ∀ {l : List (Win α)}, Good O l → l.reverse.foldl (fun r w => (setS O r w).1) [] = l
  | [], _ => rfl
  | a :: l, h => by
    obtain ⟨h1, h2⟩ := List.pairwise_cons.1 h.rise
    have hg : Good O l := ⟨h2, by have := h.most; rw [List.length_cons] at this; omega, fun b hb => h.all b (List.mem_cons_of_mem _ hb)⟩
    rw [List.reverse_cons, List.foldl_append, set_all hg]
    show (setS O l a).1 = a :: l
    have hn : look l a.key a.start = none := look_none (fun b hb hx => ahead_not (h1 b hb) ⟨hx.1.symm, hx.2.symm⟩)
    have hl : ¬ 32 ≤ l.length := by have := h.most; rw [List.length_cons] at this; omega
    unfold setS
    rw [if_pos (h.all a List.mem_cons_self), hn, if_neg (by simp), if_neg hl]
    show ins a l = a :: l
    cases l with
    | nil => rfl
    | cons b l =>
      have hb := h1 b List.mem_cons_self
      rw [ins, if_neg (by rw [ahead_asymm hb]; exact Bool.false_ne_true), if_pos hb]
/-- .. and each of them goes through. -/
theorem set_next {a : Win α} (h : Good O (a :: l)) : setS O l a = (a :: l, 0) := by
  obtain ⟨h1, h2⟩ := List.pairwise_cons.1 h.rise
  have hn : look l a.key a.start = none := look_none (fun b hb hx => ahead_not (h1 b hb) ⟨hx.1.symm, hx.2.symm⟩)
  have hl : ¬ 32 ≤ l.length := by have := h.most; rw [List.length_cons] at this; omega
  unfold setS
  rw [if_pos (h.all a List.mem_cons_self), hn, if_neg (by simp), if_neg hl]
  cases l with
  | nil => rfl
  | cons b l =>
    have hb := h1 b List.mem_cons_self
    rw [ins, if_neg (by rw [ahead_asymm hb]; exact Bool.false_ne_true), if_pos hb]
end Go.Proofs.YtigmhljaoicdbaaGreat

namespace Go.Proofs.YtigmhljaoicdbaaGreat
open Go.RowKit

/-- Block p holds a store with these windows; m: where its map lies. -/
structure StAt (w : World) (p : Nat) (m : Option Nat) (l : List (Win AggV)) : Prop where
  way : w.cell? ⟨p, 0, none⟩ = some (.map m)
  free : w.frozen? ⟨p, 0, none⟩ = false
  what : (m = none ∧ l = []) ∨ ∃ b, m = some b ∧ MapIs w b l
  off : ∀ b, m = some b → b ≠ p
  fine : Fine l
def foot (p : Nat) (m : Option Nat) (k : Nat) : Prop := k = p ∨ m = some k
theorem StAt.lt {w : World} {p : Nat} {m : Option Nat} {l : List (Win AggV)} (h : StAt w p m l) : ∀ k, foot p m k → k < w.heap.size := by
  rintro k (rfl | e)
  · exact World.block_lt_of_cell? _ _ h.way
  · rcases h.what with ⟨h0, _⟩ | ⟨b, hb, hm⟩
    · rw [h0] at e; cases e
    · rw [hb] at e; cases e; exact hm.lt
theorem StAt.keep {G : Nat → Prop} {w w' : World} {p : Nat} {m : Option Nat} {l : List (Win AggV)} (h : StAt w p m l) (k : Moved G w w') (hG : ∀ i, G i → ¬ foot p m i) : StAt w' p m l := by
  have hp : p < w.heap.size := h.lt p (.inl rfl)
  have hn : ¬ G p := fun g => hG p g (.inl rfl)
  refine ⟨(k.cell (p := ⟨p, 0, none⟩) hp hn).trans h.way, (k.frozen (p := ⟨p, 0, none⟩) hp hn).trans h.free, h.what.imp id ?_, h.off, h.fine⟩
  rintro ⟨b, hb, hm⟩
  exact ⟨b, hb, hm.keep (k.block b hm.lt fun g => hG b g (.inr hb))⟩
/-- A store at p, of the blocks F. -/
def StIs (w : World) (p : Nat) (F : Nat → Prop) (l : List (Win AggV)) : Prop := ∃ m, StAt w p m l ∧ F = foot p m
theorem StIs.lt {w : World} {p : Nat} {F : Nat → Prop} {l : List (Win AggV)} (h : StIs w p F l) : ∀ k, F k → k < w.heap.size := by obtain ⟨m, h, rfl⟩ := h; exact h.lt
theorem StIs.keep {G F : Nat → Prop} {w w' : World} {p : Nat} {l : List (Win AggV)} (h : StIs w p F l) (k : Moved G w w') (hG : ∀ i, G i → ¬ F i) : StIs w' p F l := by
  obtain ⟨m, h, rfl⟩ := h; exact ⟨m, h.keep k hG, rfl⟩
theorem StIs.fine {w : World} {p : Nat} {F : Nat → Prop} {l : List (Win AggV)} (h : StIs w p F l) : Fine l := by obtain ⟨m, h, rfl⟩ := h; exact h.fine
/-- A step of a store. -/
def Did (w w' : World) (p : Nat) (F : Nat → Prop) (l : List (Win AggV)) : Prop := ∃ F', StIs w' p F' l ∧ (∀ k, F' k → F k ∨ w.heap.size ≤ k) ∧ Moved F w w'
theorem Did.start {w w' : World} {p : Nat} {F : Nat → Prop} {l : List (Win AggV)} (h : StIs w p F l) (k : Moved (fun _ => False) w w') : Did w w' p F l :=
  ⟨F, h.keep k fun _ f => f.elim, fun _ f => .inl f, k.mono fun _ f => f.elim⟩
theorem Did.trans {w w1 w2 : World} {p : Nat} {F F1 : Nat → Prop} {l : List (Win AggV)} (hf : ∀ k, F1 k → F k ∨ w.heap.size ≤ k) (k : Moved F w w1) (h : Did w1 w2 p F1 l) : Did w w2 p F l := by
  obtain ⟨F2, h2, f2, m2⟩ := h
  refine ⟨F2, h2, fun i hi => ?_, k.trans m2 hf⟩
  rcases f2 i hi with h' | h'
  · exact hf i h'
  · exact .inr (Nat.le_trans k.size h')
theorem StAt.look {w : World} {p : Nat} {m : Option Nat} {l : List (Win AggV)} (h : StAt w p m l) {k : List UInt8} {s : Int} (hk : okk k s) :
    (Instr.lookup 135 (.map m) (kv k s) true).run Tryz.prog w = .ok (.tuple #[aggV ((look l k s).getD zero), .bool (look l k s).isSome]) w := by
  rcases h.what with ⟨rfl, rfl⟩ | ⟨b, rfl, hm⟩
  · exact look_nilmap hk
  · exact hm.look h.fine hk
theorem StAt.len {w : World} {p : Nat} {m : Option Nat} {l : List (Win AggV)} (h : StAt w p m l) (ty : TypeId) : (Builtin.len_ #[135] ty #[.map m]).run Tryz.prog w = .ok (.int .i64 (l.length : Int)) w := by
  rcases h.what with ⟨rfl, rfl⟩ | ⟨b, rfl, hm⟩
  · exact len_nilmap ty
  · exact hm.len ty

theorem new_any (w : World) : Calls Tryz.prog 51 #[] w fun e w' => e = .returned (.pointer (some ⟨w.heap.size, 0, none⟩)) ∧ Below w.heap.size w w' ∧ StIs w' w.heap.size (foot w.heap.size none) [] := by
  go_enter Tryz.func51, Tryz.ntmps51
  go_wp2
  go_ret
  refine ⟨rfl, (Below.refl _ _).alloc (Nat.le_refl _) _, none, ⟨?_, ?_, .inl ⟨rfl, rfl⟩, fun b e => (by cases e), Fine.nil⟩, rfl⟩
  · rw [World.cell?_alloc_new]; rfl
  · simp
theorem key_any (k : List UInt8) (w : World) : Calls Tryz.prog 78 #[.string ⟨k.toArray⟩] w fun e w' => e = .returned (.bool (keyOk k)) ∧ w' = w := by
  have hz : (⟨k.toArray⟩ : ByteArray).size = k.length := by simp [ByteArray.size]
  by_cases h1 : (1 : Int) ≤ (k.length : Int)
  · by_cases h2 : (k.length : Int) ≤ 16
    · have hd : Hid (keyOk k = true) := hide (by unfold keyOk; rw [decide_eq_true_eq]; omega)
      go_enter Tryz.func78, Tryz.ntmps78
      go_wp2
      go_ret
      exact ⟨by rw [unhide hd]; rfl, rfl⟩
    · have hd : Hid (keyOk k = false) := hide (by unfold keyOk; rw [decide_eq_false_iff_not]; omega)
      go_enter Tryz.func78, Tryz.ntmps78
      go_wp2
      go_ret
      exact ⟨by rw [unhide hd]; rfl, rfl⟩
  · have hd : Hid (keyOk k = false) := hide (by unfold keyOk; rw [decide_eq_false_iff_not]; omega)
    go_enter Tryz.func78, Tryz.ntmps78
    go_wp2
    go_ret
    exact ⟨by rw [unhide hd]; rfl, rfl⟩
theorem rkey_any (k : List UInt8) (w : World) : Calls Tryz.prog 59 #[.string ⟨k.toArray⟩] w fun e w' => e = .returned (.bool (keyOk k)) ∧ w' = w := by
  have hz : (⟨k.toArray⟩ : ByteArray).size = k.length := by simp [ByteArray.size]
  by_cases h1 : (0 : Int) < (k.length : Int)
  · by_cases h2 : (k.length : Int) ≤ 16
    · have hd : Hid (keyOk k = true) := hide (by unfold keyOk; rw [decide_eq_true_eq]; omega)
      go_enter Tryz.func59, Tryz.ntmps59
      go_wp2
      go_ret
      exact ⟨by rw [unhide hd]; rfl, rfl⟩
    · have hd : Hid (keyOk k = false) := hide (by unfold keyOk; rw [decide_eq_false_iff_not]; omega)
      go_enter Tryz.func59, Tryz.ntmps59
      go_wp2
      go_ret
      exact ⟨by rw [unhide hd]; rfl, rfl⟩
  · have hd : Hid (keyOk k = false) := hide (by unfold keyOk; rw [decide_eq_false_iff_not]; omega)
    go_enter Tryz.func59, Tryz.ntmps59
    go_wp2
    go_ret
    exact ⟨by rw [unhide hd]; rfl, rfl⟩
theorem full_any {w : World} {p : Nat} {F : Nat → Prop} {l : List (Win AggV)} (h : StIs w p F l) : Calls Tryz.prog 89 #[.pointer (some ⟨p, 0, none⟩)] w fun e w' => e = .returned (.bool (decide (32 ≤ l.length))) ∧ w' = w := by
  obtain ⟨m, h, rfl⟩ := h
  have hw := h.way
  have hl := fun ty => h.len ty
  have hd : Hid (decide (32 ≤ l.length) = decide ((32 : Int) ≤ (l.length : Int))) := hide (by rw [decide_eq_decide]; omega)
  clear h
  go_enter Tryz.func89, Tryz.ntmps89
  go_wp2
  go_ret
  exact ⟨by rw [unhide hd]; rfl, rfl⟩
theorem get_nil (k : List UInt8) (s : Int) (w : World) : Calls Tryz.prog 88 #[.pointer none, .string ⟨k.toArray⟩, .int .i64 s] w fun e w' => e = .returned (.tuple #[aggV zero, .bool false]) ∧ Below w.heap.size w w' := by
  go_enter Tryz.func88, Tryz.ntmps88
  go_wp2
  refine bodyPost_ret (v := .tuple #[aggV zero, .bool false]) (by simp [results, Tryz.results88, go_sem, aggV, cellsA, I, zero]) rfl ⟨rfl, ?_⟩
  exact (Below.refl _ _).alloc (Nat.le_refl _) _
theorem get_any {w : World} {p : Nat} {F : Nat → Prop} {l : List (Win AggV)} (h : StIs w p F l) {k : List UInt8} {s : Int} (hk : okk k s) :
    Calls Tryz.prog 88 #[.pointer (some ⟨p, 0, none⟩), .string ⟨k.toArray⟩, .int .i64 s] w fun e w' => e = .returned (.tuple #[aggV ((look l k s).getD zero), .bool (look l k s).isSome]) ∧ Below w.heap.size w w' := by
  obtain ⟨m, h, rfl⟩ := h
  have hw := h.way
  have hp : p < w.heap.size := h.lt p (.inl rfl)
  have hlk : ∀ W, Below w.heap.size w W → (Instr.lookup 135 (.map m) (.agg #[.int .i64 s, .string ⟨k.toArray⟩]) true).run Tryz.prog W = .ok (.tuple #[aggV ((look l k s).getD zero), .bool (look l k s).isSome]) W := fun W hb =>
    (h.keep (Moved.of_below (F := fun _ => False) hb) (fun _ f => f.elim)).look hk
  have b1 : Below w.heap.size w (w.alloc (.cells #[.int .i64 0, .int .i64 0, .int .i64 0, .int .i64 0, .int .i64 0, .int .i64 0, .int .i64 0, .int .i64 0] 50)) := (Below.refl _ _).alloc (Nat.le_refl _) _
  have e1 := hlk _ b1
  clear hlk h
  generalize (look l k s).isSome = o at *
  generalize (look l k s).getD zero = a at *
  obtain ⟨a0, a1, a2, a3, a4, a5, a6, a7⟩ := a
  simp only [aggV, cellsA, I] at e1 ⊢
  have B1 := hide b1
  clear b1
  go_enter Tryz.func88, Tryz.ntmps88
  go_wp2
  refine bodyPost_ret (v := .tuple #[.agg #[.int .i64 a0, .int .i64 a1, .int .i64 a2, .int .i64 a3, .int .i64 a4, .int .i64 a5, .int .i64 a6, .int .i64 a7], .bool o]) (by simp [results, Tryz.results88, go_sem]) rfl ⟨rfl, ?_⟩
  exact ((Below.refl _ _).alloc (Nat.le_refl _) _).alloc (by simp) _
end Go.Proofs.YtigmhljaoicdbaaGreat

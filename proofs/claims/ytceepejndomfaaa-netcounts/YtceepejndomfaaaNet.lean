/- What a net is in memory: its packets' row, its links' channels. No conditions. -/
import Derived.Test.YtceepejndomfaaaSel
namespace Go.Proofs.Ytceepejndomfaaa
open Go.RowKit

/-- A packet's fields. -/
structure Pkt where
  f : Int
  t : Int
  d : ByteArray
deriving DecidableEq
def Pkt.cells (q : Pkt) : List Value := [.int .i64 q.f, .int .i64 q.t, .string q.d]
def Pkt.val (q : Pkt) : Value := .agg #[.int .i64 q.f, .int .i64 q.t, .string q.d]
def Pkt.zero : Pkt := ⟨0, 0, ⟨#[]⟩⟩
def pcells (l : List Pkt) : List Value := l.flatMap Pkt.cells
theorem pcells_length (l : List Pkt) : (pcells l).length = l.length * 3 := by
  induction l with
  | nil => rfl
  | cons q l ih => simp only [pcells, List.flatMap_cons, List.length_append, List.length_cons] at ih ⊢; rw [ih]; simp [Pkt.cells]; omega
theorem pcells_append (l m : List Pkt) : pcells (l ++ m) = pcells l ++ pcells m := by simp [pcells]
theorem pcells_one (q : Pkt) : pcells [q] = q.cells := by simp [pcells]
theorem pcells_oneCell (l : List Pkt) : ∀ u ∈ pcells l, u.oneCell' = true := by
  intro u hu
  simp only [pcells, List.mem_flatMap, Pkt.cells] at hu
  obtain ⟨q, _, hq⟩ := hu
  simp only [List.mem_cons, List.not_mem_nil, or_false] at hq
  rcases hq with rfl | rfl | rfl <;> rfl
theorem pcells_take (l : List Pkt) (i : Nat) : (pcells l).take (i * 3) = pcells (l.take i) := by
  induction l generalizing i with
  | nil => simp [pcells]
  | cons q l ih =>
    cases i with
    | zero => simp [pcells]
    | succ i =>
      have e : pcells (q :: l) = q.cells ++ pcells l := by simp [pcells]
      rw [e, show (i + 1) * 3 = q.cells.length + i * 3 by simp [Pkt.cells]; omega, List.take_length_add_append, ih]
      simp [pcells]
theorem pcells_drop (l : List Pkt) (i : Nat) : (pcells l).drop (i * 3) = pcells (l.drop i) := by
  induction l generalizing i with
  | nil => simp [pcells]
  | cons q l ih =>
    cases i with
    | zero => simp [pcells]
    | succ i =>
      have e : pcells (q :: l) = q.cells ++ pcells l := by simp [pcells]
      rw [e, show (i + 1) * 3 = q.cells.length + i * 3 by simp [Pkt.cells]; omega, List.drop_length_add_append, ih]
      simp
theorem pcells_at (l : List Pkt) (i : Nat) (h : i < l.length) (j : Nat) (hj : j < 3) : (pcells l)[i * 3 + j]? = (l.getD i Pkt.zero).cells[j]? := by
  have h1 : (pcells l)[i * 3 + j]? = ((pcells l).drop (i * 3))[j]? := by rw [List.getElem?_drop]
  rw [h1, pcells_drop, List.drop_eq_getElem_cons h]
  have e : pcells (l[i] :: l.drop (i + 1)) = l[i].cells ++ pcells (l.drop (i + 1)) := List.flatMap_cons
  rw [e, List.getElem?_append_left (by simp [Pkt.cells]; exact hj), List.getD_eq_getElem?_getD, List.getElem?_eq_getElem h]
  rfl

/-- From and To are places. -/
def Pkt.ok (q : Pkt) : Prop := 0 ≤ q.f ∧ q.f ≤ 8 ∧ 0 ≤ q.t ∧ q.t ≤ 8
instance (q : Pkt) : Decidable q.ok := by unfold Pkt.ok; infer_instance
/-- The number of its link. -/
def Pkt.link (q : Pkt) : Nat := q.f.toNat * 9 + q.t.toNat
theorem Pkt.link_lt {q : Pkt} (h : q.ok) : q.link < 81 := by unfold Pkt.ok at h; unfold Pkt.link; omega
theorem Pkt.link_eq {p q : Pkt} (hp : p.ok) (hq : q.ok) : p.link = q.link ↔ p.f = q.f ∧ p.t = q.t := by
  unfold Pkt.ok at hp hq; unfold Pkt.link; omega
/-- How many of a link. -/
def cnt (i : Nat) (l : List Pkt) : Nat := (l.filter fun q => decide (q.link = i)).length
theorem cnt_nil (i : Nat) : cnt i [] = 0 := rfl
theorem cnt_append (i : Nat) (l m : List Pkt) : cnt i (l ++ m) = cnt i l + cnt i m := by simp [cnt]
theorem cnt_one (i : Nat) (q : Pkt) : cnt i [q] = if q.link = i then 1 else 0 := by
  unfold cnt; by_cases h : q.link = i <;> simp [h]
theorem cnt_erase (i k : Nat) (l : List Pkt) (h : k < l.length) : cnt i (l.take k ++ l.drop (k + 1)) + (if (l.getD k Pkt.zero).link = i then 1 else 0) = cnt i l := by
  have e : l = l.take k ++ (l.getD k Pkt.zero :: l.drop (k + 1)) := by
    have := List.take_append_drop k l
    rw [List.drop_eq_getElem_cons h] at this
    rw [List.getD_eq_getElem?_getD, List.getElem?_eq_getElem h]
    exact this.symm
  have e2 : cnt i l = cnt i (l.take k) + cnt i [l.getD k Pkt.zero] + cnt i (l.drop (k + 1)) := by
    conv => lhs; rw [e]
    rw [show l.take k ++ (l.getD k Pkt.zero :: l.drop (k + 1)) = l.take k ++ [l.getD k Pkt.zero] ++ l.drop (k + 1) by simp, cnt_append, cnt_append]
  rw [e2, cnt_append, cnt_one]
  omega
def tot (l : List Pkt) : Nat → Nat
  | 0 => 0
  | n + 1 => tot l n + cnt n l
theorem tot_cons (q : Pkt) (l : List Pkt) (n : Nat) : tot (q :: l) n = tot l n + if q.link < n then 1 else 0 := by
  induction n with
  | zero => simp [tot]
  | succ n ih =>
    have e : cnt n (q :: l) = (if q.link = n then 1 else 0) + cnt n l := by
      rw [show q :: l = [q] ++ l from rfl, cnt_append, cnt_one]
    simp only [tot, ih, e]
    by_cases h : q.link = n
    · simp [h]; omega
    · by_cases h2 : q.link < n
      · simp [h, h2, show q.link < n + 1 by omega]; omega
      · simp [h, h2, show ¬ q.link < n + 1 by omega]
theorem tot_all (l : List Pkt) (h : ∀ q ∈ l, q.ok) : tot l 81 = l.length := by
  induction l with
  | nil => decide
  | cons q l ih =>
    rw [tot_cons, ih fun q hq => h q (by simp [hq]), if_pos (Pkt.link_lt (h q (by simp)))]; rfl
theorem tot_le (l : List Pkt) (n : Nat) (h : ∀ i, cnt i l ≤ 64) : tot l n ≤ 64 * n := by
  induction n with
  | zero => simp [tot]
  | succ n ih => have := h n; simp only [tot]; omega
theorem len_le (l : List Pkt) (h : ∀ q ∈ l, q.ok) (hm : ∀ i, cnt i l ≤ 64) : l.length ≤ 5184 := by
  rw [← tot_all l h]; exact Nat.le_trans (tot_le l 81 hm) (by decide)

/-- The links' channels of the net at p: link i has n i marks. -/
structure RoomAt (w : World) (p : Nat) (ch : Nat → Option Nat) (n : Nat → Nat) : Prop where
  cell : ∀ i, i < 81 → w.cell? ⟨p, 1 + i, none⟩ = some (.chan (ch i))
  free : ∀ i, i < 81 → w.frozen? ⟨p, 1 + i, none⟩ = false
  chan : ∀ i k, i < 81 → ch i = some k → ∃ buf s r, w.heap[k]? = some (.chan 64 buf false s r false) ∧ buf.size = n i
  none_ : ∀ i, i < 81 → ch i = none → n i = 0
  inj : ∀ i j k, i < 81 → j < 81 → ch i = some k → ch j = some k → i = j
/-- Its blocks. -/
def rfoot (p : Nat) (ch : Nat → Option Nat) (k : Nat) : Prop := k = p ∨ ∃ i, i < 81 ∧ ch i = some k
theorem cell_no_chan {w : World} {p o k : Nat} {v : Value} {cap s r : Nat} {buf : Array Value} {cl tm : Bool} (h : w.cell? ⟨p, o, none⟩ = some v) (hk : w.heap[k]? = some (.chan cap buf cl s r tm)) : k ≠ p := by
  intro e
  subst e
  simp [World.cell?, hk] at h
theorem lt_of_heap {w : World} {k : Nat} {o : Obj} (h : w.heap[k]? = some o) : k < w.heap.size := by
  have := (Array.getElem?_eq_some_iff.1 h).1
  exact this
theorem RoomAt.lt {w : World} {p : Nat} {ch : Nat → Option Nat} {n : Nat → Nat} (h : RoomAt w p ch n) : ∀ k, rfoot p ch k → k < w.heap.size := by
  rintro k (rfl | ⟨i, hi, e⟩)
  · exact World.block_lt_of_cell? _ _ (h.cell 0 (by omega))
  · obtain ⟨_, _, _, hk, _⟩ := h.chan i k hi e
    exact lt_of_heap hk
theorem RoomAt.keep {F : Nat → Prop} {w w' : World} {p : Nat} {ch : Nat → Option Nat} {n : Nat → Nat} (h : RoomAt w p ch n) (m : Moved F w w') (hF : ∀ k, F k → ¬ rfoot p ch k) : RoomAt w' p ch n := by
  have hp : p < w.heap.size := h.lt p (.inl rfl)
  have hn : ¬ F p := fun f => hF p f (.inl rfl)
  refine ⟨fun i hi => (m.cell (p := ⟨p, 1 + i, none⟩) hp hn).trans (h.cell i hi), fun i hi => (m.frozen (p := ⟨p, 1 + i, none⟩) hp hn).trans (h.free i hi), fun i k hi e => ?_, h.none_, h.inj⟩
  obtain ⟨buf, s, r, hk, hs⟩ := h.chan i k hi e
  exact ⟨buf, s, r, (m.block k (h.lt k (.inr ⟨i, hi, e⟩)) (fun f => hF k f (.inr ⟨i, hi, e⟩))).trans hk, hs⟩
def up (n : Nat → Nat) (i : Nat) : Nat → Nat := fun j => if j = i then n j + 1 else n j
def down (n : Nat → Nat) (i : Nat) : Nat → Nat := fun j => if j = i then n j - 1 else n j
/-- One mark more in a channel that is there. -/
theorem RoomAt.mark {w : World} {p : Nat} {ch : Nat → Option Nat} {n : Nat → Nat} (h : RoomAt w p ch n) {i k : Nat} (hi : i < 81) (hk : ch i = some k) (n' : Nat → Nat) (hn : ∀ j, j ≠ i → n' j = n j) {buf : Array Value} (hb : buf.size = n' i) (s r : Nat) :
    RoomAt (w.setChan k 64 buf false s r false) p ch n' := by
  obtain ⟨buf0, s0, r0, h0, _⟩ := h.chan i k hi hk
  have hkp : k ≠ p := cell_no_chan (h.cell 0 (by omega)) h0
  have m : Moved (fun j => j = k) w (w.setChan k 64 buf false s r false) := (Moved.refl (fun j => j = k) w).setChan (.inl rfl) _ _ _ _ _ _
  have hp : p < w.heap.size := h.lt p (.inl rfl)
  refine ⟨fun j hj => (m.cell (p := ⟨p, 1 + j, none⟩) hp (Ne.symm hkp)).trans (h.cell j hj), fun j hj => (m.frozen (p := ⟨p, 1 + j, none⟩) hp (Ne.symm hkp)).trans (h.free j hj), fun j k' hj e => ?_, fun j hj e => ?_, h.inj⟩
  · by_cases hji : j = i
    · subst hji
      rw [hk] at e
      cases e
      exact ⟨buf, s, r, Conc.heap_setChan _ _ _ _ _ _ _ _ (lt_of_heap h0), hb⟩
    · have hne : k' ≠ k := fun e' => hji (h.inj j i k hj hi (e' ▸ e) hk)
      obtain ⟨buf', s', r', hk', hs'⟩ := h.chan j k' hj e
      exact ⟨buf', s', r', (m.block k' (lt_of_heap hk') hne).trans hk', by rw [hn j hji]; exact hs'⟩
  · have hji : j ≠ i := fun e' => by subst e'; rw [hk] at e; cases e
    rw [hn j hji]; exact h.none_ j hj e
/-- A link's channel is made. -/
theorem RoomAt.make {w : World} {p : Nat} {ch : Nat → Option Nat} {n : Nat → Nat} (h : RoomAt w p ch n) {i : Nat} (hi : i < 81) (hk : ch i = none) :
    RoomAt ((w.alloc (.chan 64 #[] false 0 0 false)).setCell ⟨p, 1 + i, none⟩ (.chan (some w.heap.size))) p (fun j => if j = i then some w.heap.size else ch j) n := by
  have hp : p < w.heap.size := h.lt p (.inl rfl)
  have m : Moved (fun j => j = p) w ((w.alloc (.chan 64 #[] false 0 0 false)).setCell ⟨p, 1 + i, none⟩ (.chan (some w.heap.size))) := ((Moved.refl (fun j => j = p) w).alloc _).setCell (p := ⟨p, 1 + i, none⟩) (.inl rfl) _
  have hca : ∀ j, j < 81 → (w.alloc (.chan 64 #[] false 0 0 false)).cell? ⟨p, 1 + j, none⟩ = some (.chan (ch j)) := fun j hj => (World.cell?_alloc_lt _ _ ⟨p, 1 + j, none⟩ hp).trans (h.cell j hj)
  have hnew : ((w.alloc (.chan 64 #[] false 0 0 false)).setCell ⟨p, 1 + i, none⟩ (.chan (some w.heap.size))).heap[w.heap.size]? = some (.chan 64 #[] false 0 0 false) := by
    rw [Below.heap_setCell _ _ _ _ (show w.heap.size ≠ p by omega)]
    exact heap_alloc_new w _
  have hold : ∀ j k', j < 81 → ch j = some k' → k' < w.heap.size := fun j k' hj e => h.lt k' (.inr ⟨j, hj, e⟩)
  refine ⟨fun j hj => ?_, fun j hj => ?_, fun j k' hj e => ?_, fun j hj e => ?_, fun j j' k' hj hj' e e' => ?_⟩
  · by_cases hji : j = i
    · subst hji
      rw [World.cell?_setCell_same (h := hca j hj), if_pos rfl]
    · rw [World.cell?_setCell_other (h := fun he => hji (by have := congrArg Addr.off he; simp at this; omega)), if_neg hji]
      exact hca j hj
  · rw [World.frozen?_setCell]
    exact (World.frozen?_alloc_old _ _ ⟨p, 1 + j, none⟩ (Nat.ne_of_lt hp)).trans (h.free j hj)
  · by_cases hji : j = i
    · subst hji
      simp only [if_true, Option.some.injEq] at e
      subst e
      exact ⟨#[], 0, 0, hnew, by rw [h.none_ j hj hk]; rfl⟩
    · simp only [hji, if_false] at e
      obtain ⟨buf', s', r', hk', hs'⟩ := h.chan j k' hj e
      have hne := cell_no_chan (h.cell 0 (by omega)) hk'
      exact ⟨buf', s', r', (m.block k' (lt_of_heap hk') hne).trans hk', hs'⟩
  · by_cases hji : j = i
    · subst hji; simp at e
    · simp only [hji, if_false] at e; exact h.none_ j hj e
  · by_cases hji : j = i
    · by_cases hji' : j' = i
      · rw [hji, hji']
      · simp only [hji, if_true, Option.some.injEq] at e
        simp only [hji', if_false] at e'
        have := hold j' k' hj' e'
        omega
    · by_cases hji' : j' = i
      · simp only [hji', if_true, Option.some.injEq] at e'
        simp only [hji, if_false] at e
        have := hold j k' hj e
        omega
      · simp only [hji, hji', if_false] at e e'
        exact h.inj j j' k' hj hj' e e'
end Go.Proofs.Ytceepejndomfaaa

/- What an Out and an In are in memory, and what a step on them leaves alone; one append on an Out's row, of a byte or of a text. No conditions. -/
import Derived.Test.YtkbmbcmcnpeabaaDoorMath
import Derived.Test.YtkbmbcmcnpeabaaDoorChecked
import Derived.WalkKit
import Derived.WalkSpells
import Derived.Outline
import Derived.Below
import Derived.Deep.Upon
import Derived.Lib.Builder
import Derived.Lib.AppendStr
import Derived.Lib.UnsafeStr
import Derived.Laws.IdiomStrings
namespace Go.Proofs.YtkbmbcmcnpeabaaDoor
open Pk Go.RowKit

theorem hide {p : Prop} (h : p) : Hid p := h
theorem unhide {p : Prop} (h : Hid p) : p := h
theorem bytes_ext {s t : ByteArray} (h : s.data.toList = t.data.toList) : s = t := by
  cases s; cases t; simp only [ByteArray.mk.injEq]; exact Array.toList_inj.1 h

/-- Of what was there nothing but blocks of F has turned. -/
structure Moved (F : Nat → Prop) (w w' : World) : Prop where
  os : w'.os = w.os
  tape : w'.tape = w.tape
  output : w'.output = w.output
  size : w.heap.size ≤ w'.heap.size
  block : ∀ k, k < w.heap.size → ¬ F k → w'.heap[k]? = w.heap[k]?

theorem Moved.refl (F : Nat → Prop) (w : World) : Moved F w w := ⟨rfl, rfl, rfl, Nat.le_refl _, fun _ _ _ => rfl⟩
theorem Moved.trans {F G : Nat → Prop} {a b c : World} (h : Moved F a b) (k : Moved G b c) (hG : ∀ i, G i → F i ∨ a.heap.size ≤ i) : Moved F a c :=
  ⟨k.os.trans h.os, k.tape.trans h.tape, k.output.trans h.output, Nat.le_trans h.size k.size, fun i hi hF =>
    (k.block i (Nat.lt_of_lt_of_le hi h.size) (fun g => (hG i g).elim hF (fun h' => by omega))).trans (h.block i hi hF)⟩
theorem Moved.mono {F G : Nat → Prop} {a b : World} (h : Moved F a b) (hG : ∀ i, F i → G i ∨ a.heap.size ≤ i) : Moved G a b :=
  ⟨h.os, h.tape, h.output, h.size, fun i hi hn => h.block i hi (fun f => (hG i f).elim hn (fun h' => by omega))⟩
theorem Moved.drew {F : Nat → Prop} {a b : World} (h : Moved F a b) : Moved F a b.drew := ⟨h.os, h.tape, h.output, h.size, h.block⟩
theorem Moved.alloc {F : Nat → Prop} {a b : World} (h : Moved F a b) (o : Obj) : Moved F a (b.alloc o) :=
  ⟨h.os, h.tape, h.output, by have := h.size; simp; omega, fun i hi hF => (Below.heap_alloc b o i (Nat.lt_of_lt_of_le hi h.size)).trans (h.block i hi hF)⟩
theorem Moved.setCell {F : Nat → Prop} {a b : World} (h : Moved F a b) {p : Addr} (hp : F p.block ∨ a.heap.size ≤ p.block) (u : Value) : Moved F a (b.setCell p u) :=
  ⟨h.os, h.tape, h.output, by simpa [World.setCell] using h.size, fun i hi hF => (Below.heap_setCell b p u i (fun e => by subst e; exact hp.elim hF (fun h' => by omega))).trans (h.block i hi hF)⟩
theorem Moved.grown {F : Nat → Prop} {a b c : World} {row : Option Nat} (h : Moved F a b) (hg : b.grownBy c row) (hr : ∀ k, row = some k → F k ∨ a.heap.size ≤ k) : Moved F a c :=
  ⟨hg.os.trans h.os, hg.tape.trans h.tape, hg.output.trans h.output, Nat.le_trans h.size hg.size, fun i hi hF =>
    (hg.block i (Nat.lt_of_lt_of_le hi h.size) (fun e => (hr i e.symm).elim hF (fun h' => by omega))).trans (h.block i hi hF)⟩
theorem Moved.below {F : Nat → Prop} {a b : World} {B : Nat} (h : Moved F a b) (hF : ∀ i, F i → B ≤ i) (hB : B ≤ a.heap.size) : Below B a b :=
  ⟨h.os, h.tape, h.output, h.size, fun k hk => h.block k (by omega) (fun f => by have := hF k f; omega)⟩
theorem Moved.of_below {F : Nat → Prop} {a b : World} (h : Below a.heap.size a b) : Moved F a b := ⟨h.os, h.tape, h.output, h.size, fun k hk _ => h.block k hk⟩
theorem Moved.cell {F : Nat → Prop} {a b : World} (h : Moved F a b) {p : Addr} (hp : p.block < a.heap.size) (hF : ¬ F p.block) : b.cell? p = a.cell? p := World.cell?_of_block (w := a) (h.block p.block hp hF)
theorem Moved.frozen {F : Nat → Prop} {a b : World} (h : Moved F a b) {p : Addr} (hp : p.block < a.heap.size) (hF : ¬ F p.block) : b.frozen? p = a.frozen? p := World.frozen?_of_block (w := a) (h.block p.block hp hF)

/-- The blocks of an Out. -/
def foot (p : Nat) (a : Option Addr) (k : Nat) : Prop := k = p ∨ ∃ x, a = some x ∧ k = x.block
/-- Block p holds an Out whose row, at a with room for c, is l. -/
structure OutAt (w : World) (p : Nat) (a : Option Addr) (c : Nat) (l : List UInt8) : Prop where
  cell : w.cell? ⟨p, 0, none⟩ = some (.slice a l.length c)
  free : w.frozen? ⟨p, 0, none⟩ = false
  own : w.ownsRow 0 5 1 (.slice a l.length c) l.length (Lib.byteCells l)
  off : ∀ x, a = some x → x.block ≠ p

theorem OutAt.lt {w : World} {p : Nat} {a : Option Addr} {c : Nat} {l : List UInt8} (h : OutAt w p a c l) : ∀ k, foot p a k → k < w.heap.size := by
  rintro k (rfl | ⟨x, rfl, rfl⟩)
  · exact World.block_lt_of_cell? _ _ h.cell
  · exact (h.own.lt x.block rfl).2
theorem ownsRow_keep {w w' : World} {e : TypeId} {size : Nat} {v : Value} {n : Nat} {xs : List Value} (h : w.ownsRow 0 e size v n xs) (hb : ∀ k, v.ownBlock = some k → w'.heap[k]? = w.heap[k]?) : w'.ownsRow 0 e size v n xs := by
  obtain ⟨h1, h2⟩ := h
  refine ⟨h1, h2.imp id ?_⟩
  rintro ⟨g, cap, cur, rfl, a1, a2, a3⟩
  exact ⟨g, cap, cur, rfl, a1, (hb g rfl).trans a2, a3⟩
/-- An Out stays where its blocks stay. -/
theorem OutAt.keep {F : Nat → Prop} {w w' : World} {p : Nat} {a : Option Addr} {c : Nat} {l : List UInt8} (h : OutAt w p a c l) (m : Moved F w w') (hF : ∀ k, F k → ¬ foot p a k) : OutAt w' p a c l := by
  have hp : p < w.heap.size := h.lt p (.inl rfl)
  have hn : ¬ F p := fun f => hF p f (.inl rfl)
  refine ⟨(m.cell (p := ⟨p, 0, none⟩) hp hn).trans h.cell, (m.frozen (p := ⟨p, 0, none⟩) hp hn).trans h.free, ownsRow_keep h.own fun k hk => ?_, h.off⟩
  have hk' : foot p a k := by
    cases a with
    | none => simp [Value.ownBlock] at hk
    | some x => simp [Value.ownBlock] at hk; exact .inr ⟨x, rfl, hk.symm⟩
  exact m.block k (h.lt k hk') (fun f => hF k f hk')
/-- A row's place behind a step: where it was, or new. -/
def Fresh (w : World) (a a' : Option Addr) : Prop := ∀ x, a' = some x → a = some x ∨ w.heap.size ≤ x.block
theorem Fresh.refl (w : World) (a : Option Addr) : Fresh w a a := fun _ h => .inl h
theorem Fresh.trans {F : Nat → Prop} {w w1 : World} {a b c : Option Addr} (h : Fresh w a b) (k : Fresh w1 b c) (m : Moved F w w1) : Fresh w a c := fun x hx => by
  rcases k x hx with h' | h'
  · exact h x h'
  · exact .inr (Nat.le_trans m.size h')
theorem Fresh.foot {w : World} {p : Nat} {a a' : Option Addr} (h : Fresh w a a') : ∀ k, foot p a' k → foot p a k ∨ w.heap.size ≤ k := by
  rintro k (rfl | ⟨x, rfl, rfl⟩)
  · exact .inl (.inl rfl)
  · rcases h x rfl with h' | h'
    · exact .inl (.inr ⟨x, h', rfl⟩)
    · exact .inr h'

/-- A step of an Out at p, a: what it holds now, and what has stayed. -/
def Wrote (w w' : World) (p : Nat) (a : Option Addr) (l : List UInt8) : Prop := ∃ a' c', OutAt w' p a' c' l ∧ Fresh w a a' ∧ Moved (foot p a) w w'
theorem Wrote.start {w : World} {p : Nat} {a : Option Addr} {c : Nat} {l : List UInt8} (h : OutAt w p a c l) : Wrote w w p a l := ⟨a, c, h, Fresh.refl _ _, Moved.refl _ _⟩
theorem Wrote.trans {w w1 w2 : World} {p : Nat} {a a1 : Option Addr} {l2 : List UInt8} (f : Fresh w a a1) (m : Moved (foot p a) w w1) (k : Wrote w1 w2 p a1 l2) : Wrote w w2 p a l2 := by
  obtain ⟨a2, c2, h2, f2, m2⟩ := k
  exact ⟨a2, c2, h2, f.trans f2 m, m.trans m2 f.foot⟩

theorem info5 : (Tryd.prog.info? 5).map (fun i => (i.zero, i.size, i.bytes)) = some (some (.int .u8 0), 1, 1) := by kernel_rfl

/-- One append on an Out's row. -/
theorem app {w : World} {a : Option Addr} {c : Nat} {l : List UInt8} (h : w.ownsRow 0 5 1 (.slice a l.length c) l.length (Lib.byteCells l))
    (tx : TypeId) (x : Value) (new : List UInt8) (hs : Src Tryd.prog 1 tx x new.length (Lib.byteCells new) w) (hb : l.length + new.length ≤ 1099511627776)
    (hown : ∀ ty, ∃ v' w', (Builtin.append_ #[48, tx] ty #[.slice a l.length c, x]).run Tryd.prog w = .ok v' w' ∧ w'.ownsRow 0 5 1 v' (l.length + new.length) (Lib.byteCells l ++ Lib.byteCells new) ∧ w.grownBy w' (Value.slice a l.length c).ownBlock) :
    ∃ a' c' w', (∀ ty, (Builtin.append_ #[48, tx] ty #[.slice a l.length c, x]).run Tryd.prog w = .ok (.slice a' (l ++ new).length c') w') ∧
      w'.ownsRow 0 5 1 (.slice a' (l ++ new).length c') (l ++ new).length (Lib.byteCells (l ++ new)) ∧ Fresh w a a' ∧ w.grownBy w' (Value.slice a l.length c).ownBlock := by
  obtain ⟨i0, hi, hz0, hz1, hz2⟩ := info_parts info5
  have key : ∃ a' c' w', (∀ ty, (Builtin.append_ #[48, tx] ty #[.slice a l.length c, x]).run Tryd.prog w = .ok (.slice a' (l.length + new.length) c') w') ∧ Fresh w a a' := by
    have hs' : Src Tryd.prog i0.size tx x new.length (Lib.byteCells new) w := by rw [hz1]; exact hs
    have hxl := h.1
    by_cases hroom : l.length + new.length ≤ c
    · by_cases hn : new.length = 0
      · have hnil : new = [] := List.length_eq_zero_iff.1 hn
        subst hnil
        exact ⟨a, c, w, fun ty => run_append_nothing (P := Tryd.prog) w 48 tx ty 5 i0 Tryd.underlying48 hi a l.length c (by simpa using hroom) x hs', Fresh.refl _ _⟩
      · rcases h.2 with ⟨hv, h0⟩ | ⟨g, cap, cur, hv, hbg, hg, hnc, hcm, hcs, htake⟩
        · simp only [Value.slice.injEq] at hv
          omega
        · simp only [Value.slice.injEq] at hv
          obtain ⟨rfl, _, rfl⟩ := hv
          refine ⟨_, _, _, fun ty => run_append_room_src (P := Tryd.prog) w 48 tx ty 5 i0 Tryd.underlying48 hi g 0 l.length c x new.length (Lib.byteCells new) hs' hroom (fun j hj => ?_) (fun j hj => ?_), Fresh.refl _ _⟩
          · rw [hz1]
            have hj' : j < new.length := by simpa [Lib.byteCells] using hj
            have : (w.cell? ⟨g, 0 + l.length * 1 + j, none⟩) = cur[0 + l.length * 1 + j]? := by simp [World.cell?, hg]
            rw [this, Array.getElem?_eq_getElem (by omega)]; rfl
          · exact Lib.frozen_of_heap hg _
    · have h63 : ((l.length + new.length : Nat) : Int) ≤ 9223372036854775807 := by omega
      have hold : (Builtin.firstCells i0.size l.length (.slice a l.length c)).run Tryd.prog w.drew = .ok (Lib.byteCells l).toArray w.drew := by
        rcases h.2 with ⟨hv, h0⟩ | ⟨g, cap, cur, hv, hbg, hg, hnc, hcm, hcs, htake⟩
        · simp only [Value.slice.injEq] at hv
          obtain ⟨rfl, h1, rfl⟩ := hv
          have hnil : l = [] := List.length_eq_zero_iff.1 h0
          subst hnil
          exact run_firstCells_none w.drew i0.size 0 0 0
        · simp only [Value.slice.injEq] at hv
          obtain ⟨rfl, _, rfl⟩ := hv
          exact run_firstCells_some w.drew i0.size l.length ⟨g, 0, none⟩ l.length c (Lib.byteCells l) (by rw [hz1]; exact hxl) (fun j u' hu' => h.cells (g := g) rfl j u' hu')
      exact ⟨_, _, _, fun ty => run_append_grow_src (P := Tryd.prog) w 48 tx ty 5 i0 (.int .u8 0) Tryd.underlying48 hi hz0 a l.length c (Lib.byteCells l) hold x new.length (Lib.byteCells new) hs' (by omega) h63
        (growslice_fits (by omega) (by rw [hz2]; omega)), fun y hy => by cases hy; exact .inr (Nat.le_refl _)⟩
  obtain ⟨a', c', w', hrun, hf⟩ := key
  obtain ⟨v', w2, hr, ho, hg⟩ := hown 0
  rw [hrun 0] at hr
  simp only [Result.ok.injEq] at hr
  obtain ⟨rfl, rfl⟩ := hr
  have hl : (l ++ new).length = l.length + new.length := List.length_append
  have hc : Lib.byteCells (l ++ new) = Lib.byteCells l ++ Lib.byteCells new := by simp [Lib.byteCells]
  rw [hl, hc]
  exact ⟨a', c', w', hrun, ho, hf, hg⟩

/-- What one append and the store behind it make of an Out. -/
theorem app_done {w w0 w' : World} {p : Nat} {a a' : Option Addr} {c c' : Nat} {l l' : List UInt8} (h : OutAt w p a c l) (m0 : Moved (foot p a) w w0)
    (hc0 : w0.cell? ⟨p, 0, none⟩ = some (.slice a l.length c)) (hf0 : w0.frozen? ⟨p, 0, none⟩ = false)
    (ho : w'.ownsRow 0 5 1 (.slice a' l'.length c') l'.length (Lib.byteCells l')) (hf : Fresh w0 a a') (hg : w0.grownBy w' (Value.slice a l.length c).ownBlock) :
    w'.cell? ⟨p, 0, none⟩ = some (.slice a l.length c) ∧ w'.frozen? ⟨p, 0, none⟩ = false ∧ Wrote w (w'.setCell ⟨p, 0, none⟩ (.slice a' l'.length c')) p a l' := by
  have hp : p < w.heap.size := h.lt p (.inl rfl)
  have hp0 : p < w0.heap.size := Nat.lt_of_lt_of_le hp m0.size
  have hrow : some p ≠ (Value.slice a l.length c).ownBlock := fun e => by
    cases a with
    | none => simp [Value.ownBlock] at e
    | some x => simp [Value.ownBlock] at e; exact h.off x rfl e.symm
  have hblk := hg.block p hp0 hrow
  have hc' : w'.cell? ⟨p, 0, none⟩ = some (.slice a l.length c) := (World.cell?_of_block (a := ⟨p, 0, none⟩) hblk).trans hc0
  have hoff : ∀ x, a' = some x → x.block ≠ p := fun x hx => by
    rcases hf x hx with h' | h'
    · exact h.off x h'
    · omega
  refine ⟨hc', (World.frozen?_of_block (a := ⟨p, 0, none⟩) hblk).trans hf0, a', c', ⟨World.cell?_setCell_same _ _ _ hc', ?_, ownsRow_keep ho fun k hk => ?_, hoff⟩, fun x hx => ?_, ?_⟩
  · rw [World.frozen?_setCell]; exact (World.frozen?_of_block (a := ⟨p, 0, none⟩) hblk).trans hf0
  · refine Below.heap_setCell _ _ _ _ fun e => ?_
    cases a' with
    | none => simp [Value.ownBlock] at hk
    | some x => simp [Value.ownBlock] at hk; exact hoff x rfl (hk.trans e)
  · rcases hf x hx with h' | h'
    · exact .inl h'
    · exact .inr (Nat.le_trans m0.size h')
  · refine (m0.grown hg fun k hk => ?_).setCell (.inl (.inl rfl)) _
    cases a with
    | none => simp [Value.ownBlock] at hk
    | some x => simp [Value.ownBlock] at hk; exact .inl (.inr ⟨x, rfl, hk.symm⟩)

/-- A byte. -/
theorem app_byte {w : World} {p : Nat} {a : Option Addr} {c : Nat} {l : List UInt8} (h : OutAt w p a c l) (b : UInt8) (hb : l.length + 1 ≤ 1099511627776) :
    ∃ a' c' w', (∀ ty, (Builtin.append_ #[48, 48] ty #[.slice a l.length c, .slice (some ⟨w.heap.size, 0, none⟩) 1 1]).run Tryd.prog (w.alloc (.cells #[.int .u8 (b.toNat : Int)] 5)) = .ok (.slice a' (l ++ [b]).length c') w') ∧
      w'.cell? ⟨p, 0, none⟩ = some (.slice a l.length c) ∧ w'.frozen? ⟨p, 0, none⟩ = false ∧ Wrote w (w'.setCell ⟨p, 0, none⟩ (.slice a' (l ++ [b]).length c')) p a (l ++ [b]) := by
  obtain ⟨i0, hi, hz0, hz1, hz2⟩ := info_parts info5
  have hp : p < w.heap.size := h.lt p (.inl rfl)
  have hnews : ∀ (w1 : World), w1.heap = (w.alloc (.cells #[.int .u8 (b.toNat : Int)] 5)).heap → ∀ j u, (Lib.byteCells [b])[j]? = some u → w1.cell? ((⟨w.heap.size, 0, none⟩ : Addr).add j) = some u := fun w1 hw1 j u hj => by
    match j, hj with
    | 0, hj =>
      simp [Lib.byteCells] at hj
      subst hj
      have e : w1.cell? ((⟨w.heap.size, 0, none⟩ : Addr).add 0) = (w.alloc (.cells #[.int .u8 (b.toNat : Int)] 5)).cell? ⟨w.heap.size, 0, none⟩ := by
        simp only [World.cell?, hw1, Addr.add_lit]
      rw [e]; simp
    | j + 1, hj => simp [Lib.byteCells] at hj
  have h1 : ∀ u ∈ Lib.byteCells [b], u.oneCell' = true := fun u hu => by simp [Lib.byteCells] at hu; subst hu; rfl
  have hS : Src Tryd.prog 1 48 (.slice (some ⟨w.heap.size, 0, none⟩) 1 1) [b].length (Lib.byteCells [b]) (w.alloc (.cells #[.int .u8 (b.toNat : Int)] 5)) :=
    Src.ofSlice _ Tryd.underlying48 ⟨w.heap.size, 0, none⟩ 1 1 _ rfl (hnews _ rfl) h1
  obtain ⟨a', c', w', hr, ho, hf, hg⟩ := app (h.own.alloc (.cells #[.int .u8 (b.toNat : Int)] 5)) 48 _ [b] hS hb (fun ty => by
    obtain ⟨v', w', h2, h3, h4, _⟩ := run_append_own (P := Tryd.prog) (w.alloc (.cells #[.int .u8 (b.toNat : Int)] 5)) 0 48 ty 5 i0 (.int .u8 0) 1 1 Tryd.underlying48 hi hz0 hz1 hz2 rfl (by decide) _ _ _ (h.own.alloc _) ⟨w.heap.size, 0, none⟩ 1 1 (Lib.byteCells [b]) rfl (hnews _ rfl) h1
      (by unfold maxLen; omega) (by omega) (Nat.zero_le _)
    exact ⟨v', w', h2, h3, h4⟩)
  exact ⟨a', c', w', hr, app_done h ((Moved.refl _ _).alloc _) ((World.cell?_alloc_lt _ _ ⟨p, 0, none⟩ hp).trans h.cell) ((World.frozen?_alloc_old _ _ ⟨p, 0, none⟩ (Nat.ne_of_lt hp)).trans h.free) ho hf hg⟩
/-- A text. -/
theorem app_text {w : World} {p : Nat} {a : Option Addr} {c : Nat} {l : List UInt8} (h : OutAt w p a c l) (s : ByteArray) (hb : l.length + s.size ≤ 1099511627776) :
    ∃ a' c' w', (∀ ty, (Builtin.append_ #[48, 9] ty #[.slice a l.length c, .string s]).run Tryd.prog w = .ok (.slice a' (l ++ s.data.toList).length c') w') ∧
      w'.cell? ⟨p, 0, none⟩ = some (.slice a l.length c) ∧ w'.frozen? ⟨p, 0, none⟩ = false ∧ Wrote w (w'.setCell ⟨p, 0, none⟩ (.slice a' (l ++ s.data.toList).length c')) p a (l ++ s.data.toList) := by
  obtain ⟨i0, hi, hz0, hz1, hz2⟩ := info_parts info5
  have hsz : s.data.toList.length = s.size := by simp
  have hS : Src Tryd.prog 1 9 (.string s) s.data.toList.length (Lib.byteCells s.data.toList) w := by rw [hsz]; exact Src.ofString w Tryd.underlying9 s
  obtain ⟨a', c', w', hr, ho, hf, hg⟩ := app h.own 9 _ s.data.toList hS (by rw [hsz]; exact hb) (fun ty => by
    obtain ⟨v', w', h2, h3, h4, _⟩ := Lib.run_append_own_string (P := Tryd.prog) w 0 48 9 ty 5 i0 Tryd.underlying48 Tryd.underlying9 hi hz0 hz1 hz2 _ _ _ h.own s (by unfold maxLen; omega) (by omega) (Nat.zero_le _)
    exact ⟨v', w', h2, by rw [hsz]; exact h3, h4⟩)
  exact ⟨a', c', w', hr, app_done h (Moved.refl _ _) h.cell h.free ho hf hg⟩

/-- The append of a walk, by what it comes to. -/
theorem wpList_app {w : World} {ops : Array Oper} {rest : List Oper} {o : Oper} {a : Act} {Q : Exit → Act → World → Prop} (hgd : o.guard = none) (s x : Operand) (t tx : TypeId)
    (ho : o.op = .call { callee := .builtin .append, args := #[s, x], argTypes := #[t, tx] }) {v xv v' : Value} {w' : World} (hs : a.eval s = v) (hx : a.eval x = xv)
    (hr : ∀ ty, (Builtin.append_ #[t, tx] ty #[v, xv]).run Tryd.prog w = .ok v' w') (h : wpList Tryd.prog ops Q rest (a.put o.dst v') w') : wpList Tryd.prog ops Q (o :: rest) a w :=
  wpList_plain hgd fun _ hK => by
    unfold Oper.wp execOp
    simp only [ho, resolve, invoke, builtin, Sem.run_bind, Sem.run_pure, Result.andThen_ok, List.map_toArray, List.map_cons, List.map_nil, hs, hx, hr]
    exact hK _ _ h

/-- An Out told as a text. -/
theorem out_text {w : World} {p : Nat} {a : Option Addr} {c : Nat} {l : List UInt8} (h : OutAt w p a c l) : Sem.run Tryd.prog (convert 48 9 (.slice a l.length c)) w = .ok (.string ⟨l.toArray⟩) w := by
  rcases h.own.2 with ⟨hv, h0⟩ | ⟨g, cap, cur, hv, hbg, hg, hnc, hcm, hcs, htake⟩
  · simp only [Value.slice.injEq] at hv
    obtain ⟨rfl, h1, rfl⟩ := hv
    have hnil : l = [] := List.length_eq_zero_iff.1 h0
    subst hnil
    exact (run_convert_bytes_string w 48 9 5 none 0 0 Tryd.underlying48 Tryd.underlying5 Tryd.underlying9).trans rfl
  · simp only [Value.slice.injEq] at hv
    obtain ⟨rfl, _, rfl⟩ := hv
    refine run_convert_bytes_back w 48 9 5 ⟨g, 0, none⟩ c l Tryd.underlying48 Tryd.underlying5 Tryd.underlying9 fun j hj => ?_
    exact h.own.cells (g := g) rfl j _ (by simp [Lib.byteCells, hj])
end Go.Proofs.YtkbmbcmcnpeabaaDoor

/- Aggregates that a statement keeps in blocks of its own; a guarded load of one. No conditions. -/
import Derived.Test.YtiokfnkcjicheaaTwo
import Derived.Test.YtiokfnkcjicheaaAwake
import Derived.Test.YtiokfnkcjicheaaRight
import Derived.Test.YtiokfnkcjicheaaArgs
namespace Go.Proofs.Ytiokfnkcjicheaa
open Go.RowKit

/-- Each of these blocks, all of them new, holds its aggregate; nothing that was there has turned. -/
structure Rs (w : World) (ls : List (Nat × AggV)) (w' : World) : Prop where
  row : ∀ p ∈ ls, RowAt w' p.1 (cellsA p.2)
  new : ∀ p ∈ ls, w.heap.size ≤ p.1
  below : Below w.heap.size w w'
theorem Rs.start {w w' : World} (h : Below w.heap.size w w') : Rs w [] w' := ⟨fun p hp => (by cases hp), fun p hp => (by cases hp), h⟩
theorem Rs.carry {w w1 w2 : World} {ls : List (Nat × AggV)} (h : Rs w ls w1) (hb : Below w1.heap.size w1 w2) : Rs w ls w2 :=
  ⟨fun p hp => (h.row p hp).keep (Moved.of_below (F := fun _ => False) hb) id, h.new, h.below.trans (hb.mono h.below.size)⟩
theorem Rs.drew {w w1 : World} {ls : List (Nat × AggV)} (h : Rs w ls w1) : Rs w ls w1.drew :=
  ⟨fun p hp => (h.row p hp).keep (Moved.refl (fun _ => False) _).drew id, h.new, h.below.drew⟩
theorem Rs.alloc {w w1 : World} {ls : List (Nat × AggV)} (h : Rs w ls w1) (v : AggV) : Rs w ((w1.heap.size, v) :: ls) (w1.alloc (.cells (cellsA v).toArray 24)) := by
  refine ⟨fun p hp => ?_, fun p hp => ?_, h.below.alloc h.below.size _⟩
  · rcases List.mem_cons.1 hp with rfl | hp
    · exact row_new w1 (cellsA v) 24
    · exact row_old (h.row p hp) _
  · rcases List.mem_cons.1 hp with rfl | hp
    · exact h.below.size
    · exact h.new p hp
theorem Rs.ne {w w1 : World} {ls : List (Nat × AggV)} (h : Rs w ls w1) : ∀ p ∈ ls, p.1 ≠ w1.heap.size := fun p hp e => by
  have := (h.row p hp).lt; omega
theorem Rs.put {w w1 : World} {ls : List (Nat × AggV)} {B : Nat} {u : AggV} (h : Rs w ((B, u) :: ls) w1) (hne : ∀ p ∈ ls, p.1 ≠ B) (v : AggV) : Rs w ((B, v) :: ls) (w1.setCells B 0 (cellsA v)) := by
  have m := setCells_moved w1 B 0 (cellsA v)
  refine ⟨fun p hp => ?_, fun p hp => ?_, h.below.trans (m.below (fun i hi => by have := h.new (B, u) List.mem_cons_self; simp only at this; omega) h.below.size)⟩
  · rcases List.mem_cons.1 hp with rfl | hp
    · exact (h.row (B, u) List.mem_cons_self).put (cellsA v) rfl
    · exact (h.row p (List.mem_cons_of_mem _ hp)).keep m (hne p hp)
  · rcases List.mem_cons.1 hp with rfl | hp
    · exact h.new (B, u) List.mem_cons_self
    · exact h.new p (List.mem_cons_of_mem _ hp)
/-- The classes of a statement that makes one aggregate more. -/
def StR (w : World) (ls : List (Nat × AggV)) : Option Nat → World → Prop
  | none, w' => Rs w ls w'
  | some B, w' => Rs w ((B, zero) :: ls) w' ∧ ∀ p ∈ ls, p.1 ≠ B
theorem StR.rs {w : World} {ls : List (Nat × AggV)} : ∀ {c : Option Nat} {w' : World}, StR w ls c w' → Rs w ls w'
  | none, _, h => h
  | some _, _, h => ⟨fun p hp => h.1.row p (List.mem_cons_of_mem _ hp), fun p hp => h.1.new p (List.mem_cons_of_mem _ hp), h.1.below⟩
theorem StR.carry {w : World} {ls : List (Nat × AggV)} : ∀ {c : Option Nat} {w1 w2 : World}, StR w ls c w1 → Below w1.heap.size w1 w2 → StR w ls c w2
  | none, _, _, h, hb => Rs.carry h hb
  | some _, _, _, h, hb => ⟨Rs.carry h.1 hb, h.2⟩
theorem StR.join {w : World} {ls : List (Nat × AggV)} (c : Option Nat) (a b : AggV) (ha : a.In) (hb : b.In) (p : SW (StR w ls c)) :
    Calls Try.prog 15 #[aggV a, aggV b] p.w fun e w' => e = .returned (aggV (join a b)) ∧ ∃ q : SW (StR w ls c), w' = q.w :=
  (join_any a b p.w ha hb).mono (by rintro e w' ⟨rfl, hb⟩; exact ⟨rfl, ⟨w', p.ok.carry hb⟩, rfl⟩)
theorem StR.of {w : World} {ls : List (Nat × AggV)} (c : Option Nat) (a : Option Addr) (cap : Nat) (xs : List Int) (hI : Ints w a xs) (hx : ∀ v ∈ xs, i64 v) (hn : xs.length ≤ maxLen) (p : SW (StR w ls c)) :
    Calls Try.prog 18 #[.slice a xs.length cap] p.w fun e w' => e = .returned (aggV (Go.Proofs.Ytiokfnkcjicheaa.of xs)) ∧ ∃ q : SW (StR w ls c), w' = q.w :=
  (of_any a cap xs p.w (hI.keep p.ok.rs.below) hx hn).mono (by rintro e w' ⟨rfl, hb⟩; exact ⟨rfl, ⟨w', p.ok.carry hb⟩, rfl⟩)
theorem StR.range {w : World} {ls : List (Nat × AggV)} {c : Option Nat} {B : Nat} {v : AggV} (h : (B, v) ∈ ls) : ∀ w', (∃ p : SW (StR w ls c), w' = p.w) → w'.rangeAt B 0 (cellsA v) := by
  rintro w' ⟨p, rfl⟩
  exact (p.ok.rs.row _ h).range
/-- A guarded load of an aggregate, in a plain region. -/
theorem wpList_load_A {ops : Array Oper} {rest : List Oper} {op : Oper} {a : Act} {w : World} {Q : Exit → Act → World → Prop} (hw : Region.wanted op (yielded ops a.tmps) = true) (x : Operand) (ho : op.op = .load 24 x)
    (b : Nat) (hx : a.eval x = .pointer (some ⟨b, 0, none⟩)) (v : AggV) (hc : w.rangeAt b 0 (cellsA v)) (h : wpList Try.prog ops Q rest (a.put op.dst (aggV v)) w) : wpList Try.prog ops Q (op :: rest) a w := by
  unfold wpList
  rw [if_pos hw]
  refine .inl ?_
  exact wp_load_mid 24 x ho b 0 hx (cellsA v) _ hc Try.underlying24 rfl (by kernel_rfl) h
theorem wpQuiet_load_B {ops : Array Oper} {C : World → Prop} {Q : Act → Prop} {rest : List Oper} {op : Oper} {a : Act} (hw : Region.wanted op (yielded ops a.tmps) = true) (x : Operand) (ho : op.op = .load 24 x)
    (b : Nat) (hx : a.eval x = .pointer (some ⟨b, 0, none⟩)) (v : AggV) (hc : ∀ w, C w → w.rangeAt b 0 (cellsA v))
    (h : wpQuiet Try.prog ops C Q rest (a.put op.dst (aggV v))) : wpQuiet Try.prog ops C Q (op :: rest) a :=
  wpQuiet_load_on hw 24 x ho b 0 hx (cellsA v) _ hc Try.underlying24 rfl (by kernel_rfl) h
end Go.Proofs.Ytiokfnkcjicheaa

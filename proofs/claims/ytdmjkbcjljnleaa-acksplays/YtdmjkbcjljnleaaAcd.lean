/- What the acks' own functions do: whether a number came, the low mark, following. Conditions: numbers are a machine's. -/
import Derived.Test.YtdmjkbcjljnleaaMapU
import Derived.Test.YtdmjkbcjljnleaaChain
import Derived.BigQuiet
import Derived.Deep.QuietTactic
import Derived.RegionTactic
import Derived.WalkSmall
import Derived.LoopTactic
import Derived.IntWalk
import Derived.Outline
import Derived.Deep.Cut
import Derived.WalkSpells
import Derived.Deep.RegionWith
namespace Go.Proofs.Ytdmjkbcjljnleaa
open Go.RowKit

/-- A world of which St holds. -/
structure SX (St : World → Prop) where
  w : World
  ok : St w
theorem wp_region_sx {P : Program} {St : World → Prop} {id : Nat} {Q : Exit → Act → World → Prop} {a : Act} {w : World} {l : List Oper} (hm : P.follows .mixedOrders = true) (hB : Region.lexB .any l.toArray = true) (hS : St w.drew)
    (h : wpQuiet P l.toArray (fun w' => ∃ p : SX St, w' = p.w) (fun a' => ∀ w', (∃ p : SX St, w' = p.w) → Q .normal a' w') l a) : (Code.region id l.toArray true).wp P Q a w :=
  wp_region_quiet (C := fun w' => ∃ p : SX St, w' = p.w) hm hB ⟨⟨_, hS⟩, rfl⟩ (by simpa using h)
def i64 (n : Int) : Prop := -9223372036854775808 ≤ n ∧ n ≤ 9223372036854775807

/-- Acks in block B. -/
structure AcAt (w : World) (B : Nat) (m : Option Nat) (lo : Int) (S : List Int) : Prop where
  c0 : w.cell? ⟨B, 0, none⟩ = some (.int .i64 lo)
  c1 : w.cell? ⟨B, 1, none⟩ = some (.map m)
  f0 : w.frozen? ⟨B, 0, none⟩ = false
  f1 : w.frozen? ⟨B, 1, none⟩ = false
  mo : MO w m S
def SFoot (B : Nat) (m : Option Nat) (k : Nat) : Prop := k = B ∨ m = some k
section
variable {w w' : World} {B : Nat} {m : Option Nat} {lo : Int} {S : List Int}
theorem AcAt.lt (h : AcAt w B m lo S) : B < w.heap.size := World.block_lt_of_cell? _ _ h.c0
theorem AcAt.ne (h : AcAt w B m lo S) : m ≠ some B := fun e => by
  rcases h.mo with ⟨h0, _⟩ | ⟨b, h0, hm⟩
  · rw [h0] at e; cases e
  · rw [h0] at e; cases e; exact hm.not_cells h.c0
theorem AcAt.keep {G : Nat → Prop} (h : AcAt w B m lo S) (k : Moved G w w') (hB : ¬ G B) (hm : ∀ b, m = some b → ¬ G b) : AcAt w' B m lo S :=
  ⟨(k.cell (p := ⟨B, 0, none⟩) h.lt hB).trans h.c0, (k.cell (p := ⟨B, 1, none⟩) h.lt hB).trans h.c1, (k.frozen (p := ⟨B, 0, none⟩) h.lt hB).trans h.f0, (k.frozen (p := ⟨B, 1, none⟩) h.lt hB).trans h.f1, h.mo.keep fun b e => k.block b (h.mo.lt b e) (hm b e)⟩
theorem AcAt.below (h : AcAt w B m lo S) (k : Below w.heap.size w w') : AcAt w' B m lo S :=
  h.keep (Moved.of_below (F := fun _ => False) k) id fun _ _ => id
/-- The low mark is set. -/
theorem AcAt.setLow (h : AcAt w B m lo S) (v : Int) : AcAt (w.setCell ⟨B, 0, none⟩ (.int .i64 v)) B m v S ∧ Moved (SFoot B m) w (w.setCell ⟨B, 0, none⟩ (.int .i64 v)) := by
  have hne : ∀ b, m = some b → b ≠ B := fun b e e' => h.ne (by rw [e, e'])
  refine ⟨⟨?_, ?_, ?_, ?_, ?_⟩, (Moved.refl _ w).setCell (p := ⟨B, 0, none⟩) (.inl (.inl rfl)) _⟩
  · rw [World.cell?_setCell_same (h := h.c0)]
  · rw [World.cell?_setCell_other (h := fun e => by have := congrArg Addr.off e; simp at this)]; exact h.c1
  · rw [World.frozen?_setCell]; exact h.f0
  · rw [World.frozen?_setCell]; exact h.f1
  · exact h.mo.keep fun b e => Below.heap_setCell _ _ _ _ (hne b e)
/-- A number goes out of the map. -/
theorem AcAt.drop {b : Nat} (h : AcAt w B (some b) lo S) {q : Int} (hq : i64 q) : ∃ w', (Builtin.delete_ #[47, 3] 0 #[.map (some b), .int .i64 q]).run Try.prog w = .ok (.tuple #[]) w' ∧ AcAt w' B (some b) lo (S.filter (fun a => !decide (a = q))) ∧ Moved (SFoot B (some b)) w w' := by
  have hm : MIs w b S := by
    rcases h.mo with ⟨h0, _⟩ | ⟨b', h0, hm⟩
    · cases h0
    · cases h0; exact hm
  obtain ⟨w', hrun, hM, hT⟩ := hm.drop hq 0
  have hne : b ≠ B := fun e => h.ne (by rw [e])
  have mv := turned_moved hT
  refine ⟨w', hrun, ⟨?_, ?_, ?_, ?_, .inr ⟨b, rfl, hM⟩⟩, mv.mono fun k e => .inl (.inr (by rw [e]))⟩
  · exact (mv.cell (p := ⟨B, 0, none⟩) h.lt (Ne.symm hne)).trans h.c0
  · exact (mv.cell (p := ⟨B, 1, none⟩) h.lt (Ne.symm hne)).trans h.c1
  · exact (mv.frozen (p := ⟨B, 0, none⟩) h.lt (Ne.symm hne)).trans h.f0
  · exact (mv.frozen (p := ⟨B, 1, none⟩) h.lt (Ne.symm hne)).trans h.f1
/-- A number goes into the map. -/
theorem AcAt.put {b : Nat} (h : AcAt w B (some b) lo S) {q : Int} (hq : i64 q) (hl : S.length < 1000000000000) (hn : q ∉ S) : ∃ w', (Instr.mapUpdate 47 (.map (some b)) (.int .i64 q) (.agg #[])).run Try.prog w = .ok () w' ∧ AcAt w' B (some b) lo (insN q S) ∧ Moved (SFoot B (some b)) w w' := by
  have hm : MIs w b S := by
    rcases h.mo with ⟨h0, _⟩ | ⟨b', h0, hm⟩
    · cases h0
    · cases h0; exact hm
  obtain ⟨w', hrun, hM, hT⟩ := hm.put hl hq hn
  have hne : b ≠ B := fun e => h.ne (by rw [e])
  have mv := turned_moved hT
  refine ⟨w', hrun, ⟨?_, ?_, ?_, ?_, .inr ⟨b, rfl, hM⟩⟩, mv.mono fun k e => .inl (.inr (by rw [e]))⟩
  · exact (mv.cell (p := ⟨B, 0, none⟩) h.lt (Ne.symm hne)).trans h.c0
  · exact (mv.cell (p := ⟨B, 1, none⟩) h.lt (Ne.symm hne)).trans h.c1
  · exact (mv.frozen (p := ⟨B, 0, none⟩) h.lt (Ne.symm hne)).trans h.f0
  · exact (mv.frozen (p := ⟨B, 1, none⟩) h.lt (Ne.symm hne)).trans h.f1
end

theorem low_any {w : World} {B : Nat} {v : Int} (h : w.cell? ⟨B, 0, none⟩ = some (.int .i64 v)) :
    Calls Try.prog 10 #[.pointer (some ⟨B, 0, none⟩)] w fun e w' => e = .returned (.int .i64 v) ∧ w' = w := by
  go_enter Try.func10, Try.ntmps10
  go_wp2
  go_ret
  exact ⟨rfl, rfl⟩
theorem low_nil (w : World) : Calls Try.prog 10 #[.pointer none] w fun e w' => e = .returned (.int .i64 0) ∧ w' = w := by
  go_enter Try.func10, Try.ntmps10
  go_wp2
  go_ret
  exact ⟨rfl, rfl⟩
theorem has_nil (n : Int) (w : World) : Calls Try.prog 22 #[.pointer none, .int .i64 n] w fun e w' => e = .returned (.bool false) ∧ w' = w := by
  go_enter Try.func22, Try.ntmps22
  go_wp2
  go_ret
  exact ⟨rfl, rfl⟩
set_option maxRecDepth 100000 in
theorem has_any {w : World} {B : Nat} {m : Option Nat} {lo : Int} {S : List Int} (h : AcAt w B m lo S) (hp : Pre lo S) {n : Int} (hn : i64 n) :
    Calls Try.prog 22 #[.pointer (some ⟨B, 0, none⟩), .int .i64 n] w fun e w' => e = .returned (.bool (AckV.has ⟨lo, S⟩ n)) ∧ Below w.heap.size w w' := by
  have c0 := h.c0
  have c1 := h.c1
  have hk := h.mo.get_ok hn
  by_cases h1 : n < 1
  · have hd : Hid (AckV.has ⟨lo, S⟩ n = false) := hide (by
      cases hh : AckV.has ⟨lo, S⟩ n with
      | false => rfl
      | true =>
        rcases has_iff.1 hh with e | e
        · omega
        · have := hp.beh n e; have := hp.lo; omega)
    clear h hk hp
    go_enter Try.func22, Try.ntmps22
    go_wp2_with fail
    go_ret
    exact ⟨by rw [unhide hd]; rfl, Below.refl _ _⟩
  · have FIN := hide ((Below.refl w.heap.size w).alloc (Nat.le_refl _) (.cells #[] 50))
    have d0 := (h.below (unhide FIN)).c0
    by_cases h2 : n ≤ lo
    · have hd : Hid (AckV.has ⟨lo, S⟩ n = true) := hide (has_iff.2 (.inl ⟨by omega, h2⟩))
      clear h hp
      go_enter Try.func22, Try.ntmps22
      go_wp2_with fail
      go_ret
      exact ⟨by rw [unhide hd]; rfl, unhide FIN⟩
    · have hd : Hid (AckV.has ⟨lo, S⟩ n = decide (n ∈ S)) := hide (by unfold AckV.has; rw [decide_eq_false (fun e => h2 e.2)]; rfl)
      clear h hp
      go_enter Try.func22, Try.ntmps22
      go_wp2_with fail
      go_ret
      exact ⟨by rw [unhide hd]; rfl, unhide FIN⟩
end Go.Proofs.Ytdmjkbcjljnleaa

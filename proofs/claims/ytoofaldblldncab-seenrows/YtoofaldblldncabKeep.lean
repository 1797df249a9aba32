/- What a source's keep does: it gives a number a code. Conditions: numbers are a machine's; the source has less than 100 codes. -/
import Derived.Test.YtoofaldblldncabSrcs
import Derived.Test.YtoofaldblldncabShelf
namespace Go.Proofs.Ytoofaldblldncab
open Go.RowKit Go.Maps

/-- Of block B nothing has turned but the two cells from o on. -/
def Others (w w' : World) (B o : Nat) : Prop := ∀ i, i ≠ o → i ≠ o + 1 → w'.cell? ⟨B, i, none⟩ = w.cell? ⟨B, i, none⟩ ∧ w'.frozen? ⟨B, i, none⟩ = w.frozen? ⟨B, i, none⟩
theorem Others.refl (w : World) (B o : Nat) : Others w w B o := fun _ _ _ => ⟨rfl, rfl⟩
theorem eqmap (m : Option Nat) (w : World) : (binOp .eql 37 (.map m) (.map none)).run Try.prog w = .ok (.bool m.isNone) w := run_eql_map_nil_sl w 37 3 3 m Try.underlying37
theorem Others.trans {a b c : World} {B o : Nat} (h : Others a b B o) (k : Others b c B o) : Others a c B o := fun i h1 h2 => ⟨(k i h1 h2).1.trans (h i h1 h2).1, (k i h1 h2).2.trans (h i h1 h2).2⟩
theorem Others.of_block {w w' : World} {B o : Nat} (h : w'.heap[B]? = w.heap[B]?) : Others w w' B o := fun _ _ _ => ⟨World.cell?_of_block (w := w) h, World.frozen?_of_block (w := w) h⟩
theorem Others.setCell {w : World} {B o j : Nat} (hj : j = o ∨ j = o + 1) (u : Value) : Others w (w.setCell ⟨B, j, none⟩ u) B o := fun i h1 h2 =>
  ⟨by rw [World.cell?_setCell_other (h := fun e => by have := congrArg Addr.off e; simp only at this; omega)], by rw [World.frozen?_setCell]⟩
/-- What a step of a source may turn. -/
def SFoot (B : Nat) (m : Option Nat) (k : Nat) : Prop := k = B ∨ m = some k
/-- A step of a source. -/
structure SDid (w w' : World) (B o : Nat) (m : Option Nat) (s' : Src) (m' : Option Nat) : Prop where
  at_ : SrcAt w' B o m' s'
  new_ : ∀ b, m' = some b → m = some b ∨ w.heap.size ≤ b
  moved : Moved (SFoot B m) w w'
  others : Others w w' B o
theorem MO.made (w : World) : MO (w.alloc (.map #[] 0)) (some w.heap.size) [] := .inr ⟨_, rfl, MIs.made w⟩
set_option maxRecDepth 100000 in
set_option maxHeartbeats 1000000 in
theorem keep_some {w : World} {B o b : Nat} {s : Src} (h : SrcAt w B o (some b) s) {q c : Int} (hq : 1 ≤ q ∧ q ≤ 1099511627800) (hc : 1 ≤ c ∧ c ≤ 4) (hl : s.codes.length < 100) :
    Calls Try.prog 14 #[.pointer (some ⟨B, o, none⟩), .int .i64 q, .int .i64 c] w fun e w' => e = .returned (.tuple #[]) ∧ SDid w w' B o (some b) (s.keep q c) (some b) := by
  have hm : MIs w b s.codes := by
    rcases h.mo with ⟨h0, _⟩ | ⟨b', h0, hm⟩
    · cases h0
    · cases h0; exact hm
  obtain ⟨w', hrun, hM, hT⟩ := hm.put h.fine.rise (by omega) (q := q) (by omega) (c := c) (by omega)
  have hne : b ≠ B := fun e => h.ne (by rw [e])
  have mv := turned_moved hT
  have c1 := h.c1
  have hne0 := fun W => eqmap (some b) W
  have FIN : Hid (SDid w w' B o (some b) (s.keep q c) (some b)) := hide
    ⟨⟨(mv.cell (p := ⟨B, o, none⟩) h.lt (Ne.symm hne)).trans h.c0, (mv.cell (p := ⟨B, o + 1, none⟩) h.lt (Ne.symm hne)).trans h.c1, (mv.frozen (p := ⟨B, o, none⟩) h.lt (Ne.symm hne)).trans h.f0, (mv.frozen (p := ⟨B, o + 1, none⟩) h.lt (Ne.symm hne)).trans h.f1, .inr ⟨b, rfl, hM⟩, h.fine.keep hq hc hl⟩,
      fun b' e => .inl e, mv.mono fun k e => .inl (.inr (by rw [e])), Others.of_block (mv.block B h.lt (Ne.symm hne))⟩
  clear h hm hM hT mv hne
  go_enter Try.func14, Try.ntmps14
  go_wp2_with fail
  go_end0
  exact ⟨rfl, unhide FIN⟩
set_option maxRecDepth 100000 in
set_option maxHeartbeats 1000000 in
theorem keep_none {w : World} {B o : Nat} {s : Src} (h : SrcAt w B o none s) {q c : Int} (hq : 1 ≤ q ∧ q ≤ 1099511627800) (hc : 1 ≤ c ∧ c ≤ 4) :
    Calls Try.prog 14 #[.pointer (some ⟨B, o, none⟩), .int .i64 q, .int .i64 c] w fun e w' => e = .returned (.tuple #[]) ∧ SDid w w' B o none (s.keep q c) (some w.heap.size) := by
  have h0 : s.codes = [] := by
    rcases h.mo with ⟨_, h0⟩ | ⟨b', h0, _⟩
    · exact h0
    · cases h0
  have hmm := @run_makeMap Try.prog
  obtain ⟨b, hb⟩ : ∃ b, b = w.heap.size := ⟨_, rfl⟩
  obtain ⟨W, hW⟩ : ∃ W, W = (w.alloc (.map #[] 0)).setCell ⟨B, o + 1, none⟩ (.map (some b)) := ⟨_, rfl⟩
  have hlt := h.lt
  have hne : b ≠ B := by omega
  have m1 : Moved (SFoot B none) w (w.alloc (.map #[] 0)) := (Moved.refl _ _).alloc _
  have m2 : Moved (SFoot B none) w W := by rw [hW]; exact m1.setCell (.inl (.inl rfl)) _
  have k0 : ∀ i, (w.alloc (.map #[] 0)).cell? ⟨B, i, none⟩ = w.cell? ⟨B, i, none⟩ := fun i => ((Below.refl _ w).alloc (Nat.le_refl _) _).cell (p := ⟨B, i, none⟩) hlt
  have k1 : ∀ i, (w.alloc (.map #[] 0)).frozen? ⟨B, i, none⟩ = w.frozen? ⟨B, i, none⟩ := fun i => World.frozen?_of_block (Below.heap_alloc w _ B hlt)
  have o2 : Others w W B o := by
    rw [hW]
    exact Others.trans (fun i _ _ => ⟨k0 i, k1 i⟩) (Others.setCell (.inr rfl) _)
  have g0 : W.cell? ⟨B, o, none⟩ = some (.int .i64 (s.low - 1)) := by
    rw [hW, World.cell?_setCell_other (h := fun e => by have := congrArg Addr.off e; simp only at this; omega), k0]; exact h.c0
  have g1 : W.cell? ⟨B, o + 1, none⟩ = some (.map (some b)) := by
    rw [hW, World.cell?_setCell_same (h := (k0 (o + 1)).trans h.c1)]
  have g2 : W.frozen? ⟨B, o, none⟩ = false := by rw [hW, World.frozen?_setCell, k1]; exact h.f0
  have g3 : W.frozen? ⟨B, o + 1, none⟩ = false := by rw [hW, World.frozen?_setCell, k1]; exact h.f1
  have hm : MIs W b [] := by
    rw [hW, hb]
    exact (MIs.made w).keep (Below.heap_setCell _ ⟨B, o + 1, none⟩ _ _ (by show _ ≠ B; omega))
  obtain ⟨w', hrun, hM, hT⟩ := hm.put List.Pairwise.nil (by decide) (q := q) (by omega) (c := c) (by omega)
  have mv := turned_moved hT
  have hlW : B < W.heap.size := Nat.lt_of_lt_of_le hlt m2.size
  have FIN : Hid (SDid w w' B o none (s.keep q c) (some w.heap.size)) := hide
    ⟨⟨(mv.cell (p := ⟨B, o, none⟩) hlW (Ne.symm hne)).trans g0, (mv.cell (p := ⟨B, o + 1, none⟩) hlW (Ne.symm hne)).trans (by rw [g1, hb]), (mv.frozen (p := ⟨B, o, none⟩) hlW (Ne.symm hne)).trans g2, (mv.frozen (p := ⟨B, o + 1, none⟩) hlW (Ne.symm hne)).trans g3, .inr ⟨_, rfl, by rw [← hb]; unfold Src.keep; rw [h0]; exact hM⟩, h.fine.keep hq hc (by rw [h0]; decide)⟩,
      fun b' e => .inr (by cases e; exact Nat.le_refl _), m2.trans mv fun k e => .inr (by omega), o2.trans (Others.of_block (mv.block B hlW (Ne.symm hne)))⟩
  have c1 := h.c1
  have f1 := h.f1
  have hne0 := fun W => eqmap none W
  have HW := hide hW
  have HB := hide hb
  clear h hM hT mv hne m1 m2 o2 g0 g2 g3 hm hlW hW hb k0 k1 h0
  go_enter Try.func14, Try.ntmps14
  go_upto_region 2 with fail
  simp only [← unhide HB]
  rw [← World.setCell_alloc_past (w := w) (.map #[] 0) B (o + 1) (.map (some b)) hlt, ← unhide HW]
  go_wp2_with fail
  go_end0
  exact ⟨rfl, unhide FIN⟩
theorem keep_any {w : World} {B o : Nat} {m : Option Nat} {s : Src} (h : SrcAt w B o m s) {q c : Int} (hq : 1 ≤ q ∧ q ≤ 1099511627800) (hc : 1 ≤ c ∧ c ≤ 4) (hl : s.codes.length < 100) :
    Calls Try.prog 14 #[.pointer (some ⟨B, o, none⟩), .int .i64 q, .int .i64 c] w fun e w' => e = .returned (.tuple #[]) ∧ ∃ m', SDid w w' B o m (s.keep q c) m' := by
  cases m with
  | none => exact (keep_none h hq hc).mono fun e w' ⟨h1, h2⟩ => ⟨h1, _, h2⟩
  | some b => exact (keep_some h hq hc hl).mono fun e w' ⟨h1, h2⟩ => ⟨h1, _, h2⟩
end Go.Proofs.Ytoofaldblldncab

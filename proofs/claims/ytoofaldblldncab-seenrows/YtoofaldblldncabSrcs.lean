/- What a source's functions do: its low mark, asking, giving a code. Conditions: numbers are a machine's; a source has at most 100 codes. -/
import Derived.Test.YtoofaldblldncabMapZ
import Derived.Test.YtoofaldblldncabChain
import Derived.BigQuiet
import Derived.Deep.QuietTactic
import Derived.RegionTactic
import Derived.WalkSmall
import Derived.LoopTactic
import Derived.IntWalk
import Derived.Outline
import Derived.Deep.Cut
import Derived.WalkSpells
import Derived.Deep.RegionWith
namespace Go.Proofs.Ytoofaldblldncab
open Go.RowKit

/-- A world of which St holds. -/
structure SX (St : World → Prop) where
  w : World
  ok : St w
theorem wp_region_sx {P : Program} {St : World → Prop} {id : Nat} {Q : Exit → Act → World → Prop} {a : Act} {w : World} {l : List Oper} (hm : P.follows .mixedOrders = true) (hB : Region.lexB .any l.toArray = true) (hS : St w.drew)
    (h : wpQuiet P l.toArray (fun w' => ∃ p : SX St, w' = p.w) (fun a' => ∀ w', (∃ p : SX St, w' = p.w) → Q .normal a' w') l a) : (Code.region id l.toArray true).wp P Q a w :=
  wp_region_quiet (C := fun w' => ∃ p : SX St, w' = p.w) hm hB ⟨⟨_, hS⟩, rfl⟩ (by simpa using h)

theorem source_any (n : Int) (w : World) : Calls Try.prog 25 #[.int .i64 n] w fun e w' => e = .returned (.bool (isSrc n)) ∧ w' = w := by
  by_cases h1 : (0 : Int) ≤ n
  · by_cases h2 : n < 4
    · have hd : Hid (isSrc n = true) := hide (decide_eq_true ⟨h1, h2⟩)
      go_enter Try.func25, Try.ntmps25
      go_wp2
      go_ret
      exact ⟨by rw [unhide hd]; rfl, rfl⟩
    · have hd : Hid (isSrc n = false) := hide (decide_eq_false fun h => h2 h.2)
      go_enter Try.func25, Try.ntmps25
      go_wp2
      go_ret
      exact ⟨by rw [unhide hd]; rfl, rfl⟩
  · have hd : Hid (isSrc n = false) := hide (decide_eq_false fun h => h1 h.1)
    go_enter Try.func25, Try.ntmps25
    go_wp2
    go_ret
    exact ⟨by rw [unhide hd]; rfl, rfl⟩
theorem code_any (c : Int) (w : World) : Calls Try.prog 13 #[.int .i64 c] w fun e w' => e = .returned (.bool (isCode c)) ∧ w' = w := by
  by_cases h1 : (1 : Int) ≤ c
  · by_cases h2 : c ≤ 4
    · have hd : Hid (isCode c = true) := hide (decide_eq_true ⟨h1, h2⟩)
      go_enter Try.func13, Try.ntmps13
      go_wp2
      go_ret
      exact ⟨by rw [unhide hd]; rfl, rfl⟩
    · have hd : Hid (isCode c = false) := hide (decide_eq_false fun h => h2 h.2)
      go_enter Try.func13, Try.ntmps13
      go_wp2
      go_ret
      exact ⟨by rw [unhide hd]; rfl, rfl⟩
  · have hd : Hid (isCode c = false) := hide (decide_eq_false fun h => h1 h.1)
    go_enter Try.func13, Try.ntmps13
    go_wp2
    go_ret
    exact ⟨by rw [unhide hd]; rfl, rfl⟩
theorem may_any (src seq low : Int) (w : World) : Calls Try.prog 18 #[.int .i64 src, .int .i64 seq, .int .i64 low] w fun e w' => e = .returned (.bool (may src seq low)) ∧ w' = w := by
  have fin : ∀ {b : Bool}, (may src seq low = true ↔ b = true) → Hid (may src seq low = b) := fun {b} h => hide (Bool.eq_iff_iff.2 h)
  by_cases h0 : 0 ≤ src ∧ src < 4
  · have d0 : isSrc src = true := decide_eq_true h0
    by_cases h1 : 1 ≤ low
    · by_cases h2 : low ≤ seq
      · by_cases h3 : seq ≤ 1099511627776
        · have hw : IntKind.i64.wrap (low + 16) = low + 16 := Go.IntWalk.i64_in _ (by omega)
          by_cases h4 : seq < low + 16
          · have hd := fin (b := true) (by rw [may_iff]; simp; omega)
            clear fin h0
            go_enter Try.func18, Try.ntmps18
            go_wp2_with fail
            refine (source_any _ _).mono ?_
            rintro e w' ⟨rfl, hw'⟩
            rw [hw', d0]
            go_wp2_with fail
            go_ret
            exact ⟨by rw [unhide hd]; rfl, rfl⟩
          · have hd := fin (b := false) (by rw [may_iff]; simp; omega)
            have g4 : decide (seq < low + 16) = false := decide_eq_false h4
            clear fin h0
            go_enter Try.func18, Try.ntmps18
            go_wp2_with fail
            refine (source_any _ _).mono ?_
            rintro e w' ⟨rfl, hw'⟩
            rw [hw', d0]
            go_wp2_with fail
            go_ret
            exact ⟨by rw [unhide hd]; rfl, rfl⟩
        · have hd := fin (b := false) (by rw [may_iff]; simp; omega)
          clear fin h0
          go_enter Try.func18, Try.ntmps18
          go_wp2_with fail
          refine (source_any _ _).mono ?_
          rintro e w' ⟨rfl, hw'⟩
          rw [hw', d0]
          go_wp2_with fail
          go_ret
          exact ⟨by rw [unhide hd]; rfl, rfl⟩
      · have hd := fin (b := false) (by rw [may_iff]; simp; omega)
        clear fin h0
        go_enter Try.func18, Try.ntmps18
        go_wp2_with fail
        refine (source_any _ _).mono ?_
        rintro e w' ⟨rfl, hw'⟩
        rw [hw', d0]
        go_wp2_with fail
        go_ret
        exact ⟨by rw [unhide hd]; rfl, rfl⟩
    · have hd := fin (b := false) (by rw [may_iff]; simp; omega)
      clear fin h0
      go_enter Try.func18, Try.ntmps18
      go_wp2_with fail
      refine (source_any _ _).mono ?_
      rintro e w' ⟨rfl, hw'⟩
      rw [hw', d0]
      go_wp2_with fail
      go_ret
      exact ⟨by rw [unhide hd]; rfl, rfl⟩
  · have d0 : isSrc src = false := decide_eq_false h0
    have hd := fin (b := false) (by rw [may_iff]; simp; omega)
    clear fin h0
    go_enter Try.func18, Try.ntmps18
    go_wp2_with fail
    refine (source_any _ _).mono ?_
    rintro e w' ⟨rfl, hw'⟩
    rw [hw', d0]
    go_wp2_with fail
    go_ret
    exact ⟨by rw [unhide hd]; rfl, rfl⟩

/-- A source at cell o of block B. -/
structure SrcAt (w : World) (B o : Nat) (m : Option Nat) (s : Src) : Prop where
  c0 : w.cell? ⟨B, o, none⟩ = some (.int .i64 (s.low - 1))
  c1 : w.cell? ⟨B, o + 1, none⟩ = some (.map m)
  f0 : w.frozen? ⟨B, o, none⟩ = false
  f1 : w.frozen? ⟨B, o + 1, none⟩ = false
  mo : MO w m s.codes
  fine : s.Fine
theorem SrcAt.lt {w : World} {B o : Nat} {m : Option Nat} {s : Src} (h : SrcAt w B o m s) : B < w.heap.size := World.block_lt_of_cell? _ _ h.c0
theorem SrcAt.ne {w : World} {B o : Nat} {m : Option Nat} {s : Src} (h : SrcAt w B o m s) : m ≠ some B := fun e => by
  rcases h.mo with ⟨h0, _⟩ | ⟨b, h0, hm⟩
  · rw [h0] at e; cases e
  · rw [h0] at e; cases e; exact hm.not_cells h.c0
theorem SrcAt.keep {G : Nat → Prop} {w w' : World} {B o : Nat} {m : Option Nat} {s : Src} (h : SrcAt w B o m s) (k : Moved G w w') (hB : ¬ G B) (hm : ∀ b, m = some b → ¬ G b) : SrcAt w' B o m s :=
  ⟨(k.cell (p := ⟨B, o, none⟩) h.lt hB).trans h.c0, (k.cell (p := ⟨B, o + 1, none⟩) h.lt hB).trans h.c1, (k.frozen (p := ⟨B, o, none⟩) h.lt hB).trans h.f0, (k.frozen (p := ⟨B, o + 1, none⟩) h.lt hB).trans h.f1, h.mo.keep fun b e => k.block b (h.mo.lt b e) (hm b e), h.fine⟩
theorem low_any {w : World} {B o : Nat} {v : Int} (h : w.cell? ⟨B, o, none⟩ = some (.int .i64 v)) (hv : IntKind.i64.wrap (v + 1) = v + 1) :
    Calls Try.prog 21 #[.pointer (some ⟨B, o, none⟩)] w fun e w' => e = .returned (.int .i64 (v + 1)) ∧ w' = w := by
  go_enter Try.func21, Try.ntmps21
  go_wp2
  go_ret
  exact ⟨rfl, rfl⟩
theorem SrcAt.low {w : World} {B o : Nat} {m : Option Nat} {s : Src} (h : SrcAt w B o m s) : Calls Try.prog 21 #[.pointer (some ⟨B, o, none⟩)] w fun e w' => e = .returned (.int .i64 s.low) ∧ w' = w := by
  have h1 := h.fine.lo
  have h2 := h.fine.hi
  have e : s.low - 1 + 1 = s.low := by omega
  have := low_any h.c0 (Go.IntWalk.i64_in _ (by omega))
  rw [e] at this
  exact this
set_option maxRecDepth 100000 in
theorem ask_any {w : World} {B o : Nat} {m : Option Nat} {s : Src} (h : SrcAt w B o m s) {q : Int} (hq : -9223372036854775808 ≤ q ∧ q ≤ 9223372036854775807) :
    Calls Try.prog 19 #[.pointer (some ⟨B, o, none⟩), .int .i64 q] w fun e w' => e = .returned (.tuple #[.int .i64 (s.ask q).1, .int .i64 (s.ask q).2]) ∧ w' = w := by
  have hl := h.low
  have hk := h.mo.get_ok h.fine.rise hq
  have c1 := h.c1
  clear h
  by_cases h1 : q < s.low
  · have hd : Hid (s.ask q = (1, 0)) := hide (by unfold Src.ask; rw [if_pos h1])
    go_enter Try.func19, Try.ntmps19
    go_wp2_with fail
    refine hl.mono ?_
    rintro e w' ⟨rfl, hw'⟩
    rw [hw']
    go_wp2_with fail
    go_ret2
    exact ⟨by rw [unhide hd]; rfl, rfl⟩
  · cases hx : look s.codes q with
    | none =>
      have hd : Hid (s.ask q = (3, 0)) := hide (by unfold Src.ask; rw [if_neg h1, hx])
      rw [hx] at hk
      simp only [Option.getD_none, Option.isSome_none] at hk
      clear hx
      go_enter Try.func19, Try.ntmps19
      go_wp2_with fail
      refine hl.mono ?_
      rintro e w' ⟨rfl, hw'⟩
      rw [hw']
      go_wp2_with fail
      go_ret2
      exact ⟨by rw [unhide hd]; rfl, rfl⟩
    | some c =>
      have hd : Hid (s.ask q = (2, c)) := hide (by unfold Src.ask; rw [if_neg h1, hx])
      rw [hx] at hk
      simp only [Option.getD_some, Option.isSome_some] at hk
      clear hx
      go_enter Try.func19, Try.ntmps19
      go_wp2_with fail
      refine hl.mono ?_
      rintro e w' ⟨rfl, hw'⟩
      rw [hw']
      go_wp2_with fail
      go_ret2
      exact ⟨by rw [unhide hd]; rfl, rfl⟩
end Go.Proofs.Ytoofaldblldncab

/- A table in memory, and what New and Ask of it do. Conditions: numbers are a machine's. -/
import Derived.Test.YtoofaldblldncabRisen
namespace Go.Proofs.Ytoofaldblldncab
open Go.RowKit

/-- Block p is a table; M: where its sources' maps lie. -/
structure TabAt (w : World) (p : Nat) (M : Nat → Option Nat) (T : Tab) : Prop where
  src : ∀ i, i < 4 → SrcAt w p (i * 2) (M i) (T i)
  apart : ∀ i j b, i < 4 → j < 4 → M i = some b → M j = some b → i = j
def foot (p : Nat) (M : Nat → Option Nat) (k : Nat) : Prop := k = p ∨ ∃ i, i < 4 ∧ M i = some k
theorem TabAt.plt {w : World} {p : Nat} {M : Nat → Option Nat} {T : Tab} (h : TabAt w p M T) : p < w.heap.size := (h.src 0 (by decide)).lt
theorem TabAt.lt {w : World} {p : Nat} {M : Nat → Option Nat} {T : Tab} (h : TabAt w p M T) : ∀ k, foot p M k → k < w.heap.size := by
  rintro k (rfl | ⟨i, hi, e⟩)
  · exact h.plt
  · exact (h.src i hi).mo.lt k e
theorem TabAt.keep {G : Nat → Prop} {w w' : World} {p : Nat} {M : Nat → Option Nat} {T : Tab} (h : TabAt w p M T) (k : Moved G w w') (hG : ∀ i, G i → ¬ foot p M i) : TabAt w' p M T :=
  ⟨fun i hi => (h.src i hi).keep k (fun g => hG p g (.inl rfl)) (fun b e g => hG b g (.inr ⟨i, hi, e⟩)), h.apart⟩
/-- A table at p, of the blocks F. -/
def TIs (w : World) (p : Nat) (F : Nat → Prop) (T : Tab) : Prop := ∃ M, TabAt w p M T ∧ F = foot p M
theorem TIs.lt {w : World} {p : Nat} {F : Nat → Prop} {T : Tab} (h : TIs w p F T) : ∀ k, F k → k < w.heap.size := by obtain ⟨M, h, rfl⟩ := h; exact h.lt
theorem TIs.self {w : World} {p : Nat} {F : Nat → Prop} {T : Tab} (h : TIs w p F T) : F p := by obtain ⟨M, h, rfl⟩ := h; exact .inl rfl
theorem TIs.keep {G F : Nat → Prop} {w w' : World} {p : Nat} {T : Tab} (h : TIs w p F T) (k : Moved G w w') (hG : ∀ i, G i → ¬ F i) : TIs w' p F T := by
  obtain ⟨M, h, rfl⟩ := h; exact ⟨M, h.keep k hG, rfl⟩
/-- A step of a table. -/
def Did (w w' : World) (p : Nat) (F : Nat → Prop) (T : Tab) : Prop := ∃ F', TIs w' p F' T ∧ (∀ k, F' k → F k ∨ w.heap.size ≤ k) ∧ Moved F w w'
theorem Did.start {w w' : World} {p : Nat} {F : Nat → Prop} {T : Tab} (h : TIs w p F T) (k : Moved (fun _ => False) w w') : Did w w' p F T :=
  ⟨F, h.keep k fun _ f => f.elim, fun _ f => .inl f, k.mono fun _ f => f.elim⟩
theorem Did.trans {w w1 w2 : World} {p : Nat} {F F1 : Nat → Prop} {T : Tab} (hf : ∀ k, F1 k → F k ∨ w.heap.size ≤ k) (k : Moved F w w1) (h : Did w1 w2 p F1 T) : Did w w2 p F T := by
  obtain ⟨F2, h2, f2, m2⟩ := h
  refine ⟨F2, h2, fun i hi => ?_, k.trans m2 hf⟩
  rcases f2 i hi with h' | h'
  · exact hf i h'
  · exact .inr (Nat.le_trans k.size h')
/-- A step of one source is a step of the table. -/
theorem TIs.step {w w' : World} {p : Nat} {F : Nat → Prop} {T : Tab} (h : TIs w p F T) {i : Nat} (hi : i < 4) {s' : Src}
    (hs : ∀ m, SrcAt w p (i * 2) m (T i) → ∃ m', SDid w w' p (i * 2) m s' m') : Did w w' p F (upd T i s') := by
  obtain ⟨M, h, rfl⟩ := h
  obtain ⟨m', d⟩ := hs (M i) (h.src i hi)
  have hM : ∀ j, j < 4 → j ≠ i → ∀ b, M j = some b → ¬ SFoot p (M i) b := fun j hj hji b e f => by
    rcases f with f | f
    · exact (h.src j hj).ne (by rw [e, f])
    · exact hji (h.apart j i b hj hi e f)
  have hnew : ∀ b, m' = some b → foot p M b ∨ w.heap.size ≤ b := fun b e => (d.new_ b e).imp (fun e => .inr ⟨i, hi, e⟩) id
  refine ⟨foot p (fun j => if j = i then m' else M j), ⟨_, ⟨fun j hj => ?_, fun j k b hj hk e1 e2 => ?_⟩, rfl⟩, fun k f => ?_, d.moved.mono fun k f => .inl (f.imp id fun e => ⟨i, hi, e⟩)⟩
  · unfold upd
    by_cases e : j = i
    · subst e; rw [if_pos rfl, if_pos rfl]; exact d.at_
    · rw [if_neg e, if_neg e]
      have o := h.src j hj
      have a0 := d.others (j * 2) (by omega) (by omega)
      have a1 := d.others (j * 2 + 1) (by omega) (by omega)
      exact ⟨a0.1.trans o.c0, a1.1.trans o.c1, a0.2.trans o.f0, a1.2.trans o.f1, o.mo.keep fun b eb => d.moved.block b (o.mo.lt b eb) (hM j hj e b eb), o.fine⟩
  · replace e1 : (if j = i then m' else M j) = some b := e1
    replace e2 : (if k = i then m' else M k) = some b := e2
    by_cases ej : j = i
    · by_cases ek : k = i
      · rw [ej, ek]
      · rw [if_pos ej] at e1
        rw [if_neg ek] at e2
        exfalso
        rcases d.new_ b e1 with g | g
        · exact ek (h.apart k i b hk hi e2 g)
        · have := (h.src k hk).mo.lt b e2; omega
    · by_cases ek : k = i
      · rw [if_neg ej] at e1
        rw [if_pos ek] at e2
        exfalso
        rcases d.new_ b e2 with g | g
        · exact ej (h.apart j i b hj hi e1 g)
        · have := (h.src j hj).mo.lt b e1; omega
      · rw [if_neg ej] at e1
        rw [if_neg ek] at e2
        exact h.apart j k b hj hk e1 e2
  · rcases f with rfl | ⟨j, hj, e⟩
    · exact .inl (.inl rfl)
    · replace e : (if j = i then m' else M j) = some k := e
      by_cases ej : j = i
      · rw [if_pos ej] at e; exact hnew k e
      · rw [if_neg ej] at e; exact .inl (.inr ⟨j, hj, e⟩)
theorem new_any (w : World) : Calls Try.prog 5 #[] w fun e w' => e = .returned (.pointer (some ⟨w.heap.size, 0, none⟩)) ∧ Below w.heap.size w w' ∧ TIs w' w.heap.size (foot w.heap.size fun _ => none) new_ := by
  go_enter Try.func5, Try.ntmps5
  go_wp2
  go_ret
  refine ⟨rfl, (Below.refl _ _).alloc (Nat.le_refl _) _, _, ⟨fun i hi => ?_, fun _ _ _ _ _ e => (by cases e)⟩, rfl⟩
  have hc : ∀ n v, (w.alloc (.cells #[.int .i64 0, .map none, .int .i64 0, .map none, .int .i64 0, .map none, .int .i64 0, .map none] 42)).cell? ⟨w.heap.size, n, none⟩ = v ↔ #[.int .i64 0, .map none, .int .i64 0, .map none, .int .i64 0, .map none, .int .i64 0, .map none][n]? = v := fun n v => by rw [World.cell?_alloc_new]
  refine ⟨?_, ?_, by simp, by simp, .inl ⟨rfl, rfl⟩, Src.Fine.new⟩
  · rw [hc]
    match i, hi with
    | 0, _ => rfl
    | 1, _ => rfl
    | 2, _ => rfl
    | 3, _ => rfl
  · rw [hc]
    match i, hi with
    | 0, _ => rfl
    | 1, _ => rfl
    | 2, _ => rfl
    | 3, _ => rfl
theorem ask_nil (src seq low : Int) (w : World) : Calls Try.prog 11 #[.pointer none, .int .i64 src, .int .i64 seq, .int .i64 low] w fun e w' => e = .returned (.tuple #[.int .i64 0, .int .i64 0]) ∧ w' = w := by
  go_enter Try.func11, Try.ntmps11
  go_wp2
  go_ret2
  exact ⟨rfl, rfl⟩
set_option maxRecDepth 100000 in
theorem task_any {w : World} {p : Nat} {F : Nat → Prop} {T : Tab} (h : TIs w p F T) (src seq low : Int) :
    Calls Try.prog 11 #[.pointer (some ⟨p, 0, none⟩), .int .i64 src, .int .i64 seq, .int .i64 low] w fun e w' => e = .returned (.tuple #[.int .i64 (ask T src seq low).1, .int .i64 (ask T src seq low).2]) ∧ w' = w := by
  have hmay := fun W => may_any src seq low W
  cases hm : may src seq low with
  | false =>
    have hd : Hid (ask T src seq low = (0, 0)) := hide (by unfold ask; rw [hm]; rfl)
    rw [hm] at hmay
    clear h hm
    go_enter Try.func11, Try.ntmps11
    go_wp2_with fail
    refine (hmay w).mono ?_
    rintro e w' ⟨rfl, hw'⟩
    rw [hw']
    go_wp2_with fail
    go_ret2
    exact ⟨by rw [unhide hd]; rfl, rfl⟩
  | true =>
    have hr := may_iff.1 hm
    obtain ⟨k, rfl⟩ : ∃ k : Nat, src = k := ⟨src.toNat, by omega⟩
    have hd : Hid (ask T (k : Int) seq low = (T k).ask seq) := hide (by unfold ask; rw [hm, if_pos rfl]; rfl)
    have hk : k < 4 := by omega
    obtain ⟨M, hA, _⟩ := h
    have cA := ask_any (hA.src k hk) (q := seq) (by omega)
    rw [hm] at hmay
    have g0 : (0 : Int) ≤ (k : Int) := by omega
    have g1 : (k : Int) < 4 := by omega
    clear hA hm hr
    go_enter Try.func11, Try.ntmps11
    go_wp2_with fail
    refine (hmay w).mono ?_
    rintro e w' ⟨rfl, hw'⟩
    rw [hw']
    go_wp2_with fail
    refine cA.mono ?_
    rintro e w' ⟨rfl, hw'⟩
    rw [hw']
    go_wp2_with fail
    go_ret2
    exact ⟨by rw [unhide hd]; rfl, rfl⟩
end Go.Proofs.Ytoofaldblldncab

/- A store in memory, and what New, Key, Get and Len of it tell. Condition: keys are no longer than a machine's texts. -/
import Derived.Test.YtmgmkdkdpeljmaaCmp
import Derived.Test.YtmgmkdkdpeljmaaSpCalls
import Derived.Test.YtmgmkdkdpeljmaaStoreDo
import Derived.Deep.MidRow
namespace Go.Proofs.Ytmgmkdkdpeljmaa
open Go.RowKit

/-- Block p holds a store with these windows; m: where its map lies. -/
structure StAt (w : World) (p : Nat) (m : Option Nat) (l : List (Win AggV)) : Prop where
  way : w.cell? ⟨p, 0, none⟩ = some (.map m)
  free : w.frozen? ⟨p, 0, none⟩ = false
  what : (m = none ∧ l = []) ∨ ∃ b, m = some b ∧ MapIs w b l
  off : ∀ b, m = some b → b ≠ p
  fine : Fine l
def foot (p : Nat) (m : Option Nat) (k : Nat) : Prop := k = p ∨ m = some k
theorem StAt.lt {w : World} {p : Nat} {m : Option Nat} {l : List (Win AggV)} (h : StAt w p m l) : ∀ k, foot p m k → k < w.heap.size := by
  rintro k (rfl | e)
  · exact World.block_lt_of_cell? _ _ h.way
  · rcases h.what with ⟨h0, _⟩ | ⟨b, hb, hm⟩
    · rw [h0] at e; cases e
    · rw [hb] at e; cases e; exact hm.lt
theorem StAt.keep {G : Nat → Prop} {w w' : World} {p : Nat} {m : Option Nat} {l : List (Win AggV)} (h : StAt w p m l) (k : Moved G w w') (hG : ∀ i, G i → ¬ foot p m i) : StAt w' p m l := by
  have hp : p < w.heap.size := h.lt p (.inl rfl)
  have hn : ¬ G p := fun g => hG p g (.inl rfl)
  refine ⟨(k.cell (p := ⟨p, 0, none⟩) hp hn).trans h.way, (k.frozen (p := ⟨p, 0, none⟩) hp hn).trans h.free, h.what.imp id ?_, h.off, h.fine⟩
  rintro ⟨b, hb, hm⟩
  exact ⟨b, hb, hm.keep (k.block b hm.lt fun g => hG b g (.inr hb))⟩
/-- A store at p, of the blocks F. -/
def StIs (w : World) (p : Nat) (F : Nat → Prop) (l : List (Win AggV)) : Prop := ∃ m, StAt w p m l ∧ F = foot p m
theorem StIs.lt {w : World} {p : Nat} {F : Nat → Prop} {l : List (Win AggV)} (h : StIs w p F l) : ∀ k, F k → k < w.heap.size := by obtain ⟨m, h, rfl⟩ := h; exact h.lt
theorem StIs.keep {G F : Nat → Prop} {w w' : World} {p : Nat} {l : List (Win AggV)} (h : StIs w p F l) (k : Moved G w w') (hG : ∀ i, G i → ¬ F i) : StIs w' p F l := by
  obtain ⟨m, h, rfl⟩ := h; exact ⟨m, h.keep k hG, rfl⟩
theorem StIs.fine {w : World} {p : Nat} {F : Nat → Prop} {l : List (Win AggV)} (h : StIs w p F l) : Fine l := by obtain ⟨m, h, rfl⟩ := h; exact h.fine
/-- A step of a store. -/
def Did (w w' : World) (p : Nat) (F : Nat → Prop) (l : List (Win AggV)) : Prop := ∃ F', StIs w' p F' l ∧ (∀ k, F' k → F k ∨ w.heap.size ≤ k) ∧ Moved F w w'
theorem Did.start {w w' : World} {p : Nat} {F : Nat → Prop} {l : List (Win AggV)} (h : StIs w p F l) (k : Moved (fun _ => False) w w') : Did w w' p F l :=
  ⟨F, h.keep k fun _ f => f.elim, fun _ f => .inl f, k.mono fun _ f => f.elim⟩
theorem Did.trans {w w1 w2 : World} {p : Nat} {F F1 : Nat → Prop} {l : List (Win AggV)} (hf : ∀ k, F1 k → F k ∨ w.heap.size ≤ k) (k : Moved F w w1) (h : Did w1 w2 p F1 l) : Did w w2 p F l := by
  obtain ⟨F2, h2, f2, m2⟩ := h
  refine ⟨F2, h2, fun i hi => ?_, k.trans m2 hf⟩
  rcases f2 i hi with h' | h'
  · exact hf i h'
  · exact .inr (Nat.le_trans k.size h')
theorem StAt.look {w : World} {p : Nat} {m : Option Nat} {l : List (Win AggV)} (h : StAt w p m l) {k : List UInt8} {s : Int} (hk : okk k s) :
    (Instr.lookup 78 (.map m) (kv k s) true).run Try.prog w = .ok (.tuple #[aggV ((look l k s).getD zero), .bool (look l k s).isSome]) w := by
  rcases h.what with ⟨rfl, rfl⟩ | ⟨b, rfl, hm⟩
  · exact look_nilmap hk
  · exact hm.look h.fine hk
theorem StAt.len {w : World} {p : Nat} {m : Option Nat} {l : List (Win AggV)} (h : StAt w p m l) (ty : TypeId) : (Builtin.len_ #[78] ty #[.map m]).run Try.prog w = .ok (.int .i64 (l.length : Int)) w := by
  rcases h.what with ⟨rfl, rfl⟩ | ⟨b, rfl, hm⟩
  · exact len_nilmap ty
  · exact hm.len ty

theorem new_any (w : World) : Calls Try.prog 11 #[] w fun e w' => e = .returned (.pointer (some ⟨w.heap.size, 0, none⟩)) ∧ Below w.heap.size w w' ∧ StIs w' w.heap.size (foot w.heap.size none) [] := by
  go_enter Try.func11, Try.ntmps11
  go_wp2
  go_ret
  refine ⟨rfl, (Below.refl _ _).alloc (Nat.le_refl _) _, none, ⟨?_, ?_, .inl ⟨rfl, rfl⟩, fun b e => (by cases e), Fine.nil⟩, rfl⟩
  · rw [World.cell?_alloc_new]; rfl
  · simp
theorem key_any (k : List UInt8) (w : World) : Calls Try.prog 44 #[.string ⟨k.toArray⟩] w fun e w' => e = .returned (.bool (keyOk k)) ∧ w' = w := by
  have hz : (⟨k.toArray⟩ : ByteArray).size = k.length := by simp [ByteArray.size]
  by_cases h1 : (1 : Int) ≤ (k.length : Int)
  · by_cases h2 : (k.length : Int) ≤ 16
    · have hd : Hid (keyOk k = true) := hide (by unfold keyOk; rw [decide_eq_true_eq]; omega)
      go_enter Try.func44, Try.ntmps44
      go_wp2
      go_ret
      exact ⟨by rw [unhide hd]; rfl, rfl⟩
    · have hd : Hid (keyOk k = false) := hide (by unfold keyOk; rw [decide_eq_false_iff_not]; omega)
      go_enter Try.func44, Try.ntmps44
      go_wp2
      go_ret
      exact ⟨by rw [unhide hd]; rfl, rfl⟩
  · have hd : Hid (keyOk k = false) := hide (by unfold keyOk; rw [decide_eq_false_iff_not]; omega)
    go_enter Try.func44, Try.ntmps44
    go_wp2
    go_ret
    exact ⟨by rw [unhide hd]; rfl, rfl⟩
theorem rkey_any (k : List UInt8) (w : World) : Calls Try.prog 53 #[.string ⟨k.toArray⟩] w fun e w' => e = .returned (.bool (keyOk k)) ∧ w' = w := by
  have hz : (⟨k.toArray⟩ : ByteArray).size = k.length := by simp [ByteArray.size]
  by_cases h1 : (0 : Int) < (k.length : Int)
  · by_cases h2 : (k.length : Int) ≤ 16
    · have hd : Hid (keyOk k = true) := hide (by unfold keyOk; rw [decide_eq_true_eq]; omega)
      go_enter Try.func53, Try.ntmps53
      go_wp2
      go_ret
      exact ⟨by rw [unhide hd]; rfl, rfl⟩
    · have hd : Hid (keyOk k = false) := hide (by unfold keyOk; rw [decide_eq_false_iff_not]; omega)
      go_enter Try.func53, Try.ntmps53
      go_wp2
      go_ret
      exact ⟨by rw [unhide hd]; rfl, rfl⟩
  · have hd : Hid (keyOk k = false) := hide (by unfold keyOk; rw [decide_eq_false_iff_not]; omega)
    go_enter Try.func53, Try.ntmps53
    go_wp2
    go_ret
    exact ⟨by rw [unhide hd]; rfl, rfl⟩
theorem len_nil (w : World) : Calls Try.prog 36 #[.pointer none] w fun e w' => e = .returned (.int .i64 0) ∧ w' = w := by
  go_enter Try.func36, Try.ntmps36
  go_wp2
  go_ret
  exact ⟨rfl, rfl⟩
theorem len_any {w : World} {p : Nat} {F : Nat → Prop} {l : List (Win AggV)} (h : StIs w p F l) : Calls Try.prog 36 #[.pointer (some ⟨p, 0, none⟩)] w fun e w' => e = .returned (.int .i64 (l.length : Int)) ∧ w' = w := by
  obtain ⟨m, h, rfl⟩ := h
  have hw := h.way
  have hl := fun ty => h.len ty
  clear h
  go_enter Try.func36, Try.ntmps36
  go_wp2
  go_ret
  exact ⟨rfl, rfl⟩
theorem full_any {w : World} {p : Nat} {F : Nat → Prop} {l : List (Win AggV)} (h : StIs w p F l) : Calls Try.prog 46 #[.pointer (some ⟨p, 0, none⟩)] w fun e w' => e = .returned (.bool (decide (32 ≤ l.length))) ∧ w' = w := by
  obtain ⟨m, h, rfl⟩ := h
  have hw := h.way
  have hl := fun ty => h.len ty
  have hd : Hid (decide (32 ≤ l.length) = decide ((32 : Int) ≤ (l.length : Int))) := hide (by rw [decide_eq_decide]; omega)
  clear h
  go_enter Try.func46, Try.ntmps46
  go_wp2
  go_ret
  exact ⟨by rw [unhide hd]; rfl, rfl⟩
theorem get_nil (k : List UInt8) (s : Int) (w : World) : Calls Try.prog 16 #[.pointer none, .string ⟨k.toArray⟩, .int .i64 s] w fun e w' => e = .returned (.tuple #[aggV zero, .bool false]) ∧ Below w.heap.size w w' := by
  go_enter Try.func16, Try.ntmps16
  go_wp2
  refine bodyPost_ret (v := .tuple #[aggV zero, .bool false]) (by simp [results, Try.results16, go_sem, aggV, cellsA, I, zero]) rfl ⟨rfl, ?_⟩
  exact (Below.refl _ _).alloc (Nat.le_refl _) _
theorem get_any {w : World} {p : Nat} {F : Nat → Prop} {l : List (Win AggV)} (h : StIs w p F l) {k : List UInt8} {s : Int} (hk : okk k s) :
    Calls Try.prog 16 #[.pointer (some ⟨p, 0, none⟩), .string ⟨k.toArray⟩, .int .i64 s] w fun e w' => e = .returned (.tuple #[aggV ((look l k s).getD zero), .bool (look l k s).isSome]) ∧ Below w.heap.size w w' := by
  obtain ⟨m, h, rfl⟩ := h
  have hw := h.way
  have hp : p < w.heap.size := h.lt p (.inl rfl)
  have hlk : ∀ W, Below w.heap.size w W → (Instr.lookup 78 (.map m) (.agg #[.int .i64 s, .string ⟨k.toArray⟩]) true).run Try.prog W = .ok (.tuple #[aggV ((look l k s).getD zero), .bool (look l k s).isSome]) W := fun W hb =>
    (h.keep (Moved.of_below (F := fun _ => False) hb) (fun _ f => f.elim)).look hk
  have b1 : Below w.heap.size w (w.alloc (.cells #[.int .i64 0, .int .i64 0, .int .i64 0, .int .i64 0, .int .i64 0, .int .i64 0, .int .i64 0, .int .i64 0] 34)) := (Below.refl _ _).alloc (Nat.le_refl _) _
  have e1 := hlk _ b1
  clear hlk h
  generalize (look l k s).isSome = o at *
  generalize (look l k s).getD zero = a at *
  obtain ⟨a0, a1, a2, a3, a4, a5, a6, a7⟩ := a
  simp only [aggV, cellsA, I] at e1 ⊢
  have B1 := hide b1
  clear b1
  go_enter Try.func16, Try.ntmps16
  go_wp2
  refine bodyPost_ret (v := .tuple #[.agg #[.int .i64 a0, .int .i64 a1, .int .i64 a2, .int .i64 a3, .int .i64 a4, .int .i64 a5, .int .i64 a6, .int .i64 a7], .bool o]) (by simp [results, Try.results16, go_sem]) rfl ⟨rfl, ?_⟩
  exact ((Below.refl _ _).alloc (Nat.le_refl _) _).alloc (by simp) _
end Go.Proofs.Ytmgmkdkdpeljmaa

/- Of memory: what has turned and what has not. No conditions. -/
import Derived.Test.YtceepejndomfaaaChecked
import Derived.WalkKit
import Derived.WalkSpells
import Derived.Outline
import Derived.WalkSmall
import Derived.Deep.Cut
import Derived.Deep.QuietTactic
import Derived.BigQuiet
import Derived.Deep.RegionWith
import Derived.Handy
import Derived.Below
import Derived.Deep.Upon
import Derived.Deep.MidRow
import Derived.Deep.RegionLaw
import Derived.Lib.Builder
import Derived.Conc.LoneSelect
namespace Go.Proofs.Ytceepejndomfaaa
open Go.RowKit

theorem hide {p : Prop} (h : p) : Hid p := h
theorem unhide {p : Prop} (h : Hid p) : p := h
theorem bytes_ext {s t : ByteArray} (h : s.data.toList = t.data.toList) : s = t := by
  cases s; cases t; simp only [ByteArray.mk.injEq]; exact Array.toList_inj.1 h

/-- Of what was there nothing but blocks of F has turned. -/
structure Moved (F : Nat → Prop) (w w' : World) : Prop where
  os : w'.os = w.os
  tape : w'.tape = w.tape
  output : w'.output = w.output
  size : w.heap.size ≤ w'.heap.size
  block : ∀ k, k < w.heap.size → ¬ F k → w'.heap[k]? = w.heap[k]?

theorem Moved.refl (F : Nat → Prop) (w : World) : Moved F w w := ⟨rfl, rfl, rfl, Nat.le_refl _, fun _ _ _ => rfl⟩
theorem Moved.trans {F G : Nat → Prop} {a b c : World} (h : Moved F a b) (k : Moved G b c) (hG : ∀ i, G i → F i ∨ a.heap.size ≤ i) : Moved F a c :=
  ⟨k.os.trans h.os, k.tape.trans h.tape, k.output.trans h.output, Nat.le_trans h.size k.size, fun i hi hF =>
    (k.block i (Nat.lt_of_lt_of_le hi h.size) (fun g => (hG i g).elim hF (fun h' => by omega))).trans (h.block i hi hF)⟩
theorem Moved.mono {F G : Nat → Prop} {a b : World} (h : Moved F a b) (hG : ∀ i, F i → G i ∨ a.heap.size ≤ i) : Moved G a b :=
  ⟨h.os, h.tape, h.output, h.size, fun i hi hn => h.block i hi (fun f => (hG i f).elim hn (fun h' => by omega))⟩
theorem Moved.drew {F : Nat → Prop} {a b : World} (h : Moved F a b) : Moved F a b.drew := ⟨h.os, h.tape, h.output, h.size, h.block⟩
theorem Moved.alloc {F : Nat → Prop} {a b : World} (h : Moved F a b) (o : Obj) : Moved F a (b.alloc o) :=
  ⟨h.os, h.tape, h.output, by have := h.size; simp; omega, fun i hi hF => (Below.heap_alloc b o i (Nat.lt_of_lt_of_le hi h.size)).trans (h.block i hi hF)⟩
theorem Moved.setCell {F : Nat → Prop} {a b : World} (h : Moved F a b) {p : Addr} (hp : F p.block ∨ a.heap.size ≤ p.block) (u : Value) : Moved F a (b.setCell p u) :=
  ⟨h.os, h.tape, h.output, by simpa [World.setCell] using h.size, fun i hi hF => (Below.heap_setCell b p u i (fun e => by subst e; exact hp.elim hF (fun h' => by omega))).trans (h.block i hi hF)⟩
theorem Moved.grown {F : Nat → Prop} {a b c : World} {row : Option Nat} (h : Moved F a b) (hg : b.grownBy c row) (hr : ∀ k, row = some k → F k ∨ a.heap.size ≤ k) : Moved F a c :=
  ⟨hg.os.trans h.os, hg.tape.trans h.tape, hg.output.trans h.output, Nat.le_trans h.size hg.size, fun i hi hF =>
    (hg.block i (Nat.lt_of_lt_of_le hi h.size) (fun e => (hr i e.symm).elim hF (fun h' => by omega))).trans (h.block i hi hF)⟩
theorem Moved.below {F : Nat → Prop} {a b : World} {B : Nat} (h : Moved F a b) (hF : ∀ i, F i → B ≤ i) (hB : B ≤ a.heap.size) : Below B a b :=
  ⟨h.os, h.tape, h.output, h.size, fun k hk => h.block k (by omega) (fun f => by have := hF k f; omega)⟩
theorem Moved.of_below {F : Nat → Prop} {a b : World} (h : Below a.heap.size a b) : Moved F a b := ⟨h.os, h.tape, h.output, h.size, fun k hk _ => h.block k hk⟩
theorem Moved.cell {F : Nat → Prop} {a b : World} (h : Moved F a b) {p : Addr} (hp : p.block < a.heap.size) (hF : ¬ F p.block) : b.cell? p = a.cell? p := World.cell?_of_block (w := a) (h.block p.block hp hF)
theorem Moved.frozen {F : Nat → Prop} {a b : World} (h : Moved F a b) {p : Addr} (hp : p.block < a.heap.size) (hF : ¬ F p.block) : b.frozen? p = a.frozen? p := World.frozen?_of_block (w := a) (h.block p.block hp hF)

theorem ownsRow_keep {w w' : World} {e : TypeId} {size : Nat} {v : Value} {n : Nat} {xs : List Value} (h : w.ownsRow 0 e size v n xs) (hb : ∀ k, v.ownBlock = some k → w'.heap[k]? = w.heap[k]?) : w'.ownsRow 0 e size v n xs := by
  obtain ⟨h1, h2⟩ := h
  refine ⟨h1, h2.imp id ?_⟩
  rintro ⟨g, cap, cur, rfl, a1, a2, a3⟩
  exact ⟨g, cap, cur, rfl, a1, (hb g rfl).trans a2, a3⟩
/-- A row's place behind a step: where it was, or new. -/
def Fresh (w : World) (a a' : Option Addr) : Prop := ∀ x, a' = some x → a = some x ∨ w.heap.size ≤ x.block
theorem Fresh.refl (w : World) (a : Option Addr) : Fresh w a a := fun _ h => .inl h
theorem Fresh.trans {F : Nat → Prop} {w w1 : World} {a b c : Option Addr} (h : Fresh w a b) (k : Fresh w1 b c) (m : Moved F w w1) : Fresh w a c := fun x hx => by
  rcases k x hx with h' | h'
  · exact h x h'
  · exact .inr (Nat.le_trans m.size h')
theorem Moved.put (w : World) (B i : Nat) (v : Value) : Moved (fun j => j = B) w (w.setCell ⟨B, i, none⟩ v) := (Moved.refl (fun j => j = B) w).setCell (p := ⟨B, i, none⟩) (.inl rfl) v
theorem Moved.setChan {F : Nat → Prop} {a b : World} (h : Moved F a b) {k : Nat} (hk : F k ∨ a.heap.size ≤ k) (cap : Nat) (buf : Array Value) (cl : Bool) (s r : Nat) (tm : Bool) : Moved F a (b.setChan k cap buf cl s r tm) :=
  ⟨h.os, h.tape, h.output, by simpa [World.setChan] using h.size, fun i hi hF => by
    have hne : k ≠ i := fun e => by subst e; exact hk.elim hF (fun h' => by omega)
    have : (b.setChan k cap buf cl s r tm).heap[i]? = b.heap[i]? := by simp [World.setChan, Array.getElem?_setIfInBounds_ne hne]
    rw [this]; exact h.block i hi hF⟩
end Go.Proofs.Ytceepejndomfaaa

/- What the program's Of does. Condition: it is handed at most 100 entries. -/
import Derived.Test.YtigmhljaoicdbabGreatSnRisesd
namespace Go.Proofs.YtigmhljaoicdbabGreat.Sn
open Go.RowKit

/-- A slice at a holds l, wherever it lies. -/
def _root_.Go.Proofs.YtigmhljaoicdbabGreat.RowK.At {β : Type} (K : RowK β) (w : World) (a : Option Addr) (l : List β) : Prop := l = [] ∨ ∃ g o, a = some ⟨g, o, none⟩ ∧ g < w.heap.size ∧ w.rangeAt g o (K.cells l)
theorem _root_.Go.Proofs.YtigmhljaoicdbabGreat.RowK.At.below {β : Type} {K : RowK β} {w w' : World} {B : Nat} {a : Option Addr} {l : List β} (h : K.At w a l) (hB : w.heap.size ≤ B) (b : Below B w w') : K.At w' a l := by
  rcases h with h | ⟨g, o, e, hg, hr⟩
  · exact .inl h
  · exact .inr ⟨g, o, e, Nat.lt_of_lt_of_le hg b.size, fun j u hu => (b.cell (p := ⟨g, o + j, none⟩) (by show g < B; omega)).trans (hr j u hu)⟩
theorem _root_.Go.Proofs.YtigmhljaoicdbabGreat.RowK.Row.at_ {β : Type} {K : RowK β} {w : World} {B : Nat} {a : Option Addr} {c : Nat} {l : List β} (h : K.Row w B a c l) : K.At w a l := by
  rcases row_shape h with ⟨g, rfl, _, hg⟩ | ⟨_, rfl⟩
  · refine .inr ⟨g, 0, rfl, hg, fun j u hu => ?_⟩
    have := (row_lies h).2 _ rfl j u hu
    rwa [Addr.add_mid] at this
  · exact .inl rfl
theorem _root_.Go.Proofs.YtigmhljaoicdbabGreat.RowK.At.cell {β : Type} {K : RowK β} (hK : K.Law Tryz.prog) {w : World} {a : Option Addr} {l : List β} (h : K.At w a l) {i : Nat} {x : β} (hi : l[i]? = some x) : ∃ g o, a = some ⟨g, o, none⟩ ∧ g < w.heap.size ∧ w.rangeAt g (o + i * K.sz) (K.f x) := by
  rcases h with rfl | ⟨g, o, e, hg, hr⟩
  · cases hi
  · refine ⟨g, o, e, hg, fun j u hu => ?_⟩
    obtain ⟨hj, _⟩ := List.getElem?_eq_some_iff.1 hu
    rw [hK.len] at hj
    have := hr (i * K.sz + j) u (by rw [cells_at hK hi hj]; exact hu)
    rw [Nat.add_assoc]; exact this
end Go.Proofs.YtigmhljaoicdbabGreat.Sn

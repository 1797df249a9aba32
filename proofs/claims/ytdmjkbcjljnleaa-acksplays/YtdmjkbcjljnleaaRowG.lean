/- Rows of structs in memory, of whatever program and element type: what an append to a row of one's own comes to, from a slice wherever it lies; parts of a row; one element of it. No conditions but what a kind of rows says of its types. -/
import Derived.Test.YtdmjkbcjljnleaaChecked
import Derived.WalkKit
import Derived.Below
import Derived.Deep.MidRow
import Derived.Lib.SliceRun
import Derived.Deep.AppendSrc
import Derived.Deep.Upon
import Derived.Laws.AppendOwn
namespace Go.Proofs.Ytdmjkbcjljnleaa
open Go.RowKit

/-- A kind of rows: the slice's type, the element's, how many cells and bytes that has, its zero value, and what cells a datum has. -/
structure RowK (β : Type) where
  t : TypeId
  e : TypeId
  sz : Nat
  by_ : Nat
  z : Value
  f : β → List Value
structure RowK.Law {β : Type} (K : RowK β) (P : Program) : Prop where
  und : P.underlying K.t = some (.slice K.e)
  info : ∃ i, P.info? K.e = some i ∧ i.zero = some K.z ∧ i.size = K.sz ∧ i.bytes = K.by_
  zc : K.z.cells.size = K.sz
  pos : 0 < K.sz
  len : ∀ b, (K.f b).length = K.sz
  one : ∀ b, ∀ u ∈ K.f b, u.oneCell' = true
  small : K.by_ ≤ 128
variable {β : Type} {K : RowK β} {P : Program}

def RowK.cells (K : RowK β) (l : List β) : List Value := l.flatMap K.f
theorem cells_length (hK : K.Law P) (l : List β) : (K.cells l).length = l.length * K.sz := by
  induction l with
  | nil => simp [RowK.cells]
  | cons b l ih =>
    simp only [RowK.cells, List.flatMap_cons, List.length_append, List.length_cons] at ih ⊢
    rw [ih, hK.len, Nat.add_mul, Nat.one_mul, Nat.add_comm]
theorem cells_append (l m : List β) : K.cells (l ++ m) = K.cells l ++ K.cells m := by simp [RowK.cells]
theorem cells_one (hK : K.Law P) (l : List β) : ∀ u ∈ K.cells l, u.oneCell' = true := fun u hu => by
  simp only [RowK.cells, List.mem_flatMap] at hu
  obtain ⟨b, _, hb⟩ := hu
  exact hK.one b u hb
theorem cells_take (hK : K.Law P) : ∀ (l : List β) (i : Nat), (K.cells l).take (i * K.sz) = K.cells (l.take i)
  | [], i => by simp [RowK.cells]
  | b :: l, 0 => by simp [RowK.cells]
  | b :: l, i + 1 => by
    have e : K.cells (b :: l) = K.f b ++ K.cells l := List.flatMap_cons
    have e2 : K.cells ((b :: l).take (i + 1)) = K.f b ++ K.cells (l.take i) := List.flatMap_cons
    rw [e, e2, ← cells_take hK l i, List.take_append, List.take_of_length_le (by rw [hK.len, Nat.add_mul]; omega), hK.len]
    congr 2
    rw [Nat.add_mul]; omega
theorem cells_drop (hK : K.Law P) : ∀ (l : List β) (i : Nat), (K.cells l).drop (i * K.sz) = K.cells (l.drop i)
  | [], i => by simp [RowK.cells]
  | b :: l, 0 => by simp
  | b :: l, i + 1 => by
    have e : K.cells (b :: l) = K.f b ++ K.cells l := List.flatMap_cons
    rw [e, List.drop_succ_cons, ← cells_drop hK l i, List.drop_append, List.drop_of_length_le (by rw [hK.len, Nat.add_mul]; omega), hK.len, List.nil_append]
    congr 1
    rw [Nat.add_mul]; omega
theorem cells_at (hK : K.Law P) {l : List β} {i : Nat} {b : β} (h : l[i]? = some b) {j : Nat} (hj : j < K.sz) : (K.cells l)[i * K.sz + j]? = (K.f b)[j]? := by
  obtain ⟨hi, hb⟩ := List.getElem?_eq_some_iff.1 h
  have h1 : (K.cells l)[i * K.sz + j]? = ((K.cells l).drop (i * K.sz))[j]? := by rw [List.getElem?_drop]
  rw [h1, cells_drop hK, List.drop_eq_getElem_cons hi, hb]
  have e : K.cells (b :: l.drop (i + 1)) = K.f b ++ K.cells (l.drop (i + 1)) := List.flatMap_cons
  rw [e, List.getElem?_append_left (by rw [hK.len]; exact hj)]

/-- A slice at a, with room for c, whose data are l, of memory of its own, from block base on. -/
def RowK.Row (K : RowK β) (w : World) (base : Nat) (a : Option Addr) (c : Nat) (l : List β) : Prop := w.ownsRow base K.e K.sz (.slice a l.length c) l.length (K.cells l)
/-- A slice whose data are m, wherever they lie. -/
def RowK.Lies (K : RowK β) (w : World) (a : Option Addr) (m : List β) : Prop := (a = none → m = []) ∧ ∀ x, a = some x → ∀ j u, (K.cells m)[j]? = some u → w.cell? (x.add j) = some u
theorem row_none (w : World) (base : Nat) : K.Row w base none 0 [] := World.ownsRow_nil w base K.e K.sz
theorem row_lies {w : World} {base : Nat} {a : Option Addr} {c : Nat} {l : List β} (h : K.Row w base a c l) : K.Lies w a l := by
  refine ⟨fun e => ?_, fun x e j u hu => ?_⟩
  · subst e
    rcases h.2 with ⟨_, h0⟩ | ⟨g, cap, cur, hv, _⟩
    · exact List.length_eq_zero_iff.1 h0
    · simp at hv
  · subst e
    rcases h.2 with ⟨hv, h0⟩ | ⟨g, cap, cur, hv, _⟩
    · simp at hv
    · simp only [Value.slice.injEq, Option.some.injEq] at hv
      obtain ⟨rfl, _, rfl⟩ := hv
      exact h.cells (g := g) rfl j u hu
theorem row_cap {w : World} {base : Nat} {a : Option Addr} {c : Nat} {l : List β} (h : K.Row w base a c l) : l.length ≤ c := by
  rcases h.2 with ⟨hv, h0⟩ | ⟨g, cap, cur, hv, _, _, hc, _⟩
  · omega
  · simp only [Value.slice.injEq] at hv
    omega
theorem lies_keep {w w' : World} {a : Option Addr} {m : List β} (h : K.Lies w a m) (hb : Below w.heap.size w w') : K.Lies w' a m :=
  ⟨h.1, fun x e j u hu => by
    have hc := h.2 x e j u hu
    exact (hb.cell (World.block_lt_of_cell? _ _ hc)).trans hc⟩
theorem lies_take (hK : K.Law P) {w : World} {a : Option Addr} {m : List β} (h : K.Lies w a m) (i : Nat) : K.Lies w a (m.take i) :=
  ⟨fun e => by rw [h.1 e, List.take_nil], fun x e j u hu => by
    rw [← cells_take hK] at hu
    refine h.2 x e j u ?_
    rw [List.getElem?_take] at hu
    split at hu
    · exact hu
    · cases hu⟩
theorem lies_drop (hK : K.Law P) {w : World} {x : Addr} {m : List β} (h : K.Lies w (some x) m) (i : Nat) : K.Lies w (some (x.add (i * K.sz))) (m.drop i) :=
  ⟨fun e => (by cases e), fun y e j u hu => by
    cases e
    rw [← cells_drop hK, List.getElem?_drop] at hu
    have := h.2 x rfl _ u hu
    have e2 : (x.add (i * K.sz)).add j = x.add (i * K.sz + j) := by
      unfold Addr.add
      by_cases h1 : i * K.sz = 0 <;> by_cases h2 : j = 0 <;> simp [h1, h2, Nat.add_assoc]
    rw [e2]; exact this⟩
/-- One element, as a range of cells. -/
theorem lies_at (hK : K.Law P) {w : World} {g o : Nat} {m : List β} (h : K.Lies w (some ⟨g, o, none⟩) m) {i : Nat} {b : β} (hi : m[i]? = some b) : w.rangeAt g (o + i * K.sz) (K.f b) := fun j u hu => by
  obtain ⟨hj, _⟩ := List.getElem?_eq_some_iff.1 hu
  rw [hK.len] at hj
  have := h.2 _ rfl (i * K.sz + j) u (by rw [cells_at hK hi hj]; exact hu)
  rw [Addr.add_mid, ← Nat.add_assoc] at this
  exact this
/-- What an append of data to a row of one's own comes to, from a slice wherever it lies. -/
theorem grow_app (hK : K.Law P) {w : World} {base : Nat} {a : Option Addr} {c : Nat} {l : List β} (h : K.Row w base a c l) (b : Option Addr) (cb : Nat) (m : List β) (hm : K.Lies w b m) (hb : l.length + m.length ≤ 1000000000000) (hbase : base ≤ w.heap.size) :
    ∀ ty, ∃ a' c' w', (Builtin.append_ #[K.t, K.t] ty #[.slice a l.length c, .slice b m.length cb]).run P w = .ok (.slice a' (l ++ m).length c') w' ∧
      K.Row w' base a' c' (l ++ m) ∧ w.grownBy w' (Value.slice a l.length c).ownBlock := fun ty => by
  obtain ⟨i0, hi, hz0, hz1, hz2⟩ := hK.info
  have hlen : (l ++ m).length = l.length + m.length := List.length_append
  cases b with
  | none =>
    have := hm.1 rfl
    subst this
    have hs' : Src P i0.size K.t (.slice none ([] : List β).length cb) 0 [] w := Src.ofNil w hK.und cb
    refine ⟨a, c, w, ?_, ?_, ⟨rfl, rfl, rfl, Nat.le_refl _, fun _ _ _ => rfl⟩⟩
    · rw [List.append_nil]
      exact run_append_nothing (P := P) w K.t K.t ty K.e i0 hK.und hi a l.length c (row_cap h) _ hs'
    · rw [List.append_nil]; exact h
  | some x =>
    have h1 : K.by_ * (l.length + m.length) ≤ 128 * 1000000000000 := Nat.mul_le_mul hK.small hb
    obtain ⟨v', w', h2, h3, h4, h5⟩ := run_append_own (P := P) w base K.t ty K.e i0 _ K.sz K.by_ hK.und hi hz0 hz1 hz2 hK.zc hK.pos _ _ _ h x m.length cb (K.cells m) (cells_length hK m) (hm.2 x rfl) (cells_one hK m) (by unfold maxLen; omega) (by rw [Nat.mul_comm]; omega) hbase
    have hf : ∃ a' c', v' = .slice a' (l.length + m.length) c' := by
      rcases h3.2 with ⟨e, h0⟩ | ⟨g, cap, cur, e, _⟩
      · exact ⟨none, 0, by rw [e, h0]⟩
      · exact ⟨_, cap, e⟩
    obtain ⟨a', c', rfl⟩ := hf
    refine ⟨a', c', w', by rw [hlen]; exact h2, ?_, h4⟩
    unfold RowK.Row
    rw [hlen, cells_append]
    exact h3
end Go.Proofs.Ytdmjkbcjljnleaa

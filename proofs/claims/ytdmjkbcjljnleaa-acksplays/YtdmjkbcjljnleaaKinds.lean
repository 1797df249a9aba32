/- The kinds of rows of this program: of numbers. No conditions. -/
import Derived.Test.YtdmjkbcjljnleaaGrowB
import Derived.Test.YtdmjkbcjljnleaaRised
import Derived.Test.YtdmjkbcjljnleaaShelf
namespace Go.Proofs.Ytdmjkbcjljnleaa
open Go.RowKit

def I (n : Int) : Value := .int .i64 n
theorem info_parts {z : Value} {a b : Nat} {t : TypeId} (h : (Try.prog.info? t).map (fun i => (i.zero, i.size, i.bytes)) = some (some z, a, b)) : ∃ i, Try.prog.info? t = some i ∧ i.zero = some z ∧ i.size = a ∧ i.bytes = b := by
  obtain ⟨i, hi, he⟩ := Option.map_eq_some_iff.1 h
  simp only [Prod.mk.injEq] at he
  exact ⟨i, hi, he⟩
def IntK : RowK Int := ⟨27, 3, 1, 8, .int .i64 0, fun n => [.int .i64 n]⟩
theorem intK_law : IntK.Law Try.prog where
  und := Try.underlying27
  info := info_parts (by kernel_rfl)
  zc := rfl
  pos := by decide
  len := fun _ => rfl
  one := fun b u hu => by
    simp [IntK] at hu
    rw [hu]; rfl
  small := by decide
theorem wpList_app {P : Program} {w : World} {ops : Array Oper} {rest : List Oper} {o : Oper} {a : Act} {Q : Exit → Act → World → Prop} (hgd : o.guard = none) (s x : Operand) (t tx ty : TypeId)
    (ho : o.op = .call { callee := .builtin .append, args := #[s, x], argTypes := #[t, tx] }) (hty : o.type = ty) {v xv v' : Value} {w' : World} (hs : a.eval s = v) (hx : a.eval x = xv)
    (hr : (Builtin.append_ #[t, tx] ty #[v, xv]).run P w = .ok v' w') (h : wpList P ops Q rest (a.put o.dst v') w') : wpList P ops Q (o :: rest) a w :=
  wpList_plain hgd fun _ hK => by
    unfold Oper.wp execOp
    simp only [ho, resolve, invoke, builtin, Sem.run_bind, Sem.run_pure, Result.andThen_ok, List.map_toArray, List.map_cons, List.map_nil, hs, hx, hty, hr]
    exact hK _ _ h
section
variable {β : Type} {K : RowK β}
theorem row_lt {w : World} {B : Nat} {a : Option Addr} {c : Nat} {l : List β} (h : K.Row w B a c l) : ∀ k, (Value.slice a l.length c).ownBlock = some k → B ≤ k ∧ k < w.heap.size := fun k e => h.lt k e
theorem lies_new (K : RowK β) (w : World) (z : β) (ty : TypeId) : K.Lies (w.alloc (.cells (K.f z).toArray ty)) (some ⟨w.heap.size, 0, none⟩) [z] := by
  refine ⟨fun e => (by cases e), fun x e j u hu => ?_⟩
  cases e
  have hu' : (K.f z)[j]? = some u := by simpa [RowK.cells] using hu
  have := (row_new w (K.f z) ty).range j u hu'
  rwa [Addr.add_mid]
/-- Where a row of one's own lies: nowhere, or at a block's beginning. -/
theorem row_shape {w : World} {B : Nat} {a : Option Addr} {c : Nat} {l : List β} (h : K.Row w B a c l) : (∃ g, a = some ⟨g, 0, none⟩ ∧ B ≤ g ∧ g < w.heap.size) ∨ (a = none ∧ l = []) := by
  rcases h.2 with ⟨hv, h0⟩ | ⟨g, cap, cur, hv, hb, hg, _⟩
  · simp only [Value.slice.injEq] at hv
    exact .inr ⟨hv.1, List.length_eq_zero_iff.1 h0⟩
  · simp only [Value.slice.injEq] at hv
    exact .inl ⟨g, hv.1, hb, (h.lt g (by rw [hv.1]; rfl)).2⟩
theorem row_keep {G : Nat → Prop} {w w' : World} {B : Nat} {a : Option Addr} {c : Nat} {l : List β} (h : K.Row w B a c l) (k : Moved G w w') (hG : ∀ i, G i → ¬ (B ≤ i ∧ (Value.slice a l.length c).ownBlock = some i)) : K.Row w' B a c l := by
  refine ⟨h.1, h.2.imp id ?_⟩
  rintro ⟨g, cap, cur, e1, e2, e3, e4⟩
  have hg : g < w.heap.size := (h.lt g (by rw [e1]; rfl)).2
  exact ⟨g, cap, cur, e1, e2, (k.block g hg fun gg => hG g gg ⟨e2, by rw [e1]; rfl⟩).trans e3, e4⟩
theorem row_base {w : World} {B B' : Nat} {a : Option Addr} {c : Nat} {l : List β} (h : K.Row w B a c l) (hb : B' ≤ B) : K.Row w B' a c l := by
  refine ⟨h.1, h.2.imp id ?_⟩
  rintro ⟨g, cap, cur, e1, e2, e3⟩
  exact ⟨g, cap, cur, e1, Nat.le_trans hb e2, e3⟩
/-- In which block a slice lies. -/
abbrev own (a : Option Addr) (n c : Nat) : Option Nat := (Value.slice a n c).ownBlock
/-- An append of one datum that lies in a new block. -/
theorem grow_one (hK : K.Law Try.prog) {w : World} {B : Nat} {a : Option Addr} {c : Nat} {l : List β} (h : K.Row w B a c l) (z : β) (ty : TypeId) (hl : l.length ≤ 100000) (hB : B ≤ w.heap.size) :
    ∃ a' c' w', (Builtin.append_ #[K.t, K.t] K.t #[.slice a l.length c, .slice (some ⟨w.heap.size, 0, none⟩) 1 1]).run Try.prog (w.alloc (.cells (K.f z).toArray ty)) = .ok (.slice a' (l.length + 1) c') w' ∧ K.Row w' B a' c' (l ++ [z]) ∧ Below B w w' ∧ Moved (fun k => own a l.length c = some k) w w' ∧
      (own a' (l.length + 1) c' = own a l.length c ∨ own a' (l.length + 1) c' = some (w.heap.size + 1)) := by
  have rV : K.Row (w.alloc (.cells (K.f z).toArray ty)) B a c l := h.alloc _
  obtain ⟨a', c', w', happ, row', grow', hown⟩ := grow_at hK rV ⟨w.heap.size, 0, none⟩ 1 [z] (lies_new K w z ty) (by simp; omega) (by simp; omega) K.t
  have e : (l ++ [z]).length = l.length + 1 := by simp
  rw [e] at happ hown
  rw [World.size_alloc] at hown
  refine ⟨a', c', w', happ, row', ?_, ?_, hown⟩
  · exact ((Below.refl B w).alloc hB _).grown grow' (by simp; omega) (fun k e => (h.lt k e).1)
  · exact ((Moved.refl _ w).alloc _).grown grow' (fun k e => .inl e)
end
def RowK.At {β : Type} (K : RowK β) (w : World) (a : Option Addr) (l : List β) : Prop := l = [] ∨ ∃ g o, a = some ⟨g, o, none⟩ ∧ g < w.heap.size ∧ w.rangeAt g o (K.cells l)
theorem RowK.At.below {β : Type} {K : RowK β} {w w' : World} {B : Nat} {a : Option Addr} {l : List β} (h : K.At w a l) (hB : w.heap.size ≤ B) (b : Below B w w') : K.At w' a l := by
  rcases h with h | ⟨g, o, e, hg, hr⟩
  · exact .inl h
  · exact .inr ⟨g, o, e, Nat.lt_of_lt_of_le hg b.size, fun j u hu => (b.cell (p := ⟨g, o + j, none⟩) (by show g < B; omega)).trans (hr j u hu)⟩
theorem RowK.Row.at_ {β : Type} {K : RowK β} {w : World} {B : Nat} {a : Option Addr} {c : Nat} {l : List β} (h : K.Row w B a c l) : K.At w a l := by
  rcases row_shape h with ⟨g, rfl, _, hg⟩ | ⟨_, rfl⟩
  · refine .inr ⟨g, 0, rfl, hg, fun j u hu => ?_⟩
    have := (row_lies h).2 _ rfl j u hu
    rwa [Addr.add_mid] at this
  · exact .inl rfl
theorem RowK.At.cell {β : Type} {K : RowK β} (hK : K.Law Try.prog) {w : World} {a : Option Addr} {l : List β} (h : K.At w a l) {i : Nat} {x : β} (hi : l[i]? = some x) : ∃ g o, a = some ⟨g, o, none⟩ ∧ g < w.heap.size ∧ w.rangeAt g (o + i * K.sz) (K.f x) := by
  rcases h with rfl | ⟨g, o, e, hg, hr⟩
  · cases hi
  · refine ⟨g, o, e, hg, fun j u hu => ?_⟩
    obtain ⟨hj, _⟩ := List.getElem?_eq_some_iff.1 hu
    rw [hK.len] at hj
    have := hr (i * K.sz + j) u (by rw [cells_at hK hi hj]; exact hu)
    rw [Nat.add_assoc]; exact this
theorem RowK.At.keep {β : Type} {K : RowK β} {G : Nat → Prop} {w w' : World} {a : Option Addr} {l : List β} (h : K.At w a l) (k : Moved G w w') (hG : l ≠ [] → ∀ x, a = some x → ¬ G x.block) : K.At w' a l := by
  by_cases h0 : l = []
  · exact .inl h0
  rcases h with h | ⟨g, o, rfl, hg, hr⟩
  · exact .inl h
  · exact .inr ⟨g, o, rfl, Nat.lt_of_lt_of_le hg k.size, fun j u hu => (k.cell (p := ⟨g, o + j, none⟩) hg (hG h0 ⟨g, o, none⟩ rfl)).trans (hr j u hu)⟩
end Go.Proofs.Ytdmjkbcjljnleaa

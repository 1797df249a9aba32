/- Maps whose elements are numbers, as functions: looking up, storing; keys that are numbers, and pairs of them. Conditions: the numbers are a machine's. -/
import Derived.Test.YtoofaldblldncaaPlaysW
import Derived.Maps.Views
import Derived.WideKeyArr
namespace Go.Proofs.Ytoofaldblldncaa
open Go.RowKit Go.Maps Go.WideMaps Go.MapKept Go.ChangeMaps

/-- What a kind of keys must bring. -/
structure KeyK where
  kt : TypeId
  mt : TypeId
  β : Type
  kv : β → Value
  kl : β → Lit
  ok : β → Prop
structure KeyK.Law (K : KeyK) : Prop where
  keyed : Keyed Try.prog K.kt
  under : Try.prog.underlying K.mt = some (.map K.kt 3)
  key : ∀ x, K.ok x → keyOf Try.prog K.kt (K.kv x) = some (K.kl x)
  inj : ∀ x y, K.ok x → K.ok y → K.kl x = K.kl y → x = y
/-- Block b is a map of at most n entries that gives what f gives. -/
def FIs (K : KeyK) (w : World) (b n : Nat) (f : K.β → Int) : Prop := ∃ D : DataW Unit, w.ownsMap Try.prog K.kt (plainElem Try.prog 3) b n D ∧ IsMap D ∧ ∀ x, K.ok x → D.atKey (K.kl x) (.lit (.int .i64 0)) = .lit (.int .i64 (f x))
section
variable {K : KeyK} {w : World} {b n : Nat} {f : K.β → Int}
theorem FIs.lt (h : FIs K w b n f) : b < w.heap.size := by obtain ⟨D, h, _⟩ := h; exact h.lt
theorem FIs.keep {w' : World} (h : FIs K w b n f) (hb : w'.heap[b]? = w.heap[b]?) : FIs K w' b n f := by
  obtain ⟨D, ⟨es, clock, h1, h2⟩, hD⟩ := h
  exact ⟨D, ⟨es, clock, hb.trans h1, h2⟩, hD⟩
theorem FIs.made (K : KeyK) (w : World) : FIs K (w.alloc (.map #[] 0)) w.heap.size 0 (fun _ => 0) :=
  ⟨.map [], World.ownsMap_made w Try.prog K.kt (plainElem Try.prog 3), isMap_empty, fun _ _ => rfl⟩
theorem FIs.get (hK : K.Law) (h : FIs K w b n f) {x : K.β} (hx : K.ok x) : (Instr.lookup K.mt (.map (some b)) (K.kv x) false).run Try.prog w = .ok (.int .i64 (f x)) w := by
  obtain ⟨D, h, _, hf⟩ := h
  obtain ⟨c, hrun, hat, _⟩ := h.lookup_int hK.keyed hK.under Try.underlying3 (zero3 w) (hK.key x hx)
  rw [hf x hx] at hat
  simp only [DataW.lit.injEq, Lit.int.injEq, true_and] at hat
  rw [hrun, hat]
theorem FIs.put (hK : K.Law) (h : FIs K w b n f) (hn : n < maxLen) {x : K.β} (hx : K.ok x) {c : Int} (hc : -9223372036854775808 ≤ c ∧ c ≤ 9223372036854775807) {f' : K.β → Int} (h1 : f' x = c) (h2 : ∀ y, y ≠ x → f' y = f y) :
    ∃ w', (Instr.mapUpdate K.mt (.map (some b)) (K.kv x) (.int .i64 c)).run Try.prog w = .ok () w' ∧ FIs K w' b (n + 1) f' ∧ Moved (fun j => j = b) w w' := by
  obtain ⟨D, h, hm, hf⟩ := h
  obtain ⟨w', hrun, h', ht⟩ := h.store hK.keyed hK.under hn (hK.key x hx) (plainElem_int Try.underlying3 (wf_i64 hc))
  refine ⟨w', hrun, ⟨_, h', ?_, fun y hy => ?_⟩, turned_moved ht⟩
  · exact hm.put _ _
  · by_cases e : y = x
    · subst e
      rw [atKey_put_same hm (hK.keyed.key (hK.key y hy)), h1]
    · rw [atKey_put_other (fun e' => e (hK.inj y x hy hx e')), hf y hy, h2 y e]
end
def i64in (q : Int) : Prop := -9223372036854775808 ≤ q ∧ q ≤ 9223372036854775807
def IKey : KeyK := ⟨3, 51, Int, fun q => .int .i64 q, kz, i64in⟩
theorem ikey : IKey.Law := ⟨key3, Try.underlying51, fun _ h => key_of h, fun _ _ _ _ e => kz_inj e⟩
theorem ak50 : ArrKey Try.prog 50 3 2 := ⟨by kernel_rfl, by kernel_rfl, by kernel_rfl, by kernel_rfl⟩
def pv (x : Int × Int) : Value := .agg #[.int .i64 x.1, .int .i64 x.2]
def pl (x : Int × Int) : Lit := .string (keyBytes [.int .i64 x.1, .int .i64 x.2])
set_option maxRecDepth 100000 in
theorem keyOf_pv {x : Int × Int} (h : i64in x.1 ∧ i64in x.2) : keyOf Try.prog 50 (pv x) = some (pl x) := by
  obtain ⟨s, q⟩ := x
  have hw := wf_i64 h.1
  have hw2 := wf_i64 h.2
  have ht : Try.prog.keyType 50 = true := by kernel_rfl
  have hc : Try.prog.cellsOf 50 = 2 := by kernel_rfl
  have hc3 : Try.prog.cellsOf 3 = 1 := by kernel_rfl
  obtain ⟨m, hm⟩ : ∃ m, Try.prog.types.size + 1 = m + 2 := ⟨Try.prog.types.size - 1, by have : 4 ≤ Try.prog.types.size := of_decide_eq_true (by kernel_rfl); omega⟩
  unfold keyOf
  simp only [Try.underlying50]
  rw [if_pos (by simp [ht, Value.formed, pv, Try.underlying50, hc]), hm]
  unfold Program.keyLits
  simp only [Try.underlying50, Value.cells, pv]
  simp only at hw hw2
  have i3 : ∀ q, (Lit.int .i64 q).wf = true → Program.keyLits Try.prog (m + 1) 3 [.int .i64 q] = some [.int .i64 q] := fun q h => by simp [Program.keyLits, Try.underlying3, h]
  rw [if_pos (by simp [hc])]
  simp [hc3, List.range_succ, i3 s hw, i3 q hw2, pl]
theorem pv_inj {x y : Int × Int} (h : pv x = pv y) : x = y := by
  obtain ⟨a, b⟩ := x
  obtain ⟨c, d⟩ := y
  simp only [pv, Value.agg.injEq] at h
  have h' := congrArg Array.toList h
  simp only [List.cons.injEq, Value.int.injEq, true_and, and_true] at h'
  rw [h'.1, h'.2]
def PKey : KeyK := ⟨50, 49, Int × Int, pv, pl, fun x => i64in x.1 ∧ i64in x.2⟩
theorem pkey : PKey.Law := ⟨Keyed.of_law ak50.law, Try.underlying49, fun _ h => keyOf_pv h, fun _ _ h h' e => pv_inj (ak50.law.inj (keyOf_pv h) ((keyOf_pv h').trans (congrArg some e.symm)))⟩
/-- Such a map, of one's own. -/
def hMap (K : KeyK) (b n : Nat) (f : K.β → Int) : Held := ⟨fun k => k = b, fun v => FIs K v b n f, fun _ h k e => by rw [e]; exact h.lt, fun _ _ h _ hk => h.keep (hk b rfl)⟩
/-- A row that is read alone. -/
def hAt {β : Type} (K : RowK β) (a : Option Addr) (l : List β) : Held := ⟨fun k => ∃ o, a = some ⟨k, o, none⟩ ∧ l ≠ [], fun v => K.At v a l, fun v h k e => by
  obtain ⟨o, rfl, hl⟩ := e
  rcases h with h | ⟨g, o', e, hg, _⟩
  · exact absurd h hl
  · cases e; exact hg, fun v v' h hz hk => by
  by_cases hl : l = []
  · exact .inl hl
  · rcases h with h | ⟨g, o, rfl, hg, hr⟩
    · exact .inl h
    · refine .inr ⟨g, o, rfl, Nat.lt_of_lt_of_le hg hz, fun j u hu => (World.cell?_of_block (w := v) (hk g ⟨o, rfl, hl⟩)).trans (hr j u hu)⟩⟩
section
variable {w0 v : World} {R : List Held}
theorem HR.map {K : KeyK} {b n : Nat} {f : K.β → Int} (h : HR w0 v R) (m : hMap K b n f ∈ R) : FIs K v b n f := h.ok _ m
theorem HR.at {β : Type} {K : RowK β} {a : Option Addr} {l : List β} (h : HR w0 v R) (m : hAt K a l ∈ R) : K.At v a l := h.ok _ m
theorem HR.newmap (K : KeyK) (h : HR w0 v R) : HR w0 (v.alloc (.map #[] 0)) (hMap K v.heap.size 0 (fun _ => 0) :: R) :=
  h.add ((Below.refl _ v).alloc (Nat.le_refl _) _) (FIs.made K v) (fun k e => by have : k = v.heap.size := e; omega)
theorem HR.mapput {K : KeyK} (hK : K.Law) {b n : Nat} {f : K.β → Int} (h : HR w0 v (hMap K b n f :: R)) (hn : n < maxLen) {x : K.β} (hx : K.ok x) {c : Int} (hc : -9223372036854775808 ≤ c ∧ c ≤ 9223372036854775807) {f' : K.β → Int} (h1 : f' x = c) (h2 : ∀ y, y ≠ x → f' y = f y) :
    ∃ w', (Instr.mapUpdate K.mt (.map (some b)) (K.kv x) (.int .i64 c)).run Try.prog v = .ok () w' ∧ HR w0 w' (hMap K b (n + 1) f' :: R) := by
  obtain ⟨w', e1, e2, e3⟩ := (h.map List.mem_cons_self).put hK hn hx hc h1 h2
  exact ⟨w', e1, h.turn (r := hMap K b n f) (r' := hMap K b (n + 1) f') e3 e2 (fun _ e => .inl e)⟩
theorem HR.read {β : Type} {K : RowK β} {a : Option Addr} {c : Nat} {l : List β} (h : HR w0 v (hRow K a c l :: R)) : HR w0 v (hAt K a l :: R) :=
  h.turn (r := hRow K a c l) (r' := hAt K a l) (Moved.refl _ _) (h.row List.mem_cons_self) (fun k e => by
    obtain ⟨o, rfl, hl⟩ := e
    left
    have hr : K.Row v 0 _ c l := h.ok _ List.mem_cons_self
    rcases row_shape hr with ⟨g, e, _⟩ | ⟨e, _⟩
    · cases e; rfl
    · cases e)
theorem HR.lit {β : Type} {K : RowK β} (h : HR w0 v R) (l : List β) (ty : TypeId) : HR w0 (v.alloc (.cells (K.cells l).toArray ty)) (hAt K (some ⟨v.heap.size, 0, Option.none⟩) l :: R) :=
  h.add ((Below.refl _ v).alloc (Nat.le_refl _) _) (.inr ⟨_, _, rfl, by simp, fun j u hu => by
    rw [Nat.zero_add, World.cell?_alloc_new]
    simpa using hu⟩) (fun k e => by obtain ⟨o, e, _⟩ := e; cases e; exact Nat.le_refl _)
end
end Go.Proofs.Ytoofaldblldncaa

/- One number more on a row of one's own; such a row as numbers. No conditions. -/
import Derived.Test.YtiokfnkcjicheaaArgs
import Derived.Deep.Upon
import Derived.Lib.Builder
import Derived.Laws.AppendOwn
namespace Go.Proofs.Ytiokfnkcjicheaa
open Go.RowKit Go.ChangeShapes Go.WideShapes

theorem wpList_app {w : World} {ops : Array Oper} {rest : List Oper} {o : Oper} {a : Act} {Q : Exit → Act → World → Prop} (hgd : o.guard = none) (s x : Operand) (t tx : TypeId)
    (ho : o.op = .call { callee := .builtin .append, args := #[s, x], argTypes := #[t, tx] }) {v xv v' : Value} {w' : World} (hs : a.eval s = v) (hx : a.eval x = xv)
    (hr : ∀ ty, (Builtin.append_ #[t, tx] ty #[v, xv]).run Try.prog w = .ok v' w') (h : wpList Try.prog ops Q rest (a.put o.dst v') w') : wpList Try.prog ops Q (o :: rest) a w :=
  wpList_plain hgd fun _ hK => by
    unfold Oper.wp execOp
    simp only [ho, resolve, invoke, builtin, Sem.run_bind, Sem.run_pure, Result.andThen_ok, List.map_toArray, List.map_cons, List.map_nil, hs, hx, hr]
    exact hK _ _ h

def intCells (l : List Int) : List Value := l.map fun x => .int .i64 x
theorem info2 : (Try.prog.info? 2).map (fun i => (i.zero, i.size, i.bytes)) = some (some (.int .i64 0), 1, 8) := by kernel_rfl
/-- One int more. -/
theorem app_int {w : World} {base : Nat} {v : Value} {l : List Int} (h : w.ownsRow base 2 1 v l.length (intCells l)) (x : Int) (hl : l.length ≤ 100000) (hb : base ≤ w.heap.size) :
    ∃ v' w', (∀ ty, (Builtin.append_ #[31, 31] ty #[v, .slice (some ⟨w.heap.size, 0, none⟩) 1 1]).run Try.prog (w.alloc (.cells #[.int .i64 x] 2)) = .ok v' w') ∧
      w'.ownsRow base 2 1 v' (l ++ [x]).length (intCells (l ++ [x])) ∧ Moved (fun i => v.ownBlock = some i) w w' := by
  obtain ⟨i0, hi, hz0, hz1, hz2⟩ := info_parts info2
  have hnews : ∀ j u, (intCells [x])[j]? = some u → (w.alloc (.cells #[.int .i64 x] 2)).cell? ((⟨w.heap.size, 0, none⟩ : Addr).add j) = some u := fun j u hj => by
    match j, hj with
    | 0, hj =>
      simp [intCells] at hj
      subst hj
      rw [Addr.add_lit]; simp
    | j + 1, hj => simp [intCells] at hj
  have h1 : ∀ u ∈ intCells [x], u.oneCell' = true := fun u hu => by simp [intCells] at hu; subst hu; rfl
  have key : ∀ ty, ∃ v' w', (Builtin.append_ #[31, 31] ty #[v, .slice (some ⟨w.heap.size, 0, none⟩) 1 1]).run Try.prog (w.alloc (.cells #[.int .i64 x] 2)) = .ok v' w' ∧ w'.ownsRow base 2 1 v' (l.length + 1) (intCells l ++ intCells [x]) ∧ (w.alloc (.cells #[.int .i64 x] 2)).grownBy w' v.ownBlock := fun ty => by
    obtain ⟨v', w', h2, h3, h4, _⟩ := run_append_own (P := Try.prog) (w.alloc (.cells #[.int .i64 x] 2)) base 31 ty 2 i0 (.int .i64 0) 1 8 Try.underlying31 hi hz0 hz1 hz2 rfl (by decide) v l.length (intCells l) (h.alloc _) ⟨w.heap.size, 0, none⟩ 1 1 (intCells [x]) rfl hnews h1
      (by unfold maxLen; omega) (by omega) (by simp; omega)
    exact ⟨v', w', h2, h3, h4⟩
  obtain ⟨v', w', h2, h3, h4⟩ := key 0
  have hc : intCells (l ++ [x]) = intCells l ++ intCells [x] := by simp [intCells]
  have hn : (l ++ [x]).length = l.length + 1 := by simp
  rw [hc, hn]
  refine ⟨v', w', fun ty => ?_, h3, ?_⟩
  · exact h2
  · exact ((Moved.refl _ w).alloc _).grown h4 (fun k hk => .inl hk)

theorem owns_keep {w w' : World} {base : Nat} {e : TypeId} {size : Nat} {v : Value} {n : Nat} {xs : List Value} (h : w.ownsRow base e size v n xs) (hb : ∀ k, v.ownBlock = some k → w'.heap[k]? = w.heap[k]?) : w'.ownsRow base e size v n xs := by
  obtain ⟨h1, h2⟩ := h
  refine ⟨h1, h2.imp id ?_⟩
  rintro ⟨g, cap, cur, rfl, a0, a2, a3⟩
  exact ⟨g, cap, cur, rfl, a0, (hb g rfl).trans a2, a3⟩


theorem ints_of_owns {w : World} {base : Nat} {v : Value} {l : List Int} (h : w.ownsRow base 2 1 v l.length (intCells l)) : ∃ a cap, v = .slice a l.length cap ∧ Ints w a l := by
  rcases h.2 with ⟨hv, h0⟩ | ⟨g, cap, cur, hv, _, hg, _, _, _, htake⟩
  · refine ⟨none, 0, by rw [hv, h0], fun i hi => by omega⟩
  · refine ⟨some ⟨g, 0, none⟩, cap, hv, fun i hi => ⟨_, rfl, ?_⟩⟩
    rw [Addr.add_mid, Nat.zero_add, Nat.mul_one] at *
    have hc : (cur.toList.take l.length)[i]? = some (.int .i64 (l.getD i 0)) := by
      rw [htake]
      simp [intCells, List.getD_eq_getElem?_getD, hi]
    rw [List.getElem?_take_of_lt hi] at hc
    unfold World.cell?
    simp only [hg]
    simpa using hc
/-- A row of numbers that came in, with its room. -/
theorem ints_arg_cap {H : Type} {enc : TypeId × Value → H} {w : World} {base : Nat} {spare : Nat → Bool} {held : Bool} {a : Option Addr} {len cap : Nat} {d : DataW H} {pl : List MemPlace} (h : DataW.Trod enc Try.prog w base spare held 31 (.slice a len cap) d pl) :
    ∃ xs : List Int, IntsIn w a len xs ∧ len ≤ cap ∧ cap ≤ maxLen := by
  obtain ⟨xs, hx⟩ := ints_arg h
  refine ⟨xs, hx, ?_⟩
  obtain ⟨fuel, hf⟩ := h
  rcases Go.ChangeShapes.open_ints Try.underlying31 Try.underlying2 mcells2 hf with ⟨hcs, _⟩ | ⟨ad, l, c, zs, hcs, _, hl, hm, hz, _, hc, hwf⟩
  · have e : [Value.slice a len cap] = [.slice none 0 0] := hcs
    simp only [List.cons.injEq, Value.slice.injEq, and_true] at e
    obtain ⟨rfl, rfl, rfl⟩ := e
    exact ⟨Nat.le_refl _, Nat.zero_le _⟩
  · have e : [Value.slice a len cap] = [.slice (some ad) l c] := hcs
    simp only [List.cons.injEq, Value.slice.injEq, and_true] at e
    obtain ⟨rfl, rfl, rfl⟩ := e
    exact ⟨hl, hm⟩
/-- The two parts of a row that is cut. -/
theorem ints_take {w : World} {a : Option Addr} {xs : List Int} (h : Ints w a xs) (k : Nat) : Ints w a (xs.take k) := fun i hi => by
  rw [List.length_take] at hi
  obtain ⟨x, hx, hc⟩ := h i (by omega)
  refine ⟨x, hx, ?_⟩
  rw [hc, List.getD_eq_getElem?_getD, List.getD_eq_getElem?_getD, List.getElem?_take_of_lt (by omega)]
theorem ints_drop {w : World} {x : Addr} {xs : List Int} (h : Ints w (some x) xs) (k : Nat) : Ints w (some (x.add k)) (xs.drop k) := fun i hi => by
  rw [List.length_drop] at hi
  obtain ⟨y, hy, hc⟩ := h (k + i) (by omega)
  obtain rfl : x = y := Option.some.inj hy
  refine ⟨_, rfl, ?_⟩
  have e : (x.add k).add i = x.add (k + i) := by
    unfold Addr.add
    by_cases hk : k = 0 <;> by_cases hi0 : i = 0 <;> simp [hk, hi0, Nat.add_assoc]
  rw [e, hc, List.getD_eq_getElem?_getD, List.getD_eq_getElem?_getD, List.getElem?_drop]
end Go.Proofs.Ytiokfnkcjicheaa

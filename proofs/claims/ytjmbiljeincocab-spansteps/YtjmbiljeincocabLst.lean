/- What the document's own Starts answers: a row of its own, which holds the plain one (startsL). Conditions: none. -/
import Derived.Test.YtjmbiljeincocabCalls
import Derived.LoopTactic
import Derived.Deep.Upon
import Derived.Lib.Builder
import Derived.Laws.AppendOwn
namespace Go.Proofs.Ytjmbiljeincocab
open Go.RowKit

/-- A row of numbers that lies from a on. -/
def Ints (w : World) (a : Option Addr) (xs : List Int) : Prop := ∀ i, i < xs.length → ∃ x, a = some x ∧ w.cell? (x.add i) = some (.int .i64 (xs.getD i 0))
theorem add_block (x : Addr) (i : Nat) : (x.add i).block = x.block := by unfold Addr.add; split <;> rfl

theorem wpList_app {w : World} {ops : Array Oper} {rest : List Oper} {o : Oper} {a : Act} {Q : Exit → Act → World → Prop} (hgd : o.guard = none) (s x : Operand) (t tx : TypeId)
    (ho : o.op = .call { callee := .builtin .append, args := #[s, x], argTypes := #[t, tx] }) {v xv v' : Value} {w' : World} (hs : a.eval s = v) (hx : a.eval x = xv)
    (hr : ∀ ty, (Builtin.append_ #[t, tx] ty #[v, xv]).run Try.prog w = .ok v' w') (h : wpList Try.prog ops Q rest (a.put o.dst v') w') : wpList Try.prog ops Q (o :: rest) a w :=
  wpList_plain hgd fun _ hK => by
    unfold Oper.wp execOp
    simp only [ho, resolve, invoke, builtin, Sem.run_bind, Sem.run_pure, Result.andThen_ok, List.map_toArray, List.map_cons, List.map_nil, hs, hx, hr]
    exact hK _ _ h

def intCells (l : List Int) : List Value := l.map fun x => .int .i64 x
theorem info2 : (Try.prog.info? 2).map (fun i => (i.zero, i.size, i.bytes)) = some (some (.int .i64 0), 1, 8) := by kernel_rfl
/-- One int more. -/
theorem app_int {w : World} {base : Nat} {v : Value} {l : List Int} (h : w.ownsRow base 2 1 v l.length (intCells l)) (x : Int) (hl : l.length ≤ 100000) (hb : base ≤ w.heap.size) :
    ∃ v' w', (∀ ty, (Builtin.append_ #[25, 25] ty #[v, .slice (some ⟨w.heap.size, 0, none⟩) 1 1]).run Try.prog (w.alloc (.cells #[.int .i64 x] 2)) = .ok v' w') ∧
      w'.ownsRow base 2 1 v' (l ++ [x]).length (intCells (l ++ [x])) ∧ Below base w w' := by
  obtain ⟨i0, hi, hz0, hz1, hz2⟩ := info_parts info2
  have hnews : ∀ j u, (intCells [x])[j]? = some u → (w.alloc (.cells #[.int .i64 x] 2)).cell? ((⟨w.heap.size, 0, none⟩ : Addr).add j) = some u := fun j u hj => by
    match j, hj with
    | 0, hj =>
      simp [intCells] at hj
      subst hj
      rw [Addr.add_lit]; simp
    | j + 1, hj => simp [intCells] at hj
  have h1 : ∀ u ∈ intCells [x], u.oneCell' = true := fun u hu => by simp [intCells] at hu; subst hu; rfl
  have key : ∀ ty, ∃ v' w', (Builtin.append_ #[25, 25] ty #[v, .slice (some ⟨w.heap.size, 0, none⟩) 1 1]).run Try.prog (w.alloc (.cells #[.int .i64 x] 2)) = .ok v' w' ∧ w'.ownsRow base 2 1 v' (l.length + 1) (intCells l ++ intCells [x]) ∧ (w.alloc (.cells #[.int .i64 x] 2)).grownBy w' v.ownBlock := fun ty => by
    obtain ⟨v', w', h2, h3, h4, _⟩ := run_append_own (P := Try.prog) (w.alloc (.cells #[.int .i64 x] 2)) base 25 ty 2 i0 (.int .i64 0) 1 8 Try.underlying25 hi hz0 hz1 hz2 rfl (by decide) v l.length (intCells l) (h.alloc _) ⟨w.heap.size, 0, none⟩ 1 1 (intCells [x]) rfl hnews h1
      (by unfold maxLen; omega) (by omega) (by simp; omega)
    exact ⟨v', w', h2, h3, h4⟩
  obtain ⟨v', w', h2, h3, h4⟩ := key 0
  have hc : intCells (l ++ [x]) = intCells l ++ intCells [x] := by simp [intCells]
  have hn : (l ++ [x]).length = l.length + 1 := by simp
  rw [hc, hn]
  refine ⟨v', w', fun ty => ?_, h3, ?_⟩
  · exact h2
  · exact ((Below.refl base w).alloc hb _).grown h4 (by simp; omega) (fun k hk => (h.lt k hk).1)
theorem ints_of_owns {w : World} {base : Nat} {v : Value} {l : List Int} (h : w.ownsRow base 2 1 v l.length (intCells l)) : ∃ a cap, v = .slice a l.length cap ∧ Ints w a l := by
  rcases h.2 with ⟨hv, h0⟩ | ⟨g, cap, cur, hv, _, hg, _, _, _, htake⟩
  · refine ⟨none, 0, by rw [hv, h0], fun i hi => by omega⟩
  · refine ⟨some ⟨g, 0, none⟩, cap, hv, fun i hi => ⟨_, rfl, ?_⟩⟩
    rw [Addr.add_lit, Nat.zero_add]
    rw [Nat.mul_one] at htake
    have hc : (cur.toList.take l.length)[i]? = some (.int .i64 (l.getD i 0)) := by
      rw [htake]
      simp [intCells, List.getD_eq_getElem?_getD, hi]
    rw [List.getElem?_take_of_lt hi] at hc
    unfold World.cell?
    simp only [hg]
    simpa using hc
theorem owns_none (w : World) (base : Nat) : w.ownsRow base 2 1 (.slice none 0 0) ([] : List Int).length (intCells []) := ⟨rfl, .inl ⟨rfl, rfl⟩⟩

theorem firstI_open {s : Int} (h : 0 ≤ s ∧ s ≤ 1099511627776) : s < firstI s + 15 := by
  unfold firstI startI; rw [if_pos (by omega)]; omega
theorem upL_none {m x : Int} (h : ¬ isOver x m) : ∀ k, upL m k x = []
  | 0 => rfl
  | k + 1 => by rw [upL, if_neg h]
theorem starts_nomark {m s : Int} (h : ¬ (0 ≤ m ∧ m ≤ 1099511627776)) : startsL m s = [] := by
  unfold startsL; split
  · exact upL_none (fun k => h k.2.1) _
  · rfl
theorem starts_nosince {m s : Int} (h : ¬ (0 ≤ s ∧ s ≤ 1099511627776)) : startsL m s = [] := by unfold startsL; rw [if_neg h]
theorem starts_back {m s : Int} (h : m < s) : startsL m s = [] := by
  unfold startsL; split
  · rename_i hs; exact upL_none (fun k => by have := firstI_open hs; have := k.2.2; omega) _
  · rfl

end Go.Proofs.Ytjmbiljeincocab

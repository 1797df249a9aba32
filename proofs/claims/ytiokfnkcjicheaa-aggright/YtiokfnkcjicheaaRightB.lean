/- AggRight: rows that are cut, and what their sums come to. Conditions: none. -/
import Derived.Test.YtiokfnkcjicheaaApp
import Derived.Test.YtiokfnkcjicheaaRs
namespace Go.Proofs.Ytiokfnkcjicheaa
open Go.RowKit

def turnedTo (xs : List Int) (m : Nat) : List Int := xs.reverse.take (xs.length - m)
theorem turned_step {xs : List Int} {m : Nat} (h : m < xs.length) : turnedTo xs m = turnedTo xs (m + 1) ++ [xs.getD m 0] := by
  unfold turnedTo
  have e : xs.length - m = (xs.length - (m + 1)) + 1 := by omega
  have hl : xs.length - (m + 1) < xs.reverse.length := by rw [List.length_reverse]; omega
  rw [e, List.take_succ_eq_append_getElem hl]
  congr 1
  rw [List.getElem_reverse, List.getD_eq_getElem?_getD, List.getElem?_eq_getElem h]
  have : xs.length - 1 - (xs.length - (m + 1)) = m := by omega
  simp [this]
theorem turned_len (xs : List Int) (m : Nat) (h : m ≤ xs.length) : (turnedTo xs m).length = xs.length - m := by
  unfold turnedTo; rw [List.length_take, List.length_reverse]; omega
theorem owns_none (w : World) (base : Nat) : w.ownsRow base 2 1 (.slice none 0 0) ([] : List Int).length (intCells []) := ⟨rfl, .inl ⟨rfl, rfl⟩⟩

theorem turned_none (xs : List Int) : turnedTo xs xs.length = [] := by unfold turnedTo; simp
theorem turned_whole (xs : List Int) : turnedTo xs 0 = xs.reverse := by unfold turnedTo; rw [Nat.sub_zero]; exact List.take_of_length_le (by simp)
theorem wpQuiet_pure {ops : Array Oper} {C : World → Prop} {Q : Act → Prop} {rest : List Oper} {op : Oper} {a : Act} (hw : Region.wanted op (yielded ops a.tmps) = true) (v : Value) (hr : ∀ w, (execOp a.eval op).run Try.prog w = .ok (.value v) w)
    (h : wpQuiet Try.prog ops C Q rest (a.put op.dst v)) : wpQuiet Try.prog ops C Q (op :: rest) a := by
  unfold wpQuiet
  rw [if_pos hw]
  refine ⟨v, fun w hw' => ?_, h⟩
  unfold Oper.quietAt
  rw [hr]
  exact ⟨rfl, rfl⟩
def cutA (a : Option Addr) (k cap : Nat) : Option Addr := if cap = k then a else a.map (·.add k)
theorem ints_cutA {w : World} {a : Option Addr} {xs : List Int} (h : Ints w a xs) (k cap : Nat) (hc : xs.length ≤ cap) : Ints w (cutA a k cap) (xs.drop k) := by
  intro i hi
  have hi2 := hi
  rw [List.length_drop] at hi2
  obtain ⟨x, rfl, _⟩ := h 0 (by omega)
  have e : cutA (some x) k cap = some (x.add k) := by unfold cutA; rw [if_neg (by omega)]; rfl
  rw [e]
  exact ints_drop h k i hi
theorem ints_cutB {w : World} {a : Option Addr} {xs : List Int} (h : Ints w a xs) (k cap : Nat) (hc : xs.length ≤ cap) : Ints w (cutA a 0 cap) (xs.take k) := by
  intro i hi
  have hi2 := hi
  rw [List.length_take] at hi2
  obtain ⟨x, rfl, _⟩ := h 0 (by omega)
  have e : cutA (some x) 0 cap = some x := by unfold cutA; rw [if_neg (by omega)]; show some (x.add 0) = some x; unfold Addr.add; simp
  rw [e]
  exact ints_take h k i hi
theorem run_cutB (a : Option Addr) (n cap k : Nat) (w : World) (h : k ≤ cap) : (Instr.slice 31 (.slice a n cap) none (some (.int .i64 (k : Int))) none).run Try.prog w = .ok (.slice (cutA a 0 cap) k cap) w := by
  have hk0 : (0 : Int) ≤ (k : Int) := Int.natCast_nonneg _
  have hk1 : (k : Int) ≤ (cap : Int) := by omega
  have z := Try.sizeOf2
  simp [go_sem, cutA]
  intro hh
  omega
theorem run_cutA (a : Option Addr) (n cap k : Nat) (w : World) (h : k ≤ n) (h2 : n ≤ cap) : (Instr.slice 31 (.slice a n cap) (some (.int .i64 (k : Int))) none none).run Try.prog w = .ok (.slice (cutA a k cap) (n - k) (cap - k)) w := by
  have hk0 : (0 : Int) ≤ (k : Int) := Int.natCast_nonneg _
  have hk1 : (k : Int) ≤ (n : Int) := by omega
  have hk2 : (n : Int) ≤ (cap : Int) := by omega
  have z := Try.sizeOf2
  simp [go_sem, cutA]
  intro hh
  omega

structure RightF (xs : List Int) (k : Nat) : Prop where
  iA : (of xs).In
  iTa : (of (xs.take k)).In
  iTd : (of (xs.drop k)).In
  rA : right (of xs) = true
  eB : { of xs.reverse with sum := (of xs).sum } = of xs
  eC : { join (of (xs.take k)) (of (xs.drop k)) with sum := (of xs).sum } = of xs
  eS : xs.reverse.all small = true → of xs.reverse = of xs ∧ join (of (xs.take k)) (of (xs.drop k)) = of xs
  hcnt : (of xs).count = (xs.length : Int)
theorem right_facts (xs : List Int) (k : Nat) (hx : ∀ v ∈ xs, i64 v) (hl : xs.length ≤ 1000) : RightF xs k where
  iA := of_in xs hx
  iTa := of_in _ (fun v hv => hx v (List.mem_of_mem_take hv))
  iTd := of_in _ (fun v hv => hx v (List.mem_of_mem_drop hv))
  rA := is_right (is_of xs (by omega)) (by omega)
  eB := of_reverse xs hl
  eC := of_cut xs k hl
  eS := fun e => by
    have hsm : ∀ v ∈ xs, small v = true := fun v hv => List.all_eq_true.1 e v (List.mem_reverse.2 hv)
    exact ⟨of_reverse_small xs hsm hl, of_cut_small xs k hsm hl⟩
  hcnt := (is_of xs (by omega)).count
end Go.Proofs.Ytiokfnkcjicheaa

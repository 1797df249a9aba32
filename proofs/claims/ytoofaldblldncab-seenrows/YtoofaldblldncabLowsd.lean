/- What a table's Lows does. No conditions. -/
import Derived.Test.YtoofaldblldncabKinds
import Derived.OwnWalk
namespace Go.Proofs.Ytoofaldblldncab
open Go.RowKit

theorem wpList_load_on {P : Program} {ops : Array Oper} {rest : List Oper} {op : Oper} {a : Go.Act} {w : World} {Q : Exit → Go.Act → World → Prop} (hw : Region.wanted op (yielded ops a.tmps) = true) (ty : TypeId) (x : Operand) (ho : op.op = .load ty x)
    (b o : Nat) (hx : a.eval x = .pointer (some ⟨b, o, none⟩)) (cs : List Value) (d : TypeDesc) (hc : w.rangeAt b o cs)
    (hu : P.underlying ty = some d) (hd : d.isRow = true) (hi : (P.info? ty).map (·.size) = some cs.length)
    (h : wpList P ops Q rest (a.put op.dst (.agg cs.toArray)) w) : wpList P ops Q (op :: rest) a w := by
  unfold wpList
  rw [if_pos hw]
  exact .inl (wp_load_mid ty x ho b o hx cs d hc hu hd hi h)
/-- A table's cells. -/
def cells8 (M : Nat → Option Nat) (T : Tab) : List Value := [.int .i64 ((T 0).low - 1), .map (M 0), .int .i64 ((T 1).low - 1), .map (M 1), .int .i64 ((T 2).low - 1), .map (M 2), .int .i64 ((T 3).low - 1), .map (M 3)]
theorem TabAt.range {w : World} {p : Nat} {M : Nat → Option Nat} {T : Tab} (h : TabAt w p M T) : w.rangeAt p 0 (cells8 M T) := fun j v hv => by
  rw [Nat.zero_add]
  have s0 := h.src 0 (by decide)
  have s1 := h.src 1 (by decide)
  have s2 := h.src 2 (by decide)
  have s3 := h.src 3 (by decide)
  match j, hv with
  | 0, hv => cases hv; exact s0.c0
  | 1, hv => cases hv; exact s0.c1
  | 2, hv => cases hv; exact s1.c0
  | 3, hv => cases hv; exact s1.c1
  | 4, hv => cases hv; exact s2.c0
  | 5, hv => cases hv; exact s2.c1
  | 6, hv => cases hv; exact s3.c0
  | 7, hv => cases hv; exact s3.c1
  | n + 8, hv => cases hv
theorem idx61 (M : Nat → Option Nat) (T : Tab) {k : Nat} (hk : k < 4) (w : World) : (Instr.index 40 (.agg (cells8 M T).toArray) (.int .i64 (k : Int))).run Try.prog w = .ok (.agg #[.int .i64 ((T k).low - 1), .map (M k)]) w := by
  have u2 := Try.underlying39
  have g2 := Try.isAgg39
  have z2 := Try.sizeOf39
  match k, hk with
  | 0, _ => simp [Instr.index, run_underlying Try.underlying40, asIntOf, go_sem, part, g2, z2, cells8]
  | 1, _ => simp [Instr.index, run_underlying Try.underlying40, asIntOf, go_sem, part, g2, z2, cells8]
  | 2, _ => simp [Instr.index, run_underlying Try.underlying40, asIntOf, go_sem, part, g2, z2, cells8]
  | 3, _ => simp [Instr.index, run_underlying Try.underlying40, asIntOf, go_sem, part, g2, z2, cells8]
def lowsTo (T : Tab) (n : Nat) : List Int := (List.range n).map fun i => (T i).low
theorem lowsTo_succ (T : Tab) (n : Nat) : lowsTo T (n + 1) = lowsTo T n ++ [(T n).low] := by unfold lowsTo; rw [List.range_succ, List.map_append]; rfl
theorem lowsTo_len (T : Tab) (n : Nat) : (lowsTo T n).length = n := by simp [lowsTo]
theorem lowsTo_four (T : Tab) : lowsTo T 4 = lows T := rfl
end Go.Proofs.Ytoofaldblldncab

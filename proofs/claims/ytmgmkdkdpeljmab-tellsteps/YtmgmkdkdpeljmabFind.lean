/- Where a window is in the document's own row, or would be: its find. Conditions: keys are no longer than 2^40; the row lies in memory. -/
import Derived.Test.YtmgmkdkdpeljmabLess
import Derived.Test.YtmgmkdkdpeljmabStoreFind
import Derived.Test.YtmgmkdkdpeljmabRowG
namespace Go.Proofs.Ytmgmkdkdpeljmab
open Go.RowKit

/-- A window's cells. -/
def outV (b : Win AggV) : List Value := outC b.key b.start (cellsA b.agg)
/-- Rows of windows. -/
def OutK : RowK (Win AggV) := ⟨29, 46, 10, 88, .agg #[.string ⟨#[]⟩, .int .i64 0, .int .i64 0, .int .i64 0, .int .i64 0, .int .i64 0, .int .i64 0, .int .i64 0, .int .i64 0, .int .i64 0], outV⟩
theorem info34 : (Try.prog.info? 46).map (fun i => (i.zero, i.size, i.bytes)) = some (some OutK.z, 10, 88) := by kernel_rfl
theorem outK_law : OutK.Law Try.prog where
  und := Try.underlying29
  info := by obtain ⟨i0, hi, hz0, hz1, hz2⟩ := info_parts info34; exact ⟨i0, hi, hz0, hz1, hz2⟩
  zc := rfl
  pos := by decide
  len := fun _ => rfl
  one := fun b u hu => by
    simp [OutK, outV, outC, cellsA, I] at hu
    rcases hu with rfl | rfl | rfl | rfl | rfl | rfl | rfl | rfl | rfl | rfl <;> rfl
  small := by decide
/-- A load of a whole struct in a region that draws. -/
theorem wpQuiet_load_onx {P : Program} {ops : Array Oper} {C : World → Prop} {Q : Act → Prop} {rest : List Oper} {op : Oper} {a : Act} (hw : Region.wanted op (yielded ops a.tmps) = true) (ty : TypeId) (x : Operand) (ho : op.op = .load ty x)
    (b o : Nat) (hx : a.eval x = .pointer (some ⟨b, o, none⟩)) (cs : List Value) (d : TypeDesc) (hc : ∀ w, C w → w.rangeAt b o cs)
    (hu : P.underlying ty = some d) (hd : d.isRow = true) (hi : (P.info? ty).map (·.size) = some cs.length)
    (h : wpQuiet P ops C Q rest (a.put op.dst (.agg cs.toArray))) : wpQuiet P ops C Q (op :: rest) a := by
  unfold wpQuiet
  rw [if_pos hw]
  refine ⟨_, fun w hw' => ?_, h⟩
  unfold Oper.quietAt execOp
  simp only [ho, hx, Instr.loadAt, Instr.sureAddr, Sem.run_bind, Sem.run_pure, Result.andThen_ok, run_loadVar_mid w b o ty cs d (hc w hw') hu hd hi]
  exact ⟨rfl, rfl⟩

end Go.Proofs.Ytmgmkdkdpeljmab

/- What all rows of this seat share: the listed table's cells, out of the row's own list; a world for the witness in which the table lies as its initialiser lays it. No conditions. -/
import Derived.Test.YtkbmbcmcnpeabaaDoorCards
import Derived.Test.YtkbmbcmcnpeabaaDoorTie
import Derived.Test.YtkbmbcmcnpeabaaDoorFMore
import Derived.WalkKit
import Derived.ProofKit
import Derived.OpenShut
import Derived.Deep.DeepHandedRow
import Derived.Lib.LaidTab
namespace Go.Proofs.YtkbmbcmcnpeabaaDoor.Fm
open Go.ChangeShapes Go.WideShapes Go.ChangeAt Go.RowKit

theorem own : ownKnob Tryd.prog.godebug = none := by kernel_rfl
def vname : String := Rows.msgWritesRow.named.headD ""
theorem gTab : Tryd.prog.globalNamed vname = some 0 := by kernel_rfl
theorem gTabType : (Tryd.prog.globals[0]?).map (·.type) = some 129 := by kernel_rfl
theorem cells35 : Tryd.prog.cellsOf 129 = 16 := by kernel_rfl
theorem cells23 : Tryd.prog.cellsOf 70 = 1 := by kernel_rfl
theorem tab_of_laid {W : World} (h : laidMetH Tryd.prog Rows.msgWritesRow.laid W) : Tab W := by
  have t : Lib.TabIs Tryd.prog W vname .u32 Crc.tab := Lib.tabIs_of_head (rest := []) gTab gTabType Tryd.underlying129 Tryd.underlying70 cells23 cells35 h
  intro i hi
  exact t.cell gTab i hi

/-- The table's block as its initialiser lays it. -/
def layTab (W : World) : World :=
  { W with heap := W.heap.modify 0 fun
      | .cells _ t frozen => .cells (Crc.tab.map fun z => Value.int .u32 z).toArray t frozen
      | o => o }
/-- A uint32 that came in, as a bit vector. -/
theorem u32_bv (n : Int) (h : (Lit.int .u32 n).wf = true) : ∃ c : BitVec 32, n = ((c.toNat : Nat) : Int) := by
  have hb := bounds_u32 h
  exact ⟨BitVec.ofNat 32 n.toNat, by rw [BitVec.toNat_ofNat]; omega⟩
end Go.Proofs.YtkbmbcmcnpeabaaDoor.Fm

/-
  NARROWER THAN 'FOR EVERY INPUT', by the rows' own cells (each row's printed sentence says how): SumKnown: laid · SumSums: laid · SumBurst: laid · SumLinear: laid · SumTail: laid · SumPieces: laid.
  DERIVED. THE GIVEN ROWS OF THIS SEAT. 6 by the template 'for every input the law returns true; each argument reads behind the call as it read before'; 0 by the template 'total and deterministic' (their statements: YtgnodokjfaibbaaDoorTotals.lean).
  GIVEN WITH THE SEED: the statements are not yours to turn. If you find one false, say at which input.
  Laid BY PROGRAM, IN A SANDBOX (cutbox-rows.mjs): the forced cells as the released guide's own fill.sh prints them over the translation e911f899f44abfdc… (all of the seat's roots in one cut). By AI agents, Wed Nov 11 2026. No macro, syntax, notation, axiom, sorry.
-/
import Derived.Test.YtgnodokjfaibbaaDoorChecked
import GoSem.Claim
import GoSem.ClaimJoined
import GoSem.ClaimMapViews
import Derived.JoinedTies
import Derived.KernelRfl
namespace Go.Proofs.YtgnodokjfaibbaaDoor
/- THE CELL 'sum', in the pinned program and in every row, IS THE sha256 OF THE DUMP (.gsa) THAT YtgnodokjfaibbaaDoorProg.lean LOADS. Nothing in Lean hashes anything: it is a label: what it is worth is what the hold of that sum in a sandbox is worth. -/
noncomputable def Tryd.pinned : Pinned := { name := "ytgnodokjfaibbaadoor", sum := "e911f899f44abfdc1f0668ba0cfe6b44255715cf98737730b88c70f66b74b9e3", checked := Tryd.checked }
namespace Rows
def none {H : Type} : Left H := { results := [], args := [] }

/- WHAT THE LISTED PACKAGE-LEVEL VARIABLES READ AS WHEN THE CALL BEGINS. Each datum BY PROGRAM (the guide's laid-datum.mjs) off the statement by which the dump's own 'gosem.cut.vars' lays the variable. In a bare row this is a premise. The card (YtgnodokjfaibbaaDoorCards.lean) ties it to the program's text. -/
def laid_meter_sum_halves {H : Type} : DataW H := .agg [.lit (.int .u32 0), .lit (.int .u32 274646895), .lit (.int .u32 549293790), .lit (.int .u32 820201905), .lit (.int .u32 1098587580), .lit (.int .u32 1361435347), .lit (.int .u32 1640403810), .lit (.int .u32 1905808397), .lit (.int .u32 2197175160), .lit (.int .u32 2460548119), .lit (.int .u32 2722870694), .lit (.int .u32 2987750089), .lit (.int .u32 3280807620), .lit (.int .u32 3553878443), .lit (.int .u32 3811616794), .lit (.int .u32 4084100981)]

/-- 'meterlaw01.SumKnown': WHATEVER THE INPUT: true; the input reads as it did. -/
def sumKnownSpec : ChangeSpec := { name := "sumKnown", fn := fun _ => fun
  | [] => { results := [.lit (.bool true)], args := [] }
  | _ => none }
def sumKnownRow : OpenClaim := { program := "ytgnodokjfaibbaadoor", sum := "e911f899f44abfdc1f0668ba0cfe6b44255715cf98737730b88c70f66b74b9e3", func := "meter/meterlaw01.SumKnown", spec := "sumKnown", named := ["meter/sum.halves"], apart := false, laid := [("meter/sum.halves", laid_meter_sum_halves)] }
def SumKnownSaid : Prop := sumKnownRow.holds Tryd.pinned (OpenSpec.ofChange sumKnownSpec)

/-- ITS FALSE NEIGHBOUR: 'it returns false'. Refute it at one input. -/
def sumKnownWrong : ChangeSpec := { name := "sumKnown", fn := fun _ => fun
  | [] => { results := [.lit (.bool false)], args := [] }
  | _ => none }
def SumKnownWrongFalsely : Prop := sumKnownRow.holds Tryd.pinned (OpenSpec.ofChange sumKnownWrong)

/-- 'meterlaw01.SumSums': WHATEVER THE INPUT: true; the input reads as it did. -/
def sumSumsSpec : ChangeSpec := { name := "sumSums", fn := fun _ => fun
  | [d1, d2] => { results := [.lit (.bool true)], args := [d1, d2] }
  | _ => none }
def sumSumsRow : OpenClaim := { program := "ytgnodokjfaibbaadoor", sum := "e911f899f44abfdc1f0668ba0cfe6b44255715cf98737730b88c70f66b74b9e3", func := "meter/meterlaw01.SumSums", spec := "sumSums", named := ["meter/sum.halves"], apart := false, laid := [("meter/sum.halves", laid_meter_sum_halves)] }
def SumSumsSaid : Prop := sumSumsRow.holds Tryd.pinned (OpenSpec.ofChange sumSumsSpec)

/-- ITS FALSE NEIGHBOUR: 'it returns false'. Refute it at one input. -/
def sumSumsWrong : ChangeSpec := { name := "sumSums", fn := fun _ => fun
  | [d1, d2] => { results := [.lit (.bool false)], args := [d1, d2] }
  | _ => none }
def SumSumsWrongFalsely : Prop := sumSumsRow.holds Tryd.pinned (OpenSpec.ofChange sumSumsWrong)

/-- 'meterlaw01.SumBurst': WHATEVER THE INPUT: true; the input reads as it did. -/
def sumBurstSpec : ChangeSpec := { name := "sumBurst", fn := fun _ => fun
  | [d1, d2, d3, d4] => { results := [.lit (.bool true)], args := [d1, d2, d3, d4] }
  | _ => none }
def sumBurstRow : OpenClaim := { program := "ytgnodokjfaibbaadoor", sum := "e911f899f44abfdc1f0668ba0cfe6b44255715cf98737730b88c70f66b74b9e3", func := "meter/meterlaw01.SumBurst", spec := "sumBurst", named := ["meter/sum.halves"], apart := false, laid := [("meter/sum.halves", laid_meter_sum_halves)] }
def SumBurstSaid : Prop := sumBurstRow.holds Tryd.pinned (OpenSpec.ofChange sumBurstSpec)

/-- ITS FALSE NEIGHBOUR: 'it returns false'. Refute it at one input. -/
def sumBurstWrong : ChangeSpec := { name := "sumBurst", fn := fun _ => fun
  | [d1, d2, d3, d4] => { results := [.lit (.bool false)], args := [d1, d2, d3, d4] }
  | _ => none }
def SumBurstWrongFalsely : Prop := sumBurstRow.holds Tryd.pinned (OpenSpec.ofChange sumBurstWrong)

/-- 'meterlaw01.SumLinear': WHATEVER THE INPUT: true; the input reads as it did. -/
def sumLinearSpec : ChangeSpec := { name := "sumLinear", fn := fun _ => fun
  | [d1, d2, d3] => { results := [.lit (.bool true)], args := [d1, d2, d3] }
  | _ => none }
def sumLinearRow : OpenClaim := { program := "ytgnodokjfaibbaadoor", sum := "e911f899f44abfdc1f0668ba0cfe6b44255715cf98737730b88c70f66b74b9e3", func := "meter/meterlaw01.SumLinear", spec := "sumLinear", named := ["meter/sum.halves"], apart := false, laid := [("meter/sum.halves", laid_meter_sum_halves)] }
def SumLinearSaid : Prop := sumLinearRow.holds Tryd.pinned (OpenSpec.ofChange sumLinearSpec)

/-- ITS FALSE NEIGHBOUR: 'it returns false'. Refute it at one input. -/
def sumLinearWrong : ChangeSpec := { name := "sumLinear", fn := fun _ => fun
  | [d1, d2, d3] => { results := [.lit (.bool false)], args := [d1, d2, d3] }
  | _ => none }
def SumLinearWrongFalsely : Prop := sumLinearRow.holds Tryd.pinned (OpenSpec.ofChange sumLinearWrong)

/-- 'meterlaw01.SumTail': WHATEVER THE INPUT: true; the input reads as it did. -/
def sumTailSpec : ChangeSpec := { name := "sumTail", fn := fun _ => fun
  | [d1, d2] => { results := [.lit (.bool true)], args := [d1, d2] }
  | _ => none }
def sumTailRow : OpenClaim := { program := "ytgnodokjfaibbaadoor", sum := "e911f899f44abfdc1f0668ba0cfe6b44255715cf98737730b88c70f66b74b9e3", func := "meter/meterlaw01.SumTail", spec := "sumTail", named := ["meter/sum.halves"], apart := false, laid := [("meter/sum.halves", laid_meter_sum_halves)] }
def SumTailSaid : Prop := sumTailRow.holds Tryd.pinned (OpenSpec.ofChange sumTailSpec)

/-- ITS FALSE NEIGHBOUR: 'it returns false'. Refute it at one input. -/
def sumTailWrong : ChangeSpec := { name := "sumTail", fn := fun _ => fun
  | [d1, d2] => { results := [.lit (.bool false)], args := [d1, d2] }
  | _ => none }
def SumTailWrongFalsely : Prop := sumTailRow.holds Tryd.pinned (OpenSpec.ofChange sumTailWrong)

/-- 'meterlaw01.SumPieces': WHATEVER THE INPUT: true; the input reads as it did. -/
def sumPiecesSpec : ChangeSpec := { name := "sumPieces", fn := fun _ => fun
  | [d] => { results := [.lit (.bool true)], args := [d] }
  | _ => none }
def sumPiecesRow : OpenClaim := { program := "ytgnodokjfaibbaadoor", sum := "e911f899f44abfdc1f0668ba0cfe6b44255715cf98737730b88c70f66b74b9e3", func := "meter/meterlaw01.SumPieces", spec := "sumPieces", named := ["meter/sum.halves"], apart := false, laid := [("meter/sum.halves", laid_meter_sum_halves)] }
def SumPiecesSaid : Prop := sumPiecesRow.holds Tryd.pinned (OpenSpec.ofChange sumPiecesSpec)

/-- ITS FALSE NEIGHBOUR: 'it returns false'. Refute it at one input. -/
def sumPiecesWrong : ChangeSpec := { name := "sumPieces", fn := fun _ => fun
  | [d] => { results := [.lit (.bool false)], args := [d] }
  | _ => none }
def SumPiecesWrongFalsely : Prop := sumPiecesRow.holds Tryd.pinned (OpenSpec.ofChange sumPiecesWrong)

/- THE SECOND FORM. 'bulk': how many values and letters a reading holds, each counted each time it is reached (what is shared counts as often as it is met; a slice's spare places count too). A statement '..UptoSaid' is the law's where the arguments, and the package variables that the reading takes, are together of bulk at most 1048576: NARROWER than '..Said'. Prove '..Said' where nothing that the law and all that it calls make is longer than what came in: it says more and counts as full. Else prove '..UptoSaid'. A law counts once. -/
mutual
def uptoBulk {H : Type} : DataW H → Nat
  | .lit (.string bytes) => bytes.length + 1
  | .lit _ => 1
  | .nil => 1
  | .ptr d => uptoBulk d + 1
  | .slice elems spare => uptoBulkAll elems + uptoBulkAll spare + 1
  | .agg parts => uptoBulkAll parts + 1
  | .iface _ d => uptoBulk d + 1
  | .map entries => uptoBulkEntries entries + 1
  | .held _ => 1
def uptoBulkAll {H : Type} : List (DataW H) → Nat
  | [] => 0
  | d :: r => uptoBulk d + uptoBulkAll r
def uptoBulkEntries {H : Type} : List (Lit × DataW H) → Nat
  | [] => 0
  | x :: r => uptoBulkEntry x + uptoBulkEntries r
def uptoBulkEntry {H : Type} : Lit × DataW H → Nat
  | (.string bytes, d) => bytes.length + uptoBulk d + 1
  | (_, d) => uptoBulk d + 1
 end
def uptoSmall : (H : Type) → List (DataW H) → Bool := fun _ ds => decide (uptoBulkAll ds ≤ 1048576)
def OpenSpec.upto (s : _root_.Go.ChangeSpec) : _root_.Go.OpenSpec := { _root_.Go.OpenSpec.ofChange s with cond := some uptoSmall }

/-- 'meterlaw01.SumKnown', WHERE WHAT IT READS IS OF BULK AT MOST 1048576: true; the input reads as it did. -/
def sumKnownUptoRow : OpenClaim := { program := "ytgnodokjfaibbaadoor", sum := "e911f899f44abfdc1f0668ba0cfe6b44255715cf98737730b88c70f66b74b9e3", func := "meter/meterlaw01.SumKnown", spec := "sumKnown", named := ["meter/sum.halves"], apart := false, laid := [("meter/sum.halves", laid_meter_sum_halves)], narrowed := true }
def SumKnownUptoSaid : Prop := sumKnownUptoRow.holds Tryd.pinned (OpenSpec.upto sumKnownSpec)

/-- 'meterlaw01.SumSums', WHERE WHAT IT READS IS OF BULK AT MOST 1048576: true; the input reads as it did. -/
def sumSumsUptoRow : OpenClaim := { program := "ytgnodokjfaibbaadoor", sum := "e911f899f44abfdc1f0668ba0cfe6b44255715cf98737730b88c70f66b74b9e3", func := "meter/meterlaw01.SumSums", spec := "sumSums", named := ["meter/sum.halves"], apart := false, laid := [("meter/sum.halves", laid_meter_sum_halves)], narrowed := true }
def SumSumsUptoSaid : Prop := sumSumsUptoRow.holds Tryd.pinned (OpenSpec.upto sumSumsSpec)

/-- 'meterlaw01.SumBurst', WHERE WHAT IT READS IS OF BULK AT MOST 1048576: true; the input reads as it did. -/
def sumBurstUptoRow : OpenClaim := { program := "ytgnodokjfaibbaadoor", sum := "e911f899f44abfdc1f0668ba0cfe6b44255715cf98737730b88c70f66b74b9e3", func := "meter/meterlaw01.SumBurst", spec := "sumBurst", named := ["meter/sum.halves"], apart := false, laid := [("meter/sum.halves", laid_meter_sum_halves)], narrowed := true }
def SumBurstUptoSaid : Prop := sumBurstUptoRow.holds Tryd.pinned (OpenSpec.upto sumBurstSpec)

/-- 'meterlaw01.SumLinear', WHERE WHAT IT READS IS OF BULK AT MOST 1048576: true; the input reads as it did. -/
def sumLinearUptoRow : OpenClaim := { program := "ytgnodokjfaibbaadoor", sum := "e911f899f44abfdc1f0668ba0cfe6b44255715cf98737730b88c70f66b74b9e3", func := "meter/meterlaw01.SumLinear", spec := "sumLinear", named := ["meter/sum.halves"], apart := false, laid := [("meter/sum.halves", laid_meter_sum_halves)], narrowed := true }
def SumLinearUptoSaid : Prop := sumLinearUptoRow.holds Tryd.pinned (OpenSpec.upto sumLinearSpec)

/-- 'meterlaw01.SumTail', WHERE WHAT IT READS IS OF BULK AT MOST 1048576: true; the input reads as it did. -/
def sumTailUptoRow : OpenClaim := { program := "ytgnodokjfaibbaadoor", sum := "e911f899f44abfdc1f0668ba0cfe6b44255715cf98737730b88c70f66b74b9e3", func := "meter/meterlaw01.SumTail", spec := "sumTail", named := ["meter/sum.halves"], apart := false, laid := [("meter/sum.halves", laid_meter_sum_halves)], narrowed := true }
def SumTailUptoSaid : Prop := sumTailUptoRow.holds Tryd.pinned (OpenSpec.upto sumTailSpec)

/-- 'meterlaw01.SumPieces', WHERE WHAT IT READS IS OF BULK AT MOST 1048576: true; the input reads as it did. -/
def sumPiecesUptoRow : OpenClaim := { program := "ytgnodokjfaibbaadoor", sum := "e911f899f44abfdc1f0668ba0cfe6b44255715cf98737730b88c70f66b74b9e3", func := "meter/meterlaw01.SumPieces", spec := "sumPieces", named := ["meter/sum.halves"], apart := false, laid := [("meter/sum.halves", laid_meter_sum_halves)], narrowed := true }
def SumPiecesUptoSaid : Prop := sumPiecesUptoRow.holds Tryd.pinned (OpenSpec.upto sumPiecesSpec)

end Rows
end Go.Proofs.YtgnodokjfaibbaaDoor

/-
  NARROWER THAN 'FOR EVERY INPUT', by the rows' own cells (each row's printed sentence says how): MsgCut: laid · MsgSafe: laid.
  DERIVED. THE GIVEN ROWS OF THIS SEAT. 2 by the template 'for every input the law returns true; each argument reads behind the call as it read before'; 0 by the template 'total and deterministic' (their statements: YtkbmbcmcnpeababDoorTotals.lean).
  GIVEN WITH THE SEED: the statements are not yours to turn. If you find one false, say at which input.
  Laid BY PROGRAM, IN A SANDBOX (cutbox-rows.mjs): the forced cells as the released guide's own fill.sh prints them over the translation ffa96713700f5c85… (all of the seat's roots in one cut). By AI agents, Wed Nov 11 2026. No macro, syntax, notation, axiom, sorry.
-/
import Derived.Test.YtkbmbcmcnpeababDoorChecked
import GoSem.Claim
import GoSem.ClaimJoined
import GoSem.ClaimMapViews
import Derived.JoinedTies
import Derived.KernelRfl
namespace Go.Proofs.YtkbmbcmcnpeababDoor
/- THE CELL 'sum', in the pinned program and in every row, IS THE sha256 OF THE DUMP (.gsa) THAT YtkbmbcmcnpeababDoorProg.lean LOADS. Nothing in Lean hashes anything: it is a label: what it is worth is what the hold of that sum in a sandbox is worth. -/
noncomputable def Tryd.pinned : Pinned := { name := "ytkbmbcmcnpeababdoor", sum := "ffa96713700f5c85dd767e44d47cf9f0ca169f89a3c278bab0141c0cc31fc69c", checked := Tryd.checked }
namespace Rows
def none {H : Type} : Left H := { results := [], args := [] }

/- WHAT THE LISTED PACKAGE-LEVEL VARIABLES READ AS WHEN THE CALL BEGINS. Each datum BY PROGRAM (the guide's laid-datum.mjs) off the statement by which the dump's own 'gosem.cut.vars' lays the variable. In a bare row this is a premise. The card (YtkbmbcmcnpeababDoorCards.lean) ties it to the program's text. -/
def laid_meter_sum_halves {H : Type} : DataW H := .agg [.lit (.int .u32 0), .lit (.int .u32 274646895), .lit (.int .u32 549293790), .lit (.int .u32 820201905), .lit (.int .u32 1098587580), .lit (.int .u32 1361435347), .lit (.int .u32 1640403810), .lit (.int .u32 1905808397), .lit (.int .u32 2197175160), .lit (.int .u32 2460548119), .lit (.int .u32 2722870694), .lit (.int .u32 2987750089), .lit (.int .u32 3280807620), .lit (.int .u32 3553878443), .lit (.int .u32 3811616794), .lit (.int .u32 4084100981)]

/-- 'meterlaw04.MsgCut': WHATEVER THE INPUT: true; the input reads as it did. -/
def msgCutSpec : ChangeSpec := { name := "msgCut", fn := fun _ => fun
  | [d1, d2, d3] => { results := [.lit (.bool true)], args := [d1, d2, d3] }
  | _ => none }
def msgCutRow : OpenClaim := { program := "ytkbmbcmcnpeababdoor", sum := "ffa96713700f5c85dd767e44d47cf9f0ca169f89a3c278bab0141c0cc31fc69c", func := "meter/meterlaw04.MsgCut", spec := "msgCut", unfollowed := true, recurses := true, named := ["meter/sum.halves"], apart := false, laid := [("meter/sum.halves", laid_meter_sum_halves)] }
def MsgCutSaid : Prop := msgCutRow.holds Tryd.pinned (OpenSpec.ofChange msgCutSpec)

/-- ITS FALSE NEIGHBOUR: 'it returns false'. Refute it at one input. -/
def msgCutWrong : ChangeSpec := { name := "msgCut", fn := fun _ => fun
  | [d1, d2, d3] => { results := [.lit (.bool false)], args := [d1, d2, d3] }
  | _ => none }
def MsgCutWrongFalsely : Prop := msgCutRow.holds Tryd.pinned (OpenSpec.ofChange msgCutWrong)

/-- 'meterlaw04.MsgSafe': WHATEVER THE INPUT: true; the input reads as it did. -/
def msgSafeSpec : ChangeSpec := { name := "msgSafe", fn := fun _ => fun
  | [d1, d2, d3] => { results := [.lit (.bool true)], args := [d1, d2, d3] }
  | _ => none }
def msgSafeRow : OpenClaim := { program := "ytkbmbcmcnpeababdoor", sum := "ffa96713700f5c85dd767e44d47cf9f0ca169f89a3c278bab0141c0cc31fc69c", func := "meter/meterlaw04.MsgSafe", spec := "msgSafe", unfollowed := true, recurses := true, named := ["meter/sum.halves"], apart := false, laid := [("meter/sum.halves", laid_meter_sum_halves)] }
def MsgSafeSaid : Prop := msgSafeRow.holds Tryd.pinned (OpenSpec.ofChange msgSafeSpec)

/-- ITS FALSE NEIGHBOUR: 'it returns false'. Refute it at one input. -/
def msgSafeWrong : ChangeSpec := { name := "msgSafe", fn := fun _ => fun
  | [d1, d2, d3] => { results := [.lit (.bool false)], args := [d1, d2, d3] }
  | _ => none }
def MsgSafeWrongFalsely : Prop := msgSafeRow.holds Tryd.pinned (OpenSpec.ofChange msgSafeWrong)

/- THE SECOND FORM. 'bulk': how many values and letters a reading holds, each counted each time it is reached (what is shared counts as often as it is met; a slice's spare places count too). A statement '..UptoSaid' is the law's where the arguments, and the package variables that the reading takes, are together of bulk at most 1048576: NARROWER than '..Said'. Prove '..Said' where nothing that the law and all that it calls make is longer than what came in: it says more and counts as full. Else prove '..UptoSaid'. A law counts once. -/
mutual
def uptoBulk {H : Type} : DataW H → Nat
  | .lit (.string bytes) => bytes.length + 1
  | .lit _ => 1
  | .nil => 1
  | .ptr d => uptoBulk d + 1
  | .slice elems spare => uptoBulkAll elems + uptoBulkAll spare + 1
  | .agg parts => uptoBulkAll parts + 1
  | .iface _ d => uptoBulk d + 1
  | .map entries => uptoBulkEntries entries + 1
  | .held _ => 1
def uptoBulkAll {H : Type} : List (DataW H) → Nat
  | [] => 0
  | d :: r => uptoBulk d + uptoBulkAll r
def uptoBulkEntries {H : Type} : List (Lit × DataW H) → Nat
  | [] => 0
  | x :: r => uptoBulkEntry x + uptoBulkEntries r
def uptoBulkEntry {H : Type} : Lit × DataW H → Nat
  | (.string bytes, d) => bytes.length + uptoBulk d + 1
  | (_, d) => uptoBulk d + 1
 end
def uptoSmall : (H : Type) → List (DataW H) → Bool := fun _ ds => decide (uptoBulkAll ds ≤ 1048576)
def OpenSpec.upto (s : _root_.Go.ChangeSpec) : _root_.Go.OpenSpec := { _root_.Go.OpenSpec.ofChange s with cond := some uptoSmall }

/-- 'meterlaw04.MsgCut', WHERE WHAT IT READS IS OF BULK AT MOST 1048576: true; the input reads as it did. -/
def msgCutUptoRow : OpenClaim := { program := "ytkbmbcmcnpeababdoor", sum := "ffa96713700f5c85dd767e44d47cf9f0ca169f89a3c278bab0141c0cc31fc69c", func := "meter/meterlaw04.MsgCut", spec := "msgCut", unfollowed := true, recurses := true, named := ["meter/sum.halves"], apart := false, laid := [("meter/sum.halves", laid_meter_sum_halves)], narrowed := true }
def MsgCutUptoSaid : Prop := msgCutUptoRow.holds Tryd.pinned (OpenSpec.upto msgCutSpec)

/-- 'meterlaw04.MsgSafe', WHERE WHAT IT READS IS OF BULK AT MOST 1048576: true; the input reads as it did. -/
def msgSafeUptoRow : OpenClaim := { program := "ytkbmbcmcnpeababdoor", sum := "ffa96713700f5c85dd767e44d47cf9f0ca169f89a3c278bab0141c0cc31fc69c", func := "meter/meterlaw04.MsgSafe", spec := "msgSafe", unfollowed := true, recurses := true, named := ["meter/sum.halves"], apart := false, laid := [("meter/sum.halves", laid_meter_sum_halves)], narrowed := true }
def MsgSafeUptoSaid : Prop := msgSafeUptoRow.holds Tryd.pinned (OpenSpec.upto msgSafeSpec)

end Rows
end Go.Proofs.YtkbmbcmcnpeababDoor

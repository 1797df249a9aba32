/-
  DERIVED. GIVEN WITH THE SEED: THE CARDS: each row of YtkbmbcmcnpeababDoorRows.lean that lists a variable, with what it lists TIED to the program's text (the seventh form; the later family's looks); each row that meets fmt, with fmt's text TOLD by the authors' own Lean function (tested against real Go, not proved from fmt's source: count such statements apart). THE CARD IS WHAT COUNTS. Prove the row's statement (the work); the ties are given (YtkbmbcmcnpeababDoorTie.lean); close each card by the builder's one call (the guide's Derived/Test/ToyasCard.lean, 'card_holds'). Laid BY PROGRAM, IN A SANDBOX (cutbox-door.mjs). By AI agents, Wed Nov 11 2026. No macro, syntax, notation, axiom, sorry.
-/
import Derived.Test.YtkbmbcmcnpeababDoorRows
import GoSem.ClaimSeven
namespace Go.Proofs.YtkbmbcmcnpeababDoor
namespace Rows

/-- THE TIED CARD OF 'meterlaw04.MsgCut'. -/
def msgCutCard : Claim7 := { stood := { row := msgCutRow, standIns := [], harness := (true, "5a97f930e6c1cefa21ba65219e45c5b02152ef16208814b42965d3cb8444f683"), looks := true }, kinds := [], alts := [], laidByText := true, laidKinds := [.data], laidTests := true, laidLooks := .later }
def MsgCutCardSaid : Prop := Claim7.holds Tryd.pinned (.plain (OpenSpec.ofChange msgCutSpec)) msgCutCard

/-- THE TIED CARD OF 'meterlaw04.MsgSafe'. -/
def msgSafeCard : Claim7 := { stood := { row := msgSafeRow, standIns := [], harness := (true, "5a97f930e6c1cefa21ba65219e45c5b02152ef16208814b42965d3cb8444f683"), looks := true }, kinds := [], alts := [], laidByText := true, laidKinds := [.data], laidTests := true, laidLooks := .later }
def MsgSafeCardSaid : Prop := Claim7.holds Tryd.pinned (.plain (OpenSpec.ofChange msgSafeSpec)) msgSafeCard

/-- THE SECOND FORM's CARD OF 'meterlaw04.MsgCut'. -/
def msgCutUptoCard : Claim7 := { stood := { row := msgCutUptoRow, standIns := [], harness := (true, "5a97f930e6c1cefa21ba65219e45c5b02152ef16208814b42965d3cb8444f683"), looks := true }, kinds := [], alts := [], laidByText := true, laidKinds := [.data], laidTests := true, laidLooks := .later }
def MsgCutUptoCardSaid : Prop := Claim7.holds Tryd.pinned (.plain (OpenSpec.upto msgCutSpec)) msgCutUptoCard

/-- THE SECOND FORM's CARD OF 'meterlaw04.MsgSafe'. -/
def msgSafeUptoCard : Claim7 := { stood := { row := msgSafeUptoRow, standIns := [], harness := (true, "5a97f930e6c1cefa21ba65219e45c5b02152ef16208814b42965d3cb8444f683"), looks := true }, kinds := [], alts := [], laidByText := true, laidKinds := [.data], laidTests := true, laidLooks := .later }
def MsgSafeUptoCardSaid : Prop := Claim7.holds Tryd.pinned (.plain (OpenSpec.upto msgSafeSpec)) msgSafeUptoCard
end Rows
end Go.Proofs.YtkbmbcmcnpeababDoor

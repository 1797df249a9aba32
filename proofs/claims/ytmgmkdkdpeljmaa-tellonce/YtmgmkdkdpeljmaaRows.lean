/-
  No cell of these rows narrows 'for every input' (looked for: loops, veiled, ifaces, maps, wideKeys, modest, calm, conditions, laid).
  DERIVED. THE GIVEN ROWS OF THIS SEAT. 6 by the template 'for every input the law returns true; each argument reads behind the call as it read before'; 0 by the template 'total and deterministic' (their statements: YtmgmkdkdpeljmaaTotals.lean).
  GIVEN WITH THE SEED: the statements are not yours to turn. If you find one false, say at which input.
  Laid BY PROGRAM, IN A SANDBOX (cutbox-rows.mjs): the forced cells as the released guide's own fill.sh prints them over the translation b103ac7dd310ee07… (all of the seat's roots in one cut). By AI agents, Wed Nov 11 2026. No macro, syntax, notation, axiom, sorry.
-/
import Derived.Test.YtmgmkdkdpeljmaaChecked
import GoSem.Claim
import GoSem.ClaimJoined
import GoSem.ClaimMapViews
import Derived.JoinedTies
import Derived.KernelRfl
namespace Go.Proofs.Ytmgmkdkdpeljmaa
/- THE CELL 'sum', in the pinned program and in every row, IS THE sha256 OF THE DUMP (.gsa) THAT YtmgmkdkdpeljmaaProg.lean LOADS. Nothing in Lean hashes anything: it is a label: what it is worth is what the hold of that sum in a sandbox is worth. -/
noncomputable def Try.pinned : Pinned := { name := "ytmgmkdkdpeljmaa", sum := "b103ac7dd310ee07bd4087b02b0fa0ec3db34ac05a408800ef0eeb1a8a0e8c5a", checked := Try.checked }
namespace Rows
def none {H : Type} : Left H := { results := [], args := [] }

/-- 'meterlaw09.StoreApart': WHATEVER THE INPUT: true; the input reads as it did. -/
def storeApartSpec : ChangeSpec := { name := "storeApart", fn := fun _ => fun
  | [d1, d2, d3, d4, d5, d6, d7] => { results := [.lit (.bool true)], args := [d1, d2, d3, d4, d5, d6, d7] }
  | _ => none }
def storeApartRow : OpenClaim := { program := "ytmgmkdkdpeljmaa", sum := "b103ac7dd310ee07bd4087b02b0fa0ec3db34ac05a408800ef0eeb1a8a0e8c5a", func := "meter/meterlaw09.StoreApart", spec := "storeApart", inPlace := ["maps.clone"], unfollowed := true, recurses := true, plainKeys := false, apart := false }
def StoreApartSaid : Prop := storeApartRow.holds Try.pinned (OpenSpec.ofChange storeApartSpec)

/-- ITS FALSE NEIGHBOUR: 'it returns false'. Refute it at one input. -/
def storeApartWrong : ChangeSpec := { name := "storeApart", fn := fun _ => fun
  | [d1, d2, d3, d4, d5, d6, d7] => { results := [.lit (.bool false)], args := [d1, d2, d3, d4, d5, d6, d7] }
  | _ => none }
def StoreApartWrongFalsely : Prop := storeApartRow.holds Try.pinned (OpenSpec.ofChange storeApartWrong)

/-- 'meterlaw10.TellPlays': WHATEVER THE INPUT: true; the input reads as it did. -/
def tellPlaysSpec : ChangeSpec := { name := "tellPlays", fn := fun _ => fun
  | [d1, d2, d3] => { results := [.lit (.bool true)], args := [d1, d2, d3] }
  | _ => none }
def tellPlaysRow : OpenClaim := { program := "ytmgmkdkdpeljmaa", sum := "b103ac7dd310ee07bd4087b02b0fa0ec3db34ac05a408800ef0eeb1a8a0e8c5a", func := "meter/meterlaw10.TellPlays", spec := "tellPlays", unfollowed := true, recurses := true, plainKeys := false, apart := false }
def TellPlaysSaid : Prop := tellPlaysRow.holds Try.pinned (OpenSpec.ofChange tellPlaysSpec)

/-- ITS FALSE NEIGHBOUR: 'it returns false'. Refute it at one input. -/
def tellPlaysWrong : ChangeSpec := { name := "tellPlays", fn := fun _ => fun
  | [d1, d2, d3] => { results := [.lit (.bool false)], args := [d1, d2, d3] }
  | _ => none }
def TellPlaysWrongFalsely : Prop := tellPlaysRow.holds Try.pinned (OpenSpec.ofChange tellPlaysWrong)

/-- 'meterlaw10.TellNobody': WHATEVER THE INPUT: true; the input reads as it did. -/
def tellNobodySpec : ChangeSpec := { name := "tellNobody", fn := fun _ => fun
  | [d1, d2, d3] => { results := [.lit (.bool true)], args := [d1, d2, d3] }
  | _ => none }
def tellNobodyRow : OpenClaim := { program := "ytmgmkdkdpeljmaa", sum := "b103ac7dd310ee07bd4087b02b0fa0ec3db34ac05a408800ef0eeb1a8a0e8c5a", func := "meter/meterlaw10.TellNobody", spec := "tellNobody", inPlace := ["maps.clone"], unfollowed := true, recurses := true, plainKeys := false, apart := false }
def TellNobodySaid : Prop := tellNobodyRow.holds Try.pinned (OpenSpec.ofChange tellNobodySpec)

/-- ITS FALSE NEIGHBOUR: 'it returns false'. Refute it at one input. -/
def tellNobodyWrong : ChangeSpec := { name := "tellNobody", fn := fun _ => fun
  | [d1, d2, d3] => { results := [.lit (.bool false)], args := [d1, d2, d3] }
  | _ => none }
def TellNobodyWrongFalsely : Prop := tellNobodyRow.holds Try.pinned (OpenSpec.ofChange tellNobodyWrong)

/-- 'meterlaw10.TellOnce': WHATEVER THE INPUT: true; the input reads as it did. -/
def tellOnceSpec : ChangeSpec := { name := "tellOnce", fn := fun _ => fun
  | [d] => { results := [.lit (.bool true)], args := [d] }
  | _ => none }
def tellOnceRow : OpenClaim := { program := "ytmgmkdkdpeljmaa", sum := "b103ac7dd310ee07bd4087b02b0fa0ec3db34ac05a408800ef0eeb1a8a0e8c5a", func := "meter/meterlaw10.TellOnce", spec := "tellOnce", unfollowed := true, recurses := true, plainKeys := false, apart := false }
def TellOnceSaid : Prop := tellOnceRow.holds Try.pinned (OpenSpec.ofChange tellOnceSpec)

/-- ITS FALSE NEIGHBOUR: 'it returns false'. Refute it at one input. -/
def tellOnceWrong : ChangeSpec := { name := "tellOnce", fn := fun _ => fun
  | [d] => { results := [.lit (.bool false)], args := [d] }
  | _ => none }
def TellOnceWrongFalsely : Prop := tellOnceRow.holds Try.pinned (OpenSpec.ofChange tellOnceWrong)

/-- 'meterlaw10.TellTwin': WHATEVER THE INPUT: true; the input reads as it did. -/
def tellTwinSpec : ChangeSpec := { name := "tellTwin", fn := fun _ => fun
  | [d1, d2] => { results := [.lit (.bool true)], args := [d1, d2] }
  | _ => none }
def tellTwinRow : OpenClaim := { program := "ytmgmkdkdpeljmaa", sum := "b103ac7dd310ee07bd4087b02b0fa0ec3db34ac05a408800ef0eeb1a8a0e8c5a", func := "meter/meterlaw10.TellTwin", spec := "tellTwin", inPlace := ["maps.clone"], unfollowed := true, recurses := true, plainKeys := false, apart := false }
def TellTwinSaid : Prop := tellTwinRow.holds Try.pinned (OpenSpec.ofChange tellTwinSpec)

/-- ITS FALSE NEIGHBOUR: 'it returns false'. Refute it at one input. -/
def tellTwinWrong : ChangeSpec := { name := "tellTwin", fn := fun _ => fun
  | [d1, d2] => { results := [.lit (.bool false)], args := [d1, d2] }
  | _ => none }
def TellTwinWrongFalsely : Prop := tellTwinRow.holds Try.pinned (OpenSpec.ofChange tellTwinWrong)

/-- 'meterlaw10.TellKnown': WHATEVER THE INPUT: true; the input reads as it did. -/
def tellKnownSpec : ChangeSpec := { name := "tellKnown", fn := fun _ => fun
  | [] => { results := [.lit (.bool true)], args := [] }
  | _ => none }
def tellKnownRow : OpenClaim := { program := "ytmgmkdkdpeljmaa", sum := "b103ac7dd310ee07bd4087b02b0fa0ec3db34ac05a408800ef0eeb1a8a0e8c5a", func := "meter/meterlaw10.TellKnown", spec := "tellKnown", unfollowed := true, recurses := true, plainKeys := false, apart := false }
def TellKnownSaid : Prop := tellKnownRow.holds Try.pinned (OpenSpec.ofChange tellKnownSpec)

/-- ITS FALSE NEIGHBOUR: 'it returns false'. Refute it at one input. -/
def tellKnownWrong : ChangeSpec := { name := "tellKnown", fn := fun _ => fun
  | [] => { results := [.lit (.bool false)], args := [] }
  | _ => none }
def TellKnownWrongFalsely : Prop := tellKnownRow.holds Try.pinned (OpenSpec.ofChange tellKnownWrong)

/- THE SECOND FORM. 'bulk': how many values and letters a reading holds, each counted each time it is reached (what is shared counts as often as it is met; a slice's spare places count too). A statement '..UptoSaid' is the law's where the arguments, and the package variables that the reading takes, are together of bulk at most 1048576: NARROWER than '..Said'. Prove '..Said' where nothing that the law and all that it calls make is longer than what came in: it says more and counts as full. Else prove '..UptoSaid'. A law counts once. -/
mutual
def uptoBulk {H : Type} : DataW H → Nat
  | .lit (.string bytes) => bytes.length + 1
  | .lit _ => 1
  | .nil => 1
  | .ptr d => uptoBulk d + 1
  | .slice elems spare => uptoBulkAll elems + uptoBulkAll spare + 1
  | .agg parts => uptoBulkAll parts + 1
  | .iface _ d => uptoBulk d + 1
  | .map entries => uptoBulkEntries entries + 1
  | .held _ => 1
def uptoBulkAll {H : Type} : List (DataW H) → Nat
  | [] => 0
  | d :: r => uptoBulk d + uptoBulkAll r
def uptoBulkEntries {H : Type} : List (Lit × DataW H) → Nat
  | [] => 0
  | x :: r => uptoBulkEntry x + uptoBulkEntries r
def uptoBulkEntry {H : Type} : Lit × DataW H → Nat
  | (.string bytes, d) => bytes.length + uptoBulk d + 1
  | (_, d) => uptoBulk d + 1
 end
def uptoSmall : (H : Type) → List (DataW H) → Bool := fun _ ds => decide (uptoBulkAll ds ≤ 1048576)
def OpenSpec.upto (s : _root_.Go.ChangeSpec) : _root_.Go.OpenSpec := { _root_.Go.OpenSpec.ofChange s with cond := some uptoSmall }

/-- 'meterlaw09.StoreApart', WHERE WHAT IT READS IS OF BULK AT MOST 1048576: true; the input reads as it did. -/
def storeApartUptoRow : OpenClaim := { program := "ytmgmkdkdpeljmaa", sum := "b103ac7dd310ee07bd4087b02b0fa0ec3db34ac05a408800ef0eeb1a8a0e8c5a", func := "meter/meterlaw09.StoreApart", spec := "storeApart", inPlace := ["maps.clone"], unfollowed := true, recurses := true, plainKeys := false, apart := false, narrowed := true }
def StoreApartUptoSaid : Prop := storeApartUptoRow.holds Try.pinned (OpenSpec.upto storeApartSpec)

/-- 'meterlaw10.TellPlays', WHERE WHAT IT READS IS OF BULK AT MOST 1048576: true; the input reads as it did. -/
def tellPlaysUptoRow : OpenClaim := { program := "ytmgmkdkdpeljmaa", sum := "b103ac7dd310ee07bd4087b02b0fa0ec3db34ac05a408800ef0eeb1a8a0e8c5a", func := "meter/meterlaw10.TellPlays", spec := "tellPlays", unfollowed := true, recurses := true, plainKeys := false, apart := false, narrowed := true }
def TellPlaysUptoSaid : Prop := tellPlaysUptoRow.holds Try.pinned (OpenSpec.upto tellPlaysSpec)

/-- 'meterlaw10.TellNobody', WHERE WHAT IT READS IS OF BULK AT MOST 1048576: true; the input reads as it did. -/
def tellNobodyUptoRow : OpenClaim := { program := "ytmgmkdkdpeljmaa", sum := "b103ac7dd310ee07bd4087b02b0fa0ec3db34ac05a408800ef0eeb1a8a0e8c5a", func := "meter/meterlaw10.TellNobody", spec := "tellNobody", inPlace := ["maps.clone"], unfollowed := true, recurses := true, plainKeys := false, apart := false, narrowed := true }
def TellNobodyUptoSaid : Prop := tellNobodyUptoRow.holds Try.pinned (OpenSpec.upto tellNobodySpec)

/-- 'meterlaw10.TellOnce', WHERE WHAT IT READS IS OF BULK AT MOST 1048576: true; the input reads as it did. -/
def tellOnceUptoRow : OpenClaim := { program := "ytmgmkdkdpeljmaa", sum := "b103ac7dd310ee07bd4087b02b0fa0ec3db34ac05a408800ef0eeb1a8a0e8c5a", func := "meter/meterlaw10.TellOnce", spec := "tellOnce", unfollowed := true, recurses := true, plainKeys := false, apart := false, narrowed := true }
def TellOnceUptoSaid : Prop := tellOnceUptoRow.holds Try.pinned (OpenSpec.upto tellOnceSpec)

/-- 'meterlaw10.TellTwin', WHERE WHAT IT READS IS OF BULK AT MOST 1048576: true; the input reads as it did. -/
def tellTwinUptoRow : OpenClaim := { program := "ytmgmkdkdpeljmaa", sum := "b103ac7dd310ee07bd4087b02b0fa0ec3db34ac05a408800ef0eeb1a8a0e8c5a", func := "meter/meterlaw10.TellTwin", spec := "tellTwin", inPlace := ["maps.clone"], unfollowed := true, recurses := true, plainKeys := false, apart := false, narrowed := true }
def TellTwinUptoSaid : Prop := tellTwinUptoRow.holds Try.pinned (OpenSpec.upto tellTwinSpec)

/-- 'meterlaw10.TellKnown', WHERE WHAT IT READS IS OF BULK AT MOST 1048576: true; the input reads as it did. -/
def tellKnownUptoRow : OpenClaim := { program := "ytmgmkdkdpeljmaa", sum := "b103ac7dd310ee07bd4087b02b0fa0ec3db34ac05a408800ef0eeb1a8a0e8c5a", func := "meter/meterlaw10.TellKnown", spec := "tellKnown", unfollowed := true, recurses := true, plainKeys := false, apart := false, narrowed := true }
def TellKnownUptoSaid : Prop := tellKnownUptoRow.holds Try.pinned (OpenSpec.upto tellKnownSpec)

end Rows
end Go.Proofs.Ytmgmkdkdpeljmaa

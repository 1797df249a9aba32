/- What the store's Put and Set do. Conditions: keys are no longer than a machine's texts; numbers are int64's; the store has at most 1000 windows. -/
import Derived.Test.YtmgmkdkdpeljmabKeep
import Derived.Test.YtmgmkdkdpeljmabRight
import Derived.Test.YtmgmkdkdpeljmabPut
import Derived.Test.YtmgmkdkdpeljmabLoads
namespace Go.Proofs.Ytmgmkdkdpeljmab
open Go.RowKit

/-- What this store leans on. -/
def SO : Ops AggV := ⟨zero, put, fun a => right a && decide (1 ≤ a.count), Sp.rightI, Sp.startI, fun s => decide (0 ≤ Sp.endI s), Sp.overI⟩
theorem startI_i64 {x : Int} (h : Sp.rightI x = true) : 0 ≤ Sp.startI x ∧ Sp.startI x ≤ 1099511627776 := by
  have h' := Sp.rightI_iff.1 h
  rw [Sp.startI_right h']
  omega
theorem outV_eq (x : Win AggV) : outV x = [.string ⟨x.key.toArray⟩, .int .i64 x.start, .int .i64 x.agg.count, .int .i64 x.agg.sum, .int .i64 x.agg.mn, .int .i64 x.agg.mx, .int .i64 x.agg.h0, .int .i64 x.agg.h1, .int .i64 x.agg.h2, .int .i64 x.agg.h3] := rfl
end Go.Proofs.Ytmgmkdkdpeljmab

/- The program's fields at a kind that is none: it panics with a refusal, and nothing is written. No conditions. -/
import Derived.Test.YtkbmbcmcnpeabaaDoorFields
namespace Go.Proofs.YtkbmbcmcnpeabaaDoor
open Pk Go.RowKit

set_option maxHeartbeats 4000000 in
set_option maxRecDepth 100000 in
theorem fields_none {w : World} {p B : Nat} (kd : UInt8) (hk : kd.toNat = 0 ∨ 14 < kd.toNat) :
    Calls Tryd.prog 22 #[sw p, .int .u8 (kd.toNat : Int), .pointer (some ⟨B, 0, none⟩)] w fun e w' => e = .panicked (refused 10) ∧ Moved (fun _ => False) w w' := by
  have n0 : ¬ ((kd.toNat : Int) = 1) := by omega
  have n1 : ¬ (4 ≤ (kd.toNat : Int) ∧ (kd.toNat : Int) ≤ 13) := by omega
  unfold sw
  go_enter Tryd.func22, Tryd.ntmps22
  go_wp2_with fail
  all_goals first
    | (refine (giveUp_any 10 _).mono ?_
       rintro e w' ⟨rfl, rfl⟩
       go_wp2_with fail
       exact ⟨rfl, rfl, Moved.refl _ _⟩)
    | (exfalso; simp only [beq_eq_false_iff_ne, beq_iff_eq] at *; omega)
end Go.Proofs.YtkbmbcmcnpeabaaDoor

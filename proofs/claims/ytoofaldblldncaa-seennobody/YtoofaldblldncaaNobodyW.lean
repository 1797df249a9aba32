/- SeenNobody's walk. No conditions. -/
import Derived.Test.YtoofaldblldncaaSames
namespace Go.Proofs.Ytoofaldblldncaa
open Go.RowKit
set_option maxRecDepth 100000 in
set_option maxHeartbeats 1000000 in
theorem nobody_any (src seq low code : Int) (w : World) : Calls Try.prog 4 #[.int .i64 src, .int .i64 seq, .int .i64 low, .int .i64 code] w fun e w' => e = .returned (.bool true) ∧ Below w.heap.size w w' := by
  have cW := fun W => wakes_any W
  go_enter Try.func4, Try.ntmps4
  go_wp2_with fail
  refine (ask_nil src seq low w).mono ?_
  rintro e w' ⟨rfl, hw'⟩
  rw [hw']
  go_wp2_with fail
  refine (note_nil src seq low code w).mono ?_
  rintro e w' ⟨rfl, hw'⟩
  rw [hw']
  go_wp2_with fail
  refine (lows_nil w).mono ?_
  rintro e w' ⟨rfl, hw'⟩
  rw [hw']
  go_wp2_with fail
  refine (all_nil w).mono ?_
  rintro e w' ⟨rfl, hw'⟩
  rw [hw']
  go_wp2_with fail
  refine (twin_nil w).mono ?_
  rintro e w' ⟨rfl, hw'⟩
  rw [hw']
  go_wp2_with fail
  refine (cW w).mono ?_
  rintro e w' ⟨rfl, hb⟩
  have HB := hide hb
  clear hb cW
  go_wp2_with fail
  go_ret
  exact ⟨rfl, unhide HB⟩
end Go.Proofs.Ytoofaldblldncaa

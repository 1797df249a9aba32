/- The statements' wakes answers true, and nothing that was there has turned; a row of numbers that a slice literal laid. No conditions. -/
import Derived.Test.YtiokfnkcjicheaaOf
import Derived.Test.YtiokfnkcjicheaaEq
namespace Go.Proofs.Ytiokfnkcjicheaa
open Go.RowKit

theorem ints_new (w : World) (xs : List Int) (t : TypeId) : Ints (w.alloc (.cells (xs.map fun v => Value.int .i64 v).toArray t)) (some ⟨w.heap.size, 0, none⟩) xs := fun i hi => by
  refine ⟨_, rfl, ?_⟩
  have e : (⟨w.heap.size, 0, none⟩ : Addr).add i = ⟨w.heap.size, i, none⟩ := by rw [Addr.add_mid, Nat.zero_add]
  rw [e, World.cell?_alloc_new]
  simp [List.getD_eq_getElem?_getD, hi]
theorem of3 : of [5, -3, 100] = ⟨3, 102, -3, 100, 1, 1, 0, 1⟩ := by decide
theorem plus_top : plus 9223372036854775807 1 = 9223372036854775807 := by decide
theorem ints_none (w : World) : Ints w none [] := fun i hi => by simp at hi

set_option maxHeartbeats 1000000 in
theorem awake_any (w : World) :
    Calls Try.prog 17 #[] w fun e w' => e = .returned (.bool true) ∧ Below w.heap.size w w' := by
  have hI := hide (ints_new w [5, -3, 100] 2)
  have h64 : Hid (∀ v ∈ [5, -3, 100], i64 v) := hide (by intro v hv; simp at hv; unfold i64; omega)
  go_enter Try.func17, Try.ntmps17
  go_wp2_with fail
  refine (of_any _ _ [5, -3, 100] _ (unhide hI) (unhide h64) (by decide)).mono ?_
  rintro e w1 ⟨rfl, hb⟩
  rw [of3]
  have HB := hide (((Below.refl w.heap.size w).alloc (Nat.le_refl _) (.cells #[.int .i64 5, .int .i64 (-3), .int .i64 100] 2)).trans (hb.mono (by simp)))
  clear hb
  have hs := hide (sameA_self ⟨3, 102, -3, 100, 1, 1, 0, 1⟩)
  have hs := unhide hs
  go_wp2_with fail
  refine (plus_any _ _ _ (by unfold i64; omega) (by unfold i64; omega)).mono ?_
  rintro e w2 ⟨rfl, rfl⟩
  rw [plus_top]
  go_wp2_with fail
  go_ret
  exact ⟨rfl, unhide HB⟩
end Go.Proofs.Ytiokfnkcjicheaa

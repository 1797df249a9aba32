/- What AggKnown does: it answers true, and nothing that was there has turned. No conditions. -/
import Derived.Test.YtiokfnkcjicheaaAwake
import Derived.Test.YtiokfnkcjicheaaRight
namespace Go.Proofs.Ytiokfnkcjicheaa
open Go.RowKit

theorem ofA : of [9223372036854775807, 1, -1] = ⟨3, 9223372036854775806, -1, 9223372036854775807, 1, 1, 0, 1⟩ := by decide +kernel
theorem of7 : of [7] = ⟨1, 7, 7, 7, 0, 1, 0, 0⟩ := by decide +kernel
theorem of0 : of [] = zero := rfl
theorem join7 : join zero ⟨1, 7, 7, 7, 0, 1, 0, 0⟩ = ⟨1, 7, 7, 7, 0, 1, 0, 0⟩ := by decide +kernel
theorem in7 : AggV.In ⟨1, 7, 7, 7, 0, 1, 0, 0⟩ := by constructor <;> (unfold i64; dsimp only; omega)
theorem bk0 : ((bucket (-1) : Nat) : Int) = 0 := by decide +kernel
theorem bk1 : ((bucket (0) : Nat) : Int) = 1 := by decide +kernel
theorem bk2 : ((bucket (9) : Nat) : Int) = 1 := by decide +kernel
theorem bk3 : ((bucket (10) : Nat) : Int) = 2 := by decide +kernel
theorem bk4 : ((bucket (99) : Nat) : Int) = 2 := by decide +kernel
theorem bk5 : ((bucket (100) : Nat) : Int) = 3 := by decide +kernel
theorem bk6 : ((bucket (-9223372036854775808) : Nat) : Int) = 0 := by decide +kernel
theorem bk7 : ((bucket (9223372036854775807) : Nat) : Int) = 3 := by decide +kernel
theorem pl0 : plus (9223372036854775807) (1) = 9223372036854775807 := by decide +kernel
theorem pl1 : plus (-9223372036854775808) (-1) = -9223372036854775808 := by decide +kernel
theorem pl2 : plus (9223372036854775807) (-9223372036854775808) = -1 := by decide +kernel
theorem pl3 : plus (-9223372036854775808) (-9223372036854775808) = -9223372036854775808 := by decide +kernel
theorem pl4 : plus (9223372036854775807) (9223372036854775807) = 9223372036854775807 := by decide +kernel
theorem pl5 : plus (0) (-9223372036854775808) = -9223372036854775808 := by decide +kernel
theorem rt0 : right ⟨0, 0, 0, 0, 0, 0, 0, 0⟩ = true := by decide +kernel
theorem ri0 : AggV.In ⟨0, 0, 0, 0, 0, 0, 0, 0⟩ := by constructor <;> (unfold i64; dsimp only; omega)
theorem rt1 : right ⟨0, 1, 0, 0, 0, 0, 0, 0⟩ = false := by decide +kernel
theorem ri1 : AggV.In ⟨0, 1, 0, 0, 0, 0, 0, 0⟩ := by constructor <;> (unfold i64; dsimp only; omega)
theorem rt2 : right ⟨1, 0, 0, 0, 0, 0, 0, 0⟩ = false := by decide +kernel
theorem ri2 : AggV.In ⟨1, 0, 0, 0, 0, 0, 0, 0⟩ := by constructor <;> (unfold i64; dsimp only; omega)
theorem rt3 : right ⟨9223372036854775807, 0, 0, 0, 0, 9223372036854775807, 0, 0⟩ = true := by decide +kernel
theorem ri3 : AggV.In ⟨9223372036854775807, 0, 0, 0, 0, 9223372036854775807, 0, 0⟩ := by constructor <;> (unfold i64; dsimp only; omega)
theorem rt4 : right ⟨1, 0, 2, 1, 0, 1, 0, 0⟩ = false := by decide +kernel
theorem ri4 : AggV.In ⟨1, 0, 2, 1, 0, 1, 0, 0⟩ := by constructor <;> (unfold i64; dsimp only; omega)
theorem rt5 : right ⟨1, 0, 5, 5, 0, 0, 1, 0⟩ = false := by decide +kernel
theorem ri5 : AggV.In ⟨1, 0, 5, 5, 0, 0, 1, 0⟩ := by constructor <;> (unfold i64; dsimp only; omega)

set_option maxHeartbeats 8000000 in
theorem known_any (w : World) :
    Calls Try.prog 7 #[] w fun e w' => e = .returned (.bool true) ∧ Below w.heap.size w w' := by
  have I1 := hide (ints_new w [9223372036854775807, 1, -1] 2)
  have G1 : Hid (∀ v ∈ [9223372036854775807, 1, -1], i64 v) := hide (by intro v hv; simp at hv; unfold i64; omega)
  have G7 : Hid (∀ v ∈ [7], i64 v) := hide (by intro v hv; simp at hv; unfold i64; omega)
  go_enter Try.func7, Try.ntmps7
  go_wp2_with fail
  refine (of_any _ _ [9223372036854775807, 1, -1] _ (unhide I1) (unhide G1) (by decide)).mono ?_
  rintro e w1 ⟨rfl, hb⟩
  rw [ofA]
  simp only [aggV, cellsA, I]
  have BL := hide (((Below.refl w.heap.size w).alloc (Nat.le_refl _) (.cells #[.int .i64 9223372036854775807, .int .i64 1, .int .i64 (-1)] 2)).trans (hb.mono (by simp)))
  clear hb I1
  go_wp2_with fail
  refine (of_any none 0 [] _ (ints_none _) (by simp) (by decide)).mono ?_
  rintro e w2 ⟨rfl, hb⟩
  rw [of0]
  obtain ⟨B1, hB1⟩ : ∃ B, B = w1.heap.size := ⟨_, rfl⟩
  have RA : Hid (RowAt w2 B1 (cellsA ⟨3, 9223372036854775806, -1, 9223372036854775807, 1, 1, 0, 1⟩)) := hide (by rw [hB1]; exact (row_new w1 (cellsA ⟨3, 9223372036854775806, -1, 9223372036854775807, 1, 1, 0, 1⟩) 24).keep (Moved.of_below (F := fun _ => False) hb) id)
  have BL := hide (((unhide BL).alloc (unhide BL).size (.cells #[.int .i64 3, .int .i64 9223372036854775806, .int .i64 (-1), .int .i64 9223372036854775807, .int .i64 1, .int .i64 1, .int .i64 0, .int .i64 1] 24)).trans (hb.mono (by have := (unhide BL).size; simp; omega)))
  rw [← hB1]
  clear hb hB1
  have I7 := hide (ints_new w2 [7] 2)
  go_wp2_with fail
  refine (of_any _ _ [7] _ (unhide I7) (unhide G7) (by decide)).mono ?_
  rintro e w3 ⟨rfl, hb⟩
  rw [of7]
  have RA := hide ((row_old (unhide RA) (.cells #[.int .i64 7] 2)).keep (Moved.of_below (F := fun _ => False) hb) id)
  have BL := hide (((unhide BL).alloc (unhide BL).size (.cells #[.int .i64 7] 2)).trans (hb.mono (by have := (unhide BL).size; simp; omega)))
  clear hb I7
  go_wp2_with fail
  refine (join_any zero ⟨1, 7, 7, 7, 0, 1, 0, 0⟩ _ zero_in in7).mono ?_
  rintro e w4 ⟨rfl, hb⟩
  rw [join7]
  simp only [aggV, cellsA, I]
  have RA := hide ((unhide RA).keep (Moved.of_below (F := fun _ => False) hb) id)
  have BL := hide ((unhide BL).trans (hb.mono (unhide BL).size))
  clear hb
  go_wp2_with fail
  refine (bucket_any _ _).mono ?_
  rintro e w5 ⟨rfl, rfl⟩
  rw [bk0]
  go_wp2_with fail
  refine (bucket_any _ _).mono ?_
  rintro e w5 ⟨rfl, rfl⟩
  rw [bk1]
  go_wp2_with fail
  refine (bucket_any _ _).mono ?_
  rintro e w5 ⟨rfl, rfl⟩
  rw [bk2]
  go_wp2_with fail
  refine (bucket_any _ _).mono ?_
  rintro e w5 ⟨rfl, rfl⟩
  rw [bk3]
  go_wp2_with fail
  refine (bucket_any _ _).mono ?_
  rintro e w5 ⟨rfl, rfl⟩
  rw [bk4]
  go_wp2_with fail
  refine (bucket_any _ _).mono ?_
  rintro e w5 ⟨rfl, rfl⟩
  rw [bk5]
  go_wp2_with fail
  refine (bucket_any _ _).mono ?_
  rintro e w5 ⟨rfl, rfl⟩
  rw [bk6]
  go_wp2_with fail
  refine (bucket_any _ _).mono ?_
  rintro e w5 ⟨rfl, rfl⟩
  rw [bk7]
  go_wp2_with fail
  refine (plus_any (9223372036854775807) (1) _ (by unfold i64; omega) (by unfold i64; omega)).mono ?_
  rintro e w5 ⟨rfl, rfl⟩
  rw [pl0]
  go_wp2_with fail
  refine (plus_any (-9223372036854775808) (-1) _ (by unfold i64; omega) (by unfold i64; omega)).mono ?_
  rintro e w5 ⟨rfl, rfl⟩
  rw [pl1]
  go_wp2_with fail
  refine (plus_any (9223372036854775807) (-9223372036854775808) _ (by unfold i64; omega) (by unfold i64; omega)).mono ?_
  rintro e w5 ⟨rfl, rfl⟩
  rw [pl2]
  go_wp2_with fail
  refine (plus_any (-9223372036854775808) (-9223372036854775808) _ (by unfold i64; omega) (by unfold i64; omega)).mono ?_
  rintro e w5 ⟨rfl, rfl⟩
  rw [pl3]
  go_wp2_with fail
  refine (plus_any (9223372036854775807) (9223372036854775807) _ (by unfold i64; omega) (by unfold i64; omega)).mono ?_
  rintro e w5 ⟨rfl, rfl⟩
  rw [pl4]
  go_wp2_with fail
  refine (plus_any (0) (-9223372036854775808) _ (by unfold i64; omega) (by unfold i64; omega)).mono ?_
  rintro e w5 ⟨rfl, rfl⟩
  rw [pl5]
  go_wp2_with fail
  refine (right_any ⟨0, 0, 0, 0, 0, 0, 0, 0⟩ _ ri0).mono ?_
  rintro e w5 ⟨rfl, hb⟩
  rw [rt0]
  obtain ⟨B2, hB2⟩ : ∃ B, B = w4.heap.size := ⟨_, rfl⟩
  have RB : Hid (RowAt w5 B2 (cellsA ⟨1, 7, 7, 7, 0, 1, 0, 0⟩)) := hide (by rw [hB2]; exact (row_new w4 (cellsA ⟨1, 7, 7, 7, 0, 1, 0, 0⟩) 24).keep (Moved.of_below (F := fun _ => False) hb) id)
  have RA := hide ((row_old (unhide RA) (.cells #[.int .i64 1, .int .i64 7, .int .i64 7, .int .i64 7, .int .i64 0, .int .i64 1, .int .i64 0, .int .i64 0] 24)).keep (Moved.of_below (F := fun _ => False) hb) id)
  have BL := hide (((unhide BL).alloc (unhide BL).size (.cells #[.int .i64 1, .int .i64 7, .int .i64 7, .int .i64 7, .int .i64 0, .int .i64 1, .int .i64 0, .int .i64 0] 24)).trans (hb.mono (by have := (unhide BL).size; simp; omega)))
  rw [← hB2]
  clear hb hB2
  go_wp2_with fail
  refine (right_any ⟨0, 1, 0, 0, 0, 0, 0, 0⟩ _ ri1).mono ?_
  rintro e w6 ⟨rfl, hb⟩
  rw [rt1]
  have RA := hide ((unhide RA).keep (Moved.of_below (F := fun _ => False) hb) id)
  have RB := hide ((unhide RB).keep (Moved.of_below (F := fun _ => False) hb) id)
  have BL := hide ((unhide BL).trans (hb.mono (unhide BL).size))
  clear hb
  go_wp2_with fail
  refine (right_any ⟨1, 0, 0, 0, 0, 0, 0, 0⟩ _ ri2).mono ?_
  rintro e w7 ⟨rfl, hb⟩
  rw [rt2]
  have RA := hide ((unhide RA).keep (Moved.of_below (F := fun _ => False) hb) id)
  have RB := hide ((unhide RB).keep (Moved.of_below (F := fun _ => False) hb) id)
  have BL := hide ((unhide BL).trans (hb.mono (unhide BL).size))
  clear hb
  go_wp2_with fail
  refine (right_any ⟨9223372036854775807, 0, 0, 0, 0, 9223372036854775807, 0, 0⟩ _ ri3).mono ?_
  rintro e w8 ⟨rfl, hb⟩
  rw [rt3]
  have RA := hide ((unhide RA).keep (Moved.of_below (F := fun _ => False) hb) id)
  have RB := hide ((unhide RB).keep (Moved.of_below (F := fun _ => False) hb) id)
  have BL := hide ((unhide BL).trans (hb.mono (unhide BL).size))
  clear hb
  go_wp2_with fail
  refine (right_any ⟨1, 0, 2, 1, 0, 1, 0, 0⟩ _ ri4).mono ?_
  rintro e w9 ⟨rfl, hb⟩
  rw [rt4]
  have RA := hide ((unhide RA).keep (Moved.of_below (F := fun _ => False) hb) id)
  have RB := hide ((unhide RB).keep (Moved.of_below (F := fun _ => False) hb) id)
  have BL := hide ((unhide BL).trans (hb.mono (unhide BL).size))
  clear hb
  go_wp2_with fail
  refine (right_any ⟨1, 0, 5, 5, 0, 0, 1, 0⟩ _ ri5).mono ?_
  rintro e w10 ⟨rfl, hb⟩
  rw [rt5]
  have RA := hide ((unhide RA).keep (Moved.of_below (F := fun _ => False) hb) id)
  have RB := hide ((unhide RB).keep (Moved.of_below (F := fun _ => False) hb) id)
  have BL := hide ((unhide BL).trans (hb.mono (unhide BL).size))
  clear hb
  have c1 : w10.cell? ⟨B1, 1, none⟩ = some (.int .i64 9223372036854775806) := (unhide RA).cell 1 (show 1 < 8 by decide)
  have c3 : w10.cell? ⟨B1, 3, none⟩ = some (.int .i64 9223372036854775807) := (unhide RA).cell 3 (show 3 < 8 by decide)
  have d0 : w10.cell? ⟨B2, 0, none⟩ = some (.int .i64 1) := (unhide RB).cell 0 (show 0 < 8 by decide)
  have d1 : w10.cell? ⟨B2, 1, none⟩ = some (.int .i64 7) := (unhide RB).cell 1 (show 1 < 8 by decide)
  have d2 : w10.cell? ⟨B2, 2, none⟩ = some (.int .i64 7) := (unhide RB).cell 2 (show 2 < 8 by decide)
  have d3 : w10.cell? ⟨B2, 3, none⟩ = some (.int .i64 7) := (unhide RB).cell 3 (show 3 < 8 by decide)
  have d4 : w10.cell? ⟨B2, 4, none⟩ = some (.int .i64 0) := (unhide RB).cell 4 (show 4 < 8 by decide)
  have d5 : w10.cell? ⟨B2, 5, none⟩ = some (.int .i64 1) := (unhide RB).cell 5 (show 5 < 8 by decide)
  have d6 : w10.cell? ⟨B2, 6, none⟩ = some (.int .i64 0) := (unhide RB).cell 6 (show 6 < 8 by decide)
  have d7 : w10.cell? ⟨B2, 7, none⟩ = some (.int .i64 0) := (unhide RB).cell 7 (show 7 < 8 by decide)
  go_wp2_with fail
  refine (awake_any _).mono ?_
  rintro e w11 ⟨rfl, hb⟩
  have BL := hide ((unhide BL).trans (hb.mono (unhide BL).size))
  clear hb
  go_wp2_with fail
  go_ret
  exact ⟨rfl, unhide BL⟩
end Go.Proofs.Ytiokfnkcjicheaa

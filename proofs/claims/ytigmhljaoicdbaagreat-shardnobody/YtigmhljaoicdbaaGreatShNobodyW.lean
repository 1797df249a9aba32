/- What ShardNobody does: it answers true, and nothing that was there has turned. No conditions. -/
import Derived.Test.YtigmhljaoicdbaaGreatGShIns
namespace Go.Proofs.YtigmhljaoicdbaaGreat
open Go.RowKit
theorem sapply_nil (x : ItemV) (w : World) : Calls Tryz.prog 12 #[.pointer none, itemV x] w fun e w' => e = .returned (.tuple #[.int .i64 4, .slice none 0 0, .bool false]) ∧ Below w.heap.size w w' := by
  have E : Hid (itemV x = .agg (itemC x).toArray) := hide rfl
  rw [unhide E]
  have B := hide ((Below.refl w.heap.size w).alloc (Nat.le_refl _) (.cells (itemC x).toArray 42))
  go_enter Tryz.func12, Tryz.ntmps12
  go_wp2_with fail
  go_ret3
  exact ⟨rfl, unhide B⟩
theorem smark_nil (w : World) : Calls Tryz.prog 19 #[.pointer none] w fun e w' => e = .returned (.int .i64 0) ∧ w' = w := by
  go_enter Tryz.func19, Tryz.ntmps19
  go_wp2_with fail
  go_ret
  exact ⟨rfl, rfl⟩
theorem sopen_nil (w : World) : Calls Tryz.prog 20 #[.pointer none] w fun e w' => e = .returned (.slice none 0 0) ∧ w' = w := by
  go_enter Tryz.func20, Tryz.ntmps20
  go_wp2_with fail
  go_ret
  exact ⟨rfl, rfl⟩
theorem slows_nil (w : World) : Calls Tryz.prog 21 #[.pointer none] w fun e w' => e = .returned (.slice none 0 0) ∧ w' = w := by
  go_enter Tryz.func21, Tryz.ntmps21
  go_wp2_with fail
  go_ret
  exact ⟨rfl, rfl⟩
theorem sans_nil (w : World) : Calls Tryz.prog 22 #[.pointer none] w fun e w' => e = .returned (.slice none 0 0) ∧ w' = w := by
  go_enter Tryz.func22, Tryz.ntmps22
  go_wp2_with fail
  go_ret
  exact ⟨rfl, rfl⟩
theorem stwin_nil (w : World) : Calls Tryz.prog 23 #[.pointer none] w fun e w' => e = .returned (.pointer none) ∧ w' = w := by
  go_enter Tryz.func23, Tryz.ntmps23
  go_wp2_with fail
  go_ret
  exact ⟨rfl, rfl⟩
set_option maxRecDepth 100000 in
set_option maxHeartbeats 2000000 in
theorem nobody_any (x : ItemV) (w : World) : Calls Tryz.prog 5 #[itemV x] w fun e w' => e = .returned (.bool true) ∧ Below w.heap.size w w' := by
  have E : Hid (itemV x = .agg (itemC x).toArray) := hide rfl
  obtain ⟨b, hb⟩ : ∃ b, b = w.heap.size := ⟨_, rfl⟩
  obtain ⟨V, hV⟩ : ∃ V, V = w.alloc (.cells (itemC x).toArray 42) := ⟨_, rfl⟩
  have b1 : Below w.heap.size w V := by rw [hV]; exact (Below.refl _ _).alloc (Nat.le_refl _) _
  have RI : Hid (V.rangeAt b 0 (itemC x)) := hide fun j u hu => by rw [Nat.zero_add, hV, hb, World.cell?_alloc_new]; simpa using hu
  have HB := hide hb
  have HV := hide hV
  have B1 := hide b1
  have N1 := hide (fun W => smark_nil W)
  have N2 := hide (fun W => sopen_nil W)
  have N3 := hide (fun W => slows_nil W)
  have N4 := hide (fun W => sans_nil W)
  have N5 := hide (fun W => stwin_nil W)
  have N6 := hide (fun W => same_nil2 W)
  rw [unhide E]
  clear hb hV b1
  go_enter Tryz.func5, Tryz.ntmps5
  go_upto_region 2 with fail
  rw [← unhide HV, ← unhide HB]
  clear HV HB
  go_wp2_with (refine Sn.wpList_load_on rfl 42 (.tmp 1) rfl b 0 rfl (itemC x) _ (unhide RI) Tryz.underlying42 rfl (by kernel_rfl) ?_)
  rw [← unhide E]
  refine (sapply_nil x V).mono ?_
  rintro e v1 ⟨rfl, h⟩
  have B2 := hide h
  clear h RI
  go_wp2_with fail
  refine (unhide N1 _).mono ?_
  rintro e w' ⟨rfl, hw⟩
  rw [hw]
  clear hw w'
  go_wp2_with fail
  refine (unhide N2 _).mono ?_
  rintro e w' ⟨rfl, hw⟩
  rw [hw]
  clear hw w'
  go_wp2_with fail
  refine (unhide N3 _).mono ?_
  rintro e w' ⟨rfl, hw⟩
  rw [hw]
  clear hw w'
  go_wp2_with fail
  refine (unhide N4 _).mono ?_
  rintro e w' ⟨rfl, hw⟩
  rw [hw]
  clear hw w'
  go_wp2_with fail
  refine (unhide N5 _).mono ?_
  rintro e w' ⟨rfl, hw⟩
  rw [hw]
  clear hw w'
  go_wp2_with fail
  refine (unhide N6 _).mono ?_
  rintro e w' ⟨rfl, hw⟩
  rw [hw]
  clear hw w'
  go_wp2_with fail
  refine (snew_any v1).mono ?_
  rintro e v2 ⟨p, F, rfl, _, _, h⟩
  have B3 := hide h
  clear h
  go_wp2_with fail
  refine (same_nil1 p v2).mono ?_
  rintro e w' ⟨rfl, hw⟩
  rw [hw]
  clear hw w'
  go_wp2_with fail
  refine (wakes_any v2).mono ?_
  rintro e v3 ⟨rfl, h⟩
  have B4 := hide h
  clear h
  go_wp2_with fail
  go_ret
  have z1 := (unhide B1).size
  have z2 := (unhide B2).size
  have z3 := (unhide B3).size
  exact ⟨rfl, (unhide B1).trans (((unhide B2).mono z1).trans (((unhide B3).mono (by omega)).trans ((unhide B4).mono (by omega))))⟩
theorem nobody_row (x : ItemV) (w : World) (_ : x.In) : Calls Tryz.prog 5 #[itemV x] w fun e w' => e = .returned (.bool true) ∧ Below w.heap.size w w' := nobody_any x w
end Go.Proofs.YtigmhljaoicdbaaGreat

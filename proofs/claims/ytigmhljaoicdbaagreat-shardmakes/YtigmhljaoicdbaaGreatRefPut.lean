/- What the document's Put answers: the plain one; nothing that was there has turned. Conditions: all numbers are int64's. -/
import Derived.Test.YtigmhljaoicdbaaGreatRefA
namespace Go.Proofs.YtigmhljaoicdbaaGreat
open Go.RowKit

set_option maxHeartbeats 1000000 in
set_option maxRecDepth 100000 in
theorem rp_c0_0 (ac aS amn amx a0 a1 a2 a3 v : Int) (w : World) (hb : Hid (bucket v = 0)) (hA : Hid (AggV.In ⟨ac, aS, amn, amx, a0, a1, a2, a3⟩)) (hv : Hid (i64 v)) (hc : ac = 0) :
    Calls Tryz.prog 84 #[aggV ⟨ac, aS, amn, amx, a0, a1, a2, a3⟩, .int .i64 v] w fun e w' => e = .returned (aggV ⟨plus ac 1, plus aS v, v, v, plus a0 1, a1, a2, a3⟩) ∧ Below w.heap.size w w' := by
  subst hc
  simp only [aggV, cellsA, I]
  have i1 : Hid (i64 1) := hide (by unfold i64; omega)
  go_enter Tryz.func84, Tryz.ntmps84
  go_wp2_with fail
  refine (ref_plus_any _ _ _ (unhide hA).count (unhide i1)).mono ?_
  rintro e w1 ⟨rfl, rfl⟩
  go_wp2_with fail
  refine (ref_plus_any _ _ _ (unhide hA).sum (unhide hv)).mono ?_
  rintro e w1 ⟨rfl, rfl⟩
  go_wp2_with fail
  refine (ref_bucket_any _ _).mono ?_
  rintro e w1 ⟨rfl, rfl⟩
  rw [unhide hb]
  go_wp2_with fail
  refine (ref_plus_any _ _ _ (unhide hA).h0 (unhide i1)).mono ?_
  rintro e w1 ⟨rfl, rfl⟩
  go_wp2_with fail
  refine bodyPost_ret (by simp [results, Tryz.results84, go_sem]; rfl) rfl ?_
  exact ⟨rfl, ((Below.refl _ _).alloc (Nat.le_refl _) _).alloc (by simp) _⟩
set_option maxHeartbeats 1000000 in
set_option maxRecDepth 100000 in
theorem rp_c0_1 (ac aS amn amx a0 a1 a2 a3 v : Int) (w : World) (hb : Hid (bucket v = 1)) (hA : Hid (AggV.In ⟨ac, aS, amn, amx, a0, a1, a2, a3⟩)) (hv : Hid (i64 v)) (hc : ac = 0) :
    Calls Tryz.prog 84 #[aggV ⟨ac, aS, amn, amx, a0, a1, a2, a3⟩, .int .i64 v] w fun e w' => e = .returned (aggV ⟨plus ac 1, plus aS v, v, v, a0, plus a1 1, a2, a3⟩) ∧ Below w.heap.size w w' := by
  subst hc
  simp only [aggV, cellsA, I]
  have i1 : Hid (i64 1) := hide (by unfold i64; omega)
  go_enter Tryz.func84, Tryz.ntmps84
  go_wp2_with fail
  refine (ref_plus_any _ _ _ (unhide hA).count (unhide i1)).mono ?_
  rintro e w1 ⟨rfl, rfl⟩
  go_wp2_with fail
  refine (ref_plus_any _ _ _ (unhide hA).sum (unhide hv)).mono ?_
  rintro e w1 ⟨rfl, rfl⟩
  go_wp2_with fail
  refine (ref_bucket_any _ _).mono ?_
  rintro e w1 ⟨rfl, rfl⟩
  rw [unhide hb]
  go_wp2_with fail
  refine (ref_plus_any _ _ _ (unhide hA).h1 (unhide i1)).mono ?_
  rintro e w1 ⟨rfl, rfl⟩
  go_wp2_with fail
  refine bodyPost_ret (by simp [results, Tryz.results84, go_sem]; rfl) rfl ?_
  exact ⟨rfl, ((Below.refl _ _).alloc (Nat.le_refl _) _).alloc (by simp) _⟩
set_option maxHeartbeats 1000000 in
set_option maxRecDepth 100000 in
theorem rp_c0_2 (ac aS amn amx a0 a1 a2 a3 v : Int) (w : World) (hb : Hid (bucket v = 2)) (hA : Hid (AggV.In ⟨ac, aS, amn, amx, a0, a1, a2, a3⟩)) (hv : Hid (i64 v)) (hc : ac = 0) :
    Calls Tryz.prog 84 #[aggV ⟨ac, aS, amn, amx, a0, a1, a2, a3⟩, .int .i64 v] w fun e w' => e = .returned (aggV ⟨plus ac 1, plus aS v, v, v, a0, a1, plus a2 1, a3⟩) ∧ Below w.heap.size w w' := by
  subst hc
  simp only [aggV, cellsA, I]
  have i1 : Hid (i64 1) := hide (by unfold i64; omega)
  go_enter Tryz.func84, Tryz.ntmps84
  go_wp2_with fail
  refine (ref_plus_any _ _ _ (unhide hA).count (unhide i1)).mono ?_
  rintro e w1 ⟨rfl, rfl⟩
  go_wp2_with fail
  refine (ref_plus_any _ _ _ (unhide hA).sum (unhide hv)).mono ?_
  rintro e w1 ⟨rfl, rfl⟩
  go_wp2_with fail
  refine (ref_bucket_any _ _).mono ?_
  rintro e w1 ⟨rfl, rfl⟩
  rw [unhide hb]
  go_wp2_with fail
  refine (ref_plus_any _ _ _ (unhide hA).h2 (unhide i1)).mono ?_
  rintro e w1 ⟨rfl, rfl⟩
  go_wp2_with fail
  refine bodyPost_ret (by simp [results, Tryz.results84, go_sem]; rfl) rfl ?_
  exact ⟨rfl, ((Below.refl _ _).alloc (Nat.le_refl _) _).alloc (by simp) _⟩
set_option maxHeartbeats 1000000 in
set_option maxRecDepth 100000 in
theorem rp_c0_3 (ac aS amn amx a0 a1 a2 a3 v : Int) (w : World) (hb : Hid (bucket v = 3)) (hA : Hid (AggV.In ⟨ac, aS, amn, amx, a0, a1, a2, a3⟩)) (hv : Hid (i64 v)) (hc : ac = 0) :
    Calls Tryz.prog 84 #[aggV ⟨ac, aS, amn, amx, a0, a1, a2, a3⟩, .int .i64 v] w fun e w' => e = .returned (aggV ⟨plus ac 1, plus aS v, v, v, a0, a1, a2, plus a3 1⟩) ∧ Below w.heap.size w w' := by
  subst hc
  simp only [aggV, cellsA, I]
  have i1 : Hid (i64 1) := hide (by unfold i64; omega)
  go_enter Tryz.func84, Tryz.ntmps84
  go_wp2_with fail
  refine (ref_plus_any _ _ _ (unhide hA).count (unhide i1)).mono ?_
  rintro e w1 ⟨rfl, rfl⟩
  go_wp2_with fail
  refine (ref_plus_any _ _ _ (unhide hA).sum (unhide hv)).mono ?_
  rintro e w1 ⟨rfl, rfl⟩
  go_wp2_with fail
  refine (ref_bucket_any _ _).mono ?_
  rintro e w1 ⟨rfl, rfl⟩
  rw [unhide hb]
  go_wp2_with fail
  refine (ref_plus_any _ _ _ (unhide hA).h3 (unhide i1)).mono ?_
  rintro e w1 ⟨rfl, rfl⟩
  go_wp2_with fail
  refine bodyPost_ret (by simp [results, Tryz.results84, go_sem]; rfl) rfl ?_
  exact ⟨rfl, ((Below.refl _ _).alloc (Nat.le_refl _) _).alloc (by simp) _⟩
set_option maxHeartbeats 1000000 in
set_option maxRecDepth 100000 in
theorem rp_cn00_0 (ac aS amn amx a0 a1 a2 a3 v : Int) (w : World) (hb : Hid (bucket v = 0)) (hA : Hid (AggV.In ⟨ac, aS, amn, amx, a0, a1, a2, a3⟩)) (hv : Hid (i64 v)) (hc : ¬ ac = 0) (hm : ¬ v < amn) (hx : ¬ amx < v) :
    Calls Tryz.prog 84 #[aggV ⟨ac, aS, amn, amx, a0, a1, a2, a3⟩, .int .i64 v] w fun e w' => e = .returned (aggV ⟨plus ac 1, plus aS v, amn, amx, plus a0 1, a1, a2, a3⟩) ∧ Below w.heap.size w w' := by
  simp only [aggV, cellsA, I]
  have i1 : Hid (i64 1) := hide (by unfold i64; omega)
  go_enter Tryz.func84, Tryz.ntmps84
  go_wp2_with fail
  refine (ref_plus_any _ _ _ (unhide hA).count (unhide i1)).mono ?_
  rintro e w1 ⟨rfl, rfl⟩
  go_wp2_with fail
  refine (ref_plus_any _ _ _ (unhide hA).sum (unhide hv)).mono ?_
  rintro e w1 ⟨rfl, rfl⟩
  go_wp2_with fail
  refine (ref_bucket_any _ _).mono ?_
  rintro e w1 ⟨rfl, rfl⟩
  rw [unhide hb]
  go_wp2_with fail
  refine (ref_plus_any _ _ _ (unhide hA).h0 (unhide i1)).mono ?_
  rintro e w1 ⟨rfl, rfl⟩
  go_wp2_with fail
  refine bodyPost_ret (by simp [results, Tryz.results84, go_sem]; rfl) rfl ?_
  exact ⟨rfl, ((Below.refl _ _).alloc (Nat.le_refl _) _).alloc (by simp) _⟩
set_option maxHeartbeats 1000000 in
set_option maxRecDepth 100000 in
theorem rp_cn00_1 (ac aS amn amx a0 a1 a2 a3 v : Int) (w : World) (hb : Hid (bucket v = 1)) (hA : Hid (AggV.In ⟨ac, aS, amn, amx, a0, a1, a2, a3⟩)) (hv : Hid (i64 v)) (hc : ¬ ac = 0) (hm : ¬ v < amn) (hx : ¬ amx < v) :
    Calls Tryz.prog 84 #[aggV ⟨ac, aS, amn, amx, a0, a1, a2, a3⟩, .int .i64 v] w fun e w' => e = .returned (aggV ⟨plus ac 1, plus aS v, amn, amx, a0, plus a1 1, a2, a3⟩) ∧ Below w.heap.size w w' := by
  simp only [aggV, cellsA, I]
  have i1 : Hid (i64 1) := hide (by unfold i64; omega)
  go_enter Tryz.func84, Tryz.ntmps84
  go_wp2_with fail
  refine (ref_plus_any _ _ _ (unhide hA).count (unhide i1)).mono ?_
  rintro e w1 ⟨rfl, rfl⟩
  go_wp2_with fail
  refine (ref_plus_any _ _ _ (unhide hA).sum (unhide hv)).mono ?_
  rintro e w1 ⟨rfl, rfl⟩
  go_wp2_with fail
  refine (ref_bucket_any _ _).mono ?_
  rintro e w1 ⟨rfl, rfl⟩
  rw [unhide hb]
  go_wp2_with fail
  refine (ref_plus_any _ _ _ (unhide hA).h1 (unhide i1)).mono ?_
  rintro e w1 ⟨rfl, rfl⟩
  go_wp2_with fail
  refine bodyPost_ret (by simp [results, Tryz.results84, go_sem]; rfl) rfl ?_
  exact ⟨rfl, ((Below.refl _ _).alloc (Nat.le_refl _) _).alloc (by simp) _⟩
set_option maxHeartbeats 1000000 in
set_option maxRecDepth 100000 in
theorem rp_cn00_2 (ac aS amn amx a0 a1 a2 a3 v : Int) (w : World) (hb : Hid (bucket v = 2)) (hA : Hid (AggV.In ⟨ac, aS, amn, amx, a0, a1, a2, a3⟩)) (hv : Hid (i64 v)) (hc : ¬ ac = 0) (hm : ¬ v < amn) (hx : ¬ amx < v) :
    Calls Tryz.prog 84 #[aggV ⟨ac, aS, amn, amx, a0, a1, a2, a3⟩, .int .i64 v] w fun e w' => e = .returned (aggV ⟨plus ac 1, plus aS v, amn, amx, a0, a1, plus a2 1, a3⟩) ∧ Below w.heap.size w w' := by
  simp only [aggV, cellsA, I]
  have i1 : Hid (i64 1) := hide (by unfold i64; omega)
  go_enter Tryz.func84, Tryz.ntmps84
  go_wp2_with fail
  refine (ref_plus_any _ _ _ (unhide hA).count (unhide i1)).mono ?_
  rintro e w1 ⟨rfl, rfl⟩
  go_wp2_with fail
  refine (ref_plus_any _ _ _ (unhide hA).sum (unhide hv)).mono ?_
  rintro e w1 ⟨rfl, rfl⟩
  go_wp2_with fail
  refine (ref_bucket_any _ _).mono ?_
  rintro e w1 ⟨rfl, rfl⟩
  rw [unhide hb]
  go_wp2_with fail
  refine (ref_plus_any _ _ _ (unhide hA).h2 (unhide i1)).mono ?_
  rintro e w1 ⟨rfl, rfl⟩
  go_wp2_with fail
  refine bodyPost_ret (by simp [results, Tryz.results84, go_sem]; rfl) rfl ?_
  exact ⟨rfl, ((Below.refl _ _).alloc (Nat.le_refl _) _).alloc (by simp) _⟩
set_option maxHeartbeats 1000000 in
set_option maxRecDepth 100000 in
theorem rp_cn00_3 (ac aS amn amx a0 a1 a2 a3 v : Int) (w : World) (hb : Hid (bucket v = 3)) (hA : Hid (AggV.In ⟨ac, aS, amn, amx, a0, a1, a2, a3⟩)) (hv : Hid (i64 v)) (hc : ¬ ac = 0) (hm : ¬ v < amn) (hx : ¬ amx < v) :
    Calls Tryz.prog 84 #[aggV ⟨ac, aS, amn, amx, a0, a1, a2, a3⟩, .int .i64 v] w fun e w' => e = .returned (aggV ⟨plus ac 1, plus aS v, amn, amx, a0, a1, a2, plus a3 1⟩) ∧ Below w.heap.size w w' := by
  simp only [aggV, cellsA, I]
  have i1 : Hid (i64 1) := hide (by unfold i64; omega)
  go_enter Tryz.func84, Tryz.ntmps84
  go_wp2_with fail
  refine (ref_plus_any _ _ _ (unhide hA).count (unhide i1)).mono ?_
  rintro e w1 ⟨rfl, rfl⟩
  go_wp2_with fail
  refine (ref_plus_any _ _ _ (unhide hA).sum (unhide hv)).mono ?_
  rintro e w1 ⟨rfl, rfl⟩
  go_wp2_with fail
  refine (ref_bucket_any _ _).mono ?_
  rintro e w1 ⟨rfl, rfl⟩
  rw [unhide hb]
  go_wp2_with fail
  refine (ref_plus_any _ _ _ (unhide hA).h3 (unhide i1)).mono ?_
  rintro e w1 ⟨rfl, rfl⟩
  go_wp2_with fail
  refine bodyPost_ret (by simp [results, Tryz.results84, go_sem]; rfl) rfl ?_
  exact ⟨rfl, ((Below.refl _ _).alloc (Nat.le_refl _) _).alloc (by simp) _⟩
set_option maxHeartbeats 1000000 in
set_option maxRecDepth 100000 in
theorem rp_cn01_0 (ac aS amn amx a0 a1 a2 a3 v : Int) (w : World) (hb : Hid (bucket v = 0)) (hA : Hid (AggV.In ⟨ac, aS, amn, amx, a0, a1, a2, a3⟩)) (hv : Hid (i64 v)) (hc : ¬ ac = 0) (hm : ¬ v < amn) (hx : amx < v) :
    Calls Tryz.prog 84 #[aggV ⟨ac, aS, amn, amx, a0, a1, a2, a3⟩, .int .i64 v] w fun e w' => e = .returned (aggV ⟨plus ac 1, plus aS v, amn, v, plus a0 1, a1, a2, a3⟩) ∧ Below w.heap.size w w' := by
  simp only [aggV, cellsA, I]
  have i1 : Hid (i64 1) := hide (by unfold i64; omega)
  go_enter Tryz.func84, Tryz.ntmps84
  go_wp2_with fail
  refine (ref_plus_any _ _ _ (unhide hA).count (unhide i1)).mono ?_
  rintro e w1 ⟨rfl, rfl⟩
  go_wp2_with fail
  refine (ref_plus_any _ _ _ (unhide hA).sum (unhide hv)).mono ?_
  rintro e w1 ⟨rfl, rfl⟩
  go_wp2_with fail
  refine (ref_bucket_any _ _).mono ?_
  rintro e w1 ⟨rfl, rfl⟩
  rw [unhide hb]
  go_wp2_with fail
  refine (ref_plus_any _ _ _ (unhide hA).h0 (unhide i1)).mono ?_
  rintro e w1 ⟨rfl, rfl⟩
  go_wp2_with fail
  refine bodyPost_ret (by simp [results, Tryz.results84, go_sem]; rfl) rfl ?_
  exact ⟨rfl, ((Below.refl _ _).alloc (Nat.le_refl _) _).alloc (by simp) _⟩
set_option maxHeartbeats 1000000 in
set_option maxRecDepth 100000 in
theorem rp_cn01_1 (ac aS amn amx a0 a1 a2 a3 v : Int) (w : World) (hb : Hid (bucket v = 1)) (hA : Hid (AggV.In ⟨ac, aS, amn, amx, a0, a1, a2, a3⟩)) (hv : Hid (i64 v)) (hc : ¬ ac = 0) (hm : ¬ v < amn) (hx : amx < v) :
    Calls Tryz.prog 84 #[aggV ⟨ac, aS, amn, amx, a0, a1, a2, a3⟩, .int .i64 v] w fun e w' => e = .returned (aggV ⟨plus ac 1, plus aS v, amn, v, a0, plus a1 1, a2, a3⟩) ∧ Below w.heap.size w w' := by
  simp only [aggV, cellsA, I]
  have i1 : Hid (i64 1) := hide (by unfold i64; omega)
  go_enter Tryz.func84, Tryz.ntmps84
  go_wp2_with fail
  refine (ref_plus_any _ _ _ (unhide hA).count (unhide i1)).mono ?_
  rintro e w1 ⟨rfl, rfl⟩
  go_wp2_with fail
  refine (ref_plus_any _ _ _ (unhide hA).sum (unhide hv)).mono ?_
  rintro e w1 ⟨rfl, rfl⟩
  go_wp2_with fail
  refine (ref_bucket_any _ _).mono ?_
  rintro e w1 ⟨rfl, rfl⟩
  rw [unhide hb]
  go_wp2_with fail
  refine (ref_plus_any _ _ _ (unhide hA).h1 (unhide i1)).mono ?_
  rintro e w1 ⟨rfl, rfl⟩
  go_wp2_with fail
  refine bodyPost_ret (by simp [results, Tryz.results84, go_sem]; rfl) rfl ?_
  exact ⟨rfl, ((Below.refl _ _).alloc (Nat.le_refl _) _).alloc (by simp) _⟩
set_option maxHeartbeats 1000000 in
set_option maxRecDepth 100000 in
theorem rp_cn01_2 (ac aS amn amx a0 a1 a2 a3 v : Int) (w : World) (hb : Hid (bucket v = 2)) (hA : Hid (AggV.In ⟨ac, aS, amn, amx, a0, a1, a2, a3⟩)) (hv : Hid (i64 v)) (hc : ¬ ac = 0) (hm : ¬ v < amn) (hx : amx < v) :
    Calls Tryz.prog 84 #[aggV ⟨ac, aS, amn, amx, a0, a1, a2, a3⟩, .int .i64 v] w fun e w' => e = .returned (aggV ⟨plus ac 1, plus aS v, amn, v, a0, a1, plus a2 1, a3⟩) ∧ Below w.heap.size w w' := by
  simp only [aggV, cellsA, I]
  have i1 : Hid (i64 1) := hide (by unfold i64; omega)
  go_enter Tryz.func84, Tryz.ntmps84
  go_wp2_with fail
  refine (ref_plus_any _ _ _ (unhide hA).count (unhide i1)).mono ?_
  rintro e w1 ⟨rfl, rfl⟩
  go_wp2_with fail
  refine (ref_plus_any _ _ _ (unhide hA).sum (unhide hv)).mono ?_
  rintro e w1 ⟨rfl, rfl⟩
  go_wp2_with fail
  refine (ref_bucket_any _ _).mono ?_
  rintro e w1 ⟨rfl, rfl⟩
  rw [unhide hb]
  go_wp2_with fail
  refine (ref_plus_any _ _ _ (unhide hA).h2 (unhide i1)).mono ?_
  rintro e w1 ⟨rfl, rfl⟩
  go_wp2_with fail
  refine bodyPost_ret (by simp [results, Tryz.results84, go_sem]; rfl) rfl ?_
  exact ⟨rfl, ((Below.refl _ _).alloc (Nat.le_refl _) _).alloc (by simp) _⟩
set_option maxHeartbeats 1000000 in
set_option maxRecDepth 100000 in
theorem rp_cn01_3 (ac aS amn amx a0 a1 a2 a3 v : Int) (w : World) (hb : Hid (bucket v = 3)) (hA : Hid (AggV.In ⟨ac, aS, amn, amx, a0, a1, a2, a3⟩)) (hv : Hid (i64 v)) (hc : ¬ ac = 0) (hm : ¬ v < amn) (hx : amx < v) :
    Calls Tryz.prog 84 #[aggV ⟨ac, aS, amn, amx, a0, a1, a2, a3⟩, .int .i64 v] w fun e w' => e = .returned (aggV ⟨plus ac 1, plus aS v, amn, v, a0, a1, a2, plus a3 1⟩) ∧ Below w.heap.size w w' := by
  simp only [aggV, cellsA, I]
  have i1 : Hid (i64 1) := hide (by unfold i64; omega)
  go_enter Tryz.func84, Tryz.ntmps84
  go_wp2_with fail
  refine (ref_plus_any _ _ _ (unhide hA).count (unhide i1)).mono ?_
  rintro e w1 ⟨rfl, rfl⟩
  go_wp2_with fail
  refine (ref_plus_any _ _ _ (unhide hA).sum (unhide hv)).mono ?_
  rintro e w1 ⟨rfl, rfl⟩
  go_wp2_with fail
  refine (ref_bucket_any _ _).mono ?_
  rintro e w1 ⟨rfl, rfl⟩
  rw [unhide hb]
  go_wp2_with fail
  refine (ref_plus_any _ _ _ (unhide hA).h3 (unhide i1)).mono ?_
  rintro e w1 ⟨rfl, rfl⟩
  go_wp2_with fail
  refine bodyPost_ret (by simp [results, Tryz.results84, go_sem]; rfl) rfl ?_
  exact ⟨rfl, ((Below.refl _ _).alloc (Nat.le_refl _) _).alloc (by simp) _⟩
set_option maxHeartbeats 1000000 in
set_option maxRecDepth 100000 in
theorem rp_cn10_0 (ac aS amn amx a0 a1 a2 a3 v : Int) (w : World) (hb : Hid (bucket v = 0)) (hA : Hid (AggV.In ⟨ac, aS, amn, amx, a0, a1, a2, a3⟩)) (hv : Hid (i64 v)) (hc : ¬ ac = 0) (hm : v < amn) (hx : ¬ amx < v) :
    Calls Tryz.prog 84 #[aggV ⟨ac, aS, amn, amx, a0, a1, a2, a3⟩, .int .i64 v] w fun e w' => e = .returned (aggV ⟨plus ac 1, plus aS v, v, amx, plus a0 1, a1, a2, a3⟩) ∧ Below w.heap.size w w' := by
  simp only [aggV, cellsA, I]
  have i1 : Hid (i64 1) := hide (by unfold i64; omega)
  go_enter Tryz.func84, Tryz.ntmps84
  go_wp2_with fail
  refine (ref_plus_any _ _ _ (unhide hA).count (unhide i1)).mono ?_
  rintro e w1 ⟨rfl, rfl⟩
  go_wp2_with fail
  refine (ref_plus_any _ _ _ (unhide hA).sum (unhide hv)).mono ?_
  rintro e w1 ⟨rfl, rfl⟩
  go_wp2_with fail
  refine (ref_bucket_any _ _).mono ?_
  rintro e w1 ⟨rfl, rfl⟩
  rw [unhide hb]
  go_wp2_with fail
  refine (ref_plus_any _ _ _ (unhide hA).h0 (unhide i1)).mono ?_
  rintro e w1 ⟨rfl, rfl⟩
  go_wp2_with fail
  refine bodyPost_ret (by simp [results, Tryz.results84, go_sem]; rfl) rfl ?_
  exact ⟨rfl, ((Below.refl _ _).alloc (Nat.le_refl _) _).alloc (by simp) _⟩
set_option maxHeartbeats 1000000 in
set_option maxRecDepth 100000 in
theorem rp_cn10_1 (ac aS amn amx a0 a1 a2 a3 v : Int) (w : World) (hb : Hid (bucket v = 1)) (hA : Hid (AggV.In ⟨ac, aS, amn, amx, a0, a1, a2, a3⟩)) (hv : Hid (i64 v)) (hc : ¬ ac = 0) (hm : v < amn) (hx : ¬ amx < v) :
    Calls Tryz.prog 84 #[aggV ⟨ac, aS, amn, amx, a0, a1, a2, a3⟩, .int .i64 v] w fun e w' => e = .returned (aggV ⟨plus ac 1, plus aS v, v, amx, a0, plus a1 1, a2, a3⟩) ∧ Below w.heap.size w w' := by
  simp only [aggV, cellsA, I]
  have i1 : Hid (i64 1) := hide (by unfold i64; omega)
  go_enter Tryz.func84, Tryz.ntmps84
  go_wp2_with fail
  refine (ref_plus_any _ _ _ (unhide hA).count (unhide i1)).mono ?_
  rintro e w1 ⟨rfl, rfl⟩
  go_wp2_with fail
  refine (ref_plus_any _ _ _ (unhide hA).sum (unhide hv)).mono ?_
  rintro e w1 ⟨rfl, rfl⟩
  go_wp2_with fail
  refine (ref_bucket_any _ _).mono ?_
  rintro e w1 ⟨rfl, rfl⟩
  rw [unhide hb]
  go_wp2_with fail
  refine (ref_plus_any _ _ _ (unhide hA).h1 (unhide i1)).mono ?_
  rintro e w1 ⟨rfl, rfl⟩
  go_wp2_with fail
  refine bodyPost_ret (by simp [results, Tryz.results84, go_sem]; rfl) rfl ?_
  exact ⟨rfl, ((Below.refl _ _).alloc (Nat.le_refl _) _).alloc (by simp) _⟩
set_option maxHeartbeats 1000000 in
set_option maxRecDepth 100000 in
theorem rp_cn10_2 (ac aS amn amx a0 a1 a2 a3 v : Int) (w : World) (hb : Hid (bucket v = 2)) (hA : Hid (AggV.In ⟨ac, aS, amn, amx, a0, a1, a2, a3⟩)) (hv : Hid (i64 v)) (hc : ¬ ac = 0) (hm : v < amn) (hx : ¬ amx < v) :
    Calls Tryz.prog 84 #[aggV ⟨ac, aS, amn, amx, a0, a1, a2, a3⟩, .int .i64 v] w fun e w' => e = .returned (aggV ⟨plus ac 1, plus aS v, v, amx, a0, a1, plus a2 1, a3⟩) ∧ Below w.heap.size w w' := by
  simp only [aggV, cellsA, I]
  have i1 : Hid (i64 1) := hide (by unfold i64; omega)
  go_enter Tryz.func84, Tryz.ntmps84
  go_wp2_with fail
  refine (ref_plus_any _ _ _ (unhide hA).count (unhide i1)).mono ?_
  rintro e w1 ⟨rfl, rfl⟩
  go_wp2_with fail
  refine (ref_plus_any _ _ _ (unhide hA).sum (unhide hv)).mono ?_
  rintro e w1 ⟨rfl, rfl⟩
  go_wp2_with fail
  refine (ref_bucket_any _ _).mono ?_
  rintro e w1 ⟨rfl, rfl⟩
  rw [unhide hb]
  go_wp2_with fail
  refine (ref_plus_any _ _ _ (unhide hA).h2 (unhide i1)).mono ?_
  rintro e w1 ⟨rfl, rfl⟩
  go_wp2_with fail
  refine bodyPost_ret (by simp [results, Tryz.results84, go_sem]; rfl) rfl ?_
  exact ⟨rfl, ((Below.refl _ _).alloc (Nat.le_refl _) _).alloc (by simp) _⟩
set_option maxHeartbeats 1000000 in
set_option maxRecDepth 100000 in
theorem rp_cn10_3 (ac aS amn amx a0 a1 a2 a3 v : Int) (w : World) (hb : Hid (bucket v = 3)) (hA : Hid (AggV.In ⟨ac, aS, amn, amx, a0, a1, a2, a3⟩)) (hv : Hid (i64 v)) (hc : ¬ ac = 0) (hm : v < amn) (hx : ¬ amx < v) :
    Calls Tryz.prog 84 #[aggV ⟨ac, aS, amn, amx, a0, a1, a2, a3⟩, .int .i64 v] w fun e w' => e = .returned (aggV ⟨plus ac 1, plus aS v, v, amx, a0, a1, a2, plus a3 1⟩) ∧ Below w.heap.size w w' := by
  simp only [aggV, cellsA, I]
  have i1 : Hid (i64 1) := hide (by unfold i64; omega)
  go_enter Tryz.func84, Tryz.ntmps84
  go_wp2_with fail
  refine (ref_plus_any _ _ _ (unhide hA).count (unhide i1)).mono ?_
  rintro e w1 ⟨rfl, rfl⟩
  go_wp2_with fail
  refine (ref_plus_any _ _ _ (unhide hA).sum (unhide hv)).mono ?_
  rintro e w1 ⟨rfl, rfl⟩
  go_wp2_with fail
  refine (ref_bucket_any _ _).mono ?_
  rintro e w1 ⟨rfl, rfl⟩
  rw [unhide hb]
  go_wp2_with fail
  refine (ref_plus_any _ _ _ (unhide hA).h3 (unhide i1)).mono ?_
  rintro e w1 ⟨rfl, rfl⟩
  go_wp2_with fail
  refine bodyPost_ret (by simp [results, Tryz.results84, go_sem]; rfl) rfl ?_
  exact ⟨rfl, ((Below.refl _ _).alloc (Nat.le_refl _) _).alloc (by simp) _⟩
set_option maxHeartbeats 1000000 in
set_option maxRecDepth 100000 in
theorem rp_cn11_0 (ac aS amn amx a0 a1 a2 a3 v : Int) (w : World) (hb : Hid (bucket v = 0)) (hA : Hid (AggV.In ⟨ac, aS, amn, amx, a0, a1, a2, a3⟩)) (hv : Hid (i64 v)) (hc : ¬ ac = 0) (hm : v < amn) (hx : amx < v) :
    Calls Tryz.prog 84 #[aggV ⟨ac, aS, amn, amx, a0, a1, a2, a3⟩, .int .i64 v] w fun e w' => e = .returned (aggV ⟨plus ac 1, plus aS v, v, v, plus a0 1, a1, a2, a3⟩) ∧ Below w.heap.size w w' := by
  simp only [aggV, cellsA, I]
  have i1 : Hid (i64 1) := hide (by unfold i64; omega)
  go_enter Tryz.func84, Tryz.ntmps84
  go_wp2_with fail
  refine (ref_plus_any _ _ _ (unhide hA).count (unhide i1)).mono ?_
  rintro e w1 ⟨rfl, rfl⟩
  go_wp2_with fail
  refine (ref_plus_any _ _ _ (unhide hA).sum (unhide hv)).mono ?_
  rintro e w1 ⟨rfl, rfl⟩
  go_wp2_with fail
  refine (ref_bucket_any _ _).mono ?_
  rintro e w1 ⟨rfl, rfl⟩
  rw [unhide hb]
  go_wp2_with fail
  refine (ref_plus_any _ _ _ (unhide hA).h0 (unhide i1)).mono ?_
  rintro e w1 ⟨rfl, rfl⟩
  go_wp2_with fail
  refine bodyPost_ret (by simp [results, Tryz.results84, go_sem]; rfl) rfl ?_
  exact ⟨rfl, ((Below.refl _ _).alloc (Nat.le_refl _) _).alloc (by simp) _⟩
set_option maxHeartbeats 1000000 in
set_option maxRecDepth 100000 in
theorem rp_cn11_1 (ac aS amn amx a0 a1 a2 a3 v : Int) (w : World) (hb : Hid (bucket v = 1)) (hA : Hid (AggV.In ⟨ac, aS, amn, amx, a0, a1, a2, a3⟩)) (hv : Hid (i64 v)) (hc : ¬ ac = 0) (hm : v < amn) (hx : amx < v) :
    Calls Tryz.prog 84 #[aggV ⟨ac, aS, amn, amx, a0, a1, a2, a3⟩, .int .i64 v] w fun e w' => e = .returned (aggV ⟨plus ac 1, plus aS v, v, v, a0, plus a1 1, a2, a3⟩) ∧ Below w.heap.size w w' := by
  simp only [aggV, cellsA, I]
  have i1 : Hid (i64 1) := hide (by unfold i64; omega)
  go_enter Tryz.func84, Tryz.ntmps84
  go_wp2_with fail
  refine (ref_plus_any _ _ _ (unhide hA).count (unhide i1)).mono ?_
  rintro e w1 ⟨rfl, rfl⟩
  go_wp2_with fail
  refine (ref_plus_any _ _ _ (unhide hA).sum (unhide hv)).mono ?_
  rintro e w1 ⟨rfl, rfl⟩
  go_wp2_with fail
  refine (ref_bucket_any _ _).mono ?_
  rintro e w1 ⟨rfl, rfl⟩
  rw [unhide hb]
  go_wp2_with fail
  refine (ref_plus_any _ _ _ (unhide hA).h1 (unhide i1)).mono ?_
  rintro e w1 ⟨rfl, rfl⟩
  go_wp2_with fail
  refine bodyPost_ret (by simp [results, Tryz.results84, go_sem]; rfl) rfl ?_
  exact ⟨rfl, ((Below.refl _ _).alloc (Nat.le_refl _) _).alloc (by simp) _⟩
set_option maxHeartbeats 1000000 in
set_option maxRecDepth 100000 in
theorem rp_cn11_2 (ac aS amn amx a0 a1 a2 a3 v : Int) (w : World) (hb : Hid (bucket v = 2)) (hA : Hid (AggV.In ⟨ac, aS, amn, amx, a0, a1, a2, a3⟩)) (hv : Hid (i64 v)) (hc : ¬ ac = 0) (hm : v < amn) (hx : amx < v) :
    Calls Tryz.prog 84 #[aggV ⟨ac, aS, amn, amx, a0, a1, a2, a3⟩, .int .i64 v] w fun e w' => e = .returned (aggV ⟨plus ac 1, plus aS v, v, v, a0, a1, plus a2 1, a3⟩) ∧ Below w.heap.size w w' := by
  simp only [aggV, cellsA, I]
  have i1 : Hid (i64 1) := hide (by unfold i64; omega)
  go_enter Tryz.func84, Tryz.ntmps84
  go_wp2_with fail
  refine (ref_plus_any _ _ _ (unhide hA).count (unhide i1)).mono ?_
  rintro e w1 ⟨rfl, rfl⟩
  go_wp2_with fail
  refine (ref_plus_any _ _ _ (unhide hA).sum (unhide hv)).mono ?_
  rintro e w1 ⟨rfl, rfl⟩
  go_wp2_with fail
  refine (ref_bucket_any _ _).mono ?_
  rintro e w1 ⟨rfl, rfl⟩
  rw [unhide hb]
  go_wp2_with fail
  refine (ref_plus_any _ _ _ (unhide hA).h2 (unhide i1)).mono ?_
  rintro e w1 ⟨rfl, rfl⟩
  go_wp2_with fail
  refine bodyPost_ret (by simp [results, Tryz.results84, go_sem]; rfl) rfl ?_
  exact ⟨rfl, ((Below.refl _ _).alloc (Nat.le_refl _) _).alloc (by simp) _⟩
set_option maxHeartbeats 1000000 in
set_option maxRecDepth 100000 in
theorem rp_cn11_3 (ac aS amn amx a0 a1 a2 a3 v : Int) (w : World) (hb : Hid (bucket v = 3)) (hA : Hid (AggV.In ⟨ac, aS, amn, amx, a0, a1, a2, a3⟩)) (hv : Hid (i64 v)) (hc : ¬ ac = 0) (hm : v < amn) (hx : amx < v) :
    Calls Tryz.prog 84 #[aggV ⟨ac, aS, amn, amx, a0, a1, a2, a3⟩, .int .i64 v] w fun e w' => e = .returned (aggV ⟨plus ac 1, plus aS v, v, v, a0, a1, a2, plus a3 1⟩) ∧ Below w.heap.size w w' := by
  simp only [aggV, cellsA, I]
  have i1 : Hid (i64 1) := hide (by unfold i64; omega)
  go_enter Tryz.func84, Tryz.ntmps84
  go_wp2_with fail
  refine (ref_plus_any _ _ _ (unhide hA).count (unhide i1)).mono ?_
  rintro e w1 ⟨rfl, rfl⟩
  go_wp2_with fail
  refine (ref_plus_any _ _ _ (unhide hA).sum (unhide hv)).mono ?_
  rintro e w1 ⟨rfl, rfl⟩
  go_wp2_with fail
  refine (ref_bucket_any _ _).mono ?_
  rintro e w1 ⟨rfl, rfl⟩
  rw [unhide hb]
  go_wp2_with fail
  refine (ref_plus_any _ _ _ (unhide hA).h3 (unhide i1)).mono ?_
  rintro e w1 ⟨rfl, rfl⟩
  go_wp2_with fail
  refine bodyPost_ret (by simp [results, Tryz.results84, go_sem]; rfl) rfl ?_
  exact ⟨rfl, ((Below.refl _ _).alloc (Nat.le_refl _) _).alloc (by simp) _⟩
theorem put_form (ac aS amn amx a0 a1 a2 a3 v : Int) (hA : AggV.In ⟨ac, aS, amn, amx, a0, a1, a2, a3⟩) : put ⟨ac, aS, amn, amx, a0, a1, a2, a3⟩ v = ⟨plus ac 1, plus aS v, if ac = 0 ∨ v < amn then v else amn, if ac = 0 ∨ amx < v then v else amx, if bucket v = 0 then plus a0 1 else a0, if bucket v = 1 then plus a1 1 else a1, if bucket v = 2 then plus a2 1 else a2, if bucket v = 3 then plus a3 1 else a3⟩ := by
  have h0 := plus_zero hA.h0; have h1 := plus_zero hA.h1; have h2 := plus_zero hA.h2; have h3 := plus_zero hA.h3
  simp only at h0 h1 h2 h3
  have hm : least ⟨ac, aS, amn, amx, a0, a1, a2, a3⟩ (one v) = if ac = 0 ∨ v < amn then v else amn := by
    unfold least one; simp only
    by_cases h : ac = 0
    · simp [h]
    · simp only [h, if_false, false_or]; rw [if_neg (by omega)]; split <;> omega
  have hx : great ⟨ac, aS, amn, amx, a0, a1, a2, a3⟩ (one v) = if ac = 0 ∨ amx < v then v else amx := by
    unfold great one; simp only
    by_cases h : ac = 0
    · simp [h]
    · simp only [h, if_false, false_or]; rw [if_neg (by omega)]; split <;> omega
  unfold put join
  rw [hm, hx]
  simp only [one, at1]
  congr 1
  · split <;> simp [*]
  · split <;> simp [*]
  · split <;> simp [*]
  · split <;> simp [*]
set_option maxRecDepth 100000 in
theorem ref_put_any (a : AggV) (v : Int) (w : World) (ha : a.In) (hv : i64 v) :
    Calls Tryz.prog 84 #[aggV a, .int .i64 v] w fun e w' => e = .returned (aggV (put a v)) ∧ Below w.heap.size w w' := by
  obtain ⟨ac, aS, amn, amx, a0, a1, a2, a3⟩ := a
  rw [put_form ac aS amn amx a0 a1 a2 a3 v ha]
  have hb : bucket v = 0 ∨ bucket v = 1 ∨ bucket v = 2 ∨ bucket v = 3 := by have := bucket_le v; omega
  have HA := hide ha
  have HV := hide hv
  by_cases hc : ac = 0
  · rcases hb with hb | hb | hb | hb
    · simpa [hc, hb] using rp_c0_0 ac aS amn amx a0 a1 a2 a3 v w (hide hb) HA HV hc
    · simpa [hc, hb] using rp_c0_1 ac aS amn amx a0 a1 a2 a3 v w (hide hb) HA HV hc
    · simpa [hc, hb] using rp_c0_2 ac aS amn amx a0 a1 a2 a3 v w (hide hb) HA HV hc
    · simpa [hc, hb] using rp_c0_3 ac aS amn amx a0 a1 a2 a3 v w (hide hb) HA HV hc
  · by_cases hm : v < amn
    · by_cases hx : amx < v
      · rcases hb with hb | hb | hb | hb
        · simpa [hc, hm, hx, hb] using rp_cn11_0 ac aS amn amx a0 a1 a2 a3 v w (hide hb) HA HV hc hm hx
        · simpa [hc, hm, hx, hb] using rp_cn11_1 ac aS amn amx a0 a1 a2 a3 v w (hide hb) HA HV hc hm hx
        · simpa [hc, hm, hx, hb] using rp_cn11_2 ac aS amn amx a0 a1 a2 a3 v w (hide hb) HA HV hc hm hx
        · simpa [hc, hm, hx, hb] using rp_cn11_3 ac aS amn amx a0 a1 a2 a3 v w (hide hb) HA HV hc hm hx
      · rcases hb with hb | hb | hb | hb
        · simpa [hc, hm, hx, hb] using rp_cn10_0 ac aS amn amx a0 a1 a2 a3 v w (hide hb) HA HV hc hm hx
        · simpa [hc, hm, hx, hb] using rp_cn10_1 ac aS amn amx a0 a1 a2 a3 v w (hide hb) HA HV hc hm hx
        · simpa [hc, hm, hx, hb] using rp_cn10_2 ac aS amn amx a0 a1 a2 a3 v w (hide hb) HA HV hc hm hx
        · simpa [hc, hm, hx, hb] using rp_cn10_3 ac aS amn amx a0 a1 a2 a3 v w (hide hb) HA HV hc hm hx
    · by_cases hx : amx < v
      · rcases hb with hb | hb | hb | hb
        · simpa [hc, hm, hx, hb] using rp_cn01_0 ac aS amn amx a0 a1 a2 a3 v w (hide hb) HA HV hc hm hx
        · simpa [hc, hm, hx, hb] using rp_cn01_1 ac aS amn amx a0 a1 a2 a3 v w (hide hb) HA HV hc hm hx
        · simpa [hc, hm, hx, hb] using rp_cn01_2 ac aS amn amx a0 a1 a2 a3 v w (hide hb) HA HV hc hm hx
        · simpa [hc, hm, hx, hb] using rp_cn01_3 ac aS amn amx a0 a1 a2 a3 v w (hide hb) HA HV hc hm hx
      · rcases hb with hb | hb | hb | hb
        · simpa [hc, hm, hx, hb] using rp_cn00_0 ac aS amn amx a0 a1 a2 a3 v w (hide hb) HA HV hc hm hx
        · simpa [hc, hm, hx, hb] using rp_cn00_1 ac aS amn amx a0 a1 a2 a3 v w (hide hb) HA HV hc hm hx
        · simpa [hc, hm, hx, hb] using rp_cn00_2 ac aS amn amx a0 a1 a2 a3 v w (hide hb) HA HV hc hm hx
        · simpa [hc, hm, hx, hb] using rp_cn00_3 ac aS amn amx a0 a1 a2 a3 v w (hide hb) HA HV hc hm hx
end Go.Proofs.YtigmhljaoicdbaaGreat

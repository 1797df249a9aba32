/- What the document's Join answers: the plain one; nothing that was there has turned. Conditions: all numbers are int64's. -/
import Derived.Test.YtiokfnkcjicheaaJoin
import Derived.Test.YtiokfnkcjicheaaRefA
namespace Go.Proofs.Ytiokfnkcjicheaa
open Go.RowKit

def partR (A B : AggV) (k : Nat) : AggV := ⟨plus A.count B.count, plus A.sum B.sum, least A B, great A B, if 0 < k then plus A.h0 B.h0 else A.h0, if 1 < k then plus A.h1 B.h1 else A.h1, if 2 < k then plus A.h2 B.h2 else A.h2, if 3 < k then plus A.h3 B.h3 else A.h3⟩
attribute [local go_sem ↓] Go.wp_at_zero Go.wp_at_succ
set_option maxHeartbeats 4000000 in
theorem ref_join_any (a b : AggV) (w : World) (ha : a.In) (hb : b.In) :
    Calls Try.prog 16 #[aggV a, aggV b] w fun e w' => e = .returned (aggV (join a b)) ∧ Below w.heap.size w w' := by
  obtain ⟨ac, aS, amn, amx, a0, a1, a2, a3⟩ := a
  obtain ⟨bc, bS, bmn, bmx, b0, b1, b2, b3⟩ := b
  obtain ⟨hac, haS, _, _, ha0, ha1, ha2, ha3⟩ := ha
  obtain ⟨hbc, hbS, _, _, hb0, hb1, hb2, hb3⟩ := hb
  simp only at hac haS ha0 ha1 ha2 ha3 hbc hbS hb0 hb1 hb2 hb3
  obtain ⟨R, hR⟩ : ∃ R, R = aggV (join ⟨ac, aS, amn, amx, a0, a1, a2, a3⟩ ⟨bc, bS, bmn, bmx, b0, b1, b2, b3⟩) := ⟨_, rfl⟩
  rw [← hR]
  have HR := hide hR
  clear hR
  obtain ⟨A, hA⟩ : ∃ A : AggV, A = ⟨ac, aS, amn, amx, a0, a1, a2, a3⟩ := ⟨_, rfl⟩
  obtain ⟨B, hB⟩ : ∃ B : AggV, B = ⟨bc, bS, bmn, bmx, b0, b1, b2, b3⟩ := ⟨_, rfl⟩
  have HA := hide hA
  have HB := hide hB
  obtain ⟨M1, hM1⟩ : ∃ M1, M1 = (if ac = 0 then bmn else if bc = 0 then amn else min amn bmn) := ⟨_, rfl⟩
  obtain ⟨X1, hX1⟩ : ∃ X1, X1 = (if ac = 0 then bmx else if bc = 0 then amx else max amx bmx) := ⟨_, rfl⟩
  have HM := hide hM1
  have HX := hide hX1
  have HM2 : Hid (least A B = if ac = 0 ∧ bc = 0 then 0 else M1) := hide (by
    rw [hA, hB, hM1]; unfold least; simp only
    by_cases h1 : ac = 0 <;> by_cases h2 : bc = 0 <;> simp [h1, h2])
  have HX2 : Hid (great A B = if ac = 0 ∧ bc = 0 then 0 else X1) := hide (by
    rw [hA, hB, hX1]; unfold great; simp only
    by_cases h1 : ac = 0 <;> by_cases h2 : bc = 0 <;> simp [h1, h2])
  clear hA hB hM1 hX1
  simp only [aggV, cellsA, I]
  go_enter Try.func16, Try.ntmps16
  go_upto_region 2 with fail
  go_cut [10] from 8 to 9 (fun s10 wx => s10 = .bool (ac == 0) ∧ wx = (((w.alloc (.cells #[.int .i64 ac, .int .i64 aS, .int .i64 amn, .int .i64 amx, .int .i64 a0, .int .i64 a1, .int .i64 a2, .int .i64 a3] 24)).alloc (.cells #[.int .i64 bc, .int .i64 bS, .int .i64 bmn, .int .i64 bmx, .int .i64 b0, .int .i64 b1, .int .i64 b2, .int .i64 b3] 24)).alloc (.cells #[.int .i64 0, .int .i64 0, .int .i64 0, .int .i64 0, .int .i64 0, .int .i64 0, .int .i64 0, .int .i64 0] 24)).alloc (.cells #[.int .i64 ac, .int .i64 aS, .int .i64 amn, .int .i64 amx, .int .i64 a0, .int .i64 a1, .int .i64 a2, .int .i64 a3] 24))
  case first =>
    go_wp2_with fail
    go_meet
    exact ⟨rfl, rfl⟩
  case rest =>
  obtain ⟨rfl, rfl⟩ := hcut
  refine ‹∀ (a : Act) (w : World), Code.wp Try.prog _ _ a w → _› _ _ ?_
  go_cut [] from 8 to 35 (fun wx => wx = (((w.alloc (.cells #[.int .i64 ac, .int .i64 aS, .int .i64 amn, .int .i64 amx, .int .i64 a0, .int .i64 a1, .int .i64 a2, .int .i64 a3] 24)).alloc (.cells #[.int .i64 bc, .int .i64 bS, .int .i64 bmn, .int .i64 bmx, .int .i64 b0, .int .i64 b1, .int .i64 b2, .int .i64 b3] 24)).alloc (.cells #[.int .i64 0, .int .i64 0, .int .i64 0, .int .i64 0, .int .i64 0, .int .i64 0, .int .i64 0, .int .i64 0] 24)).alloc (.cells #[.int .i64 ac, .int .i64 aS, .int .i64 M1, .int .i64 X1, .int .i64 a0, .int .i64 a1, .int .i64 a2, .int .i64 a3] 24))
  case first =>
    by_cases h1 : ac = 0
    · have e1 : M1 = bmn := by rw [unhide HM, if_pos h1]
      have e2 : X1 = bmx := by rw [unhide HX, if_pos h1]
      subst h1
      have E1 := hide e1
      have E2 := hide e2
      clear e1 e2
      go_wp2_with fail
      go_meet
      (rw [unhide E1, unhide E2]; first | done | rfl)
    · by_cases h2 : bc = 0
      · have e1 : M1 = amn := by rw [unhide HM, if_neg h1, if_pos h2]
        have e2 : X1 = amx := by rw [unhide HX, if_neg h1, if_pos h2]
        subst h2
        have E1 := hide e1
        have E2 := hide e2
        clear e1 e2
        go_wp2_with fail
        go_meet
        (rw [unhide E1, unhide E2]; first | done | rfl)
      · rcases Int.lt_or_le bmn amn with h3 | h3
        · have e1 : M1 = bmn := by rw [unhide HM, if_neg h1, if_neg h2]; omega
          rcases Int.lt_or_le amx bmx with h4 | h4
          · have e2 : X1 = bmx := by rw [unhide HX, if_neg h1, if_neg h2]; omega
            have E1 := hide e1
            have E2 := hide e2
            clear e1 e2
            go_wp2_with fail
            go_meet
            (rw [unhide E1, unhide E2]; first | done | rfl)
          · have e2 : X1 = amx := by rw [unhide HX, if_neg h1, if_neg h2]; omega
            have h4' : ¬ amx < bmx := by omega
            have E1 := hide e1
            have E2 := hide e2
            clear e1 e2
            go_wp2_with fail
            go_meet
            (rw [unhide E1, unhide E2]; first | done | rfl)
        · have e1 : M1 = amn := by rw [unhide HM, if_neg h1, if_neg h2]; omega
          have h3' : ¬ bmn < amn := by omega
          rcases Int.lt_or_le amx bmx with h4 | h4
          · have e2 : X1 = bmx := by rw [unhide HX, if_neg h1, if_neg h2]; omega
            have E1 := hide e1
            have E2 := hide e2
            clear e1 e2
            go_wp2_with fail
            go_meet
            (rw [unhide E1, unhide E2]; first | done | rfl)
          · have e2 : X1 = amx := by rw [unhide HX, if_neg h1, if_neg h2]; omega
            have h4' : ¬ amx < bmx := by omega
            have E1 := hide e1
            have E2 := hide e2
            clear e1 e2
            go_wp2_with fail
            go_meet
            (rw [unhide E1, unhide E2]; first | done | rfl)
  case rest =>
  subst hcut
  go_upto_region 10 with fail
  obtain ⟨M2, hM2⟩ : ∃ M2, M2 = least A B := ⟨_, rfl⟩
  obtain ⟨X2, hX2⟩ : ∃ X2, X2 = great A B := ⟨_, rfl⟩
  have HM3 := hide hM2
  have HX3 := hide hX2
  clear hM2 hX2
  obtain ⟨q, hq⟩ : ∃ q, q = decide (ac = 0 ∧ bc = 0) := ⟨_, rfl⟩
  have HQ := hide hq
  clear hq
  go_cut [43] from 36 to 42 (fun s43 wx => s43 = .bool q ∧ wx = (((w.alloc (.cells #[.int .i64 ac, .int .i64 aS, .int .i64 amn, .int .i64 amx, .int .i64 a0, .int .i64 a1, .int .i64 a2, .int .i64 a3] 24)).alloc (.cells #[.int .i64 bc, .int .i64 bS, .int .i64 bmn, .int .i64 bmx, .int .i64 b0, .int .i64 b1, .int .i64 b2, .int .i64 b3] 24)).alloc (.cells #[.int .i64 0, .int .i64 0, .int .i64 0, .int .i64 0, .int .i64 0, .int .i64 0, .int .i64 0, .int .i64 0] 24)).alloc (.cells #[.int .i64 ac, .int .i64 aS, .int .i64 M1, .int .i64 X1, .int .i64 a0, .int .i64 a1, .int .i64 a2, .int .i64 a3] 24))
  case first =>
    by_cases h1 : ac = 0
    · subst h1
      by_cases h2 : bc = 0
      · subst h2
        have e : q = true := by rw [unhide HQ]; simp
        have E := hide e
        clear e
        go_wp2_with fail
        go_meet
        exact ⟨by rw [unhide E], rfl⟩
      · have e : q = false := by rw [unhide HQ]; simp [h2]
        have E := hide e
        clear e
        go_wp2_with fail
        go_meet
        exact ⟨by rw [unhide E, beq_false_of_ne h2], rfl⟩
    · have e : q = false := by rw [unhide HQ]; simp [h1]
      have E := hide e
      clear e
      go_wp2_with fail
      go_meet
      exact ⟨by rw [unhide E], rfl⟩
  case rest =>
  obtain ⟨rfl, rfl⟩ := hcut
  refine ‹∀ (a : Act) (w : World), Code.wp Try.prog _ _ a w → _› _ _ ?_
  go_cut [] from 36 to 45 (fun wx => wx = (((w.alloc (.cells #[.int .i64 ac, .int .i64 aS, .int .i64 amn, .int .i64 amx, .int .i64 a0, .int .i64 a1, .int .i64 a2, .int .i64 a3] 24)).alloc (.cells #[.int .i64 bc, .int .i64 bS, .int .i64 bmn, .int .i64 bmx, .int .i64 b0, .int .i64 b1, .int .i64 b2, .int .i64 b3] 24)).alloc (.cells #[.int .i64 0, .int .i64 0, .int .i64 0, .int .i64 0, .int .i64 0, .int .i64 0, .int .i64 0, .int .i64 0] 24)).alloc (.cells #[.int .i64 ac, .int .i64 aS, .int .i64 M2, .int .i64 X2, .int .i64 a0, .int .i64 a1, .int .i64 a2, .int .i64 a3] 24))
  case first =>
    cases q
    · have hn : ¬ (ac = 0 ∧ bc = 0) := by have h := unhide HQ; intro h2; rw [decide_eq_true h2] at h; cases h
      have e1 := hide (show M2 = M1 by rw [unhide HM3, unhide HM2, if_neg hn])
      have e2 := hide (show X2 = X1 by rw [unhide HX3, unhide HX2, if_neg hn])
      clear hn
      go_wp2_with fail
      go_meet
      (rw [unhide e1, unhide e2]; first | done | rfl)
    · have hn : ac = 0 ∧ bc = 0 := of_decide_eq_true (unhide HQ).symm
      have e1 := hide (show M2 = 0 by rw [unhide HM3, unhide HM2, if_pos hn])
      have e2 := hide (show X2 = 0 by rw [unhide HX3, unhide HX2, if_pos hn])
      clear hn
      go_wp2_with fail
      go_meet
      (rw [unhide e1, unhide e2]; first | done | rfl)
  case rest =>
  subst hcut
  clear HM HX HM2 HX2
  go_wp2_with fail
  refine (ref_plus_any _ _ _ hac hbc).mono ?_
  rintro e w1 ⟨rfl, rfl⟩
  go_wp2_with fail
  refine (ref_plus_any _ _ _ haS hbS).mono ?_
  rintro e w1 ⟨rfl, rfl⟩
  go_upto_region 15 with fail
  obtain ⟨H, hH⟩ : ∃ H, H = w.heap.size := ⟨_, rfl⟩
  have HH := hide hH
  obtain ⟨w3, hw3⟩ : ∃ w3, w3 = (((w.alloc (.cells #[.int .i64 ac, .int .i64 aS, .int .i64 amn, .int .i64 amx, .int .i64 a0, .int .i64 a1, .int .i64 a2, .int .i64 a3] 24)).alloc (.cells #[.int .i64 bc, .int .i64 bS, .int .i64 bmn, .int .i64 bmx, .int .i64 b0, .int .i64 b1, .int .i64 b2, .int .i64 b3] 24)).alloc (.cells #[.int .i64 0, .int .i64 0, .int .i64 0, .int .i64 0, .int .i64 0, .int .i64 0, .int .i64 0, .int .i64 0] 24)).alloc (.cells #[.int .i64 (plus ac bc), .int .i64 (plus aS bS), .int .i64 M2, .int .i64 X2, .int .i64 a0, .int .i64 a1, .int .i64 a2, .int .i64 a3] 24) := ⟨_, rfl⟩
  have R3 : Hid (RowAt w3 H (cellsA A) ∧ RowAt w3 (H + 1) (cellsA B) ∧ RowAt w3 (H + 2) (cellsA zero) ∧ RowAt w3 (H + 3) (cellsA (partR A B 0)) ∧ Below H w w3) := hide (by
    rw [hw3, hH]
    refine ⟨?_, ?_, ?_, ?_, ?_⟩
    · rw [unhide HA]; exact row_old (row_old (row_old (row_new w (cellsA ⟨ac, aS, amn, amx, a0, a1, a2, a3⟩) 24) _) _) _
    · rw [unhide HB]; exact row_old (row_old (row_new2 w (cellsA ⟨bc, bS, bmn, bmx, b0, b1, b2, b3⟩) (cellsA ⟨ac, aS, amn, amx, a0, a1, a2, a3⟩) 24 24) _) _
    · have h := row_new ((w.alloc (.cells #[.int .i64 ac, .int .i64 aS, .int .i64 amn, .int .i64 amx, .int .i64 a0, .int .i64 a1, .int .i64 a2, .int .i64 a3] 24)).alloc (.cells #[.int .i64 bc, .int .i64 bS, .int .i64 bmn, .int .i64 bmx, .int .i64 b0, .int .i64 b1, .int .i64 b2, .int .i64 b3] 24)) (cellsA zero) 24
      have e : ((w.alloc (.cells #[.int .i64 ac, .int .i64 aS, .int .i64 amn, .int .i64 amx, .int .i64 a0, .int .i64 a1, .int .i64 a2, .int .i64 a3] 24)).alloc (.cells #[.int .i64 bc, .int .i64 bS, .int .i64 bmn, .int .i64 bmx, .int .i64 b0, .int .i64 b1, .int .i64 b2, .int .i64 b3] 24)).heap.size = w.heap.size + 2 := by simp
      rw [e] at h
      exact row_old h _
    · have h := row_new (((w.alloc (.cells #[.int .i64 ac, .int .i64 aS, .int .i64 amn, .int .i64 amx, .int .i64 a0, .int .i64 a1, .int .i64 a2, .int .i64 a3] 24)).alloc (.cells #[.int .i64 bc, .int .i64 bS, .int .i64 bmn, .int .i64 bmx, .int .i64 b0, .int .i64 b1, .int .i64 b2, .int .i64 b3] 24)).alloc (.cells #[.int .i64 0, .int .i64 0, .int .i64 0, .int .i64 0, .int .i64 0, .int .i64 0, .int .i64 0, .int .i64 0] 24)) (cellsA (partR A B 0)) 24
      have e : (((w.alloc (.cells #[.int .i64 ac, .int .i64 aS, .int .i64 amn, .int .i64 amx, .int .i64 a0, .int .i64 a1, .int .i64 a2, .int .i64 a3] 24)).alloc (.cells #[.int .i64 bc, .int .i64 bS, .int .i64 bmn, .int .i64 bmx, .int .i64 b0, .int .i64 b1, .int .i64 b2, .int .i64 b3] 24)).alloc (.cells #[.int .i64 0, .int .i64 0, .int .i64 0, .int .i64 0, .int .i64 0, .int .i64 0, .int .i64 0, .int .i64 0] 24)).heap.size = w.heap.size + 3 := by simp
      rw [e] at h
      have e2 : (cellsA (partR A B 0)).toArray = #[.int .i64 (plus ac bc), .int .i64 (plus aS bS), .int .i64 M2, .int .i64 X2, .int .i64 a0, .int .i64 a1, .int .i64 a2, .int .i64 a3] := by rw [unhide HM3, unhide HX3, unhide HA, unhide HB]; rfl
      rw [← e2]
      exact h
    · exact ((((Below.refl _ _).alloc (Nat.le_refl _) _).alloc (by simp) _).alloc (by simp; omega) _).alloc (by simp; omega) _)
  have Hw3 := hide hw3
  clear hw3 hH
  rw [← unhide HH, ← unhide Hw3]
  rw [show H + 1 + 1 + 1 = H + 3 from rfl, show H + 1 + 1 = H + 2 from rfl]
  clear Hw3
  go_wp2_with fail
  go_loopw [6] (fun i wr => ∃ k : Nat, k ≤ 4 ∧ i = .int .i64 k ∧ RowAt wr H (cellsA A) ∧ RowAt wr (H + 1) (cellsA B) ∧ RowAt wr (H + 2) (cellsA zero) ∧ RowAt wr (H + 3) (cellsA (partR A B k)) ∧ Below H w wr) (fun i _ => 4 - (intOf i).toNat)
  case atStart => exact ⟨0, by omega, rfl, unhide R3⟩
  case round =>
    obtain ⟨k, hk, rfl, ra, rb, rr, rc, hbl⟩ := hrel
    have RA4 := hide ra
    have RB4 := hide rb
    have RR4 := hide rr
    have RC4 := hide rc
    have BL4 := hide hbl
    clear ra rb rr rc hbl R3
    rcases (by omega : k = 0 ∨ k = 1 ∨ k = 2 ∨ k = 3 ∨ k = 4) with rfl | rfl | rfl | rfl | rfl
    · have ca : wr.cell? ⟨H, 4, none⟩ = some (.int .i64 a0) := by have h := (unhide RA4).cell 4 (show 4 < 8 by decide); rw [unhide HA] at h; exact h
      have cb : wr.cell? ⟨H + 1, 4, none⟩ = some (.int .i64 b0) := by have h := (unhide RB4).cell 4 (show 4 < 8 by decide); rw [unhide HB] at h; exact h
      have cc : wr.cell? ⟨H + 3, 4, none⟩ = some (.int .i64 a0) := by have h := (unhide RC4).cell 4 (show 4 < 8 by decide); rw [unhide HA] at h; exact h
      have fc : wr.frozen? ⟨H + 3, 4, none⟩ = false := (unhide RC4).free 4 (show 4 < 8 by decide)
      have HP : Hid (∀ wq, wq = (wr.setCell ⟨H + 3, 4, none⟩ (.int .i64 (plus a0 b0))).drew → RowAt wq H (cellsA A) ∧ RowAt wq (H + 1) (cellsA B) ∧ RowAt wq (H + 2) (cellsA zero) ∧ RowAt wq (H + 3) (cellsA (partR A B 1)) ∧ Below H w wq) := hide (by
        rintro wq rfl
        have m : Moved (fun i => i = H + 3) wr (wr.setCell ⟨H + 3, 4, none⟩ (.int .i64 (plus a0 b0))).drew := (moved_set _ _ _ _).drew
        refine ⟨(unhide RA4).keep m (by omega), (unhide RB4).keep m (by omega), (unhide RR4).keep m (by omega), ?_, ((unhide BL4).setCell (show H ≤ H + 3 by omega) _).drew⟩
        have h := ((unhide RC4).set 4 (show 4 < 8 by decide) (.int .i64 (plus a0 b0))).keep (Moved.refl (fun _ => False) _).drew id
        have e : (cellsA (partR A B 0)).set 4 (.int .i64 (plus a0 b0)) = cellsA (partR A B 1) := by rw [unhide HA, unhide HB]; rfl
        rw [e] at h; exact h)
      go_upto_region 18 with fail
      go_region_held3 (fun w' => w'.cell? ⟨H, 4, none⟩ = some (.int .i64 a0) ∧ w'.cell? ⟨H + 1, 4, none⟩ = some (.int .i64 b0)) (go_keep)
        (first | (go_at_call 10; refine (ref_plus_any _ _ _ (by assumption) (by assumption)).mono ?_; rintro e w' ⟨rfl, rfl⟩))
      all_goals
        clear ca cb cc fc
        go_wp2_with fail
        go_roundw
        case rel => exact ⟨1, by omega, by go_num, unhide HP _ rfl⟩
        case measure => simp [intOf]
    · have ca : wr.cell? ⟨H, 5, none⟩ = some (.int .i64 a1) := by have h := (unhide RA4).cell 5 (show 5 < 8 by decide); rw [unhide HA] at h; exact h
      have cb : wr.cell? ⟨H + 1, 5, none⟩ = some (.int .i64 b1) := by have h := (unhide RB4).cell 5 (show 5 < 8 by decide); rw [unhide HB] at h; exact h
      have cc : wr.cell? ⟨H + 3, 5, none⟩ = some (.int .i64 a1) := by have h := (unhide RC4).cell 5 (show 5 < 8 by decide); rw [unhide HA] at h; exact h
      have fc : wr.frozen? ⟨H + 3, 5, none⟩ = false := (unhide RC4).free 5 (show 5 < 8 by decide)
      have HP : Hid (∀ wq, wq = (wr.setCell ⟨H + 3, 5, none⟩ (.int .i64 (plus a1 b1))).drew → RowAt wq H (cellsA A) ∧ RowAt wq (H + 1) (cellsA B) ∧ RowAt wq (H + 2) (cellsA zero) ∧ RowAt wq (H + 3) (cellsA (partR A B 2)) ∧ Below H w wq) := hide (by
        rintro wq rfl
        have m : Moved (fun i => i = H + 3) wr (wr.setCell ⟨H + 3, 5, none⟩ (.int .i64 (plus a1 b1))).drew := (moved_set _ _ _ _).drew
        refine ⟨(unhide RA4).keep m (by omega), (unhide RB4).keep m (by omega), (unhide RR4).keep m (by omega), ?_, ((unhide BL4).setCell (show H ≤ H + 3 by omega) _).drew⟩
        have h := ((unhide RC4).set 5 (show 5 < 8 by decide) (.int .i64 (plus a1 b1))).keep (Moved.refl (fun _ => False) _).drew id
        have e : (cellsA (partR A B 1)).set 5 (.int .i64 (plus a1 b1)) = cellsA (partR A B 2) := by rw [unhide HA, unhide HB]; rfl
        rw [e] at h; exact h)
      go_upto_region 18 with fail
      go_region_held3 (fun w' => w'.cell? ⟨H, 5, none⟩ = some (.int .i64 a1) ∧ w'.cell? ⟨H + 1, 5, none⟩ = some (.int .i64 b1)) (go_keep)
        (first | (go_at_call 10; refine (ref_plus_any _ _ _ (by assumption) (by assumption)).mono ?_; rintro e w' ⟨rfl, rfl⟩))
      all_goals
        clear ca cb cc fc
        go_wp2_with fail
        go_roundw
        case rel => exact ⟨2, by omega, by go_num, unhide HP _ rfl⟩
        case measure => simp [intOf]
    · have ca : wr.cell? ⟨H, 6, none⟩ = some (.int .i64 a2) := by have h := (unhide RA4).cell 6 (show 6 < 8 by decide); rw [unhide HA] at h; exact h
      have cb : wr.cell? ⟨H + 1, 6, none⟩ = some (.int .i64 b2) := by have h := (unhide RB4).cell 6 (show 6 < 8 by decide); rw [unhide HB] at h; exact h
      have cc : wr.cell? ⟨H + 3, 6, none⟩ = some (.int .i64 a2) := by have h := (unhide RC4).cell 6 (show 6 < 8 by decide); rw [unhide HA] at h; exact h
      have fc : wr.frozen? ⟨H + 3, 6, none⟩ = false := (unhide RC4).free 6 (show 6 < 8 by decide)
      have HP : Hid (∀ wq, wq = (wr.setCell ⟨H + 3, 6, none⟩ (.int .i64 (plus a2 b2))).drew → RowAt wq H (cellsA A) ∧ RowAt wq (H + 1) (cellsA B) ∧ RowAt wq (H + 2) (cellsA zero) ∧ RowAt wq (H + 3) (cellsA (partR A B 3)) ∧ Below H w wq) := hide (by
        rintro wq rfl
        have m : Moved (fun i => i = H + 3) wr (wr.setCell ⟨H + 3, 6, none⟩ (.int .i64 (plus a2 b2))).drew := (moved_set _ _ _ _).drew
        refine ⟨(unhide RA4).keep m (by omega), (unhide RB4).keep m (by omega), (unhide RR4).keep m (by omega), ?_, ((unhide BL4).setCell (show H ≤ H + 3 by omega) _).drew⟩
        have h := ((unhide RC4).set 6 (show 6 < 8 by decide) (.int .i64 (plus a2 b2))).keep (Moved.refl (fun _ => False) _).drew id
        have e : (cellsA (partR A B 2)).set 6 (.int .i64 (plus a2 b2)) = cellsA (partR A B 3) := by rw [unhide HA, unhide HB]; rfl
        rw [e] at h; exact h)
      go_upto_region 18 with fail
      go_region_held3 (fun w' => w'.cell? ⟨H, 6, none⟩ = some (.int .i64 a2) ∧ w'.cell? ⟨H + 1, 6, none⟩ = some (.int .i64 b2)) (go_keep)
        (first | (go_at_call 10; refine (ref_plus_any _ _ _ (by assumption) (by assumption)).mono ?_; rintro e w' ⟨rfl, rfl⟩))
      all_goals
        clear ca cb cc fc
        go_wp2_with fail
        go_roundw
        case rel => exact ⟨3, by omega, by go_num, unhide HP _ rfl⟩
        case measure => simp [intOf]
    · have ca : wr.cell? ⟨H, 7, none⟩ = some (.int .i64 a3) := by have h := (unhide RA4).cell 7 (show 7 < 8 by decide); rw [unhide HA] at h; exact h
      have cb : wr.cell? ⟨H + 1, 7, none⟩ = some (.int .i64 b3) := by have h := (unhide RB4).cell 7 (show 7 < 8 by decide); rw [unhide HB] at h; exact h
      have cc : wr.cell? ⟨H + 3, 7, none⟩ = some (.int .i64 a3) := by have h := (unhide RC4).cell 7 (show 7 < 8 by decide); rw [unhide HA] at h; exact h
      have fc : wr.frozen? ⟨H + 3, 7, none⟩ = false := (unhide RC4).free 7 (show 7 < 8 by decide)
      have HP : Hid (∀ wq, wq = (wr.setCell ⟨H + 3, 7, none⟩ (.int .i64 (plus a3 b3))).drew → RowAt wq H (cellsA A) ∧ RowAt wq (H + 1) (cellsA B) ∧ RowAt wq (H + 2) (cellsA zero) ∧ RowAt wq (H + 3) (cellsA (partR A B 4)) ∧ Below H w wq) := hide (by
        rintro wq rfl
        have m : Moved (fun i => i = H + 3) wr (wr.setCell ⟨H + 3, 7, none⟩ (.int .i64 (plus a3 b3))).drew := (moved_set _ _ _ _).drew
        refine ⟨(unhide RA4).keep m (by omega), (unhide RB4).keep m (by omega), (unhide RR4).keep m (by omega), ?_, ((unhide BL4).setCell (show H ≤ H + 3 by omega) _).drew⟩
        have h := ((unhide RC4).set 7 (show 7 < 8 by decide) (.int .i64 (plus a3 b3))).keep (Moved.refl (fun _ => False) _).drew id
        have e : (cellsA (partR A B 3)).set 7 (.int .i64 (plus a3 b3)) = cellsA (partR A B 4) := by rw [unhide HA, unhide HB]; rfl
        rw [e] at h; exact h)
      go_upto_region 18 with fail
      go_region_held3 (fun w' => w'.cell? ⟨H, 7, none⟩ = some (.int .i64 a3) ∧ w'.cell? ⟨H + 1, 7, none⟩ = some (.int .i64 b3)) (go_keep)
        (first | (go_at_call 10; refine (ref_plus_any _ _ _ (by assumption) (by assumption)).mono ?_; rintro e w' ⟨rfl, rfl⟩))
      all_goals
        clear ca cb cc fc
        go_wp2_with fail
        go_roundw
        case rel => exact ⟨4, by omega, by go_num, unhide HP _ rfl⟩
        case measure => simp [intOf]
    · go_upto_region 19 with fail
      have hrg := (unhide RC4).range
      have hth := (unhide RR4).there
      go_step
      refine wpList_load_mid rfl 24 (.tmp 5) rfl (H + 3) 0 rfl (cellsA (partR A B 4)) _ hrg Try.underlying24 rfl (by kernel_rfl) ?_
      refine wpList_store_mid rfl 24 (.tmp 4) (.tmp 74) rfl (H + 2) 0 (cellsA (partR A B 4)).toArray rfl rfl hth (by kernel_rfl) (by simp [Value.oneCell', cellsA, I]) ?_
      clear hrg hth
      have RF := (unhide RR4).put (cellsA (partR A B 4)) rfl
      have BF := hide ((unhide BL4).trans ((setCells_moved wr (H + 2) 0 (cellsA (partR A B 4))).below (B := H) (fun i hi => by omega) (by have := (unhide RC4).lt; omega)))
      change wpList _ _ _ _ _ (wr.setCells (H + 2) 0 (cellsA (partR A B 4)))
      generalize wr.setCells (H + 2) 0 (cellsA (partR A B 4)) = wf at *
      go_wp2_with fail
      have hfr := RF.range
      clear RF
      refine bodyPost_ret (v := aggV (join A B)) ?_ rfl ?_
      · exact results_cell_mid Try.results16 _ wf (H + 2) _ _ rfl hfr Try.underlying24 rfl (by kernel_rfl)
      · refine ⟨by rw [unhide HR, unhide HA, unhide HB], ?_⟩
        have h := unhide BF
        rw [unhide HH] at h; exact h
end Go.Proofs.Ytiokfnkcjicheaa

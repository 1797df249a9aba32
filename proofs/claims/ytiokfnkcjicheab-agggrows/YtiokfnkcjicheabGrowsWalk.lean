/- What AggGrows does, for any input: it answers true, and nothing that was there has turned. No conditions. -/
import Derived.Test.YtiokfnkcjicheabAwake
import Derived.Test.YtiokfnkcjicheabArgs
namespace Go.Proofs.Ytiokfnkcjicheab
open Go.RowKit

theorem put_form (ac aS amn amx a0 a1 a2 a3 v : Int) (hA : AggV.In ⟨ac, aS, amn, amx, a0, a1, a2, a3⟩) : put ⟨ac, aS, amn, amx, a0, a1, a2, a3⟩ v = ⟨plus ac 1, plus aS v, if ac = 0 ∨ v < amn then v else amn, if ac = 0 ∨ amx < v then v else amx, if bucket v = 0 then plus a0 1 else a0, if bucket v = 1 then plus a1 1 else a1, if bucket v = 2 then plus a2 1 else a2, if bucket v = 3 then plus a3 1 else a3⟩ := by
  have h0 := plus_zero hA.h0; have h1 := plus_zero hA.h1; have h2 := plus_zero hA.h2; have h3 := plus_zero hA.h3
  simp only at h0 h1 h2 h3
  have hm : least ⟨ac, aS, amn, amx, a0, a1, a2, a3⟩ (one v) = if ac = 0 ∨ v < amn then v else amn := by
    unfold least one; simp only
    by_cases h : ac = 0
    · simp [h]
    · simp only [h, if_false, false_or]; rw [if_neg (by omega)]; split <;> omega
  have hx : great ⟨ac, aS, amn, amx, a0, a1, a2, a3⟩ (one v) = if ac = 0 ∨ amx < v then v else amx := by
    unfold great one; simp only
    by_cases h : ac = 0
    · simp [h]
    · simp only [h, if_false, false_or]; rw [if_neg (by omega)]; split <;> omega
  unfold put join
  rw [hm, hx]
  simp only [one, at1]
  congr 1
  · split <;> simp [*]
  · split <;> simp [*]
  · split <;> simp [*]
  · split <;> simp [*]

set_option maxHeartbeats 8000000 in
theorem grows_0 (a : Option Addr) (cap : Nat) (xs : List Int) (v : Int) (w : World) (ac aS amn amx a0 a1 a2 a3 bc bS bmn bmx hb : Int)
    (hI : Hid (Ints w a xs)) (hall : Hid (∀ u ∈ xs, i64 u)) (hmax : Hid (xs.length ≤ maxLen)) (hn : ¬ (300 : Int) < (xs.length : Int)) (hv : Hid (i64 v)) (hOf : Hid (of xs = ⟨ac, aS, amn, amx, a0, a1, a2, a3⟩)) (hA : Hid (AggV.In ⟨ac, aS, amn, amx, a0, a1, a2, a3⟩))
    (hPut : Hid (put ⟨ac, aS, amn, amx, a0, a1, a2, a3⟩ v = ⟨bc, bS, bmn, bmx, hb, a1, a2, a3⟩)) (hB : Hid (bucket v = 0)) (hc : IntKind.i64.wrap (ac + 1) = bc) (h1 : ¬ v < bmn) (h2 : ¬ bmx < v) (h3 : 0 < ac → ¬ amn < bmn) (h4 : 0 < ac → ¬ bmx < amx) (h5 : Hid (plus aS v = bS))
    (h6 : IntKind.i64.wrap (a0 + 1) = hb) (h7 : Hid (bmn = v ∨ (0 < ac ∧ bmn = amn))) (h8 : Hid (bmx = v ∨ (0 < ac ∧ bmx = amx))) :
    Calls Try.prog 3 #[.slice a xs.length cap, .int .i64 v] w fun e w' => e = .returned (.bool true) ∧ Below w.heap.size w w' := by
  have H3 := hide h3
  have H4 := hide h4
  clear h3 h4
  obtain ⟨n, hN⟩ : ∃ n, n = xs.length := ⟨_, rfl⟩
  have HN := hide hN
  rw [← hN] at hn ⊢
  have hn' : n ≤ 2 ^ 63 - 1 := by rw [hN]; exact unhide hmax
  clear hN
  go_enter Try.func3, Try.ntmps3
  go_wp2_with fail
  rw [unhide HN]
  refine (of_any a cap xs _ (unhide hI) (unhide hall) (unhide hmax)).mono ?_
  rintro e w1 ⟨rfl, hb1⟩
  rw [unhide hOf, ← unhide HN]
  simp only [aggV, cellsA, I]
  have BL := hide hb1
  clear hb1
  go_wp2_with fail
  refine (put_any ⟨ac, aS, amn, amx, a0, a1, a2, a3⟩ v _ (unhide hA) (unhide hv)).mono ?_
  rintro e w2 ⟨rfl, hb2⟩
  rw [unhide hPut]
  simp only [aggV, cellsA, I]
  obtain ⟨B1, hB1⟩ : ∃ B, B = w1.heap.size := ⟨_, rfl⟩
  have RA : Hid (RowAt w2 B1 (cellsA ⟨ac, aS, amn, amx, a0, a1, a2, a3⟩)) := hide (by rw [hB1]; exact (row_new w1 (cellsA ⟨ac, aS, amn, amx, a0, a1, a2, a3⟩) 26).keep (Moved.of_below (F := fun _ => False) hb2) id)
  have BL := hide (((unhide BL).alloc (unhide BL).size (.cells #[.int .i64 ac, .int .i64 aS, .int .i64 amn, .int .i64 amx, .int .i64 a0, .int .i64 a1, .int .i64 a2, .int .i64 a3] 26)).trans (hb2.mono (by have := (unhide BL).size; simp; omega)))
  rw [← hB1]
  clear hb2 hB1
  go_wp2_with fail
  refine (bucket_any _ _).mono ?_
  rintro e w3 ⟨rfl, rfl⟩
  rw [unhide hB]
  go_upto_region 6 with fail
  obtain ⟨B2, hB2⟩ : ∃ B, B = w2.heap.size := ⟨_, rfl⟩
  obtain ⟨w4, hw4⟩ : ∃ w4, w4 = w2.alloc (.cells #[.int .i64 bc, .int .i64 bS, .int .i64 bmn, .int .i64 bmx, .int .i64 hb, .int .i64 a1, .int .i64 a2, .int .i64 a3] 26) := ⟨_, rfl⟩
  have RA := hide (show RowAt w4 B1 (cellsA ⟨ac, aS, amn, amx, a0, a1, a2, a3⟩) by rw [hw4]; exact row_old (unhide RA) _)
  have RB := hide (show RowAt w4 B2 (cellsA ⟨bc, bS, bmn, bmx, hb, a1, a2, a3⟩) by rw [hw4, hB2]; exact row_new w2 (cellsA ⟨bc, bS, bmn, bmx, hb, a1, a2, a3⟩) 26)
  have BL := hide (show Below w.heap.size w w4 by rw [hw4]; exact (unhide BL).alloc (unhide BL).size _)
  rw [← hB2, ← hw4]
  clear hB2 hw4
  obtain ⟨St, hSt⟩ : ∃ St : World → Prop, St = fun w' => RowAt w' B1 (cellsA ⟨ac, aS, amn, amx, a0, a1, a2, a3⟩) ∧ RowAt w' B2 (cellsA ⟨bc, bS, bmn, bmx, hb, a1, a2, a3⟩) ∧ Below w.heap.size w w' := ⟨_, rfl⟩
  have Hst := hide hSt
  have st : St w4.drew := by rw [hSt]; exact ⟨(unhide RA).keep (Moved.refl (fun _ => False) _).drew id, (unhide RB).keep (Moved.refl (fun _ => False) _).drew id, (unhide BL).drew⟩
  have s8 : Hid (∀ p : SW St, Calls Try.prog 8 #[.int .i64 aS, .int .i64 v] p.w fun e w' => e = .returned (.int .i64 bS) ∧ ∃ q : SW St, w' = q.w) := hide (fun ⟨p, hp⟩ => (plus_any aS v p (unhide hA).sum (unhide hv)).mono (by
    rintro e w' ⟨rfl, hb⟩; exact ⟨by rw [unhide h5], ⟨p, hp⟩, hb⟩))
  have p0 : ∀ p : SW St, p.w.cell? ⟨B1, 0, none⟩ = some (.int .i64 ac) := by rintro ⟨p, hp⟩; rw [hSt] at hp; exact hp.1.cell 0 (show 0 < 8 by decide)
  have p1 : ∀ p : SW St, p.w.cell? ⟨B1, 1, none⟩ = some (.int .i64 aS) := by rintro ⟨p, hp⟩; rw [hSt] at hp; exact hp.1.cell 1 (show 1 < 8 by decide)
  have p2 : ∀ p : SW St, p.w.cell? ⟨B1, 2, none⟩ = some (.int .i64 amn) := by rintro ⟨p, hp⟩; rw [hSt] at hp; exact hp.1.cell 2 (show 2 < 8 by decide)
  have p3 : ∀ p : SW St, p.w.cell? ⟨B1, 3, none⟩ = some (.int .i64 amx) := by rintro ⟨p, hp⟩; rw [hSt] at hp; exact hp.1.cell 3 (show 3 < 8 by decide)
  have q0 : ∀ p : SW St, p.w.cell? ⟨B2, 0, none⟩ = some (.int .i64 bc) := by rintro ⟨p, hp⟩; rw [hSt] at hp; exact hp.2.1.cell 0 (show 0 < 8 by decide)
  have q1 : ∀ p : SW St, p.w.cell? ⟨B2, 1, none⟩ = some (.int .i64 bS) := by rintro ⟨p, hp⟩; rw [hSt] at hp; exact hp.2.1.cell 1 (show 1 < 8 by decide)
  have q2 : ∀ p : SW St, p.w.cell? ⟨B2, 2, none⟩ = some (.int .i64 bmn) := by rintro ⟨p, hp⟩; rw [hSt] at hp; exact hp.2.1.cell 2 (show 2 < 8 by decide)
  have q3 : ∀ p : SW St, p.w.cell? ⟨B2, 3, none⟩ = some (.int .i64 bmx) := by rintro ⟨p, hp⟩; rw [hSt] at hp; exact hp.2.1.cell 3 (show 3 < 8 by decide)
  have ne : Nonempty (SW St) := ⟨⟨_, st⟩⟩
  clear hSt RA RB BL
  by_cases hp : 0 < ac
  all_goals
    have k1 : decide (v < bmn) = false := decide_eq_false (by omega)
    have k2 : decide (bmx < v) = false := decide_eq_false (by omega)
    first | (have k3 : decide (amn < bmn) = false := decide_eq_false (by have := unhide H3 hp; omega)) | skip
    first | (have k4 : decide (bmx < amx) = false := decide_eq_false (by have := unhide H4 hp; omega)) | skip
    first | (have k5 : decide (0 < ac) = true := decide_eq_true hp) | (have k5 : decide (0 < ac) = false := decide_eq_false hp)
    refine wp_region_sw (St := St) (by kernel_rfl) (by kernel_rfl) st ?_
    repeat (go_big_quiet_step (first | (go_at_call 8; exact unhide s8 _)))
    refine wpQuiet_nil ?_
    first | (rintro w9 ⟨⟨_, st9⟩, rfl⟩) | (rintro ⟨w9, st9⟩)
    try dsimp only
    try dsimp only at st9
    rw [unhide Hst] at st9
    have T := hide st9
    clear st9 p0 p1 p2 p3 q0 q1 q2 q3 ne st s8
    have pb : w9.cell? ⟨B1, 0, none⟩ = some (.int .i64 ac) := (unhide T).1.cell 0 (show 0 < 8 by decide)
    have pm : w9.cell? ⟨B1, 2, none⟩ = some (.int .i64 amn) := (unhide T).1.cell 2 (show 2 < 8 by decide)
    have px : w9.cell? ⟨B1, 3, none⟩ = some (.int .i64 amx) := (unhide T).1.cell 3 (show 3 < 8 by decide)
    have p4 : w9.cell? ⟨B1, 4, none⟩ = some (.int .i64 a0) := (unhide T).1.cell 4 (show 4 < 8 by decide)
    have p5 : w9.cell? ⟨B1, 5, none⟩ = some (.int .i64 a1) := (unhide T).1.cell 5 (show 5 < 8 by decide)
    have p6 : w9.cell? ⟨B1, 6, none⟩ = some (.int .i64 a2) := (unhide T).1.cell 6 (show 6 < 8 by decide)
    have p7 : w9.cell? ⟨B1, 7, none⟩ = some (.int .i64 a3) := (unhide T).1.cell 7 (show 7 < 8 by decide)
    have qm : w9.cell? ⟨B2, 2, none⟩ = some (.int .i64 bmn) := (unhide T).2.1.cell 2 (show 2 < 8 by decide)
    have qx : w9.cell? ⟨B2, 3, none⟩ = some (.int .i64 bmx) := (unhide T).2.1.cell 3 (show 3 < 8 by decide)
    have q4 : w9.cell? ⟨B2, 4, none⟩ = some (.int .i64 hb) := (unhide T).2.1.cell 4 (show 4 < 8 by decide)
    have q5 : w9.cell? ⟨B2, 5, none⟩ = some (.int .i64 a1) := (unhide T).2.1.cell 5 (show 5 < 8 by decide)
    have q6 : w9.cell? ⟨B2, 6, none⟩ = some (.int .i64 a2) := (unhide T).2.1.cell 6 (show 6 < 8 by decide)
    have q7 : w9.cell? ⟨B2, 7, none⟩ = some (.int .i64 a3) := (unhide T).2.1.cell 7 (show 7 < 8 by decide)
    go_wp2_with fail
    go_loop [8] (fun i => ∃ k : Nat, k ≤ 4 ∧ i = .int .i64 k) (fun i => 4 - (intOf i).toNat)
    case atStart => exact ⟨0, by omega, rfl⟩
    case round =>
    obtain ⟨k, hk, rfl⟩ := hrel
    rcases (by omega : k = 0 ∨ k = 1 ∨ k = 2 ∨ k = 3 ∨ k = 4) with rfl | rfl | rfl | rfl | rfl
    · go_wp2_with fail
      go_round
      case rel => exact ⟨1, by omega, by go_num⟩
      case measure => simp [intOf]
    · go_wp2_with fail
      go_round
      case rel => exact ⟨2, by omega, by go_num⟩
      case measure => simp [intOf]
    · go_wp2_with fail
      go_round
      case rel => exact ⟨3, by omega, by go_num⟩
      case measure => simp [intOf]
    · go_wp2_with fail
      go_round
      case rel => exact ⟨4, by omega, by go_num⟩
      case measure => simp [intOf]
    · have m1 : (bmn == v) = true ∨ ((bmn == v) = false ∧ 0 < ac ∧ (bmn == amn) = true) := by
        by_cases h : bmn = v
        · left; rw [h]; exact beq_self_eq_true _
        · right; rcases unhide h7 with h' | ⟨h', h''⟩
          · exact absurd h' h
          · exact ⟨beq_false_of_ne h, h', by rw [h'']; exact beq_self_eq_true _⟩
      have m2 : (bmx == v) = true ∨ ((bmx == v) = false ∧ 0 < ac ∧ (bmx == amx) = true) := by
        by_cases h : bmx = v
        · left; rw [h]; exact beq_self_eq_true _
        · right; rcases unhide h8 with h' | ⟨h', h''⟩
          · exact absurd h' h
          · exact ⟨beq_false_of_ne h, h', by rw [h'']; exact beq_self_eq_true _⟩
      rcases m1 with m1 | ⟨m1, m1', m1''⟩ <;> rcases m2 with m2 | ⟨m2, m2', m2''⟩
      all_goals try (exfalso; omega)
      all_goals
        go_wp2_with fail
        refine (awake_any _).mono ?_
        rintro e w5 ⟨rfl, hb5⟩
        have B := hide ((unhide T).2.2.trans (hb5.mono (unhide T).2.2.size))
        clear hb5
        go_wp2_with fail
        go_ret
        exact ⟨rfl, unhide B⟩

set_option maxHeartbeats 8000000 in
theorem grows_1 (a : Option Addr) (cap : Nat) (xs : List Int) (v : Int) (w : World) (ac aS amn amx a0 a1 a2 a3 bc bS bmn bmx hb : Int)
    (hI : Hid (Ints w a xs)) (hall : Hid (∀ u ∈ xs, i64 u)) (hmax : Hid (xs.length ≤ maxLen)) (hn : ¬ (300 : Int) < (xs.length : Int)) (hv : Hid (i64 v)) (hOf : Hid (of xs = ⟨ac, aS, amn, amx, a0, a1, a2, a3⟩)) (hA : Hid (AggV.In ⟨ac, aS, amn, amx, a0, a1, a2, a3⟩))
    (hPut : Hid (put ⟨ac, aS, amn, amx, a0, a1, a2, a3⟩ v = ⟨bc, bS, bmn, bmx, a0, hb, a2, a3⟩)) (hB : Hid (bucket v = 1)) (hc : IntKind.i64.wrap (ac + 1) = bc) (h1 : ¬ v < bmn) (h2 : ¬ bmx < v) (h3 : 0 < ac → ¬ amn < bmn) (h4 : 0 < ac → ¬ bmx < amx) (h5 : Hid (plus aS v = bS))
    (h6 : IntKind.i64.wrap (a1 + 1) = hb) (h7 : Hid (bmn = v ∨ (0 < ac ∧ bmn = amn))) (h8 : Hid (bmx = v ∨ (0 < ac ∧ bmx = amx))) :
    Calls Try.prog 3 #[.slice a xs.length cap, .int .i64 v] w fun e w' => e = .returned (.bool true) ∧ Below w.heap.size w w' := by
  have H3 := hide h3
  have H4 := hide h4
  clear h3 h4
  obtain ⟨n, hN⟩ : ∃ n, n = xs.length := ⟨_, rfl⟩
  have HN := hide hN
  rw [← hN] at hn ⊢
  have hn' : n ≤ 2 ^ 63 - 1 := by rw [hN]; exact unhide hmax
  clear hN
  go_enter Try.func3, Try.ntmps3
  go_wp2_with fail
  rw [unhide HN]
  refine (of_any a cap xs _ (unhide hI) (unhide hall) (unhide hmax)).mono ?_
  rintro e w1 ⟨rfl, hb1⟩
  rw [unhide hOf, ← unhide HN]
  simp only [aggV, cellsA, I]
  have BL := hide hb1
  clear hb1
  go_wp2_with fail
  refine (put_any ⟨ac, aS, amn, amx, a0, a1, a2, a3⟩ v _ (unhide hA) (unhide hv)).mono ?_
  rintro e w2 ⟨rfl, hb2⟩
  rw [unhide hPut]
  simp only [aggV, cellsA, I]
  obtain ⟨B1, hB1⟩ : ∃ B, B = w1.heap.size := ⟨_, rfl⟩
  have RA : Hid (RowAt w2 B1 (cellsA ⟨ac, aS, amn, amx, a0, a1, a2, a3⟩)) := hide (by rw [hB1]; exact (row_new w1 (cellsA ⟨ac, aS, amn, amx, a0, a1, a2, a3⟩) 26).keep (Moved.of_below (F := fun _ => False) hb2) id)
  have BL := hide (((unhide BL).alloc (unhide BL).size (.cells #[.int .i64 ac, .int .i64 aS, .int .i64 amn, .int .i64 amx, .int .i64 a0, .int .i64 a1, .int .i64 a2, .int .i64 a3] 26)).trans (hb2.mono (by have := (unhide BL).size; simp; omega)))
  rw [← hB1]
  clear hb2 hB1
  go_wp2_with fail
  refine (bucket_any _ _).mono ?_
  rintro e w3 ⟨rfl, rfl⟩
  rw [unhide hB]
  go_upto_region 6 with fail
  obtain ⟨B2, hB2⟩ : ∃ B, B = w2.heap.size := ⟨_, rfl⟩
  obtain ⟨w4, hw4⟩ : ∃ w4, w4 = w2.alloc (.cells #[.int .i64 bc, .int .i64 bS, .int .i64 bmn, .int .i64 bmx, .int .i64 a0, .int .i64 hb, .int .i64 a2, .int .i64 a3] 26) := ⟨_, rfl⟩
  have RA := hide (show RowAt w4 B1 (cellsA ⟨ac, aS, amn, amx, a0, a1, a2, a3⟩) by rw [hw4]; exact row_old (unhide RA) _)
  have RB := hide (show RowAt w4 B2 (cellsA ⟨bc, bS, bmn, bmx, a0, hb, a2, a3⟩) by rw [hw4, hB2]; exact row_new w2 (cellsA ⟨bc, bS, bmn, bmx, a0, hb, a2, a3⟩) 26)
  have BL := hide (show Below w.heap.size w w4 by rw [hw4]; exact (unhide BL).alloc (unhide BL).size _)
  rw [← hB2, ← hw4]
  clear hB2 hw4
  obtain ⟨St, hSt⟩ : ∃ St : World → Prop, St = fun w' => RowAt w' B1 (cellsA ⟨ac, aS, amn, amx, a0, a1, a2, a3⟩) ∧ RowAt w' B2 (cellsA ⟨bc, bS, bmn, bmx, a0, hb, a2, a3⟩) ∧ Below w.heap.size w w' := ⟨_, rfl⟩
  have Hst := hide hSt
  have st : St w4.drew := by rw [hSt]; exact ⟨(unhide RA).keep (Moved.refl (fun _ => False) _).drew id, (unhide RB).keep (Moved.refl (fun _ => False) _).drew id, (unhide BL).drew⟩
  have s8 : Hid (∀ p : SW St, Calls Try.prog 8 #[.int .i64 aS, .int .i64 v] p.w fun e w' => e = .returned (.int .i64 bS) ∧ ∃ q : SW St, w' = q.w) := hide (fun ⟨p, hp⟩ => (plus_any aS v p (unhide hA).sum (unhide hv)).mono (by
    rintro e w' ⟨rfl, hb⟩; exact ⟨by rw [unhide h5], ⟨p, hp⟩, hb⟩))
  have p0 : ∀ p : SW St, p.w.cell? ⟨B1, 0, none⟩ = some (.int .i64 ac) := by rintro ⟨p, hp⟩; rw [hSt] at hp; exact hp.1.cell 0 (show 0 < 8 by decide)
  have p1 : ∀ p : SW St, p.w.cell? ⟨B1, 1, none⟩ = some (.int .i64 aS) := by rintro ⟨p, hp⟩; rw [hSt] at hp; exact hp.1.cell 1 (show 1 < 8 by decide)
  have p2 : ∀ p : SW St, p.w.cell? ⟨B1, 2, none⟩ = some (.int .i64 amn) := by rintro ⟨p, hp⟩; rw [hSt] at hp; exact hp.1.cell 2 (show 2 < 8 by decide)
  have p3 : ∀ p : SW St, p.w.cell? ⟨B1, 3, none⟩ = some (.int .i64 amx) := by rintro ⟨p, hp⟩; rw [hSt] at hp; exact hp.1.cell 3 (show 3 < 8 by decide)
  have q0 : ∀ p : SW St, p.w.cell? ⟨B2, 0, none⟩ = some (.int .i64 bc) := by rintro ⟨p, hp⟩; rw [hSt] at hp; exact hp.2.1.cell 0 (show 0 < 8 by decide)
  have q1 : ∀ p : SW St, p.w.cell? ⟨B2, 1, none⟩ = some (.int .i64 bS) := by rintro ⟨p, hp⟩; rw [hSt] at hp; exact hp.2.1.cell 1 (show 1 < 8 by decide)
  have q2 : ∀ p : SW St, p.w.cell? ⟨B2, 2, none⟩ = some (.int .i64 bmn) := by rintro ⟨p, hp⟩; rw [hSt] at hp; exact hp.2.1.cell 2 (show 2 < 8 by decide)
  have q3 : ∀ p : SW St, p.w.cell? ⟨B2, 3, none⟩ = some (.int .i64 bmx) := by rintro ⟨p, hp⟩; rw [hSt] at hp; exact hp.2.1.cell 3 (show 3 < 8 by decide)
  have ne : Nonempty (SW St) := ⟨⟨_, st⟩⟩
  clear hSt RA RB BL
  by_cases hp : 0 < ac
  all_goals
    have k1 : decide (v < bmn) = false := decide_eq_false (by omega)
    have k2 : decide (bmx < v) = false := decide_eq_false (by omega)
    first | (have k3 : decide (amn < bmn) = false := decide_eq_false (by have := unhide H3 hp; omega)) | skip
    first | (have k4 : decide (bmx < amx) = false := decide_eq_false (by have := unhide H4 hp; omega)) | skip
    first | (have k5 : decide (0 < ac) = true := decide_eq_true hp) | (have k5 : decide (0 < ac) = false := decide_eq_false hp)
    refine wp_region_sw (St := St) (by kernel_rfl) (by kernel_rfl) st ?_
    repeat (go_big_quiet_step (first | (go_at_call 8; exact unhide s8 _)))
    refine wpQuiet_nil ?_
    first | (rintro w9 ⟨⟨_, st9⟩, rfl⟩) | (rintro ⟨w9, st9⟩)
    try dsimp only
    try dsimp only at st9
    rw [unhide Hst] at st9
    have T := hide st9
    clear st9 p0 p1 p2 p3 q0 q1 q2 q3 ne st s8
    have pb : w9.cell? ⟨B1, 0, none⟩ = some (.int .i64 ac) := (unhide T).1.cell 0 (show 0 < 8 by decide)
    have pm : w9.cell? ⟨B1, 2, none⟩ = some (.int .i64 amn) := (unhide T).1.cell 2 (show 2 < 8 by decide)
    have px : w9.cell? ⟨B1, 3, none⟩ = some (.int .i64 amx) := (unhide T).1.cell 3 (show 3 < 8 by decide)
    have p4 : w9.cell? ⟨B1, 4, none⟩ = some (.int .i64 a0) := (unhide T).1.cell 4 (show 4 < 8 by decide)
    have p5 : w9.cell? ⟨B1, 5, none⟩ = some (.int .i64 a1) := (unhide T).1.cell 5 (show 5 < 8 by decide)
    have p6 : w9.cell? ⟨B1, 6, none⟩ = some (.int .i64 a2) := (unhide T).1.cell 6 (show 6 < 8 by decide)
    have p7 : w9.cell? ⟨B1, 7, none⟩ = some (.int .i64 a3) := (unhide T).1.cell 7 (show 7 < 8 by decide)
    have qm : w9.cell? ⟨B2, 2, none⟩ = some (.int .i64 bmn) := (unhide T).2.1.cell 2 (show 2 < 8 by decide)
    have qx : w9.cell? ⟨B2, 3, none⟩ = some (.int .i64 bmx) := (unhide T).2.1.cell 3 (show 3 < 8 by decide)
    have q4 : w9.cell? ⟨B2, 4, none⟩ = some (.int .i64 a0) := (unhide T).2.1.cell 4 (show 4 < 8 by decide)
    have q5 : w9.cell? ⟨B2, 5, none⟩ = some (.int .i64 hb) := (unhide T).2.1.cell 5 (show 5 < 8 by decide)
    have q6 : w9.cell? ⟨B2, 6, none⟩ = some (.int .i64 a2) := (unhide T).2.1.cell 6 (show 6 < 8 by decide)
    have q7 : w9.cell? ⟨B2, 7, none⟩ = some (.int .i64 a3) := (unhide T).2.1.cell 7 (show 7 < 8 by decide)
    go_wp2_with fail
    go_loop [8] (fun i => ∃ k : Nat, k ≤ 4 ∧ i = .int .i64 k) (fun i => 4 - (intOf i).toNat)
    case atStart => exact ⟨0, by omega, rfl⟩
    case round =>
    obtain ⟨k, hk, rfl⟩ := hrel
    rcases (by omega : k = 0 ∨ k = 1 ∨ k = 2 ∨ k = 3 ∨ k = 4) with rfl | rfl | rfl | rfl | rfl
    · go_wp2_with fail
      go_round
      case rel => exact ⟨1, by omega, by go_num⟩
      case measure => simp [intOf]
    · go_wp2_with fail
      go_round
      case rel => exact ⟨2, by omega, by go_num⟩
      case measure => simp [intOf]
    · go_wp2_with fail
      go_round
      case rel => exact ⟨3, by omega, by go_num⟩
      case measure => simp [intOf]
    · go_wp2_with fail
      go_round
      case rel => exact ⟨4, by omega, by go_num⟩
      case measure => simp [intOf]
    · have m1 : (bmn == v) = true ∨ ((bmn == v) = false ∧ 0 < ac ∧ (bmn == amn) = true) := by
        by_cases h : bmn = v
        · left; rw [h]; exact beq_self_eq_true _
        · right; rcases unhide h7 with h' | ⟨h', h''⟩
          · exact absurd h' h
          · exact ⟨beq_false_of_ne h, h', by rw [h'']; exact beq_self_eq_true _⟩
      have m2 : (bmx == v) = true ∨ ((bmx == v) = false ∧ 0 < ac ∧ (bmx == amx) = true) := by
        by_cases h : bmx = v
        · left; rw [h]; exact beq_self_eq_true _
        · right; rcases unhide h8 with h' | ⟨h', h''⟩
          · exact absurd h' h
          · exact ⟨beq_false_of_ne h, h', by rw [h'']; exact beq_self_eq_true _⟩
      rcases m1 with m1 | ⟨m1, m1', m1''⟩ <;> rcases m2 with m2 | ⟨m2, m2', m2''⟩
      all_goals try (exfalso; omega)
      all_goals
        go_wp2_with fail
        refine (awake_any _).mono ?_
        rintro e w5 ⟨rfl, hb5⟩
        have B := hide ((unhide T).2.2.trans (hb5.mono (unhide T).2.2.size))
        clear hb5
        go_wp2_with fail
        go_ret
        exact ⟨rfl, unhide B⟩

set_option maxHeartbeats 8000000 in
theorem grows_2 (a : Option Addr) (cap : Nat) (xs : List Int) (v : Int) (w : World) (ac aS amn amx a0 a1 a2 a3 bc bS bmn bmx hb : Int)
    (hI : Hid (Ints w a xs)) (hall : Hid (∀ u ∈ xs, i64 u)) (hmax : Hid (xs.length ≤ maxLen)) (hn : ¬ (300 : Int) < (xs.length : Int)) (hv : Hid (i64 v)) (hOf : Hid (of xs = ⟨ac, aS, amn, amx, a0, a1, a2, a3⟩)) (hA : Hid (AggV.In ⟨ac, aS, amn, amx, a0, a1, a2, a3⟩))
    (hPut : Hid (put ⟨ac, aS, amn, amx, a0, a1, a2, a3⟩ v = ⟨bc, bS, bmn, bmx, a0, a1, hb, a3⟩)) (hB : Hid (bucket v = 2)) (hc : IntKind.i64.wrap (ac + 1) = bc) (h1 : ¬ v < bmn) (h2 : ¬ bmx < v) (h3 : 0 < ac → ¬ amn < bmn) (h4 : 0 < ac → ¬ bmx < amx) (h5 : Hid (plus aS v = bS))
    (h6 : IntKind.i64.wrap (a2 + 1) = hb) (h7 : Hid (bmn = v ∨ (0 < ac ∧ bmn = amn))) (h8 : Hid (bmx = v ∨ (0 < ac ∧ bmx = amx))) :
    Calls Try.prog 3 #[.slice a xs.length cap, .int .i64 v] w fun e w' => e = .returned (.bool true) ∧ Below w.heap.size w w' := by
  have H3 := hide h3
  have H4 := hide h4
  clear h3 h4
  obtain ⟨n, hN⟩ : ∃ n, n = xs.length := ⟨_, rfl⟩
  have HN := hide hN
  rw [← hN] at hn ⊢
  have hn' : n ≤ 2 ^ 63 - 1 := by rw [hN]; exact unhide hmax
  clear hN
  go_enter Try.func3, Try.ntmps3
  go_wp2_with fail
  rw [unhide HN]
  refine (of_any a cap xs _ (unhide hI) (unhide hall) (unhide hmax)).mono ?_
  rintro e w1 ⟨rfl, hb1⟩
  rw [unhide hOf, ← unhide HN]
  simp only [aggV, cellsA, I]
  have BL := hide hb1
  clear hb1
  go_wp2_with fail
  refine (put_any ⟨ac, aS, amn, amx, a0, a1, a2, a3⟩ v _ (unhide hA) (unhide hv)).mono ?_
  rintro e w2 ⟨rfl, hb2⟩
  rw [unhide hPut]
  simp only [aggV, cellsA, I]
  obtain ⟨B1, hB1⟩ : ∃ B, B = w1.heap.size := ⟨_, rfl⟩
  have RA : Hid (RowAt w2 B1 (cellsA ⟨ac, aS, amn, amx, a0, a1, a2, a3⟩)) := hide (by rw [hB1]; exact (row_new w1 (cellsA ⟨ac, aS, amn, amx, a0, a1, a2, a3⟩) 26).keep (Moved.of_below (F := fun _ => False) hb2) id)
  have BL := hide (((unhide BL).alloc (unhide BL).size (.cells #[.int .i64 ac, .int .i64 aS, .int .i64 amn, .int .i64 amx, .int .i64 a0, .int .i64 a1, .int .i64 a2, .int .i64 a3] 26)).trans (hb2.mono (by have := (unhide BL).size; simp; omega)))
  rw [← hB1]
  clear hb2 hB1
  go_wp2_with fail
  refine (bucket_any _ _).mono ?_
  rintro e w3 ⟨rfl, rfl⟩
  rw [unhide hB]
  go_upto_region 6 with fail
  obtain ⟨B2, hB2⟩ : ∃ B, B = w2.heap.size := ⟨_, rfl⟩
  obtain ⟨w4, hw4⟩ : ∃ w4, w4 = w2.alloc (.cells #[.int .i64 bc, .int .i64 bS, .int .i64 bmn, .int .i64 bmx, .int .i64 a0, .int .i64 a1, .int .i64 hb, .int .i64 a3] 26) := ⟨_, rfl⟩
  have RA := hide (show RowAt w4 B1 (cellsA ⟨ac, aS, amn, amx, a0, a1, a2, a3⟩) by rw [hw4]; exact row_old (unhide RA) _)
  have RB := hide (show RowAt w4 B2 (cellsA ⟨bc, bS, bmn, bmx, a0, a1, hb, a3⟩) by rw [hw4, hB2]; exact row_new w2 (cellsA ⟨bc, bS, bmn, bmx, a0, a1, hb, a3⟩) 26)
  have BL := hide (show Below w.heap.size w w4 by rw [hw4]; exact (unhide BL).alloc (unhide BL).size _)
  rw [← hB2, ← hw4]
  clear hB2 hw4
  obtain ⟨St, hSt⟩ : ∃ St : World → Prop, St = fun w' => RowAt w' B1 (cellsA ⟨ac, aS, amn, amx, a0, a1, a2, a3⟩) ∧ RowAt w' B2 (cellsA ⟨bc, bS, bmn, bmx, a0, a1, hb, a3⟩) ∧ Below w.heap.size w w' := ⟨_, rfl⟩
  have Hst := hide hSt
  have st : St w4.drew := by rw [hSt]; exact ⟨(unhide RA).keep (Moved.refl (fun _ => False) _).drew id, (unhide RB).keep (Moved.refl (fun _ => False) _).drew id, (unhide BL).drew⟩
  have s8 : Hid (∀ p : SW St, Calls Try.prog 8 #[.int .i64 aS, .int .i64 v] p.w fun e w' => e = .returned (.int .i64 bS) ∧ ∃ q : SW St, w' = q.w) := hide (fun ⟨p, hp⟩ => (plus_any aS v p (unhide hA).sum (unhide hv)).mono (by
    rintro e w' ⟨rfl, hb⟩; exact ⟨by rw [unhide h5], ⟨p, hp⟩, hb⟩))
  have p0 : ∀ p : SW St, p.w.cell? ⟨B1, 0, none⟩ = some (.int .i64 ac) := by rintro ⟨p, hp⟩; rw [hSt] at hp; exact hp.1.cell 0 (show 0 < 8 by decide)
  have p1 : ∀ p : SW St, p.w.cell? ⟨B1, 1, none⟩ = some (.int .i64 aS) := by rintro ⟨p, hp⟩; rw [hSt] at hp; exact hp.1.cell 1 (show 1 < 8 by decide)
  have p2 : ∀ p : SW St, p.w.cell? ⟨B1, 2, none⟩ = some (.int .i64 amn) := by rintro ⟨p, hp⟩; rw [hSt] at hp; exact hp.1.cell 2 (show 2 < 8 by decide)
  have p3 : ∀ p : SW St, p.w.cell? ⟨B1, 3, none⟩ = some (.int .i64 amx) := by rintro ⟨p, hp⟩; rw [hSt] at hp; exact hp.1.cell 3 (show 3 < 8 by decide)
  have q0 : ∀ p : SW St, p.w.cell? ⟨B2, 0, none⟩ = some (.int .i64 bc) := by rintro ⟨p, hp⟩; rw [hSt] at hp; exact hp.2.1.cell 0 (show 0 < 8 by decide)
  have q1 : ∀ p : SW St, p.w.cell? ⟨B2, 1, none⟩ = some (.int .i64 bS) := by rintro ⟨p, hp⟩; rw [hSt] at hp; exact hp.2.1.cell 1 (show 1 < 8 by decide)
  have q2 : ∀ p : SW St, p.w.cell? ⟨B2, 2, none⟩ = some (.int .i64 bmn) := by rintro ⟨p, hp⟩; rw [hSt] at hp; exact hp.2.1.cell 2 (show 2 < 8 by decide)
  have q3 : ∀ p : SW St, p.w.cell? ⟨B2, 3, none⟩ = some (.int .i64 bmx) := by rintro ⟨p, hp⟩; rw [hSt] at hp; exact hp.2.1.cell 3 (show 3 < 8 by decide)
  have ne : Nonempty (SW St) := ⟨⟨_, st⟩⟩
  clear hSt RA RB BL
  by_cases hp : 0 < ac
  all_goals
    have k1 : decide (v < bmn) = false := decide_eq_false (by omega)
    have k2 : decide (bmx < v) = false := decide_eq_false (by omega)
    first | (have k3 : decide (amn < bmn) = false := decide_eq_false (by have := unhide H3 hp; omega)) | skip
    first | (have k4 : decide (bmx < amx) = false := decide_eq_false (by have := unhide H4 hp; omega)) | skip
    first | (have k5 : decide (0 < ac) = true := decide_eq_true hp) | (have k5 : decide (0 < ac) = false := decide_eq_false hp)
    refine wp_region_sw (St := St) (by kernel_rfl) (by kernel_rfl) st ?_
    repeat (go_big_quiet_step (first | (go_at_call 8; exact unhide s8 _)))
    refine wpQuiet_nil ?_
    first | (rintro w9 ⟨⟨_, st9⟩, rfl⟩) | (rintro ⟨w9, st9⟩)
    try dsimp only
    try dsimp only at st9
    rw [unhide Hst] at st9
    have T := hide st9
    clear st9 p0 p1 p2 p3 q0 q1 q2 q3 ne st s8
    have pb : w9.cell? ⟨B1, 0, none⟩ = some (.int .i64 ac) := (unhide T).1.cell 0 (show 0 < 8 by decide)
    have pm : w9.cell? ⟨B1, 2, none⟩ = some (.int .i64 amn) := (unhide T).1.cell 2 (show 2 < 8 by decide)
    have px : w9.cell? ⟨B1, 3, none⟩ = some (.int .i64 amx) := (unhide T).1.cell 3 (show 3 < 8 by decide)
    have p4 : w9.cell? ⟨B1, 4, none⟩ = some (.int .i64 a0) := (unhide T).1.cell 4 (show 4 < 8 by decide)
    have p5 : w9.cell? ⟨B1, 5, none⟩ = some (.int .i64 a1) := (unhide T).1.cell 5 (show 5 < 8 by decide)
    have p6 : w9.cell? ⟨B1, 6, none⟩ = some (.int .i64 a2) := (unhide T).1.cell 6 (show 6 < 8 by decide)
    have p7 : w9.cell? ⟨B1, 7, none⟩ = some (.int .i64 a3) := (unhide T).1.cell 7 (show 7 < 8 by decide)
    have qm : w9.cell? ⟨B2, 2, none⟩ = some (.int .i64 bmn) := (unhide T).2.1.cell 2 (show 2 < 8 by decide)
    have qx : w9.cell? ⟨B2, 3, none⟩ = some (.int .i64 bmx) := (unhide T).2.1.cell 3 (show 3 < 8 by decide)
    have q4 : w9.cell? ⟨B2, 4, none⟩ = some (.int .i64 a0) := (unhide T).2.1.cell 4 (show 4 < 8 by decide)
    have q5 : w9.cell? ⟨B2, 5, none⟩ = some (.int .i64 a1) := (unhide T).2.1.cell 5 (show 5 < 8 by decide)
    have q6 : w9.cell? ⟨B2, 6, none⟩ = some (.int .i64 hb) := (unhide T).2.1.cell 6 (show 6 < 8 by decide)
    have q7 : w9.cell? ⟨B2, 7, none⟩ = some (.int .i64 a3) := (unhide T).2.1.cell 7 (show 7 < 8 by decide)
    go_wp2_with fail
    go_loop [8] (fun i => ∃ k : Nat, k ≤ 4 ∧ i = .int .i64 k) (fun i => 4 - (intOf i).toNat)
    case atStart => exact ⟨0, by omega, rfl⟩
    case round =>
    obtain ⟨k, hk, rfl⟩ := hrel
    rcases (by omega : k = 0 ∨ k = 1 ∨ k = 2 ∨ k = 3 ∨ k = 4) with rfl | rfl | rfl | rfl | rfl
    · go_wp2_with fail
      go_round
      case rel => exact ⟨1, by omega, by go_num⟩
      case measure => simp [intOf]
    · go_wp2_with fail
      go_round
      case rel => exact ⟨2, by omega, by go_num⟩
      case measure => simp [intOf]
    · go_wp2_with fail
      go_round
      case rel => exact ⟨3, by omega, by go_num⟩
      case measure => simp [intOf]
    · go_wp2_with fail
      go_round
      case rel => exact ⟨4, by omega, by go_num⟩
      case measure => simp [intOf]
    · have m1 : (bmn == v) = true ∨ ((bmn == v) = false ∧ 0 < ac ∧ (bmn == amn) = true) := by
        by_cases h : bmn = v
        · left; rw [h]; exact beq_self_eq_true _
        · right; rcases unhide h7 with h' | ⟨h', h''⟩
          · exact absurd h' h
          · exact ⟨beq_false_of_ne h, h', by rw [h'']; exact beq_self_eq_true _⟩
      have m2 : (bmx == v) = true ∨ ((bmx == v) = false ∧ 0 < ac ∧ (bmx == amx) = true) := by
        by_cases h : bmx = v
        · left; rw [h]; exact beq_self_eq_true _
        · right; rcases unhide h8 with h' | ⟨h', h''⟩
          · exact absurd h' h
          · exact ⟨beq_false_of_ne h, h', by rw [h'']; exact beq_self_eq_true _⟩
      rcases m1 with m1 | ⟨m1, m1', m1''⟩ <;> rcases m2 with m2 | ⟨m2, m2', m2''⟩
      all_goals try (exfalso; omega)
      all_goals
        go_wp2_with fail
        refine (awake_any _).mono ?_
        rintro e w5 ⟨rfl, hb5⟩
        have B := hide ((unhide T).2.2.trans (hb5.mono (unhide T).2.2.size))
        clear hb5
        go_wp2_with fail
        go_ret
        exact ⟨rfl, unhide B⟩

set_option maxHeartbeats 8000000 in
theorem grows_3 (a : Option Addr) (cap : Nat) (xs : List Int) (v : Int) (w : World) (ac aS amn amx a0 a1 a2 a3 bc bS bmn bmx hb : Int)
    (hI : Hid (Ints w a xs)) (hall : Hid (∀ u ∈ xs, i64 u)) (hmax : Hid (xs.length ≤ maxLen)) (hn : ¬ (300 : Int) < (xs.length : Int)) (hv : Hid (i64 v)) (hOf : Hid (of xs = ⟨ac, aS, amn, amx, a0, a1, a2, a3⟩)) (hA : Hid (AggV.In ⟨ac, aS, amn, amx, a0, a1, a2, a3⟩))
    (hPut : Hid (put ⟨ac, aS, amn, amx, a0, a1, a2, a3⟩ v = ⟨bc, bS, bmn, bmx, a0, a1, a2, hb⟩)) (hB : Hid (bucket v = 3)) (hc : IntKind.i64.wrap (ac + 1) = bc) (h1 : ¬ v < bmn) (h2 : ¬ bmx < v) (h3 : 0 < ac → ¬ amn < bmn) (h4 : 0 < ac → ¬ bmx < amx) (h5 : Hid (plus aS v = bS))
    (h6 : IntKind.i64.wrap (a3 + 1) = hb) (h7 : Hid (bmn = v ∨ (0 < ac ∧ bmn = amn))) (h8 : Hid (bmx = v ∨ (0 < ac ∧ bmx = amx))) :
    Calls Try.prog 3 #[.slice a xs.length cap, .int .i64 v] w fun e w' => e = .returned (.bool true) ∧ Below w.heap.size w w' := by
  have H3 := hide h3
  have H4 := hide h4
  clear h3 h4
  obtain ⟨n, hN⟩ : ∃ n, n = xs.length := ⟨_, rfl⟩
  have HN := hide hN
  rw [← hN] at hn ⊢
  have hn' : n ≤ 2 ^ 63 - 1 := by rw [hN]; exact unhide hmax
  clear hN
  go_enter Try.func3, Try.ntmps3
  go_wp2_with fail
  rw [unhide HN]
  refine (of_any a cap xs _ (unhide hI) (unhide hall) (unhide hmax)).mono ?_
  rintro e w1 ⟨rfl, hb1⟩
  rw [unhide hOf, ← unhide HN]
  simp only [aggV, cellsA, I]
  have BL := hide hb1
  clear hb1
  go_wp2_with fail
  refine (put_any ⟨ac, aS, amn, amx, a0, a1, a2, a3⟩ v _ (unhide hA) (unhide hv)).mono ?_
  rintro e w2 ⟨rfl, hb2⟩
  rw [unhide hPut]
  simp only [aggV, cellsA, I]
  obtain ⟨B1, hB1⟩ : ∃ B, B = w1.heap.size := ⟨_, rfl⟩
  have RA : Hid (RowAt w2 B1 (cellsA ⟨ac, aS, amn, amx, a0, a1, a2, a3⟩)) := hide (by rw [hB1]; exact (row_new w1 (cellsA ⟨ac, aS, amn, amx, a0, a1, a2, a3⟩) 26).keep (Moved.of_below (F := fun _ => False) hb2) id)
  have BL := hide (((unhide BL).alloc (unhide BL).size (.cells #[.int .i64 ac, .int .i64 aS, .int .i64 amn, .int .i64 amx, .int .i64 a0, .int .i64 a1, .int .i64 a2, .int .i64 a3] 26)).trans (hb2.mono (by have := (unhide BL).size; simp; omega)))
  rw [← hB1]
  clear hb2 hB1
  go_wp2_with fail
  refine (bucket_any _ _).mono ?_
  rintro e w3 ⟨rfl, rfl⟩
  rw [unhide hB]
  go_upto_region 6 with fail
  obtain ⟨B2, hB2⟩ : ∃ B, B = w2.heap.size := ⟨_, rfl⟩
  obtain ⟨w4, hw4⟩ : ∃ w4, w4 = w2.alloc (.cells #[.int .i64 bc, .int .i64 bS, .int .i64 bmn, .int .i64 bmx, .int .i64 a0, .int .i64 a1, .int .i64 a2, .int .i64 hb] 26) := ⟨_, rfl⟩
  have RA := hide (show RowAt w4 B1 (cellsA ⟨ac, aS, amn, amx, a0, a1, a2, a3⟩) by rw [hw4]; exact row_old (unhide RA) _)
  have RB := hide (show RowAt w4 B2 (cellsA ⟨bc, bS, bmn, bmx, a0, a1, a2, hb⟩) by rw [hw4, hB2]; exact row_new w2 (cellsA ⟨bc, bS, bmn, bmx, a0, a1, a2, hb⟩) 26)
  have BL := hide (show Below w.heap.size w w4 by rw [hw4]; exact (unhide BL).alloc (unhide BL).size _)
  rw [← hB2, ← hw4]
  clear hB2 hw4
  obtain ⟨St, hSt⟩ : ∃ St : World → Prop, St = fun w' => RowAt w' B1 (cellsA ⟨ac, aS, amn, amx, a0, a1, a2, a3⟩) ∧ RowAt w' B2 (cellsA ⟨bc, bS, bmn, bmx, a0, a1, a2, hb⟩) ∧ Below w.heap.size w w' := ⟨_, rfl⟩
  have Hst := hide hSt
  have st : St w4.drew := by rw [hSt]; exact ⟨(unhide RA).keep (Moved.refl (fun _ => False) _).drew id, (unhide RB).keep (Moved.refl (fun _ => False) _).drew id, (unhide BL).drew⟩
  have s8 : Hid (∀ p : SW St, Calls Try.prog 8 #[.int .i64 aS, .int .i64 v] p.w fun e w' => e = .returned (.int .i64 bS) ∧ ∃ q : SW St, w' = q.w) := hide (fun ⟨p, hp⟩ => (plus_any aS v p (unhide hA).sum (unhide hv)).mono (by
    rintro e w' ⟨rfl, hb⟩; exact ⟨by rw [unhide h5], ⟨p, hp⟩, hb⟩))
  have p0 : ∀ p : SW St, p.w.cell? ⟨B1, 0, none⟩ = some (.int .i64 ac) := by rintro ⟨p, hp⟩; rw [hSt] at hp; exact hp.1.cell 0 (show 0 < 8 by decide)
  have p1 : ∀ p : SW St, p.w.cell? ⟨B1, 1, none⟩ = some (.int .i64 aS) := by rintro ⟨p, hp⟩; rw [hSt] at hp; exact hp.1.cell 1 (show 1 < 8 by decide)
  have p2 : ∀ p : SW St, p.w.cell? ⟨B1, 2, none⟩ = some (.int .i64 amn) := by rintro ⟨p, hp⟩; rw [hSt] at hp; exact hp.1.cell 2 (show 2 < 8 by decide)
  have p3 : ∀ p : SW St, p.w.cell? ⟨B1, 3, none⟩ = some (.int .i64 amx) := by rintro ⟨p, hp⟩; rw [hSt] at hp; exact hp.1.cell 3 (show 3 < 8 by decide)
  have q0 : ∀ p : SW St, p.w.cell? ⟨B2, 0, none⟩ = some (.int .i64 bc) := by rintro ⟨p, hp⟩; rw [hSt] at hp; exact hp.2.1.cell 0 (show 0 < 8 by decide)
  have q1 : ∀ p : SW St, p.w.cell? ⟨B2, 1, none⟩ = some (.int .i64 bS) := by rintro ⟨p, hp⟩; rw [hSt] at hp; exact hp.2.1.cell 1 (show 1 < 8 by decide)
  have q2 : ∀ p : SW St, p.w.cell? ⟨B2, 2, none⟩ = some (.int .i64 bmn) := by rintro ⟨p, hp⟩; rw [hSt] at hp; exact hp.2.1.cell 2 (show 2 < 8 by decide)
  have q3 : ∀ p : SW St, p.w.cell? ⟨B2, 3, none⟩ = some (.int .i64 bmx) := by rintro ⟨p, hp⟩; rw [hSt] at hp; exact hp.2.1.cell 3 (show 3 < 8 by decide)
  have ne : Nonempty (SW St) := ⟨⟨_, st⟩⟩
  clear hSt RA RB BL
  by_cases hp : 0 < ac
  all_goals
    have k1 : decide (v < bmn) = false := decide_eq_false (by omega)
    have k2 : decide (bmx < v) = false := decide_eq_false (by omega)
    first | (have k3 : decide (amn < bmn) = false := decide_eq_false (by have := unhide H3 hp; omega)) | skip
    first | (have k4 : decide (bmx < amx) = false := decide_eq_false (by have := unhide H4 hp; omega)) | skip
    first | (have k5 : decide (0 < ac) = true := decide_eq_true hp) | (have k5 : decide (0 < ac) = false := decide_eq_false hp)
    refine wp_region_sw (St := St) (by kernel_rfl) (by kernel_rfl) st ?_
    repeat (go_big_quiet_step (first | (go_at_call 8; exact unhide s8 _)))
    refine wpQuiet_nil ?_
    first | (rintro w9 ⟨⟨_, st9⟩, rfl⟩) | (rintro ⟨w9, st9⟩)
    try dsimp only
    try dsimp only at st9
    rw [unhide Hst] at st9
    have T := hide st9
    clear st9 p0 p1 p2 p3 q0 q1 q2 q3 ne st s8
    have pb : w9.cell? ⟨B1, 0, none⟩ = some (.int .i64 ac) := (unhide T).1.cell 0 (show 0 < 8 by decide)
    have pm : w9.cell? ⟨B1, 2, none⟩ = some (.int .i64 amn) := (unhide T).1.cell 2 (show 2 < 8 by decide)
    have px : w9.cell? ⟨B1, 3, none⟩ = some (.int .i64 amx) := (unhide T).1.cell 3 (show 3 < 8 by decide)
    have p4 : w9.cell? ⟨B1, 4, none⟩ = some (.int .i64 a0) := (unhide T).1.cell 4 (show 4 < 8 by decide)
    have p5 : w9.cell? ⟨B1, 5, none⟩ = some (.int .i64 a1) := (unhide T).1.cell 5 (show 5 < 8 by decide)
    have p6 : w9.cell? ⟨B1, 6, none⟩ = some (.int .i64 a2) := (unhide T).1.cell 6 (show 6 < 8 by decide)
    have p7 : w9.cell? ⟨B1, 7, none⟩ = some (.int .i64 a3) := (unhide T).1.cell 7 (show 7 < 8 by decide)
    have qm : w9.cell? ⟨B2, 2, none⟩ = some (.int .i64 bmn) := (unhide T).2.1.cell 2 (show 2 < 8 by decide)
    have qx : w9.cell? ⟨B2, 3, none⟩ = some (.int .i64 bmx) := (unhide T).2.1.cell 3 (show 3 < 8 by decide)
    have q4 : w9.cell? ⟨B2, 4, none⟩ = some (.int .i64 a0) := (unhide T).2.1.cell 4 (show 4 < 8 by decide)
    have q5 : w9.cell? ⟨B2, 5, none⟩ = some (.int .i64 a1) := (unhide T).2.1.cell 5 (show 5 < 8 by decide)
    have q6 : w9.cell? ⟨B2, 6, none⟩ = some (.int .i64 a2) := (unhide T).2.1.cell 6 (show 6 < 8 by decide)
    have q7 : w9.cell? ⟨B2, 7, none⟩ = some (.int .i64 hb) := (unhide T).2.1.cell 7 (show 7 < 8 by decide)
    go_wp2_with fail
    go_loop [8] (fun i => ∃ k : Nat, k ≤ 4 ∧ i = .int .i64 k) (fun i => 4 - (intOf i).toNat)
    case atStart => exact ⟨0, by omega, rfl⟩
    case round =>
    obtain ⟨k, hk, rfl⟩ := hrel
    rcases (by omega : k = 0 ∨ k = 1 ∨ k = 2 ∨ k = 3 ∨ k = 4) with rfl | rfl | rfl | rfl | rfl
    · go_wp2_with fail
      go_round
      case rel => exact ⟨1, by omega, by go_num⟩
      case measure => simp [intOf]
    · go_wp2_with fail
      go_round
      case rel => exact ⟨2, by omega, by go_num⟩
      case measure => simp [intOf]
    · go_wp2_with fail
      go_round
      case rel => exact ⟨3, by omega, by go_num⟩
      case measure => simp [intOf]
    · go_wp2_with fail
      go_round
      case rel => exact ⟨4, by omega, by go_num⟩
      case measure => simp [intOf]
    · have m1 : (bmn == v) = true ∨ ((bmn == v) = false ∧ 0 < ac ∧ (bmn == amn) = true) := by
        by_cases h : bmn = v
        · left; rw [h]; exact beq_self_eq_true _
        · right; rcases unhide h7 with h' | ⟨h', h''⟩
          · exact absurd h' h
          · exact ⟨beq_false_of_ne h, h', by rw [h'']; exact beq_self_eq_true _⟩
      have m2 : (bmx == v) = true ∨ ((bmx == v) = false ∧ 0 < ac ∧ (bmx == amx) = true) := by
        by_cases h : bmx = v
        · left; rw [h]; exact beq_self_eq_true _
        · right; rcases unhide h8 with h' | ⟨h', h''⟩
          · exact absurd h' h
          · exact ⟨beq_false_of_ne h, h', by rw [h'']; exact beq_self_eq_true _⟩
      rcases m1 with m1 | ⟨m1, m1', m1''⟩ <;> rcases m2 with m2 | ⟨m2, m2', m2''⟩
      all_goals try (exfalso; omega)
      all_goals
        go_wp2_with fail
        refine (awake_any _).mono ?_
        rintro e w5 ⟨rfl, hb5⟩
        have B := hide ((unhide T).2.2.trans (hb5.mono (unhide T).2.2.size))
        clear hb5
        go_wp2_with fail
        go_ret
        exact ⟨rfl, unhide B⟩

set_option maxHeartbeats 1000000 in
theorem grows_any (a : Option Addr) (len cap : Nat) (xs : List Int) (v : Int) (w : World) (hx : IntsIn w a len xs) (hv : i64 v) :
    Calls Try.prog 3 #[.slice a len cap, .int .i64 v] w fun e w' => e = .returned (.bool true) ∧ Below w.heap.size w w' := by
  obtain ⟨hlen, hmax, hI, hall⟩ := hx
  subst hlen
  by_cases hl : (300 : Int) < (xs.length : Int)
  · have hn' : xs.length ≤ 2 ^ 63 - 1 := hmax
    clear hI hall hmax
    generalize xs.length = n at *
    go_enter Try.func3, Try.ntmps3
    go_wp2_with fail
    refine (awake_any _).mono ?_
    rintro e w1 ⟨rfl, hb⟩
    go_wp2_with fail
    go_ret
    exact ⟨rfl, hb⟩
  · have hIs := is_of xs (by omega)
    have hAin := of_in xs hall
    obtain ⟨A, hA⟩ : ∃ A, A = of xs := ⟨_, rfl⟩
    rw [← hA] at hIs hAin
    obtain ⟨ac, aS, amn, amx, a0, a1, a2, a3⟩ := A
    have hP := put_form ac aS amn amx a0 a1 a2 a3 v hAin
    have hcnt : ac = (xs.length : Int) := hIs.count
    have c0 := count_le xs 0; have c1 := count_le xs 1; have c2 := count_le xs 2; have c3 := count_le xs 3
    have g0 : a0 = _ := hIs.h0
    have g1 : a1 = _ := hIs.h1
    have g2 : a2 = _ := hIs.h2
    have g3 : a3 = _ := hIs.h3
    have one_ok : ∀ x : Int, 0 ≤ x → x ≤ 300 → plus x 1 = x + 1 := fun x h h' => plus_id (by unfold i64; omega)
    have hcp := one_ok ac (by omega) (by omega)
    have hb : bucket v = 0 ∨ bucket v = 1 ∨ bucket v = 2 ∨ bucket v = 3 := by have := bucket_le v; omega
    have hz : 0 < ac → amn ≤ amx := fun h => by
      have hne : xs ≠ [] := fun e => by rw [e] at hcnt; simp at hcnt; omega
      exact hIs.mnLe _ (hIs.mxIn hne)
    rcases hb with h | h | h | h
    · have hg := one_ok a0 (by omega) (by omega)
      rw [hcp, h] at hP
      simp only [if_true, show ¬ ((0 : Nat) = 1) by omega, show ¬ ((0 : Nat) = 2) by omega, show ¬ ((0 : Nat) = 3) by omega, if_false, hg] at hP
      refine grows_0 a cap xs v w ac aS amn amx a0 a1 a2 a3 _ _ _ _ _ (hide hI) (hide hall) (hide hmax) hl (hide hv) (hide hA.symm) (hide hAin) (hide hP) (hide h) (Go.IntWalk.i64_in _ (by omega)) ?_ ?_ ?_ ?_ (hide rfl) (Go.IntWalk.i64_in _ (by omega)) (hide ?_) (hide ?_)
      · split <;> omega
      · split <;> omega
      · intro hp; split <;> omega
      · intro hp; split <;> omega
      · split
        · exact .inl rfl
        · exact .inr ⟨by omega, rfl⟩
      · split
        · exact .inl rfl
        · exact .inr ⟨by omega, rfl⟩
    · have hg := one_ok a1 (by omega) (by omega)
      rw [hcp, h] at hP
      simp only [if_true, show ¬ ((1 : Nat) = 2) by omega, show ¬ ((1 : Nat) = 3) by omega, show ¬ ((1 : Nat) = 0) by omega, if_false, hg] at hP
      refine grows_1 a cap xs v w ac aS amn amx a0 a1 a2 a3 _ _ _ _ _ (hide hI) (hide hall) (hide hmax) hl (hide hv) (hide hA.symm) (hide hAin) (hide hP) (hide h) (Go.IntWalk.i64_in _ (by omega)) ?_ ?_ ?_ ?_ (hide rfl) (Go.IntWalk.i64_in _ (by omega)) (hide ?_) (hide ?_)
      · split <;> omega
      · split <;> omega
      · intro hp; split <;> omega
      · intro hp; split <;> omega
      · split
        · exact .inl rfl
        · exact .inr ⟨by omega, rfl⟩
      · split
        · exact .inl rfl
        · exact .inr ⟨by omega, rfl⟩
    · have hg := one_ok a2 (by omega) (by omega)
      rw [hcp, h] at hP
      simp only [if_true, show ¬ ((2 : Nat) = 3) by omega, show ¬ ((2 : Nat) = 0) by omega, show ¬ ((2 : Nat) = 1) by omega, if_false, hg] at hP
      refine grows_2 a cap xs v w ac aS amn amx a0 a1 a2 a3 _ _ _ _ _ (hide hI) (hide hall) (hide hmax) hl (hide hv) (hide hA.symm) (hide hAin) (hide hP) (hide h) (Go.IntWalk.i64_in _ (by omega)) ?_ ?_ ?_ ?_ (hide rfl) (Go.IntWalk.i64_in _ (by omega)) (hide ?_) (hide ?_)
      · split <;> omega
      · split <;> omega
      · intro hp; split <;> omega
      · intro hp; split <;> omega
      · split
        · exact .inl rfl
        · exact .inr ⟨by omega, rfl⟩
      · split
        · exact .inl rfl
        · exact .inr ⟨by omega, rfl⟩
    · have hg := one_ok a3 (by omega) (by omega)
      rw [hcp, h] at hP
      simp only [if_true, show ¬ ((3 : Nat) = 0) by omega, show ¬ ((3 : Nat) = 1) by omega, show ¬ ((3 : Nat) = 2) by omega, if_false, hg] at hP
      refine grows_3 a cap xs v w ac aS amn amx a0 a1 a2 a3 _ _ _ _ _ (hide hI) (hide hall) (hide hmax) hl (hide hv) (hide hA.symm) (hide hAin) (hide hP) (hide h) (Go.IntWalk.i64_in _ (by omega)) ?_ ?_ ?_ ?_ (hide rfl) (Go.IntWalk.i64_in _ (by omega)) (hide ?_) (hide ?_)
      · split <;> omega
      · split <;> omega
      · intro hp; split <;> omega
      · intro hp; split <;> omega
      · split
        · exact .inl rfl
        · exact .inr ⟨by omega, rfl⟩
      · split
        · exact .inl rfl
        · exact .inr ⟨by omega, rfl⟩
end Go.Proofs.Ytiokfnkcjicheab

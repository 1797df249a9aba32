/- What AggJoins does, for lists of at most 300 values: it answers true, and nothing that was there has turned. No conditions. -/
import Derived.Test.YtiokfnkcjicheaaRs
namespace Go.Proofs.Ytiokfnkcjicheaa
open Go.RowKit

set_option maxHeartbeats 20000000 in
theorem joins_main (a1 a2 a3 : Option Addr) (c1 c2 c3 : Nat) (ks ls ms : List Int) (w : World) (h1 : IntsIn w a1 ks.length ks) (h2 : IntsIn w a2 ls.length ls) (h3 : IntsIn w a3 ms.length ms)
    (g1 : ¬ (300 : Int) < (ks.length : Int)) (g2 : ¬ (300 : Int) < (ls.length : Int)) (g3 : ¬ (300 : Int) < (ms.length : Int)) :
    Calls Try.prog 8 #[.slice a1 ks.length c1, .slice a2 ls.length c2, .slice a3 ms.length c3] w fun e w' => e = .returned (.bool true) ∧ Below w.heap.size w w' := by
  have H1 := hide h1
  have H2 := hide h2
  have H3 := hide h3
  have b1 : ks.length ≤ 2 ^ 63 - 1 := h1.max
  have b2 : ls.length ≤ 2 ^ 63 - 1 := h2.max
  have b3 : ms.length ≤ 2 ^ 63 - 1 := h3.max
  have X1 := hide (is_of ks (by omega))
  have X2 := hide (is_of ls (by omega))
  have X3 := hide (is_of ms (by omega))
  have I1 := hide (of_in ks h1.all)
  have I2 := hide (of_in ls h2.all)
  have I3 := hide (of_in ms h3.all)
  clear h1 h2 h3
  go_enter Try.func8, Try.ntmps8
  go_wp2_with fail
  refine (of_any a1 c1 ks _ (unhide H1).row (unhide H1).all (unhide H1).max).mono ?_
  rintro e w1 ⟨rfl, hb⟩
  have R1 := hide ((Rs.start hb).alloc (of ks))
  clear hb
  generalize of ks = A1 at *
  simp only [aggV, cellsA, I]
  simp only [cellsA, I] at R1
  go_wp2_with fail
  refine (of_any a2 c2 ls _ ((unhide H2).row.keep (unhide R1).below) (unhide H2).all (unhide H2).max).mono ?_
  rintro e w2 ⟨rfl, hb⟩
  have R2 := hide (((unhide R1).carry hb).alloc (of ls))
  clear hb R1
  generalize of ls = A2 at *
  generalize w1.heap.size = B1 at *
  simp only [aggV, cellsA, I]
  simp only [cellsA, I] at R2
  go_wp2_with fail
  refine (of_any a3 c3 ms _ ((unhide H3).row.keep (unhide R2).below) (unhide H3).all (unhide H3).max).mono ?_
  rintro e w3 ⟨rfl, hb⟩
  have R3 := hide (((unhide R2).carry hb).alloc (of ms))
  clear hb R2
  generalize of ms = A3 at *
  generalize w2.heap.size = B2 at *
  simp only [aggV, cellsA, I]
  simp only [cellsA, I] at R3
  go_upto_region 6 with fail
  generalize w3.alloc (.cells #[.int .i64 A3.count, .int .i64 A3.sum, .int .i64 A3.mn, .int .i64 A3.mx, .int .i64 A3.h0, .int .i64 A3.h1, .int .i64 A3.h2, .int .i64 A3.h3] 24) = w4 at *
  generalize w3.heap.size = B3 at *
  obtain ⟨D, hD⟩ : ∃ D, D = join A1 A2 := ⟨_, rfl⟩
  obtain ⟨E, hE⟩ : ∃ E, E = join A2 A3 := ⟨_, rfl⟩
  obtain ⟨X, hX⟩ : ∃ X, X = join D A3 := ⟨_, rfl⟩
  obtain ⟨Y, hY⟩ : ∃ Y, Y = join A1 E := ⟨_, rfl⟩
  obtain ⟨Z, hZ⟩ : ∃ Z, Z = join A3 D := ⟨_, rfl⟩
  have hD2 : join A2 A1 = D := by rw [hD, join_comm]
  have iD : D.In := by rw [hD]; exact join_in (unhide I1) (unhide I2)
  have iE : E.In := by rw [hE]; exact join_in (unhide I2) (unhide I3)
  have iX : X.In := by rw [hX]; exact join_in iD (unhide I3)
  have iY : Y.In := by rw [hY]; exact join_in (unhide I1) iE
  have iZ : Z.In := by rw [hZ]; exact join_in (unhide I3) iD
  have q12 : ks.length + ls.length ≤ 9223372036854775807 := by omega
  have q23 : ls.length + ms.length ≤ 9223372036854775807 := by omega
  have sD : Is D (ks ++ ls) := by rw [hD]; exact is_join (unhide X1) (unhide X2) q12
  have sE : Is E (ls ++ ms) := by rw [hE]; exact is_join (unhide X2) (unhide X3) q23
  have sX : Is X ((ks ++ ls) ++ ms) := by rw [hX]; exact is_join sD (unhide X3) (by rw [List.length_append]; omega)
  have sY : Is Y ((ks ++ ls) ++ ms) := by rw [hY, List.append_assoc]; exact is_join (unhide X1) sE (by rw [List.length_append]; omega)
  have sZ : Is Z ((ks ++ ls) ++ ms) := by rw [hZ]; exact (is_join (unhide X3) sD (by rw [List.length_append]; omega)).perm List.perm_append_comm
  have lX : ((ks ++ ls) ++ ms).length ≤ 9223372036854775807 := by rw [List.length_append, List.length_append]; omega
  have rX := is_right sX lX
  have rY := is_right sY lX
  have rZ := is_right sZ lX
  have eY : { Y with sum := X.sum } = X := is_same sX sY
  have eZ : { Z with sum := X.sum } = X := is_same sX sZ
  have z1 : join A1 zero = A1 := join_zero A1 (unhide I1) (fun h => by
    have hc := (unhide X1).count
    have hn : ks = [] := List.length_eq_zero_iff.1 (by omega)
    have := (unhide X1).none hn
    exact ⟨this.1, this.2.1⟩)
  have z2 : join zero A1 = A1 := by rw [join_comm]; exact z1
  have J12 : Hid (∀ (L : List (Nat × AggV)) (c : Option Nat) (p : SW (StR w L c)), Calls Try.prog 15 #[aggV A1, aggV A2] p.w fun e w' => e = .returned (aggV D) ∧ ∃ q : SW (StR w L c), w' = q.w) := hide (fun L c p => by rw [hD]; exact StR.join c A1 A2 (unhide I1) (unhide I2) p)
  have J21 : Hid (∀ (L : List (Nat × AggV)) (c : Option Nat) (p : SW (StR w L c)), Calls Try.prog 15 #[aggV A2, aggV A1] p.w fun e w' => e = .returned (aggV D) ∧ ∃ q : SW (StR w L c), w' = q.w) := hide (fun L c p => by rw [← hD2]; exact StR.join c A2 A1 (unhide I2) (unhide I1) p)
  have J23 : Hid (∀ (L : List (Nat × AggV)) (c : Option Nat) (p : SW (StR w L c)), Calls Try.prog 15 #[aggV A2, aggV A3] p.w fun e w' => e = .returned (aggV E) ∧ ∃ q : SW (StR w L c), w' = q.w) := hide (fun L c p => by rw [hE]; exact StR.join c A2 A3 (unhide I2) (unhide I3) p)
  have JX : Hid (∀ (L : List (Nat × AggV)) (c : Option Nat) (p : SW (StR w L c)), Calls Try.prog 15 #[aggV D, aggV A3] p.w fun e w' => e = .returned (aggV X) ∧ ∃ q : SW (StR w L c), w' = q.w) := hide (fun L c p => by rw [hX]; exact StR.join c D A3 iD (unhide I3) p)
  have JY : Hid (∀ (L : List (Nat × AggV)) (c : Option Nat) (p : SW (StR w L c)), Calls Try.prog 15 #[aggV A1, aggV E] p.w fun e w' => e = .returned (aggV Y) ∧ ∃ q : SW (StR w L c), w' = q.w) := hide (fun L c p => by rw [hY]; exact StR.join c A1 E (unhide I1) iE p)
  have JZ : Hid (∀ (L : List (Nat × AggV)) (c : Option Nat) (p : SW (StR w L c)), Calls Try.prog 15 #[aggV A3, aggV D] p.w fun e w' => e = .returned (aggV Z) ∧ ∃ q : SW (StR w L c), w' = q.w) := hide (fun L c p => by rw [hZ]; exact StR.join c A3 D (unhide I3) iD p)
  have J10 : Hid (∀ (L : List (Nat × AggV)) (c : Option Nat) (p : SW (StR w L c)), Calls Try.prog 15 #[aggV A1, aggV zero] p.w fun e w' => e = .returned (aggV A1) ∧ ∃ q : SW (StR w L c), w' = q.w) := hide (fun L c p => by have h := StR.join c A1 zero (unhide I1) zero_in p; rw [z1] at h; exact h)
  have J01 : Hid (∀ (L : List (Nat × AggV)) (c : Option Nat) (p : SW (StR w L c)), Calls Try.prog 15 #[aggV zero, aggV A1] p.w fun e w' => e = .returned (aggV A1) ∧ ∃ q : SW (StR w L c), w' = q.w) := hide (fun L c p => by have h := StR.join c zero A1 zero_in (unhide I1) p; rw [z2] at h; exact h)
  have O0 : Hid (∀ (L : List (Nat × AggV)) (c : Option Nat) (p : SW (StR w L c)), Calls Try.prog 18 #[.slice none 0 0] p.w fun e w' => e = .returned (aggV zero) ∧ ∃ q : SW (StR w L c), w' = q.w) := hide (fun L c p => StR.of c none 0 [] (ints_none _) (fun v hv => by cases hv) (Nat.zero_le _) p)
  have HX := hide (And.intro iX (And.intro iY (And.intro iZ (And.intro rX (And.intro rY (And.intro rZ (And.intro eY eZ)))))))
  clear hD hE hX hY hZ hD2 iD iE iX iY iZ q12 q23 sD sE sX sY sZ lX rX rY rZ eY eZ z1 z2 X1 X2 X3 H1 H2 H3 I1 I2 I3
  have st : StR w [(B3, A3), (B2, A2), (B1, A1)] none w4.drew := (unhide R3).drew
  refine wp_region_two_ex (V := fun B => .pointer (some ⟨B, 0, none⟩)) (St := StR w [(B3, A3), (B2, A2), (B1, A1)]) (by kernel_rfl) (by kernel_rfl) (by kernel_rfl) st ?_
  clear st
  apply Exists.intro
  apply And.intro
  · intro c
    simp only [List.dropLast_cons_cons, List.dropLast_singleton]
    refine wpQuiet_load_B rfl (.tmp 7) rfl B1 rfl A1 (StR.range (by simp)) ?_
    refine wpQuiet_load_B rfl (.tmp 8) rfl B2 rfl A2 (StR.range (by simp)) ?_
    go_simp
    go_big_quiet_step (first | (go_at_call 15; exact unhide J12 _ c _))
    refine wpQuiet_load_B rfl (.tmp 9) rfl B3 rfl A3 (StR.range (by simp)) ?_
    go_simp
    go_big_quiet_step (first | (go_at_call 15; exact unhide JX _ c _))
    exact wpQuiet_nil rfl
  constructor
  · intro o1 ho
    simp only [List.dropLast_cons_cons, List.dropLast_singleton, List.getLast?_cons_cons, List.getLast?_singleton, Option.some.injEq] at ho
    subst ho
    refine ⟨rfl, fun w' hw' => ⟨w'.heap.size, w'.alloc (.cells #[.int .i64 0, .int .i64 0, .int .i64 0, .int .i64 0, .int .i64 0, .int .i64 0, .int .i64 0, .int .i64 0] 24), ?_, ?_⟩⟩
    · simp [execOp, go_sem]
    · exact ⟨Rs.alloc hw' zero, Rs.ne hw'⟩
  intro o1 o0 h1 h0 B4 w5' hw'
  simp only [List.dropLast_cons_cons, List.dropLast_singleton, List.getLast?_cons_cons, List.getLast?_singleton, Option.some.injEq] at h1 h0
  subst h1
  subst h0
  have hth := (hw'.1.row (B4, zero) List.mem_cons_self).there
  refine ⟨rfl, ?_⟩
  refine wp_store_mid 24 (.tmp 10) (.tmp 39) rfl B4 0 (cellsA X).toArray rfl rfl hth (by kernel_rfl) (by simp [Value.oneCell', cellsA, I]) ?_
  have R5 := hide (hw'.1.put hw'.2 X)
  have NB4 := hide hw'.2
  clear hth hw' R3
  change Exit.then _ _ _ _ (w5'.setCells B4 0 (cellsA X))
  generalize w5'.setCells B4 0 (cellsA X) = w5 at *
  go_simp
  go_upto_region 7 with fail
  have st : StR w [(B4, X), (B3, A3), (B2, A2), (B1, A1)] none w5.drew := (unhide R5).drew
  refine wp_region_two_ex (V := fun B => .pointer (some ⟨B, 0, none⟩)) (St := StR w [(B4, X), (B3, A3), (B2, A2), (B1, A1)]) (by kernel_rfl) (by kernel_rfl) (by kernel_rfl) st ?_
  clear st
  apply Exists.intro
  apply And.intro
  · intro c
    simp only [List.dropLast_cons_cons, List.dropLast_singleton]
    refine wpQuiet_load_B rfl (.tmp 7) rfl B1 rfl A1 (StR.range (by simp)) ?_
    refine wpQuiet_load_B rfl (.tmp 8) rfl B2 rfl A2 (StR.range (by simp)) ?_
    refine wpQuiet_load_B rfl (.tmp 9) rfl B3 rfl A3 (StR.range (by simp)) ?_
    go_simp
    go_big_quiet_step (first | (go_at_call 15; exact unhide J23 _ c _))
    go_big_quiet_step (first | (go_at_call 15; exact unhide JY _ c _))
    exact wpQuiet_nil rfl
  constructor
  · intro o1 ho
    simp only [List.dropLast_cons_cons, List.dropLast_singleton, List.getLast?_cons_cons, List.getLast?_singleton, Option.some.injEq] at ho
    subst ho
    refine ⟨rfl, fun w' hw' => ⟨w'.heap.size, w'.alloc (.cells #[.int .i64 0, .int .i64 0, .int .i64 0, .int .i64 0, .int .i64 0, .int .i64 0, .int .i64 0, .int .i64 0] 24), ?_, ?_⟩⟩
    · simp [execOp, go_sem]
    · exact ⟨Rs.alloc hw' zero, Rs.ne hw'⟩
  intro o1 o0 h1 h0 B5 w6' hw'
  simp only [List.dropLast_cons_cons, List.dropLast_singleton, List.getLast?_cons_cons, List.getLast?_singleton, Option.some.injEq] at h1 h0
  subst h1
  subst h0
  have hth := (hw'.1.row (B5, zero) List.mem_cons_self).there
  refine ⟨rfl, ?_⟩
  refine wp_store_mid 24 (.tmp 11) (.tmp 44) rfl B5 0 (cellsA Y).toArray rfl rfl hth (by kernel_rfl) (by simp [Value.oneCell', cellsA, I]) ?_
  have R6 := hide (hw'.1.put hw'.2 Y)
  have NB5 := hide hw'.2
  clear hth hw' R5
  change Exit.then _ _ _ _ (w6'.setCells B5 0 (cellsA Y))
  generalize w6'.setCells B5 0 (cellsA Y) = w6 at *
  go_simp
  go_upto_region 8 with fail
  have st : StR w [(B5, Y), (B4, X), (B3, A3), (B2, A2), (B1, A1)] none w6.drew := (unhide R6).drew
  refine wp_region_two_ex (V := fun B => .pointer (some ⟨B, 0, none⟩)) (St := StR w [(B5, Y), (B4, X), (B3, A3), (B2, A2), (B1, A1)]) (by kernel_rfl) (by kernel_rfl) (by kernel_rfl) st ?_
  clear st
  apply Exists.intro
  apply And.intro
  · intro c
    simp only [List.dropLast_cons_cons, List.dropLast_singleton]
    refine wpQuiet_load_B rfl (.tmp 9) rfl B3 rfl A3 (StR.range (by simp)) ?_
    refine wpQuiet_load_B rfl (.tmp 8) rfl B2 rfl A2 (StR.range (by simp)) ?_
    refine wpQuiet_load_B rfl (.tmp 7) rfl B1 rfl A1 (StR.range (by simp)) ?_
    go_simp
    go_big_quiet_step (first | (go_at_call 15; exact unhide J21 _ c _))
    go_big_quiet_step (first | (go_at_call 15; exact unhide JZ _ c _))
    exact wpQuiet_nil rfl
  constructor
  · intro o1 ho
    simp only [List.dropLast_cons_cons, List.dropLast_singleton, List.getLast?_cons_cons, List.getLast?_singleton, Option.some.injEq] at ho
    subst ho
    refine ⟨rfl, fun w' hw' => ⟨w'.heap.size, w'.alloc (.cells #[.int .i64 0, .int .i64 0, .int .i64 0, .int .i64 0, .int .i64 0, .int .i64 0, .int .i64 0, .int .i64 0] 24), ?_, ?_⟩⟩
    · simp [execOp, go_sem]
    · exact ⟨Rs.alloc hw' zero, Rs.ne hw'⟩
  intro o1 o0 h1 h0 B6 w7' hw'
  simp only [List.dropLast_cons_cons, List.dropLast_singleton, List.getLast?_cons_cons, List.getLast?_singleton, Option.some.injEq] at h1 h0
  subst h1
  subst h0
  have hth := (hw'.1.row (B6, zero) List.mem_cons_self).there
  refine ⟨rfl, ?_⟩
  refine wp_store_mid 24 (.tmp 12) (.tmp 49) rfl B6 0 (cellsA Z).toArray rfl rfl hth (by kernel_rfl) (by simp [Value.oneCell', cellsA, I]) ?_
  have R7 := hide (hw'.1.put hw'.2 Z)
  have NB6 := hide hw'.2
  clear hth hw' R6
  change Exit.then _ _ _ _ (w7'.setCells B6 0 (cellsA Z))
  generalize w7'.setCells B6 0 (cellsA Z) = w7 at *
  go_simp
  go_upto_region 9 with fail
  have st : StR w [(B6, Z), (B5, Y), (B4, X), (B3, A3), (B2, A2), (B1, A1)] none w7.drew := (unhide R7).drew
  have ne : Nonempty (SW (StR w [(B6, Z), (B5, Y), (B4, X), (B3, A3), (B2, A2), (B1, A1)] none)) := ⟨⟨_, st⟩⟩
  have hsa := sameA_self
  refine wp_region_sw (St := StR w [(B6, Z), (B5, Y), (B4, X), (B3, A3), (B2, A2), (B1, A1)] none) (by kernel_rfl) (by kernel_rfl) st ?_
  refine wpQuiet_load_B rfl (.tmp 7) rfl B1 rfl A1 (StR.range (by simp)) ?_
  refine wpQuiet_load_B rfl (.tmp 8) rfl B2 rfl A2 (StR.range (by simp)) ?_
  go_simp
  go_big_quiet_step (first | (go_at_call 15; exact unhide J12 _ none _))
  refine wpQuiet_load_B rfl (.tmp 8) rfl B2 rfl A2 (StR.range (by simp)) ?_
  refine wpQuiet_load_B rfl (.tmp 7) rfl B1 rfl A1 (StR.range (by simp)) ?_
  go_simp
  go_big_quiet_step (first | (go_at_call 15; exact unhide J21 _ none _))
  repeat (go_big_quiet_step (fail))
  refine wpQuiet_load_B rfl (.tmp 7) rfl B1 rfl A1 (StR.range (by simp)) ?_
  go_simp
  go_big_quiet_step (first | (go_at_call 18; exact unhide O0 _ none _))
  go_big_quiet_step (first | (go_at_call 15; exact unhide J10 _ none _))
  refine wpQuiet_load_B rfl (.tmp 7) rfl B1 rfl A1 (StR.range (by simp)) ?_
  go_simp
  repeat (go_big_quiet_step (fail))
  go_big_quiet_step (first | (go_at_call 18; exact unhide O0 _ none _))
  refine wpQuiet_load_B rfl (.tmp 7) rfl B1 rfl A1 (StR.range (by simp)) ?_
  go_simp
  go_big_quiet_step (first | (go_at_call 15; exact unhide J01 _ none _))
  refine wpQuiet_load_B rfl (.tmp 7) rfl B1 rfl A1 (StR.range (by simp)) ?_
  go_simp
  repeat (go_big_quiet_step (fail))
  refine wpQuiet_nil ?_
  rintro ⟨w8, st8⟩
  try dsimp only
  have R8 : Hid (Rs w [(B6, Z), (B5, Y), (B4, X), (B3, A3), (B2, A2), (B1, A1)] w8) := hide st8
  clear st8 st ne R7 J12 J21 J23 JX JY JZ J10 J01 O0
  go_upto_region 10 with fail
  have hr := ((unhide R8).row (B4, X) (by simp)).range
  go_step
  refine wpList_load_A rfl (.tmp 10) rfl B4 rfl X hr ?_
  clear hr
  go_wp2_with fail
  refine (right_any X _ (unhide HX).1).mono ?_
  rintro e w9 ⟨rfl, hb⟩
  rw [(unhide HX).2.2.2.1]
  have R9 := hide ((unhide R8).carry hb)
  clear hb R8
  have hr := ((unhide R9).row (B5, Y) (by simp)).range
  go_wp2_with (refine wpList_load_A rfl (.tmp 11) rfl B5 rfl Y hr ?_)
  clear hr
  refine (right_any Y _ (unhide HX).2.1).mono ?_
  rintro e w10 ⟨rfl, hb⟩
  rw [(unhide HX).2.2.2.2.1]
  have R10 := hide ((unhide R9).carry hb)
  clear hb R9
  have hr := ((unhide R10).row (B6, Z) (by simp)).range
  go_wp2_with (refine wpList_load_A rfl (.tmp 12) rfl B6 rfl Z hr ?_)
  clear hr
  refine (right_any Z _ (unhide HX).2.2.1).mono ?_
  rintro e w11 ⟨rfl, hb⟩
  rw [(unhide HX).2.2.2.2.2.1]
  have R11 := hide ((unhide R10).carry hb)
  clear hb R10
  have K4 := hide ((unhide R11).row (B4, X) (by simp))
  have K5 := hide ((unhide R11).row (B5, Y) (by simp))
  have K6 := hide ((unhide R11).row (B6, Z) (by simp))
  have n54 : ¬ B4 = B5 := (unhide NB5) (B4, X) (by simp)
  have n64 : ¬ B4 = B6 := (unhide NB6) (B4, X) (by simp)
  have n65 : ¬ B5 = B6 := (unhide NB6) (B5, Y) (by simp)
  have v4 : w11.cell? ⟨B4, 1, none⟩ = some (.int .i64 X.sum) := (unhide K4).cell 1 (show 1 < 8 by decide)
  have v5 : w11.cell? ⟨B5, 1, none⟩ = some (.int .i64 Y.sum) := (unhide K5).cell 1 (show 1 < 8 by decide)
  have v6 : w11.cell? ⟨B6, 1, none⟩ = some (.int .i64 Z.sum) := (unhide K6).cell 1 (show 1 < 8 by decide)
  have u5 : w11.frozen? ⟨B5, 1, none⟩ = false := (unhide K5).free 1 (show 1 < 8 by decide)
  have u6 : w11.frozen? ⟨B6, 1, none⟩ = false := (unhide K6).free 1 (show 1 < 8 by decide)
  have KW : Hid (∀ wq, wq = (w11.setCell ⟨B5, 1, none⟩ (.int .i64 X.sum)).setCell ⟨B6, 1, none⟩ (.int .i64 X.sum) → RowAt wq B4 (cellsA X) ∧ RowAt wq B5 (cellsA X) ∧ RowAt wq B6 (cellsA X) ∧ Below w.heap.size w wq) := hide (by
    rintro wq rfl
    have m5 := moved_set w11 B5 1 (.int .i64 X.sum)
    have m6 := moved_set (w11.setCell ⟨B5, 1, none⟩ (.int .i64 X.sum)) B6 1 (.int .i64 X.sum)
    have e5 : (cellsA Y).set 1 (.int .i64 X.sum) = cellsA X := by rw [← (unhide HX).2.2.2.2.2.2.1]; rfl
    have e6 : (cellsA Z).set 1 (.int .i64 X.sum) = cellsA X := by rw [← (unhide HX).2.2.2.2.2.2.2]; rfl
    have p5 := (unhide K5).set 1 (show 1 < 8 by decide) (.int .i64 X.sum)
    rw [e5] at p5
    have p6 := ((unhide K6).keep m5 (fun e => n65 e.symm)).set 1 (show 1 < 8 by decide) (.int .i64 X.sum)
    rw [e6] at p6
    refine ⟨((unhide K4).keep m5 n54).keep m6 n64, p5.keep m6 n65, p6, ?_⟩
    exact ((unhide R11).below.setCell (p := ⟨B5, 1, none⟩) ((unhide R11).new (B5, Y) (by simp)) _).setCell (p := ⟨B6, 1, none⟩) ((unhide R11).new (B6, Z) (by simp)) _)
  clear K4 K5 K6 R11 HX NB4 NB5 NB6
  go_upto_region 13 with fail
  clear v4 v5 v6 u5 u6 n54 n64 n65
  generalize (w11.setCell ⟨B5, 1, none⟩ (.int .i64 X.sum)).setCell ⟨B6, 1, none⟩ (.int .i64 X.sum) = w12 at *
  have hr4 := (unhide KW w12 rfl).1.range
  have hr5 := (unhide KW w12 rfl).2.1.range
  have hr6 := (unhide KW w12 rfl).2.2.1.range
  have BL := hide (unhide KW w12 rfl).2.2.2
  clear KW
  go_wp2_with (first | (refine wpList_load_A rfl (.tmp 10) rfl B4 rfl X hr4 ?_) | (refine wpList_load_A rfl (.tmp 11) rfl B5 rfl X hr5 ?_) | (refine wpList_load_A rfl (.tmp 12) rfl B6 rfl X hr6 ?_))
  clear hr4 hr5 hr6
  refine (awake_any _).mono ?_
  rintro e w13 ⟨rfl, hb⟩
  have B := hide ((unhide BL).trans (hb.mono (unhide BL).size))
  clear hb
  go_wp2_with fail
  go_ret
  exact ⟨rfl, unhide B⟩
end Go.Proofs.Ytiokfnkcjicheaa

/- What the program's Right, and the document's, answer: the plain one; nothing that was there has turned. Conditions: all numbers are int64's. -/
import Derived.Test.YtigmhljaoicdbaaGreatHist
import Derived.Test.YtigmhljaoicdbaaGreatRefA
namespace Go.Proofs.YtigmhljaoicdbaaGreat
open Go.RowKit

theorem same_parts (ac aS amn amx a0 a1 a2 a3 : Int) : sameA ⟨ac, aS, amn, amx, a0, a1, a2, a3⟩ ⟨0, 0, 0, 0, 0, 0, 0, 0⟩ = (decide (ac = 0) && decide (aS = 0) && decide (amn = 0) && decide (amx = 0) && decide (a0 = 0 ∧ a1 = 0 ∧ a2 = 0 ∧ a3 = 0)) := by
  unfold sameA
  simp [Bool.and_assoc]
theorem zero_same (a : AggV) : sameA a ⟨0, 0, 0, 0, 0, 0, 0, 0⟩ = isZero a := by
  obtain ⟨ac, aS, amn, amx, a0, a1, a2, a3⟩ := a
  unfold sameA isZero
  simp [Bool.and_assoc]
theorem right_zero (a : AggV) (h : a.count = 0) : right a = sameA a ⟨0, 0, 0, 0, 0, 0, 0, 0⟩ := by unfold right; rw [if_pos h, zero_same]
theorem right_neg (a : AggV) (h : ¬ a.count = 0) (h1 : ¬ 0 < a.count) : right a = false := by unfold right; rw [if_neg h]; simp [h1]
theorem right_ord (a : AggV) (h : ¬ a.count = 0) (h1 : ¬ a.mn ≤ a.mx) : right a = false := by unfold right; rw [if_neg h]; simp [h1]
theorem right_hist (a : AggV) (h : 0 < a.count) (h1 : a.mn ≤ a.mx) : right a = rightHist a := by unfold right; rw [if_neg (by omega)]; simp [h, h1]
set_option maxHeartbeats 1000000 in
set_option maxRecDepth 100000 in
theorem right_any (a : AggV) (w : World) (ha : a.In) :
    Calls Tryz.prog 109 #[aggV a] w fun e w' => e = .returned (.bool (right a)) ∧ Below w.heap.size w w' := by
  obtain ⟨ac, aS, amn, amx, a0, a1, a2, a3⟩ := a
  have HA := hide ha
  clear ha
  by_cases hc : ac = 0
  · rw [right_zero _ (show (AggV.mk ac aS amn amx a0 a1 a2 a3).count = 0 from hc)]
    subst hc
    simp only [aggV, cellsA, I]
    go_enter Tryz.func109, Tryz.ntmps109
    go_wp2_with fail
    all_goals
      go_ret
      refine ⟨congrArg (fun b => Ending.returned (Value.bool b)) (show _ = sameA _ _ from ?_), (Below.refl _ _).alloc (Nat.le_refl _) _⟩
      rw [same_parts]
      first | (simp; done) | (simp [*]; done) | (simp_all; done) | trace_state
  · by_cases hp : 0 < ac
    · by_cases ho : amn ≤ amx
      · rw [right_hist _ (show 0 < (AggV.mk ac aS amn amx a0 a1 a2 a3).count from hp) (show (AggV.mk ac aS amn amx a0 a1 a2 a3).mn ≤ (AggV.mk ac aS amn amx a0 a1 a2 a3).mx from ho)]
        simp only [aggV, cellsA, I]
        go_enter Tryz.func109, Tryz.ntmps109
        go_wp2_with fail
        refine (hist_any ⟨ac, aS, amn, amx, a0, a1, a2, a3⟩ _ (unhide HA)).mono ?_
        rintro e w1 ⟨rfl, hb⟩
        have HBl := hide (((Below.refl w.heap.size w).alloc (Nat.le_refl _) (.cells #[.int .i64 ac, .int .i64 aS, .int .i64 amn, .int .i64 amx, .int .i64 a0, .int .i64 a1, .int .i64 a2, .int .i64 a3] 50)).trans (hb.mono (by simp)))
        clear hb
        go_wp2_with fail
        go_ret
        exact ⟨rfl, unhide HBl⟩
      · rw [right_ord _ (show ¬ (AggV.mk ac aS amn amx a0 a1 a2 a3).count = 0 from hc) (show ¬ (AggV.mk ac aS amn amx a0 a1 a2 a3).mn ≤ (AggV.mk ac aS amn amx a0 a1 a2 a3).mx from ho)]
        simp only [aggV, cellsA, I]
        go_enter Tryz.func109, Tryz.ntmps109
        go_wp2_with fail
        go_ret
        exact ⟨rfl, (Below.refl _ _).alloc (Nat.le_refl _) _⟩
    · rw [right_neg _ (show ¬ (AggV.mk ac aS amn amx a0 a1 a2 a3).count = 0 from hc) (show ¬ 0 < (AggV.mk ac aS amn amx a0 a1 a2 a3).count from hp)]
      simp only [aggV, cellsA, I]
      go_enter Tryz.func109, Tryz.ntmps109
      go_wp2_with fail
      go_ret
      exact ⟨rfl, (Below.refl _ _).alloc (Nat.le_refl _) _⟩

set_option maxHeartbeats 4000000 in
set_option maxRecDepth 100000 in
theorem ref_right_any (a : AggV) (w : World) (ha : a.In) :
    Calls Tryz.prog 94 #[aggV a] w fun e w' => e = .returned (.bool (right a)) ∧ Below w.heap.size w w' := by
  obtain ⟨ac, aS, amn, amx, a0, a1, a2, a3⟩ := a
  have HA := hide ha
  clear ha
  by_cases hc : ac = 0
  · rw [right_zero _ (show (AggV.mk ac aS amn amx a0 a1 a2 a3).count = 0 from hc)]
    subst hc
    simp only [aggV, cellsA, I]
    go_enter Tryz.func94, Tryz.ntmps94
    go_wp2_with fail
    all_goals
      go_ret
      refine ⟨congrArg (fun b => Ending.returned (Value.bool b)) (show _ = sameA _ _ from ?_), (Below.refl _ _).alloc (Nat.le_refl _) _⟩
      rw [same_parts]
      first | (simp; done) | (simp [*]; done) | (simp_all; done) | trace_state
  by_cases hp : 0 < ac
  case neg =>
    rw [right_neg _ (show ¬ (AggV.mk ac aS amn amx a0 a1 a2 a3).count = 0 from hc) (show ¬ 0 < (AggV.mk ac aS amn amx a0 a1 a2 a3).count from hp)]
    have hp' : ac < 0 := by omega
    simp only [aggV, cellsA, I]
    go_enter Tryz.func94, Tryz.ntmps94
    go_wp2_with fail
    go_ret
    exact ⟨rfl, (Below.refl _ _).alloc (Nat.le_refl _) _⟩
  have hp' : ¬ ac < 0 := by omega
  by_cases ho : amn ≤ amx
  case neg =>
    rw [right_ord _ (show ¬ (AggV.mk ac aS amn amx a0 a1 a2 a3).count = 0 from hc) (show ¬ (AggV.mk ac aS amn amx a0 a1 a2 a3).mn ≤ (AggV.mk ac aS amn amx a0 a1 a2 a3).mx from ho)]
    have ho' : amx < amn := by omega
    simp only [aggV, cellsA, I]
    go_enter Tryz.func94, Tryz.ntmps94
    go_wp2_with fail
    go_ret
    exact ⟨rfl, (Below.refl _ _).alloc (Nat.le_refl _) _⟩
  have ho' : ¬ amx < amn := by omega
  rw [right_hist _ (show 0 < (AggV.mk ac aS amn amx a0 a1 a2 a3).count from hp) (show (AggV.mk ac aS amn amx a0 a1 a2 a3).mn ≤ (AggV.mk ac aS amn amx a0 a1 a2 a3).mx from ho)]
  simp only [aggV, cellsA, I]
  go_enter Tryz.func94, Tryz.ntmps94
  go_wp2_with fail
  go_loop [3, 4, 5, 6, 7] (fun sH sS sF sG si => ∃ k : Nat, k ≤ 4 ∧ sH = .bool (fH ⟨ac, aS, amn, amx, a0, a1, a2, a3⟩ k) ∧ sS = .int .i64 (fS ⟨ac, aS, amn, amx, a0, a1, a2, a3⟩ k) ∧ sF = .int .i64 (fF ⟨ac, aS, amn, amx, a0, a1, a2, a3⟩ k) ∧ sG = .int .i64 (fG ⟨ac, aS, amn, amx, a0, a1, a2, a3⟩ k) ∧ si = .int .i64 k ∧ fN ⟨ac, aS, amn, amx, a0, a1, a2, a3⟩ k) (fun _ _ _ _ si => 4 - (intOf si).toNat)
  case atStart => exact ⟨0, by omega, rfl, rfl, rfl, rfl, rfl, fN0 _⟩
  case round =>
    obtain ⟨k, hk, rfl, rfl, rfl, rfl, rfl, hn⟩ := hrel
    have HN := hide hn
    clear hn
    rcases (by omega : k = 0 ∨ k = 1 ∨ k = 2 ∨ k = 3 ∨ k = 4) with rfl | rfl | rfl | rfl | rfl
    · have ES : Hid (fS ⟨ac, aS, amn, amx, a0, a1, a2, a3⟩ 1 = plus (fS ⟨ac, aS, amn, amx, a0, a1, a2, a3⟩ 0) a0) := hide rfl
      have EF : Hid (fF ⟨ac, aS, amn, amx, a0, a1, a2, a3⟩ 1 = stF (fF ⟨ac, aS, amn, amx, a0, a1, a2, a3⟩ 0) a0 0) := hide rfl
      have EG : Hid (fG ⟨ac, aS, amn, amx, a0, a1, a2, a3⟩ 1 = stG (fG ⟨ac, aS, amn, amx, a0, a1, a2, a3⟩ 0) a0 0) := hide rfl
      have EH : Hid (fH ⟨ac, aS, amn, amx, a0, a1, a2, a3⟩ 1 = stH (fH ⟨ac, aS, amn, amx, a0, a1, a2, a3⟩ 0) a0) := hide rfl
      have iS := hide (fS_in ⟨ac, aS, amn, amx, a0, a1, a2, a3⟩ 0)
      generalize fS ⟨ac, aS, amn, amx, a0, a1, a2, a3⟩ 0 = s at *
      generalize fF ⟨ac, aS, amn, amx, a0, a1, a2, a3⟩ 0 = l at *
      generalize fG ⟨ac, aS, amn, amx, a0, a1, a2, a3⟩ 0 = g at *
      generalize fH ⟨ac, aS, amn, amx, a0, a1, a2, a3⟩ 0 = b at *
      by_cases hneg : a0 < 0
      · have hR := hide (neg_right0 ⟨ac, aS, amn, amx, a0, a1, a2, a3⟩ (show a0 < 0 from hneg))
        go_wp2_with fail
        go_ret
        rw [unhide hR]
        exact ⟨rfl, (Below.refl _ _).alloc (Nat.le_refl _) _⟩
      · by_cases hpos : 0 < a0
        · by_cases hl : l < 0
          · cases b
            · skip
              go_wp2_with fail
              refine (ref_plus_any _ _ _ (unhide iS) (unhide HA).h0).mono ?_
              rintro e w1 ⟨rfl, rfl⟩
              go_wp2_with fail
              all_goals
                go_round
                case rel =>
                  refine ⟨1, by omega, ?_, ?_, ?_, ?_, by go_num, fN_step0 (unhide HN) (by omega)⟩
                  all_goals first
                    | (rw [unhide ES]; done)
                    | (rw [unhide EF, stF_yes (by omega)]; done)
                    | (rw [unhide EF, stF_no (by omega)]; done)
                    | (rw [unhide EG, stG_yes (by omega)]; done)
                    | (rw [unhide EG, stG_no (by omega)]; done)
                    | (rw [unhide EH]; first | exact stH_f _ | exact stH_t _)
                    | trace_state
                case measure => simp [intOf]

            · skip
              go_wp2_with fail
              refine (ref_plus_any _ _ _ (unhide iS) (unhide HA).h0).mono ?_
              rintro e w1 ⟨rfl, rfl⟩
              go_wp2_with fail
              all_goals
                go_round
                case rel =>
                  refine ⟨1, by omega, ?_, ?_, ?_, ?_, by go_num, fN_step0 (unhide HN) (by omega)⟩
                  all_goals first
                    | (rw [unhide ES]; done)
                    | (rw [unhide EF, stF_yes (by omega)]; done)
                    | (rw [unhide EF, stF_no (by omega)]; done)
                    | (rw [unhide EG, stG_yes (by omega)]; done)
                    | (rw [unhide EG, stG_no (by omega)]; done)
                    | (rw [unhide EH]; first | exact stH_f _ | exact stH_t _)
                    | trace_state
                case measure => simp [intOf]

          · cases b
            · skip
              go_wp2_with fail
              refine (ref_plus_any _ _ _ (unhide iS) (unhide HA).h0).mono ?_
              rintro e w1 ⟨rfl, rfl⟩
              go_wp2_with fail
              all_goals
                go_round
                case rel =>
                  refine ⟨1, by omega, ?_, ?_, ?_, ?_, by go_num, fN_step0 (unhide HN) (by omega)⟩
                  all_goals first
                    | (rw [unhide ES]; done)
                    | (rw [unhide EF, stF_yes (by omega)]; done)
                    | (rw [unhide EF, stF_no (by omega)]; done)
                    | (rw [unhide EG, stG_yes (by omega)]; done)
                    | (rw [unhide EG, stG_no (by omega)]; done)
                    | (rw [unhide EH]; first | exact stH_f _ | exact stH_t _)
                    | trace_state
                case measure => simp [intOf]

            · skip
              go_wp2_with fail
              refine (ref_plus_any _ _ _ (unhide iS) (unhide HA).h0).mono ?_
              rintro e w1 ⟨rfl, rfl⟩
              go_wp2_with fail
              all_goals
                go_round
                case rel =>
                  refine ⟨1, by omega, ?_, ?_, ?_, ?_, by go_num, fN_step0 (unhide HN) (by omega)⟩
                  all_goals first
                    | (rw [unhide ES]; done)
                    | (rw [unhide EF, stF_yes (by omega)]; done)
                    | (rw [unhide EF, stF_no (by omega)]; done)
                    | (rw [unhide EG, stG_yes (by omega)]; done)
                    | (rw [unhide EG, stG_no (by omega)]; done)
                    | (rw [unhide EH]; first | exact stH_f _ | exact stH_t _)
                    | trace_state
                case measure => simp [intOf]

        · cases b
          · skip
            go_wp2_with fail
            refine (ref_plus_any _ _ _ (unhide iS) (unhide HA).h0).mono ?_
            rintro e w1 ⟨rfl, rfl⟩
            go_wp2_with fail
            all_goals
              go_round
              case rel =>
                refine ⟨1, by omega, ?_, ?_, ?_, ?_, by go_num, fN_step0 (unhide HN) (by omega)⟩
                all_goals first
                  | (rw [unhide ES]; done)
                  | (rw [unhide EF, stF_yes (by omega)]; done)
                  | (rw [unhide EF, stF_no (by omega)]; done)
                  | (rw [unhide EG, stG_yes (by omega)]; done)
                  | (rw [unhide EG, stG_no (by omega)]; done)
                  | (rw [unhide EH]; first | exact stH_f _ | exact stH_t _)
                  | trace_state
              case measure => simp [intOf]

          · skip
            go_wp2_with fail
            refine (ref_plus_any _ _ _ (unhide iS) (unhide HA).h0).mono ?_
            rintro e w1 ⟨rfl, rfl⟩
            go_wp2_with fail
            all_goals
              go_round
              case rel =>
                refine ⟨1, by omega, ?_, ?_, ?_, ?_, by go_num, fN_step0 (unhide HN) (by omega)⟩
                all_goals first
                  | (rw [unhide ES]; done)
                  | (rw [unhide EF, stF_yes (by omega)]; done)
                  | (rw [unhide EF, stF_no (by omega)]; done)
                  | (rw [unhide EG, stG_yes (by omega)]; done)
                  | (rw [unhide EG, stG_no (by omega)]; done)
                  | (rw [unhide EH]; first | exact stH_f _ | exact stH_t _)
                  | trace_state
              case measure => simp [intOf]

    · have ES : Hid (fS ⟨ac, aS, amn, amx, a0, a1, a2, a3⟩ 2 = plus (fS ⟨ac, aS, amn, amx, a0, a1, a2, a3⟩ 1) a1) := hide rfl
      have EF : Hid (fF ⟨ac, aS, amn, amx, a0, a1, a2, a3⟩ 2 = stF (fF ⟨ac, aS, amn, amx, a0, a1, a2, a3⟩ 1) a1 1) := hide rfl
      have EG : Hid (fG ⟨ac, aS, amn, amx, a0, a1, a2, a3⟩ 2 = stG (fG ⟨ac, aS, amn, amx, a0, a1, a2, a3⟩ 1) a1 1) := hide rfl
      have EH : Hid (fH ⟨ac, aS, amn, amx, a0, a1, a2, a3⟩ 2 = stH (fH ⟨ac, aS, amn, amx, a0, a1, a2, a3⟩ 1) a1) := hide rfl
      have iS := hide (fS_in ⟨ac, aS, amn, amx, a0, a1, a2, a3⟩ 1)
      generalize fS ⟨ac, aS, amn, amx, a0, a1, a2, a3⟩ 1 = s at *
      generalize fF ⟨ac, aS, amn, amx, a0, a1, a2, a3⟩ 1 = l at *
      generalize fG ⟨ac, aS, amn, amx, a0, a1, a2, a3⟩ 1 = g at *
      generalize fH ⟨ac, aS, amn, amx, a0, a1, a2, a3⟩ 1 = b at *
      by_cases hneg : a1 < 0
      · have hR := hide (neg_right1 ⟨ac, aS, amn, amx, a0, a1, a2, a3⟩ (show a1 < 0 from hneg))
        go_wp2_with fail
        go_ret
        rw [unhide hR]
        exact ⟨rfl, (Below.refl _ _).alloc (Nat.le_refl _) _⟩
      · by_cases hpos : 0 < a1
        · by_cases hl : l < 0
          · cases b
            · skip
              go_wp2_with fail
              refine (ref_plus_any _ _ _ (unhide iS) (unhide HA).h1).mono ?_
              rintro e w1 ⟨rfl, rfl⟩
              go_wp2_with fail
              all_goals
                go_round
                case rel =>
                  refine ⟨2, by omega, ?_, ?_, ?_, ?_, by go_num, fN_step1 (unhide HN) (by omega)⟩
                  all_goals first
                    | (rw [unhide ES]; done)
                    | (rw [unhide EF, stF_yes (by omega)]; done)
                    | (rw [unhide EF, stF_no (by omega)]; done)
                    | (rw [unhide EG, stG_yes (by omega)]; done)
                    | (rw [unhide EG, stG_no (by omega)]; done)
                    | (rw [unhide EH]; first | exact stH_f _ | exact stH_t _)
                    | trace_state
                case measure => simp [intOf]

            · skip
              go_wp2_with fail
              refine (ref_plus_any _ _ _ (unhide iS) (unhide HA).h1).mono ?_
              rintro e w1 ⟨rfl, rfl⟩
              go_wp2_with fail
              all_goals
                go_round
                case rel =>
                  refine ⟨2, by omega, ?_, ?_, ?_, ?_, by go_num, fN_step1 (unhide HN) (by omega)⟩
                  all_goals first
                    | (rw [unhide ES]; done)
                    | (rw [unhide EF, stF_yes (by omega)]; done)
                    | (rw [unhide EF, stF_no (by omega)]; done)
                    | (rw [unhide EG, stG_yes (by omega)]; done)
                    | (rw [unhide EG, stG_no (by omega)]; done)
                    | (rw [unhide EH]; first | exact stH_f _ | exact stH_t _)
                    | trace_state
                case measure => simp [intOf]

          · cases b
            · skip
              go_wp2_with fail
              refine (ref_plus_any _ _ _ (unhide iS) (unhide HA).h1).mono ?_
              rintro e w1 ⟨rfl, rfl⟩
              go_wp2_with fail
              all_goals
                go_round
                case rel =>
                  refine ⟨2, by omega, ?_, ?_, ?_, ?_, by go_num, fN_step1 (unhide HN) (by omega)⟩
                  all_goals first
                    | (rw [unhide ES]; done)
                    | (rw [unhide EF, stF_yes (by omega)]; done)
                    | (rw [unhide EF, stF_no (by omega)]; done)
                    | (rw [unhide EG, stG_yes (by omega)]; done)
                    | (rw [unhide EG, stG_no (by omega)]; done)
                    | (rw [unhide EH]; first | exact stH_f _ | exact stH_t _)
                    | trace_state
                case measure => simp [intOf]

            · skip
              go_wp2_with fail
              refine (ref_plus_any _ _ _ (unhide iS) (unhide HA).h1).mono ?_
              rintro e w1 ⟨rfl, rfl⟩
              go_wp2_with fail
              all_goals
                go_round
                case rel =>
                  refine ⟨2, by omega, ?_, ?_, ?_, ?_, by go_num, fN_step1 (unhide HN) (by omega)⟩
                  all_goals first
                    | (rw [unhide ES]; done)
                    | (rw [unhide EF, stF_yes (by omega)]; done)
                    | (rw [unhide EF, stF_no (by omega)]; done)
                    | (rw [unhide EG, stG_yes (by omega)]; done)
                    | (rw [unhide EG, stG_no (by omega)]; done)
                    | (rw [unhide EH]; first | exact stH_f _ | exact stH_t _)
                    | trace_state
                case measure => simp [intOf]

        · cases b
          · skip
            go_wp2_with fail
            refine (ref_plus_any _ _ _ (unhide iS) (unhide HA).h1).mono ?_
            rintro e w1 ⟨rfl, rfl⟩
            go_wp2_with fail
            all_goals
              go_round
              case rel =>
                refine ⟨2, by omega, ?_, ?_, ?_, ?_, by go_num, fN_step1 (unhide HN) (by omega)⟩
                all_goals first
                  | (rw [unhide ES]; done)
                  | (rw [unhide EF, stF_yes (by omega)]; done)
                  | (rw [unhide EF, stF_no (by omega)]; done)
                  | (rw [unhide EG, stG_yes (by omega)]; done)
                  | (rw [unhide EG, stG_no (by omega)]; done)
                  | (rw [unhide EH]; first | exact stH_f _ | exact stH_t _)
                  | trace_state
              case measure => simp [intOf]

          · skip
            go_wp2_with fail
            refine (ref_plus_any _ _ _ (unhide iS) (unhide HA).h1).mono ?_
            rintro e w1 ⟨rfl, rfl⟩
            go_wp2_with fail
            all_goals
              go_round
              case rel =>
                refine ⟨2, by omega, ?_, ?_, ?_, ?_, by go_num, fN_step1 (unhide HN) (by omega)⟩
                all_goals first
                  | (rw [unhide ES]; done)
                  | (rw [unhide EF, stF_yes (by omega)]; done)
                  | (rw [unhide EF, stF_no (by omega)]; done)
                  | (rw [unhide EG, stG_yes (by omega)]; done)
                  | (rw [unhide EG, stG_no (by omega)]; done)
                  | (rw [unhide EH]; first | exact stH_f _ | exact stH_t _)
                  | trace_state
              case measure => simp [intOf]

    · have ES : Hid (fS ⟨ac, aS, amn, amx, a0, a1, a2, a3⟩ 3 = plus (fS ⟨ac, aS, amn, amx, a0, a1, a2, a3⟩ 2) a2) := hide rfl
      have EF : Hid (fF ⟨ac, aS, amn, amx, a0, a1, a2, a3⟩ 3 = stF (fF ⟨ac, aS, amn, amx, a0, a1, a2, a3⟩ 2) a2 2) := hide rfl
      have EG : Hid (fG ⟨ac, aS, amn, amx, a0, a1, a2, a3⟩ 3 = stG (fG ⟨ac, aS, amn, amx, a0, a1, a2, a3⟩ 2) a2 2) := hide rfl
      have EH : Hid (fH ⟨ac, aS, amn, amx, a0, a1, a2, a3⟩ 3 = stH (fH ⟨ac, aS, amn, amx, a0, a1, a2, a3⟩ 2) a2) := hide rfl
      have iS := hide (fS_in ⟨ac, aS, amn, amx, a0, a1, a2, a3⟩ 2)
      generalize fS ⟨ac, aS, amn, amx, a0, a1, a2, a3⟩ 2 = s at *
      generalize fF ⟨ac, aS, amn, amx, a0, a1, a2, a3⟩ 2 = l at *
      generalize fG ⟨ac, aS, amn, amx, a0, a1, a2, a3⟩ 2 = g at *
      generalize fH ⟨ac, aS, amn, amx, a0, a1, a2, a3⟩ 2 = b at *
      by_cases hneg : a2 < 0
      · have hR := hide (neg_right2 ⟨ac, aS, amn, amx, a0, a1, a2, a3⟩ (show a2 < 0 from hneg))
        go_wp2_with fail
        go_ret
        rw [unhide hR]
        exact ⟨rfl, (Below.refl _ _).alloc (Nat.le_refl _) _⟩
      · by_cases hpos : 0 < a2
        · by_cases hl : l < 0
          · cases b
            · skip
              go_wp2_with fail
              refine (ref_plus_any _ _ _ (unhide iS) (unhide HA).h2).mono ?_
              rintro e w1 ⟨rfl, rfl⟩
              go_wp2_with fail
              all_goals
                go_round
                case rel =>
                  refine ⟨3, by omega, ?_, ?_, ?_, ?_, by go_num, fN_step2 (unhide HN) (by omega)⟩
                  all_goals first
                    | (rw [unhide ES]; done)
                    | (rw [unhide EF, stF_yes (by omega)]; done)
                    | (rw [unhide EF, stF_no (by omega)]; done)
                    | (rw [unhide EG, stG_yes (by omega)]; done)
                    | (rw [unhide EG, stG_no (by omega)]; done)
                    | (rw [unhide EH]; first | exact stH_f _ | exact stH_t _)
                    | trace_state
                case measure => simp [intOf]

            · skip
              go_wp2_with fail
              refine (ref_plus_any _ _ _ (unhide iS) (unhide HA).h2).mono ?_
              rintro e w1 ⟨rfl, rfl⟩
              go_wp2_with fail
              all_goals
                go_round
                case rel =>
                  refine ⟨3, by omega, ?_, ?_, ?_, ?_, by go_num, fN_step2 (unhide HN) (by omega)⟩
                  all_goals first
                    | (rw [unhide ES]; done)
                    | (rw [unhide EF, stF_yes (by omega)]; done)
                    | (rw [unhide EF, stF_no (by omega)]; done)
                    | (rw [unhide EG, stG_yes (by omega)]; done)
                    | (rw [unhide EG, stG_no (by omega)]; done)
                    | (rw [unhide EH]; first | exact stH_f _ | exact stH_t _)
                    | trace_state
                case measure => simp [intOf]

          · cases b
            · skip
              go_wp2_with fail
              refine (ref_plus_any _ _ _ (unhide iS) (unhide HA).h2).mono ?_
              rintro e w1 ⟨rfl, rfl⟩
              go_wp2_with fail
              all_goals
                go_round
                case rel =>
                  refine ⟨3, by omega, ?_, ?_, ?_, ?_, by go_num, fN_step2 (unhide HN) (by omega)⟩
                  all_goals first
                    | (rw [unhide ES]; done)
                    | (rw [unhide EF, stF_yes (by omega)]; done)
                    | (rw [unhide EF, stF_no (by omega)]; done)
                    | (rw [unhide EG, stG_yes (by omega)]; done)
                    | (rw [unhide EG, stG_no (by omega)]; done)
                    | (rw [unhide EH]; first | exact stH_f _ | exact stH_t _)
                    | trace_state
                case measure => simp [intOf]

            · skip
              go_wp2_with fail
              refine (ref_plus_any _ _ _ (unhide iS) (unhide HA).h2).mono ?_
              rintro e w1 ⟨rfl, rfl⟩
              go_wp2_with fail
              all_goals
                go_round
                case rel =>
                  refine ⟨3, by omega, ?_, ?_, ?_, ?_, by go_num, fN_step2 (unhide HN) (by omega)⟩
                  all_goals first
                    | (rw [unhide ES]; done)
                    | (rw [unhide EF, stF_yes (by omega)]; done)
                    | (rw [unhide EF, stF_no (by omega)]; done)
                    | (rw [unhide EG, stG_yes (by omega)]; done)
                    | (rw [unhide EG, stG_no (by omega)]; done)
                    | (rw [unhide EH]; first | exact stH_f _ | exact stH_t _)
                    | trace_state
                case measure => simp [intOf]

        · cases b
          · skip
            go_wp2_with fail
            refine (ref_plus_any _ _ _ (unhide iS) (unhide HA).h2).mono ?_
            rintro e w1 ⟨rfl, rfl⟩
            go_wp2_with fail
            all_goals
              go_round
              case rel =>
                refine ⟨3, by omega, ?_, ?_, ?_, ?_, by go_num, fN_step2 (unhide HN) (by omega)⟩
                all_goals first
                  | (rw [unhide ES]; done)
                  | (rw [unhide EF, stF_yes (by omega)]; done)
                  | (rw [unhide EF, stF_no (by omega)]; done)
                  | (rw [unhide EG, stG_yes (by omega)]; done)
                  | (rw [unhide EG, stG_no (by omega)]; done)
                  | (rw [unhide EH]; first | exact stH_f _ | exact stH_t _)
                  | trace_state
              case measure => simp [intOf]

          · skip
            go_wp2_with fail
            refine (ref_plus_any _ _ _ (unhide iS) (unhide HA).h2).mono ?_
            rintro e w1 ⟨rfl, rfl⟩
            go_wp2_with fail
            all_goals
              go_round
              case rel =>
                refine ⟨3, by omega, ?_, ?_, ?_, ?_, by go_num, fN_step2 (unhide HN) (by omega)⟩
                all_goals first
                  | (rw [unhide ES]; done)
                  | (rw [unhide EF, stF_yes (by omega)]; done)
                  | (rw [unhide EF, stF_no (by omega)]; done)
                  | (rw [unhide EG, stG_yes (by omega)]; done)
                  | (rw [unhide EG, stG_no (by omega)]; done)
                  | (rw [unhide EH]; first | exact stH_f _ | exact stH_t _)
                  | trace_state
              case measure => simp [intOf]

    · have ES : Hid (fS ⟨ac, aS, amn, amx, a0, a1, a2, a3⟩ 4 = plus (fS ⟨ac, aS, amn, amx, a0, a1, a2, a3⟩ 3) a3) := hide rfl
      have EF : Hid (fF ⟨ac, aS, amn, amx, a0, a1, a2, a3⟩ 4 = stF (fF ⟨ac, aS, amn, amx, a0, a1, a2, a3⟩ 3) a3 3) := hide rfl
      have EG : Hid (fG ⟨ac, aS, amn, amx, a0, a1, a2, a3⟩ 4 = stG (fG ⟨ac, aS, amn, amx, a0, a1, a2, a3⟩ 3) a3 3) := hide rfl
      have EH : Hid (fH ⟨ac, aS, amn, amx, a0, a1, a2, a3⟩ 4 = stH (fH ⟨ac, aS, amn, amx, a0, a1, a2, a3⟩ 3) a3) := hide rfl
      have iS := hide (fS_in ⟨ac, aS, amn, amx, a0, a1, a2, a3⟩ 3)
      generalize fS ⟨ac, aS, amn, amx, a0, a1, a2, a3⟩ 3 = s at *
      generalize fF ⟨ac, aS, amn, amx, a0, a1, a2, a3⟩ 3 = l at *
      generalize fG ⟨ac, aS, amn, amx, a0, a1, a2, a3⟩ 3 = g at *
      generalize fH ⟨ac, aS, amn, amx, a0, a1, a2, a3⟩ 3 = b at *
      by_cases hneg : a3 < 0
      · have hR := hide (neg_right3 ⟨ac, aS, amn, amx, a0, a1, a2, a3⟩ (show a3 < 0 from hneg))
        go_wp2_with fail
        go_ret
        rw [unhide hR]
        exact ⟨rfl, (Below.refl _ _).alloc (Nat.le_refl _) _⟩
      · by_cases hpos : 0 < a3
        · by_cases hl : l < 0
          · cases b
            · skip
              go_wp2_with fail
              refine (ref_plus_any _ _ _ (unhide iS) (unhide HA).h3).mono ?_
              rintro e w1 ⟨rfl, rfl⟩
              go_wp2_with fail
              all_goals
                go_round
                case rel =>
                  refine ⟨4, by omega, ?_, ?_, ?_, ?_, by go_num, fN_step3 (unhide HN) (by omega)⟩
                  all_goals first
                    | (rw [unhide ES]; done)
                    | (rw [unhide EF, stF_yes (by omega)]; done)
                    | (rw [unhide EF, stF_no (by omega)]; done)
                    | (rw [unhide EG, stG_yes (by omega)]; done)
                    | (rw [unhide EG, stG_no (by omega)]; done)
                    | (rw [unhide EH]; first | exact stH_f _ | exact stH_t _)
                    | trace_state
                case measure => simp [intOf]

            · skip
              go_wp2_with fail
              refine (ref_plus_any _ _ _ (unhide iS) (unhide HA).h3).mono ?_
              rintro e w1 ⟨rfl, rfl⟩
              go_wp2_with fail
              all_goals
                go_round
                case rel =>
                  refine ⟨4, by omega, ?_, ?_, ?_, ?_, by go_num, fN_step3 (unhide HN) (by omega)⟩
                  all_goals first
                    | (rw [unhide ES]; done)
                    | (rw [unhide EF, stF_yes (by omega)]; done)
                    | (rw [unhide EF, stF_no (by omega)]; done)
                    | (rw [unhide EG, stG_yes (by omega)]; done)
                    | (rw [unhide EG, stG_no (by omega)]; done)
                    | (rw [unhide EH]; first | exact stH_f _ | exact stH_t _)
                    | trace_state
                case measure => simp [intOf]

          · cases b
            · skip
              go_wp2_with fail
              refine (ref_plus_any _ _ _ (unhide iS) (unhide HA).h3).mono ?_
              rintro e w1 ⟨rfl, rfl⟩
              go_wp2_with fail
              all_goals
                go_round
                case rel =>
                  refine ⟨4, by omega, ?_, ?_, ?_, ?_, by go_num, fN_step3 (unhide HN) (by omega)⟩
                  all_goals first
                    | (rw [unhide ES]; done)
                    | (rw [unhide EF, stF_yes (by omega)]; done)
                    | (rw [unhide EF, stF_no (by omega)]; done)
                    | (rw [unhide EG, stG_yes (by omega)]; done)
                    | (rw [unhide EG, stG_no (by omega)]; done)
                    | (rw [unhide EH]; first | exact stH_f _ | exact stH_t _)
                    | trace_state
                case measure => simp [intOf]

            · skip
              go_wp2_with fail
              refine (ref_plus_any _ _ _ (unhide iS) (unhide HA).h3).mono ?_
              rintro e w1 ⟨rfl, rfl⟩
              go_wp2_with fail
              all_goals
                go_round
                case rel =>
                  refine ⟨4, by omega, ?_, ?_, ?_, ?_, by go_num, fN_step3 (unhide HN) (by omega)⟩
                  all_goals first
                    | (rw [unhide ES]; done)
                    | (rw [unhide EF, stF_yes (by omega)]; done)
                    | (rw [unhide EF, stF_no (by omega)]; done)
                    | (rw [unhide EG, stG_yes (by omega)]; done)
                    | (rw [unhide EG, stG_no (by omega)]; done)
                    | (rw [unhide EH]; first | exact stH_f _ | exact stH_t _)
                    | trace_state
                case measure => simp [intOf]

        · cases b
          · skip
            go_wp2_with fail
            refine (ref_plus_any _ _ _ (unhide iS) (unhide HA).h3).mono ?_
            rintro e w1 ⟨rfl, rfl⟩
            go_wp2_with fail
            all_goals
              go_round
              case rel =>
                refine ⟨4, by omega, ?_, ?_, ?_, ?_, by go_num, fN_step3 (unhide HN) (by omega)⟩
                all_goals first
                  | (rw [unhide ES]; done)
                  | (rw [unhide EF, stF_yes (by omega)]; done)
                  | (rw [unhide EF, stF_no (by omega)]; done)
                  | (rw [unhide EG, stG_yes (by omega)]; done)
                  | (rw [unhide EG, stG_no (by omega)]; done)
                  | (rw [unhide EH]; first | exact stH_f _ | exact stH_t _)
                  | trace_state
              case measure => simp [intOf]

          · skip
            go_wp2_with fail
            refine (ref_plus_any _ _ _ (unhide iS) (unhide HA).h3).mono ?_
            rintro e w1 ⟨rfl, rfl⟩
            go_wp2_with fail
            all_goals
              go_round
              case rel =>
                refine ⟨4, by omega, ?_, ?_, ?_, ?_, by go_num, fN_step3 (unhide HN) (by omega)⟩
                all_goals first
                  | (rw [unhide ES]; done)
                  | (rw [unhide EF, stF_yes (by omega)]; done)
                  | (rw [unhide EF, stF_no (by omega)]; done)
                  | (rw [unhide EG, stG_yes (by omega)]; done)
                  | (rw [unhide EG, stG_no (by omega)]; done)
                  | (rw [unhide EH]; first | exact stH_f _ | exact stH_t _)
                  | trace_state
              case measure => simp [intOf]

    · have HG := hide (neg4_of ⟨ac, aS, amn, amx, a0, a1, a2, a3⟩ (unhide HN))
      have eF := hide (first_eq ⟨ac, aS, amn, amx, a0, a1, a2, a3⟩)
      have eG := hide (last_eq ⟨ac, aS, amn, amx, a0, a1, a2, a3⟩)
      have eH := hide (held_eq ⟨ac, aS, amn, amx, a0, a1, a2, a3⟩)
      have eS : Hid (fS ⟨ac, aS, amn, amx, a0, a1, a2, a3⟩ 4 = all4 ⟨ac, aS, amn, amx, a0, a1, a2, a3⟩) := hide rfl
      rw [unhide eS, unhide eF, unhide eG, unhide eH]
      have HA' := HA
      generalize hx1 : all4 ⟨ac, aS, amn, amx, a0, a1, a2, a3⟩ = s at *
      generalize hx2 : first4 ⟨ac, aS, amn, amx, a0, a1, a2, a3⟩ = f at *
      generalize hx3 : last4 ⟨ac, aS, amn, amx, a0, a1, a2, a3⟩ = g at *
      have X1 := hide hx1
      have X2 := hide hx2
      have X3 := hide hx3
      clear hx1 hx2 hx3
      cases hb : held4 ⟨ac, aS, amn, amx, a0, a1, a2, a3⟩ with
      | true =>
        have hR := hide (rh_held ⟨ac, aS, amn, amx, a0, a1, a2, a3⟩ (unhide HG) hb)
        clear hb
        go_wp2_with fail
        go_ret
        rw [unhide hR]
        exact ⟨rfl, (Below.refl _ _).alloc (Nat.le_refl _) _⟩
      | false =>
        have HB := hide hb
        clear hb
        by_cases h1 : s = ac
        · have h1' : (s == ac) = true := by rw [h1]; exact beq_self_eq_true _
          by_cases h2 : f = (bucket amn : Int)
          · by_cases h3 : g = (bucket amx : Int)
            · have hR := hide (rh_true ⟨ac, aS, amn, amx, a0, a1, a2, a3⟩ (unhide HG) ((unhide X1).trans h1) ((unhide X2).trans h2) ((unhide X3).trans h3))
              go_wp2_with fail
              refine (ref_bucket_any _ _).mono ?_
              rintro e w1 ⟨rfl, rfl⟩
              go_wp2_with fail
              refine (ref_bucket_any _ _).mono ?_
              rintro e w1 ⟨rfl, rfl⟩
              go_wp2_with fail
              go_ret
              rw [unhide hR]
              exact ⟨rfl, (Below.refl _ _).alloc (Nat.le_refl _) _⟩
            · have h3' : (g == (bucket amx : Int)) = false := beq_false_of_ne h3
              have hR := hide (rh_last ⟨ac, aS, amn, amx, a0, a1, a2, a3⟩ (unhide HG) (unhide HB) (fun e => h3 ((unhide X3).symm.trans e)))
              go_wp2_with fail
              refine (ref_bucket_any _ _).mono ?_
              rintro e w1 ⟨rfl, rfl⟩
              go_wp2_with fail
              refine (ref_bucket_any _ _).mono ?_
              rintro e w1 ⟨rfl, rfl⟩
              go_wp2_with fail
              go_ret
              rw [unhide hR]
              exact ⟨rfl, (Below.refl _ _).alloc (Nat.le_refl _) _⟩
          · have h2' : (f == (bucket amn : Int)) = false := beq_false_of_ne h2
            have hR := hide (rh_first ⟨ac, aS, amn, amx, a0, a1, a2, a3⟩ (unhide HG) (unhide HB) (fun e => h2 ((unhide X2).symm.trans e)))
            go_wp2_with fail
            refine (ref_bucket_any _ _).mono ?_
            rintro e w1 ⟨rfl, rfl⟩
            go_wp2_with fail
            go_ret
            rw [unhide hR]
            exact ⟨rfl, (Below.refl _ _).alloc (Nat.le_refl _) _⟩
        · have h1' : (s == ac) = false := beq_false_of_ne h1
          have hR := hide (rh_all ⟨ac, aS, amn, amx, a0, a1, a2, a3⟩ (unhide HG) (unhide HB) (fun e => h1 ((unhide X1).symm.trans e)))
          go_wp2_with fail
          go_ret
          rw [unhide hR]
          exact ⟨rfl, (Below.refl _ _).alloc (Nat.le_refl _) _⟩

end Go.Proofs.YtigmhljaoicdbaaGreat

/- What the program's rightHist answers: the plain one; nothing that was there has turned. Conditions: all numbers are int64's. -/
import Derived.Test.YtigmhljaoicdbaaGreatIdx
namespace Go.Proofs.YtigmhljaoicdbaaGreat
open Go.RowKit

def stF (l n i : Int) : Int := if 0 < n ∧ l < 0 then i else l
def stG (g n i : Int) : Int := if 0 < n then i else g
def stH (b : Bool) (n : Int) : Bool := b || decide (n = 9223372036854775807)
theorem stF_yes {l n i : Int} (h : 0 < n ∧ l < 0) : stF l n i = i := if_pos h
theorem stF_no {l n i : Int} (h : ¬ (0 < n ∧ l < 0)) : stF l n i = l := if_neg h
theorem stG_yes {g n i : Int} (h : 0 < n) : stG g n i = i := if_pos h
theorem stG_no {g n i : Int} (h : ¬ 0 < n) : stG g n i = g := if_neg h
theorem stH_f (n : Int) : Value.bool (n == 9223372036854775807) = .bool (stH false n) := rfl
theorem stH_t (n : Int) : Value.bool true = .bool (stH true n) := rfl
def fS (a : AggV) : Nat → Int
  | 0 => 0
  | 1 => plus 0 a.h0
  | 2 => plus (plus 0 a.h0) a.h1
  | 3 => plus (plus (plus 0 a.h0) a.h1) a.h2
  | _ => plus (plus (plus (plus 0 a.h0) a.h1) a.h2) a.h3
def fF (a : AggV) : Nat → Int
  | 0 => -1
  | 1 => stF (-1) a.h0 0
  | 2 => stF (stF (-1) a.h0 0) a.h1 1
  | 3 => stF (stF (stF (-1) a.h0 0) a.h1 1) a.h2 2
  | _ => stF (stF (stF (stF (-1) a.h0 0) a.h1 1) a.h2 2) a.h3 3
def fG (a : AggV) : Nat → Int
  | 0 => -1
  | 1 => stG (-1) a.h0 0
  | 2 => stG (stG (-1) a.h0 0) a.h1 1
  | 3 => stG (stG (stG (-1) a.h0 0) a.h1 1) a.h2 2
  | _ => stG (stG (stG (stG (-1) a.h0 0) a.h1 1) a.h2 2) a.h3 3
def fH (a : AggV) : Nat → Bool
  | 0 => false
  | 1 => stH false a.h0
  | 2 => stH (stH false a.h0) a.h1
  | 3 => stH (stH (stH false a.h0) a.h1) a.h2
  | _ => stH (stH (stH (stH false a.h0) a.h1) a.h2) a.h3
def fN (a : AggV) : Nat → Prop
  | 0 => True
  | 1 => 0 ≤ a.h0
  | 2 => 0 ≤ a.h0 ∧ 0 ≤ a.h1
  | 3 => 0 ≤ a.h0 ∧ 0 ≤ a.h1 ∧ 0 ≤ a.h2
  | _ => 0 ≤ a.h0 ∧ 0 ≤ a.h1 ∧ 0 ≤ a.h2 ∧ 0 ≤ a.h3
theorem fN0 (a : AggV) : fN a 0 := trivial
theorem fN_step0 {a : AggV} (_ : fN a 0) (h1 : 0 ≤ a.h0) : fN a 1 := h1
theorem fN_step1 {a : AggV} (h : fN a 1) (h1 : 0 ≤ a.h1) : fN a 2 := ⟨h, h1⟩
theorem fN_step2 {a : AggV} (h : fN a 2) (h1 : 0 ≤ a.h2) : fN a 3 := ⟨h.1, h.2, h1⟩
theorem fN_step3 {a : AggV} (h : fN a 3) (h1 : 0 ≤ a.h3) : fN a 4 := ⟨h.1, h.2.1, h.2.2, h1⟩
theorem fS_in (a : AggV) (k : Nat) : i64 (fS a k) := by
  match k with
  | 0 => exact ⟨by show (-9223372036854775808 : Int) ≤ 0; omega, by show (0 : Int) ≤ 9223372036854775807; omega⟩
  | 1 => exact plus_in _ _
  | 2 => exact plus_in _ _
  | 3 => exact plus_in _ _
  | _ + 4 => exact plus_in _ _
theorem neg4_of (a : AggV) (h : fN a 4) : neg4 a = false := by
  obtain ⟨h0, h1, h2, h3⟩ := h
  unfold neg4; simp; omega
theorem rh_neg (a : AggV) (h : neg4 a = true) : rightHist a = false := by unfold rightHist; rw [h]; rfl
theorem neg_right0 (a : AggV) (h : a.h0 < 0) : rightHist a = false := rh_neg a (by unfold neg4; simp [h])
theorem neg_right1 (a : AggV) (h : a.h1 < 0) : rightHist a = false := rh_neg a (by unfold neg4; simp [h])
theorem neg_right2 (a : AggV) (h : a.h2 < 0) : rightHist a = false := rh_neg a (by unfold neg4; simp [h])
theorem neg_right3 (a : AggV) (h : a.h3 < 0) : rightHist a = false := rh_neg a (by unfold neg4; simp [h])
theorem held_eq (a : AggV) : fH a 4 = held4 a := by unfold fH held4 stH; simp
theorem first_eq (a : AggV) : fF a 4 = first4 a := by
  unfold fF first4 stF
  repeat' split
  all_goals omega
theorem last_eq (a : AggV) : fG a 4 = last4 a := by
  unfold fG last4 stG
  repeat' split
  all_goals omega
theorem rh_held (a : AggV) (h : neg4 a = false) (h2 : held4 a = true) : rightHist a = true := by unfold rightHist; rw [h, h2]; rfl
theorem rh_all (a : AggV) (h : neg4 a = false) (h2 : held4 a = false) (h3 : ¬ all4 a = a.count) : rightHist a = false := by unfold rightHist; rw [h, h2]; simp [h3]
theorem rh_first (a : AggV) (h : neg4 a = false) (h2 : held4 a = false) (h4 : ¬ first4 a = bucket a.mn) : rightHist a = false := by unfold rightHist; rw [h, h2]; simp [h4]
theorem rh_last (a : AggV) (h : neg4 a = false) (h2 : held4 a = false) (h4 : ¬ last4 a = bucket a.mx) : rightHist a = false := by unfold rightHist; rw [h, h2]; simp [h4]
theorem rh_true (a : AggV) (h : neg4 a = false) (h3 : all4 a = a.count) (h4 : first4 a = bucket a.mn) (h5 : last4 a = bucket a.mx) : rightHist a = true := by unfold rightHist; rw [h, h3, h4, h5]; simp
theorem beq_eq_decide' (a b : Int) : (a == b) = decide (a = b) := rfl

set_option maxHeartbeats 4000000 in
set_option maxRecDepth 100000 in
theorem hist_any (a : AggV) (w : World) (ha : a.In) :
    Calls Tryz.prog 120 #[aggV a] w fun e w' => e = .returned (.bool (rightHist a)) ∧ Below w.heap.size w w' := by
  obtain ⟨ac, aS, amn, amx, a0, a1, a2, a3⟩ := a
  have HA := hide ha
  clear ha
  simp only [aggV, cellsA, I]
  go_enter Tryz.func120, Tryz.ntmps120
  go_wp2_with fail
  go_loop [3, 4, 5, 6, 11] (fun sS sF sG sH si => ∃ k : Nat, k ≤ 4 ∧ sS = .int .i64 (fS ⟨ac, aS, amn, amx, a0, a1, a2, a3⟩ k) ∧ sF = .int .i64 (fF ⟨ac, aS, amn, amx, a0, a1, a2, a3⟩ k) ∧ sG = .int .i64 (fG ⟨ac, aS, amn, amx, a0, a1, a2, a3⟩ k) ∧ sH = .bool (fH ⟨ac, aS, amn, amx, a0, a1, a2, a3⟩ k) ∧ si = .int .i64 k ∧ fN ⟨ac, aS, amn, amx, a0, a1, a2, a3⟩ k) (fun _ _ _ _ si => 4 - (intOf si).toNat)
  case atStart => exact ⟨0, by omega, rfl, rfl, rfl, rfl, rfl, fN0 _⟩
  case round =>
    obtain ⟨k, hk, rfl, rfl, rfl, rfl, rfl, hn⟩ := hrel
    have HN := hide hn
    clear hn
    rcases (by omega : k = 0 ∨ k = 1 ∨ k = 2 ∨ k = 3 ∨ k = 4) with rfl | rfl | rfl | rfl | rfl
    · have ES : Hid (fS ⟨ac, aS, amn, amx, a0, a1, a2, a3⟩ 1 = plus (fS ⟨ac, aS, amn, amx, a0, a1, a2, a3⟩ 0) a0) := hide rfl
      have EF : Hid (fF ⟨ac, aS, amn, amx, a0, a1, a2, a3⟩ 1 = stF (fF ⟨ac, aS, amn, amx, a0, a1, a2, a3⟩ 0) a0 0) := hide rfl
      have EG : Hid (fG ⟨ac, aS, amn, amx, a0, a1, a2, a3⟩ 1 = stG (fG ⟨ac, aS, amn, amx, a0, a1, a2, a3⟩ 0) a0 0) := hide rfl
      have EH : Hid (fH ⟨ac, aS, amn, amx, a0, a1, a2, a3⟩ 1 = stH (fH ⟨ac, aS, amn, amx, a0, a1, a2, a3⟩ 0) a0) := hide rfl
      have iS := hide (fS_in ⟨ac, aS, amn, amx, a0, a1, a2, a3⟩ 0)
      generalize fS ⟨ac, aS, amn, amx, a0, a1, a2, a3⟩ 0 = s at *
      generalize fF ⟨ac, aS, amn, amx, a0, a1, a2, a3⟩ 0 = l at *
      generalize fG ⟨ac, aS, amn, amx, a0, a1, a2, a3⟩ 0 = g at *
      generalize fH ⟨ac, aS, amn, amx, a0, a1, a2, a3⟩ 0 = b at *
      by_cases hneg : a0 < 0
      · have hR := hide (neg_right0 ⟨ac, aS, amn, amx, a0, a1, a2, a3⟩ (show a0 < 0 from hneg))
        go_wp2_with fail
        go_ret
        rw [unhide hR]
        exact ⟨rfl, (Below.refl _ _).alloc (Nat.le_refl _) _⟩
      · by_cases hpos : 0 < a0
        · by_cases hl : l < 0
          · cases b
            · skip
              go_wp2_with fail
              refine (plus_any _ _ _ (unhide iS) (unhide HA).h0).mono ?_
              rintro e w1 ⟨rfl, rfl⟩
              go_wp2_with fail
              all_goals
                go_round
                case rel =>
                  refine ⟨1, by omega, ?_, ?_, ?_, ?_, by go_num, fN_step0 (unhide HN) (by omega)⟩
                  all_goals first
                    | (rw [unhide ES]; done)
                    | (rw [unhide EF, stF_yes (by omega)]; done)
                    | (rw [unhide EF, stF_no (by omega)]; done)
                    | (rw [unhide EG, stG_yes (by omega)]; done)
                    | (rw [unhide EG, stG_no (by omega)]; done)
                    | (rw [unhide EH]; first | exact stH_f _ | exact stH_t _)
                    | trace_state
                case measure => simp [intOf]

            · skip
              go_wp2_with fail
              refine (plus_any _ _ _ (unhide iS) (unhide HA).h0).mono ?_
              rintro e w1 ⟨rfl, rfl⟩
              go_wp2_with fail
              all_goals
                go_round
                case rel =>
                  refine ⟨1, by omega, ?_, ?_, ?_, ?_, by go_num, fN_step0 (unhide HN) (by omega)⟩
                  all_goals first
                    | (rw [unhide ES]; done)
                    | (rw [unhide EF, stF_yes (by omega)]; done)
                    | (rw [unhide EF, stF_no (by omega)]; done)
                    | (rw [unhide EG, stG_yes (by omega)]; done)
                    | (rw [unhide EG, stG_no (by omega)]; done)
                    | (rw [unhide EH]; first | exact stH_f _ | exact stH_t _)
                    | trace_state
                case measure => simp [intOf]

          · cases b
            · skip
              go_wp2_with fail
              refine (plus_any _ _ _ (unhide iS) (unhide HA).h0).mono ?_
              rintro e w1 ⟨rfl, rfl⟩
              go_wp2_with fail
              all_goals
                go_round
                case rel =>
                  refine ⟨1, by omega, ?_, ?_, ?_, ?_, by go_num, fN_step0 (unhide HN) (by omega)⟩
                  all_goals first
                    | (rw [unhide ES]; done)
                    | (rw [unhide EF, stF_yes (by omega)]; done)
                    | (rw [unhide EF, stF_no (by omega)]; done)
                    | (rw [unhide EG, stG_yes (by omega)]; done)
                    | (rw [unhide EG, stG_no (by omega)]; done)
                    | (rw [unhide EH]; first | exact stH_f _ | exact stH_t _)
                    | trace_state
                case measure => simp [intOf]

            · skip
              go_wp2_with fail
              refine (plus_any _ _ _ (unhide iS) (unhide HA).h0).mono ?_
              rintro e w1 ⟨rfl, rfl⟩
              go_wp2_with fail
              all_goals
                go_round
                case rel =>
                  refine ⟨1, by omega, ?_, ?_, ?_, ?_, by go_num, fN_step0 (unhide HN) (by omega)⟩
                  all_goals first
                    | (rw [unhide ES]; done)
                    | (rw [unhide EF, stF_yes (by omega)]; done)
                    | (rw [unhide EF, stF_no (by omega)]; done)
                    | (rw [unhide EG, stG_yes (by omega)]; done)
                    | (rw [unhide EG, stG_no (by omega)]; done)
                    | (rw [unhide EH]; first | exact stH_f _ | exact stH_t _)
                    | trace_state
                case measure => simp [intOf]

        · cases b
          · skip
            go_wp2_with fail
            refine (plus_any _ _ _ (unhide iS) (unhide HA).h0).mono ?_
            rintro e w1 ⟨rfl, rfl⟩
            go_wp2_with fail
            all_goals
              go_round
              case rel =>
                refine ⟨1, by omega, ?_, ?_, ?_, ?_, by go_num, fN_step0 (unhide HN) (by omega)⟩
                all_goals first
                  | (rw [unhide ES]; done)
                  | (rw [unhide EF, stF_yes (by omega)]; done)
                  | (rw [unhide EF, stF_no (by omega)]; done)
                  | (rw [unhide EG, stG_yes (by omega)]; done)
                  | (rw [unhide EG, stG_no (by omega)]; done)
                  | (rw [unhide EH]; first | exact stH_f _ | exact stH_t _)
                  | trace_state
              case measure => simp [intOf]

          · skip
            go_wp2_with fail
            refine (plus_any _ _ _ (unhide iS) (unhide HA).h0).mono ?_
            rintro e w1 ⟨rfl, rfl⟩
            go_wp2_with fail
            all_goals
              go_round
              case rel =>
                refine ⟨1, by omega, ?_, ?_, ?_, ?_, by go_num, fN_step0 (unhide HN) (by omega)⟩
                all_goals first
                  | (rw [unhide ES]; done)
                  | (rw [unhide EF, stF_yes (by omega)]; done)
                  | (rw [unhide EF, stF_no (by omega)]; done)
                  | (rw [unhide EG, stG_yes (by omega)]; done)
                  | (rw [unhide EG, stG_no (by omega)]; done)
                  | (rw [unhide EH]; first | exact stH_f _ | exact stH_t _)
                  | trace_state
              case measure => simp [intOf]

    · have ES : Hid (fS ⟨ac, aS, amn, amx, a0, a1, a2, a3⟩ 2 = plus (fS ⟨ac, aS, amn, amx, a0, a1, a2, a3⟩ 1) a1) := hide rfl
      have EF : Hid (fF ⟨ac, aS, amn, amx, a0, a1, a2, a3⟩ 2 = stF (fF ⟨ac, aS, amn, amx, a0, a1, a2, a3⟩ 1) a1 1) := hide rfl
      have EG : Hid (fG ⟨ac, aS, amn, amx, a0, a1, a2, a3⟩ 2 = stG (fG ⟨ac, aS, amn, amx, a0, a1, a2, a3⟩ 1) a1 1) := hide rfl
      have EH : Hid (fH ⟨ac, aS, amn, amx, a0, a1, a2, a3⟩ 2 = stH (fH ⟨ac, aS, amn, amx, a0, a1, a2, a3⟩ 1) a1) := hide rfl
      have iS := hide (fS_in ⟨ac, aS, amn, amx, a0, a1, a2, a3⟩ 1)
      generalize fS ⟨ac, aS, amn, amx, a0, a1, a2, a3⟩ 1 = s at *
      generalize fF ⟨ac, aS, amn, amx, a0, a1, a2, a3⟩ 1 = l at *
      generalize fG ⟨ac, aS, amn, amx, a0, a1, a2, a3⟩ 1 = g at *
      generalize fH ⟨ac, aS, amn, amx, a0, a1, a2, a3⟩ 1 = b at *
      by_cases hneg : a1 < 0
      · have hR := hide (neg_right1 ⟨ac, aS, amn, amx, a0, a1, a2, a3⟩ (show a1 < 0 from hneg))
        go_wp2_with fail
        go_ret
        rw [unhide hR]
        exact ⟨rfl, (Below.refl _ _).alloc (Nat.le_refl _) _⟩
      · by_cases hpos : 0 < a1
        · by_cases hl : l < 0
          · cases b
            · skip
              go_wp2_with fail
              refine (plus_any _ _ _ (unhide iS) (unhide HA).h1).mono ?_
              rintro e w1 ⟨rfl, rfl⟩
              go_wp2_with fail
              all_goals
                go_round
                case rel =>
                  refine ⟨2, by omega, ?_, ?_, ?_, ?_, by go_num, fN_step1 (unhide HN) (by omega)⟩
                  all_goals first
                    | (rw [unhide ES]; done)
                    | (rw [unhide EF, stF_yes (by omega)]; done)
                    | (rw [unhide EF, stF_no (by omega)]; done)
                    | (rw [unhide EG, stG_yes (by omega)]; done)
                    | (rw [unhide EG, stG_no (by omega)]; done)
                    | (rw [unhide EH]; first | exact stH_f _ | exact stH_t _)
                    | trace_state
                case measure => simp [intOf]

            · skip
              go_wp2_with fail
              refine (plus_any _ _ _ (unhide iS) (unhide HA).h1).mono ?_
              rintro e w1 ⟨rfl, rfl⟩
              go_wp2_with fail
              all_goals
                go_round
                case rel =>
                  refine ⟨2, by omega, ?_, ?_, ?_, ?_, by go_num, fN_step1 (unhide HN) (by omega)⟩
                  all_goals first
                    | (rw [unhide ES]; done)
                    | (rw [unhide EF, stF_yes (by omega)]; done)
                    | (rw [unhide EF, stF_no (by omega)]; done)
                    | (rw [unhide EG, stG_yes (by omega)]; done)
                    | (rw [unhide EG, stG_no (by omega)]; done)
                    | (rw [unhide EH]; first | exact stH_f _ | exact stH_t _)
                    | trace_state
                case measure => simp [intOf]

          · cases b
            · skip
              go_wp2_with fail
              refine (plus_any _ _ _ (unhide iS) (unhide HA).h1).mono ?_
              rintro e w1 ⟨rfl, rfl⟩
              go_wp2_with fail
              all_goals
                go_round
                case rel =>
                  refine ⟨2, by omega, ?_, ?_, ?_, ?_, by go_num, fN_step1 (unhide HN) (by omega)⟩
                  all_goals first
                    | (rw [unhide ES]; done)
                    | (rw [unhide EF, stF_yes (by omega)]; done)
                    | (rw [unhide EF, stF_no (by omega)]; done)
                    | (rw [unhide EG, stG_yes (by omega)]; done)
                    | (rw [unhide EG, stG_no (by omega)]; done)
                    | (rw [unhide EH]; first | exact stH_f _ | exact stH_t _)
                    | trace_state
                case measure => simp [intOf]

            · skip
              go_wp2_with fail
              refine (plus_any _ _ _ (unhide iS) (unhide HA).h1).mono ?_
              rintro e w1 ⟨rfl, rfl⟩
              go_wp2_with fail
              all_goals
                go_round
                case rel =>
                  refine ⟨2, by omega, ?_, ?_, ?_, ?_, by go_num, fN_step1 (unhide HN) (by omega)⟩
                  all_goals first
                    | (rw [unhide ES]; done)
                    | (rw [unhide EF, stF_yes (by omega)]; done)
                    | (rw [unhide EF, stF_no (by omega)]; done)
                    | (rw [unhide EG, stG_yes (by omega)]; done)
                    | (rw [unhide EG, stG_no (by omega)]; done)
                    | (rw [unhide EH]; first | exact stH_f _ | exact stH_t _)
                    | trace_state
                case measure => simp [intOf]

        · cases b
          · skip
            go_wp2_with fail
            refine (plus_any _ _ _ (unhide iS) (unhide HA).h1).mono ?_
            rintro e w1 ⟨rfl, rfl⟩
            go_wp2_with fail
            all_goals
              go_round
              case rel =>
                refine ⟨2, by omega, ?_, ?_, ?_, ?_, by go_num, fN_step1 (unhide HN) (by omega)⟩
                all_goals first
                  | (rw [unhide ES]; done)
                  | (rw [unhide EF, stF_yes (by omega)]; done)
                  | (rw [unhide EF, stF_no (by omega)]; done)
                  | (rw [unhide EG, stG_yes (by omega)]; done)
                  | (rw [unhide EG, stG_no (by omega)]; done)
                  | (rw [unhide EH]; first | exact stH_f _ | exact stH_t _)
                  | trace_state
              case measure => simp [intOf]

          · skip
            go_wp2_with fail
            refine (plus_any _ _ _ (unhide iS) (unhide HA).h1).mono ?_
            rintro e w1 ⟨rfl, rfl⟩
            go_wp2_with fail
            all_goals
              go_round
              case rel =>
                refine ⟨2, by omega, ?_, ?_, ?_, ?_, by go_num, fN_step1 (unhide HN) (by omega)⟩
                all_goals first
                  | (rw [unhide ES]; done)
                  | (rw [unhide EF, stF_yes (by omega)]; done)
                  | (rw [unhide EF, stF_no (by omega)]; done)
                  | (rw [unhide EG, stG_yes (by omega)]; done)
                  | (rw [unhide EG, stG_no (by omega)]; done)
                  | (rw [unhide EH]; first | exact stH_f _ | exact stH_t _)
                  | trace_state
              case measure => simp [intOf]

    · have ES : Hid (fS ⟨ac, aS, amn, amx, a0, a1, a2, a3⟩ 3 = plus (fS ⟨ac, aS, amn, amx, a0, a1, a2, a3⟩ 2) a2) := hide rfl
      have EF : Hid (fF ⟨ac, aS, amn, amx, a0, a1, a2, a3⟩ 3 = stF (fF ⟨ac, aS, amn, amx, a0, a1, a2, a3⟩ 2) a2 2) := hide rfl
      have EG : Hid (fG ⟨ac, aS, amn, amx, a0, a1, a2, a3⟩ 3 = stG (fG ⟨ac, aS, amn, amx, a0, a1, a2, a3⟩ 2) a2 2) := hide rfl
      have EH : Hid (fH ⟨ac, aS, amn, amx, a0, a1, a2, a3⟩ 3 = stH (fH ⟨ac, aS, amn, amx, a0, a1, a2, a3⟩ 2) a2) := hide rfl
      have iS := hide (fS_in ⟨ac, aS, amn, amx, a0, a1, a2, a3⟩ 2)
      generalize fS ⟨ac, aS, amn, amx, a0, a1, a2, a3⟩ 2 = s at *
      generalize fF ⟨ac, aS, amn, amx, a0, a1, a2, a3⟩ 2 = l at *
      generalize fG ⟨ac, aS, amn, amx, a0, a1, a2, a3⟩ 2 = g at *
      generalize fH ⟨ac, aS, amn, amx, a0, a1, a2, a3⟩ 2 = b at *
      by_cases hneg : a2 < 0
      · have hR := hide (neg_right2 ⟨ac, aS, amn, amx, a0, a1, a2, a3⟩ (show a2 < 0 from hneg))
        go_wp2_with fail
        go_ret
        rw [unhide hR]
        exact ⟨rfl, (Below.refl _ _).alloc (Nat.le_refl _) _⟩
      · by_cases hpos : 0 < a2
        · by_cases hl : l < 0
          · cases b
            · skip
              go_wp2_with fail
              refine (plus_any _ _ _ (unhide iS) (unhide HA).h2).mono ?_
              rintro e w1 ⟨rfl, rfl⟩
              go_wp2_with fail
              all_goals
                go_round
                case rel =>
                  refine ⟨3, by omega, ?_, ?_, ?_, ?_, by go_num, fN_step2 (unhide HN) (by omega)⟩
                  all_goals first
                    | (rw [unhide ES]; done)
                    | (rw [unhide EF, stF_yes (by omega)]; done)
                    | (rw [unhide EF, stF_no (by omega)]; done)
                    | (rw [unhide EG, stG_yes (by omega)]; done)
                    | (rw [unhide EG, stG_no (by omega)]; done)
                    | (rw [unhide EH]; first | exact stH_f _ | exact stH_t _)
                    | trace_state
                case measure => simp [intOf]

            · skip
              go_wp2_with fail
              refine (plus_any _ _ _ (unhide iS) (unhide HA).h2).mono ?_
              rintro e w1 ⟨rfl, rfl⟩
              go_wp2_with fail
              all_goals
                go_round
                case rel =>
                  refine ⟨3, by omega, ?_, ?_, ?_, ?_, by go_num, fN_step2 (unhide HN) (by omega)⟩
                  all_goals first
                    | (rw [unhide ES]; done)
                    | (rw [unhide EF, stF_yes (by omega)]; done)
                    | (rw [unhide EF, stF_no (by omega)]; done)
                    | (rw [unhide EG, stG_yes (by omega)]; done)
                    | (rw [unhide EG, stG_no (by omega)]; done)
                    | (rw [unhide EH]; first | exact stH_f _ | exact stH_t _)
                    | trace_state
                case measure => simp [intOf]

          · cases b
            · skip
              go_wp2_with fail
              refine (plus_any _ _ _ (unhide iS) (unhide HA).h2).mono ?_
              rintro e w1 ⟨rfl, rfl⟩
              go_wp2_with fail
              all_goals
                go_round
                case rel =>
                  refine ⟨3, by omega, ?_, ?_, ?_, ?_, by go_num, fN_step2 (unhide HN) (by omega)⟩
                  all_goals first
                    | (rw [unhide ES]; done)
                    | (rw [unhide EF, stF_yes (by omega)]; done)
                    | (rw [unhide EF, stF_no (by omega)]; done)
                    | (rw [unhide EG, stG_yes (by omega)]; done)
                    | (rw [unhide EG, stG_no (by omega)]; done)
                    | (rw [unhide EH]; first | exact stH_f _ | exact stH_t _)
                    | trace_state
                case measure => simp [intOf]

            · skip
              go_wp2_with fail
              refine (plus_any _ _ _ (unhide iS) (unhide HA).h2).mono ?_
              rintro e w1 ⟨rfl, rfl⟩
              go_wp2_with fail
              all_goals
                go_round
                case rel =>
                  refine ⟨3, by omega, ?_, ?_, ?_, ?_, by go_num, fN_step2 (unhide HN) (by omega)⟩
                  all_goals first
                    | (rw [unhide ES]; done)
                    | (rw [unhide EF, stF_yes (by omega)]; done)
                    | (rw [unhide EF, stF_no (by omega)]; done)
                    | (rw [unhide EG, stG_yes (by omega)]; done)
                    | (rw [unhide EG, stG_no (by omega)]; done)
                    | (rw [unhide EH]; first | exact stH_f _ | exact stH_t _)
                    | trace_state
                case measure => simp [intOf]

        · cases b
          · skip
            go_wp2_with fail
            refine (plus_any _ _ _ (unhide iS) (unhide HA).h2).mono ?_
            rintro e w1 ⟨rfl, rfl⟩
            go_wp2_with fail
            all_goals
              go_round
              case rel =>
                refine ⟨3, by omega, ?_, ?_, ?_, ?_, by go_num, fN_step2 (unhide HN) (by omega)⟩
                all_goals first
                  | (rw [unhide ES]; done)
                  | (rw [unhide EF, stF_yes (by omega)]; done)
                  | (rw [unhide EF, stF_no (by omega)]; done)
                  | (rw [unhide EG, stG_yes (by omega)]; done)
                  | (rw [unhide EG, stG_no (by omega)]; done)
                  | (rw [unhide EH]; first | exact stH_f _ | exact stH_t _)
                  | trace_state
              case measure => simp [intOf]

          · skip
            go_wp2_with fail
            refine (plus_any _ _ _ (unhide iS) (unhide HA).h2).mono ?_
            rintro e w1 ⟨rfl, rfl⟩
            go_wp2_with fail
            all_goals
              go_round
              case rel =>
                refine ⟨3, by omega, ?_, ?_, ?_, ?_, by go_num, fN_step2 (unhide HN) (by omega)⟩
                all_goals first
                  | (rw [unhide ES]; done)
                  | (rw [unhide EF, stF_yes (by omega)]; done)
                  | (rw [unhide EF, stF_no (by omega)]; done)
                  | (rw [unhide EG, stG_yes (by omega)]; done)
                  | (rw [unhide EG, stG_no (by omega)]; done)
                  | (rw [unhide EH]; first | exact stH_f _ | exact stH_t _)
                  | trace_state
              case measure => simp [intOf]

    · have ES : Hid (fS ⟨ac, aS, amn, amx, a0, a1, a2, a3⟩ 4 = plus (fS ⟨ac, aS, amn, amx, a0, a1, a2, a3⟩ 3) a3) := hide rfl
      have EF : Hid (fF ⟨ac, aS, amn, amx, a0, a1, a2, a3⟩ 4 = stF (fF ⟨ac, aS, amn, amx, a0, a1, a2, a3⟩ 3) a3 3) := hide rfl
      have EG : Hid (fG ⟨ac, aS, amn, amx, a0, a1, a2, a3⟩ 4 = stG (fG ⟨ac, aS, amn, amx, a0, a1, a2, a3⟩ 3) a3 3) := hide rfl
      have EH : Hid (fH ⟨ac, aS, amn, amx, a0, a1, a2, a3⟩ 4 = stH (fH ⟨ac, aS, amn, amx, a0, a1, a2, a3⟩ 3) a3) := hide rfl
      have iS := hide (fS_in ⟨ac, aS, amn, amx, a0, a1, a2, a3⟩ 3)
      generalize fS ⟨ac, aS, amn, amx, a0, a1, a2, a3⟩ 3 = s at *
      generalize fF ⟨ac, aS, amn, amx, a0, a1, a2, a3⟩ 3 = l at *
      generalize fG ⟨ac, aS, amn, amx, a0, a1, a2, a3⟩ 3 = g at *
      generalize fH ⟨ac, aS, amn, amx, a0, a1, a2, a3⟩ 3 = b at *
      by_cases hneg : a3 < 0
      · have hR := hide (neg_right3 ⟨ac, aS, amn, amx, a0, a1, a2, a3⟩ (show a3 < 0 from hneg))
        go_wp2_with fail
        go_ret
        rw [unhide hR]
        exact ⟨rfl, (Below.refl _ _).alloc (Nat.le_refl _) _⟩
      · by_cases hpos : 0 < a3
        · by_cases hl : l < 0
          · cases b
            · skip
              go_wp2_with fail
              refine (plus_any _ _ _ (unhide iS) (unhide HA).h3).mono ?_
              rintro e w1 ⟨rfl, rfl⟩
              go_wp2_with fail
              all_goals
                go_round
                case rel =>
                  refine ⟨4, by omega, ?_, ?_, ?_, ?_, by go_num, fN_step3 (unhide HN) (by omega)⟩
                  all_goals first
                    | (rw [unhide ES]; done)
                    | (rw [unhide EF, stF_yes (by omega)]; done)
                    | (rw [unhide EF, stF_no (by omega)]; done)
                    | (rw [unhide EG, stG_yes (by omega)]; done)
                    | (rw [unhide EG, stG_no (by omega)]; done)
                    | (rw [unhide EH]; first | exact stH_f _ | exact stH_t _)
                    | trace_state
                case measure => simp [intOf]

            · skip
              go_wp2_with fail
              refine (plus_any _ _ _ (unhide iS) (unhide HA).h3).mono ?_
              rintro e w1 ⟨rfl, rfl⟩
              go_wp2_with fail
              all_goals
                go_round
                case rel =>
                  refine ⟨4, by omega, ?_, ?_, ?_, ?_, by go_num, fN_step3 (unhide HN) (by omega)⟩
                  all_goals first
                    | (rw [unhide ES]; done)
                    | (rw [unhide EF, stF_yes (by omega)]; done)
                    | (rw [unhide EF, stF_no (by omega)]; done)
                    | (rw [unhide EG, stG_yes (by omega)]; done)
                    | (rw [unhide EG, stG_no (by omega)]; done)
                    | (rw [unhide EH]; first | exact stH_f _ | exact stH_t _)
                    | trace_state
                case measure => simp [intOf]

          · cases b
            · skip
              go_wp2_with fail
              refine (plus_any _ _ _ (unhide iS) (unhide HA).h3).mono ?_
              rintro e w1 ⟨rfl, rfl⟩
              go_wp2_with fail
              all_goals
                go_round
                case rel =>
                  refine ⟨4, by omega, ?_, ?_, ?_, ?_, by go_num, fN_step3 (unhide HN) (by omega)⟩
                  all_goals first
                    | (rw [unhide ES]; done)
                    | (rw [unhide EF, stF_yes (by omega)]; done)
                    | (rw [unhide EF, stF_no (by omega)]; done)
                    | (rw [unhide EG, stG_yes (by omega)]; done)
                    | (rw [unhide EG, stG_no (by omega)]; done)
                    | (rw [unhide EH]; first | exact stH_f _ | exact stH_t _)
                    | trace_state
                case measure => simp [intOf]

            · skip
              go_wp2_with fail
              refine (plus_any _ _ _ (unhide iS) (unhide HA).h3).mono ?_
              rintro e w1 ⟨rfl, rfl⟩
              go_wp2_with fail
              all_goals
                go_round
                case rel =>
                  refine ⟨4, by omega, ?_, ?_, ?_, ?_, by go_num, fN_step3 (unhide HN) (by omega)⟩
                  all_goals first
                    | (rw [unhide ES]; done)
                    | (rw [unhide EF, stF_yes (by omega)]; done)
                    | (rw [unhide EF, stF_no (by omega)]; done)
                    | (rw [unhide EG, stG_yes (by omega)]; done)
                    | (rw [unhide EG, stG_no (by omega)]; done)
                    | (rw [unhide EH]; first | exact stH_f _ | exact stH_t _)
                    | trace_state
                case measure => simp [intOf]

        · cases b
          · skip
            go_wp2_with fail
            refine (plus_any _ _ _ (unhide iS) (unhide HA).h3).mono ?_
            rintro e w1 ⟨rfl, rfl⟩
            go_wp2_with fail
            all_goals
              go_round
              case rel =>
                refine ⟨4, by omega, ?_, ?_, ?_, ?_, by go_num, fN_step3 (unhide HN) (by omega)⟩
                all_goals first
                  | (rw [unhide ES]; done)
                  | (rw [unhide EF, stF_yes (by omega)]; done)
                  | (rw [unhide EF, stF_no (by omega)]; done)
                  | (rw [unhide EG, stG_yes (by omega)]; done)
                  | (rw [unhide EG, stG_no (by omega)]; done)
                  | (rw [unhide EH]; first | exact stH_f _ | exact stH_t _)
                  | trace_state
              case measure => simp [intOf]

          · skip
            go_wp2_with fail
            refine (plus_any _ _ _ (unhide iS) (unhide HA).h3).mono ?_
            rintro e w1 ⟨rfl, rfl⟩
            go_wp2_with fail
            all_goals
              go_round
              case rel =>
                refine ⟨4, by omega, ?_, ?_, ?_, ?_, by go_num, fN_step3 (unhide HN) (by omega)⟩
                all_goals first
                  | (rw [unhide ES]; done)
                  | (rw [unhide EF, stF_yes (by omega)]; done)
                  | (rw [unhide EF, stF_no (by omega)]; done)
                  | (rw [unhide EG, stG_yes (by omega)]; done)
                  | (rw [unhide EG, stG_no (by omega)]; done)
                  | (rw [unhide EH]; first | exact stH_f _ | exact stH_t _)
                  | trace_state
              case measure => simp [intOf]

    · have HG := hide (neg4_of ⟨ac, aS, amn, amx, a0, a1, a2, a3⟩ (unhide HN))
      have eF := hide (first_eq ⟨ac, aS, amn, amx, a0, a1, a2, a3⟩)
      have eG := hide (last_eq ⟨ac, aS, amn, amx, a0, a1, a2, a3⟩)
      have eH := hide (held_eq ⟨ac, aS, amn, amx, a0, a1, a2, a3⟩)
      have eS : Hid (fS ⟨ac, aS, amn, amx, a0, a1, a2, a3⟩ 4 = all4 ⟨ac, aS, amn, amx, a0, a1, a2, a3⟩) := hide rfl
      rw [unhide eS, unhide eF, unhide eG, unhide eH]
      have HA' := HA
      generalize hx1 : all4 ⟨ac, aS, amn, amx, a0, a1, a2, a3⟩ = s at *
      generalize hx2 : first4 ⟨ac, aS, amn, amx, a0, a1, a2, a3⟩ = f at *
      generalize hx3 : last4 ⟨ac, aS, amn, amx, a0, a1, a2, a3⟩ = g at *
      have X1 := hide hx1
      have X2 := hide hx2
      have X3 := hide hx3
      clear hx1 hx2 hx3
      cases hb : held4 ⟨ac, aS, amn, amx, a0, a1, a2, a3⟩ with
      | true =>
        have hR := hide (rh_held ⟨ac, aS, amn, amx, a0, a1, a2, a3⟩ (unhide HG) hb)
        clear hb
        go_wp2_with fail
        go_ret
        rw [unhide hR]
        exact ⟨rfl, (Below.refl _ _).alloc (Nat.le_refl _) _⟩
      | false =>
        have HB := hide hb
        clear hb
        by_cases h1 : s = ac
        · have h1' : (s == ac) = true := by rw [h1]; exact beq_self_eq_true _
          by_cases h2 : f = (bucket amn : Int)
          · by_cases h3 : g = (bucket amx : Int)
            · have hR := hide (rh_true ⟨ac, aS, amn, amx, a0, a1, a2, a3⟩ (unhide HG) ((unhide X1).trans h1) ((unhide X2).trans h2) ((unhide X3).trans h3))
              go_wp2_with fail
              refine (bucket_any _ _).mono ?_
              rintro e w1 ⟨rfl, rfl⟩
              go_wp2_with fail
              refine (bucket_any _ _).mono ?_
              rintro e w1 ⟨rfl, rfl⟩
              go_wp2_with fail
              go_ret
              rw [unhide hR]
              exact ⟨rfl, (Below.refl _ _).alloc (Nat.le_refl _) _⟩
            · have h3' : (g == (bucket amx : Int)) = false := beq_false_of_ne h3
              have hR := hide (rh_last ⟨ac, aS, amn, amx, a0, a1, a2, a3⟩ (unhide HG) (unhide HB) (fun e => h3 ((unhide X3).symm.trans e)))
              go_wp2_with fail
              refine (bucket_any _ _).mono ?_
              rintro e w1 ⟨rfl, rfl⟩
              go_wp2_with fail
              refine (bucket_any _ _).mono ?_
              rintro e w1 ⟨rfl, rfl⟩
              go_wp2_with fail
              go_ret
              rw [unhide hR]
              exact ⟨rfl, (Below.refl _ _).alloc (Nat.le_refl _) _⟩
          · have h2' : (f == (bucket amn : Int)) = false := beq_false_of_ne h2
            have hR := hide (rh_first ⟨ac, aS, amn, amx, a0, a1, a2, a3⟩ (unhide HG) (unhide HB) (fun e => h2 ((unhide X2).symm.trans e)))
            go_wp2_with fail
            refine (bucket_any _ _).mono ?_
            rintro e w1 ⟨rfl, rfl⟩
            go_wp2_with fail
            go_ret
            rw [unhide hR]
            exact ⟨rfl, (Below.refl _ _).alloc (Nat.le_refl _) _⟩
        · have h1' : (s == ac) = false := beq_false_of_ne h1
          have hR := hide (rh_all ⟨ac, aS, amn, amx, a0, a1, a2, a3⟩ (unhide HG) (unhide HB) (fun e => h1 ((unhide X1).symm.trans e)))
          go_wp2_with fail
          go_ret
          rw [unhide hR]
          exact ⟨rfl, (Below.refl _ _).alloc (Nat.le_refl _) _⟩

end Go.Proofs.YtigmhljaoicdbaaGreat

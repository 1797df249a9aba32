/- What the document's own in, lists and items answer. Condition: lists lie in memory. -/
import Derived.Test.YtkbmbcmcnpeabaaDoorSameC
import Derived.Deep.QuietTactic
namespace Go.Proofs.YtkbmbcmcnpeabaaDoor
open Pk Go.RowKit

theorem refin_in (n t : Int) (w : World) : Calls Tryd.prog 55 #[.int .i64 n, .int .i64 t] w fun e w' => e = .returned (.bool (decide (0 ≤ n ∧ n ≤ t))) ∧ w' = w := by
  by_cases h0 : 0 ≤ n
  · have d0 : decide (0 ≤ n) = true := decide_eq_true h0
    by_cases h1 : n ≤ t
    · have d1 : decide (n ≤ t) = true := decide_eq_true h1
      have e : decide (0 ≤ n ∧ n ≤ t) = true := decide_eq_true ⟨h0, h1⟩
      rw [e]
      go_enter Tryd.func55, Tryd.ntmps55
      go_wp2_with fail
      go_ret
      exact ⟨rfl, rfl⟩
    · have d1 : decide (n ≤ t) = false := decide_eq_false h1
      have e : decide (0 ≤ n ∧ n ≤ t) = false := decide_eq_false (fun h => h1 h.2)
      rw [e]
      go_enter Tryd.func55, Tryd.ntmps55
      go_wp2_with fail
      go_ret
      exact ⟨rfl, rfl⟩
  · have d0 : decide (0 ≤ n) = false := decide_eq_false h0
    have e : decide (0 ≤ n ∧ n ≤ t) = false := decide_eq_false (fun h => h0 h.1)
    rw [e]
    go_enter Tryd.func55, Tryd.ntmps55
    go_wp2_with fail
    go_ret
    exact ⟨rfl, rfl⟩
def Tells (p : Prop) (e : Ending) : Prop := ∃ b, e = .returned (.bool b) ∧ (b = true ↔ p)
theorem tells_true {p : Prop} (h : p) : Tells p (.returned (.bool true)) := ⟨true, rfl, fun _ => h, fun _ => rfl⟩
theorem tells_false {p : Prop} (h : ¬ p) : Tells p (.returned (.bool false)) := ⟨false, rfl, fun h' => (by cases h'), fun h' => absurd h' h⟩
theorem lists_any (a : Option Addr) (l : List Int) (c : Nat) (t : Nat) (w : World) (hI : ∀ i, i < l.length → ∃ x, a = some x ∧ w.cell? (x.add i) = some (.int .i64 (l.getD i 0))) (hl : l.length ≤ maxLen) :
    Calls Tryd.prog 57 #[.slice a l.length c, .int .i64 (t : Int)] w fun e w' => Tells ((∀ i, i < l.length → In (l.getD i 0)) ∧ l.length ≤ t) e ∧ w' = w := by
  unfold maxLen at hl
  obtain ⟨p, hp⟩ : ∃ p : Prop, p = ((∀ i, i < l.length → In (l.getD i 0)) ∧ l.length ≤ t) := ⟨_, rfl⟩
  rw [← hp]
  have HP := hide hp
  clear hp
  have HI := hide hI
  clear hI
  generalize hn : l.length = n at *
  have HN := hide hn
  clear hn
  go_enter Tryd.func57, Tryd.ntmps57
  go_wp2_with fail
  go_loop [5] (fun i => ∃ j : Nat, j ≤ n ∧ i = .int .i64 (j : Int) ∧ ∀ q, q < j → In (l.getD q 0)) (fun i => n - (intOf i).toNat)
  case atStart => exact ⟨0, by omega, rfl, fun q hq => by omega⟩
  case round =>
    obtain ⟨j, hj, rfl, hall⟩ := hrel
    have HAll := hide hall
    clear hall
    by_cases hlt : j < n
    · obtain ⟨x, hx, hcx⟩ := unhide HI j (by first | exact hlt | (rw [unhide HN]; exact hlt))
      subst hx
      generalize hu : l.getD j 0 = u at *
      have HU := hide hu
      clear hu
      go_wp2_with fail
      refine (refin_in u 2147483647 _).mono ?_
      rintro e w1 ⟨rfl, rfl⟩
      by_cases hin : 0 ≤ u ∧ u ≤ 2147483647
      · rw [decide_eq_true hin]
        go_wp2_with fail
        go_round
        case rel =>
          refine ⟨j + 1, by omega, by go_num, fun q hq => ?_⟩
          by_cases e : q = j
          · subst e; rw [unhide HU]; exact hin
          · exact unhide HAll q (by omega)
        case measure => simp [intOf]; omega
      · rw [decide_eq_false hin]
        have HN2 := hide hin
        clear hin
        go_wp2_with fail
        go_ret
        refine ⟨tells_false (fun h => ?_), rfl⟩
        rw [unhide HP] at h
        have := h.1 j (by first | exact hlt | (rw [unhide HN]; exact hlt))
        rw [unhide HU] at this
        exact absurd this (unhide HN2)
    · have hjn : j = n := by omega
      subst hjn
      by_cases hle : (j : Int) ≤ (t : Int)
      · have d : decide ((j : Int) ≤ (t : Int)) = true := decide_eq_true hle
        go_wp2_with fail
        go_ret
        refine ⟨tells_true ?_, rfl⟩
        rw [unhide HP]
        exact ⟨fun i hi => unhide HAll i (by have := unhide HN; omega), by have := unhide HN; omega⟩
      · have d : decide ((j : Int) ≤ (t : Int)) = false := decide_eq_false hle
        go_wp2_with fail
        go_ret
        refine ⟨tells_false (fun h => ?_), rfl⟩
        rw [unhide HP] at h
        have := h.2
        have := unhide HN
        omega
def itemVal (x : ItemV) : Value := .agg (itemCells x).toArray
theorem items_any (x : ItemV) (hk : x.key.length ≤ maxLen) (w : World) : Calls Tryd.prog 56 #[itemVal x] w fun e w' => Tells (In x.src ∧ In x.seq ∧ In x.low ∧ In x.part ∧ x.key.length ≤ 255) e ∧ Below w.heap.size w w' := by
  unfold maxLen at hk
  obtain ⟨p, hp⟩ : ∃ p : Prop, p = (In x.src ∧ In x.seq ∧ In x.low ∧ In x.part ∧ x.key.length ≤ 255) := ⟨_, rfl⟩
  rw [← hp]
  have HP := hide hp
  clear hp
  obtain ⟨A, hA⟩ : ∃ A, A = w.heap.size := ⟨_, rfl⟩
  obtain ⟨w0, hw0⟩ : ∃ w0, w0 = w.alloc (.cells (itemCells x).toArray 24) := ⟨_, rfl⟩
  have B := hide (show Below w.heap.size w w0 by rw [hw0]; exact (Below.refl _ _).alloc (Nat.le_refl _) _)
  have R : RowAt w0 A (itemCells x) := by rw [hw0, hA]; exact row_new _ _ _
  have c0 := R.cell 0 (show 0 < 8 by decide)
  have c1 := R.cell 1 (show 1 < 8 by decide)
  have c2 := R.cell 2 (show 2 < 8 by decide)
  have c5 := R.cell 5 (show 5 < 8 by decide)
  have c4 := R.cell 4 (show 4 < 8 by decide)
  simp only [itemCells, List.getD_cons_zero, List.getD_cons_succ] at c0 c1 c2 c5 c4
  have hks : (ByteArray.mk x.key.toArray).size = x.key.length := rfl
  generalize (ByteArray.mk x.key.toArray) = key at *
  have HA := hide hA
  have HW := hide hw0
  clear hA hw0 R
  unfold itemVal
  by_cases h0 : 0 ≤ x.src ∧ x.src ≤ 2147483647
  · skip
    by_cases h1 : 0 ≤ x.seq ∧ x.seq ≤ 2147483647
    · skip
      by_cases h2 : 0 ≤ x.low ∧ x.low ≤ 2147483647
      · skip
        by_cases h3 : 0 ≤ x.part ∧ x.part ≤ 2147483647
        · skip
          by_cases h4 : (x.key.length : Int) ≤ 255
          · have d4 : decide ((x.key.length : Int) ≤ 255) = true := decide_eq_true h4
            go_enter Tryd.func56, Tryd.ntmps56
            go_upto_region 1 with fail
            rw [← unhide HA]
            change Code.wp _ _ _ _ (w.alloc (.cells (itemCells x).toArray 24))
            rw [← unhide HW]
            go_wp2_with fail
            refine (refin_in x.src 2147483647 _).mono ?_
            rintro e w1 ⟨rfl, rfl⟩
            rw [decide_eq_true h0]
            go_wp2_with fail
            refine (refin_in x.seq 2147483647 _).mono ?_
            rintro e w2 ⟨rfl, rfl⟩
            rw [decide_eq_true h1]
            go_wp2_with fail
            refine (refin_in x.low 2147483647 _).mono ?_
            rintro e w3 ⟨rfl, rfl⟩
            rw [decide_eq_true h2]
            go_wp2_with fail
            refine (refin_in x.part 2147483647 _).mono ?_
            rintro e w4 ⟨rfl, rfl⟩
            rw [decide_eq_true h3]
            go_wp2_with fail
            go_ret
            exact ⟨tells_true (p := p) (by rw [unhide HP]; exact ⟨h0, h1, h2, h3, by omega⟩), unhide B⟩
          · have d4 : decide ((x.key.length : Int) ≤ 255) = false := decide_eq_false h4
            go_enter Tryd.func56, Tryd.ntmps56
            go_upto_region 1 with fail
            rw [← unhide HA]
            change Code.wp _ _ _ _ (w.alloc (.cells (itemCells x).toArray 24))
            rw [← unhide HW]
            go_wp2_with fail
            refine (refin_in x.src 2147483647 _).mono ?_
            rintro e w1 ⟨rfl, rfl⟩
            rw [decide_eq_true h0]
            go_wp2_with fail
            refine (refin_in x.seq 2147483647 _).mono ?_
            rintro e w2 ⟨rfl, rfl⟩
            rw [decide_eq_true h1]
            go_wp2_with fail
            refine (refin_in x.low 2147483647 _).mono ?_
            rintro e w3 ⟨rfl, rfl⟩
            rw [decide_eq_true h2]
            go_wp2_with fail
            refine (refin_in x.part 2147483647 _).mono ?_
            rintro e w4 ⟨rfl, rfl⟩
            rw [decide_eq_true h3]
            go_wp2_with fail
            go_ret
            exact ⟨tells_false (p := p) (fun h => by rw [unhide HP] at h; have := h.2.2.2.2; omega), unhide B⟩
        · skip
          go_enter Tryd.func56, Tryd.ntmps56
          go_upto_region 1 with fail
          rw [← unhide HA]
          change Code.wp _ _ _ _ (w.alloc (.cells (itemCells x).toArray 24))
          rw [← unhide HW]
          go_wp2_with fail
          refine (refin_in x.src 2147483647 _).mono ?_
          rintro e w1 ⟨rfl, rfl⟩
          rw [decide_eq_true h0]
          go_wp2_with fail
          refine (refin_in x.seq 2147483647 _).mono ?_
          rintro e w2 ⟨rfl, rfl⟩
          rw [decide_eq_true h1]
          go_wp2_with fail
          refine (refin_in x.low 2147483647 _).mono ?_
          rintro e w3 ⟨rfl, rfl⟩
          rw [decide_eq_true h2]
          go_wp2_with fail
          refine (refin_in x.part 2147483647 _).mono ?_
          rintro e w4 ⟨rfl, rfl⟩
          rw [decide_eq_false h3]
          go_wp2_with fail
          go_ret
          exact ⟨tells_false (p := p) (fun h => h3 (by rw [unhide HP] at h; exact h.2.2.2.1)), unhide B⟩
      · skip
        go_enter Tryd.func56, Tryd.ntmps56
        go_upto_region 1 with fail
        rw [← unhide HA]
        change Code.wp _ _ _ _ (w.alloc (.cells (itemCells x).toArray 24))
        rw [← unhide HW]
        go_wp2_with fail
        refine (refin_in x.src 2147483647 _).mono ?_
        rintro e w1 ⟨rfl, rfl⟩
        rw [decide_eq_true h0]
        go_wp2_with fail
        refine (refin_in x.seq 2147483647 _).mono ?_
        rintro e w2 ⟨rfl, rfl⟩
        rw [decide_eq_true h1]
        go_wp2_with fail
        refine (refin_in x.low 2147483647 _).mono ?_
        rintro e w3 ⟨rfl, rfl⟩
        rw [decide_eq_false h2]
        go_wp2_with fail
        go_ret
        exact ⟨tells_false (p := p) (fun h => h2 (by rw [unhide HP] at h; exact h.2.2.1)), unhide B⟩
    · skip
      go_enter Tryd.func56, Tryd.ntmps56
      go_upto_region 1 with fail
      rw [← unhide HA]
      change Code.wp _ _ _ _ (w.alloc (.cells (itemCells x).toArray 24))
      rw [← unhide HW]
      go_wp2_with fail
      refine (refin_in x.src 2147483647 _).mono ?_
      rintro e w1 ⟨rfl, rfl⟩
      rw [decide_eq_true h0]
      go_wp2_with fail
      refine (refin_in x.seq 2147483647 _).mono ?_
      rintro e w2 ⟨rfl, rfl⟩
      rw [decide_eq_false h1]
      go_wp2_with fail
      go_ret
      exact ⟨tells_false (p := p) (fun h => h1 (by rw [unhide HP] at h; exact h.2.1)), unhide B⟩
  · skip
    go_enter Tryd.func56, Tryd.ntmps56
    go_upto_region 1 with fail
    rw [← unhide HA]
    change Code.wp _ _ _ _ (w.alloc (.cells (itemCells x).toArray 24))
    rw [← unhide HW]
    go_wp2_with fail
    refine (refin_in x.src 2147483647 _).mono ?_
    rintro e w1 ⟨rfl, rfl⟩
    rw [decide_eq_false h0]
    go_wp2_with fail
    go_ret
    exact ⟨tells_false (p := p) (fun h => h0 (by rw [unhide HP] at h; exact h.1)), unhide B⟩
end Go.Proofs.YtkbmbcmcnpeabaaDoor

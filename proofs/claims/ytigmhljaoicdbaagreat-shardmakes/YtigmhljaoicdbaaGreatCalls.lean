/- What the program's Plus, Bucket, single, ends and Join answer: the plain ones; nothing that was there has turned. Conditions: all numbers are int64's. -/
import Derived.Test.YtigmhljaoicdbaaGreatMem
import Derived.Handy
import Derived.Deep.RegionHeld3
import Derived.BigQuiet
import Derived.Deep.RegionWith
import Derived.Deep.CutRange
import Derived.RegionTactic
import Derived.Deep.QuietTactic
import Derived.WalkSmall
namespace Go.Proofs.YtigmhljaoicdbaaGreat
open Go.RowKit

theorem below_drewN {B : Nat} {a b : World} (h : Below B a b) (n : Nat) : Below B a (b.drewN n) := ⟨h.os, h.tape, h.output, h.size, h.block⟩
def I (x : Int) : Value := .int .i64 x
def cellsA (a : AggV) : List Value := [I a.count, I a.sum, I a.mn, I a.mx, I a.h0, I a.h1, I a.h2, I a.h3]
def aggV (a : AggV) : Value := .agg (cellsA a).toArray

theorem plus_any (a b : Int) (w : World) (ha : i64 a) (hb : i64 b) :
    Calls Tryz.prog 141 #[.int .i64 a, .int .i64 b] w fun e w' => e = .returned (.int .i64 (plus a b)) ∧ w' = w := by
  unfold i64 at ha hb
  by_cases h1 : 0 < b ∧ 9223372036854775807 - b < a
  · obtain ⟨h1, h2⟩ := h1
    have e : plus a b = 9223372036854775807 := by unfold plus cl; rw [if_pos (by omega)]
    rw [e]
    have h3 := Go.IntWalk.i64_in (9223372036854775807 - b) (by omega)
    go_enter Tryz.func141, Tryz.ntmps141
    go_wp2
    go_ret
    exact ⟨rfl, rfl⟩
  · by_cases h2 : b < 0 ∧ a < -9223372036854775808 - b
    · obtain ⟨h2, h3⟩ := h2
      have e : plus a b = -9223372036854775808 := by unfold plus cl; rw [if_neg (by omega), if_pos (by omega)]
      rw [e]
      have h4 := Go.IntWalk.i64_in (-9223372036854775808 - b) (by omega)
      have h5 : ¬ 0 < b := by omega
      go_enter Tryz.func141, Tryz.ntmps141
      go_wp2
      go_ret
      exact ⟨rfl, rfl⟩
    · have e : plus a b = a + b := by apply plus_id; unfold i64; omega
      rw [e]
      have h4 := Go.IntWalk.i64_in (a + b) (by omega)
      rcases (by omega : b = 0 ∨ 0 < b ∨ b < 0) with rfl | hp | hn
      · rw [Int.add_zero] at *
        go_enter Tryz.func141, Tryz.ntmps141
        go_wp2
        go_ret
        exact ⟨rfl, rfl⟩
      · have h5 := Go.IntWalk.i64_in (9223372036854775807 - b) (by omega)
        have h6 : ¬ 9223372036854775807 - b < a := by omega
        have h7 : ¬ b < 0 := by omega
        clear h1 h2
        go_enter Tryz.func141, Tryz.ntmps141
        go_wp2
        go_ret
        exact ⟨rfl, rfl⟩
      · have h5 := Go.IntWalk.i64_in (-9223372036854775808 - b) (by omega)
        have h6 : ¬ a < -9223372036854775808 - b := by omega
        have h7 : ¬ 0 < b := by omega
        clear h1 h2
        go_enter Tryz.func141, Tryz.ntmps141
        go_wp2
        go_ret
        exact ⟨rfl, rfl⟩

theorem bucket_any (v : Int) (w : World) :
    Calls Tryz.prog 143 #[.int .i64 v] w fun e w' => e = .returned (.int .i64 (bucket v)) ∧ w' = w := by
  unfold bucket
  by_cases h0 : v < 0
  · rw [if_pos h0]
    go_enter Tryz.func143, Tryz.ntmps143
    go_wp2
    go_ret
    exact ⟨rfl, rfl⟩
  · rw [if_neg h0]
    by_cases h1 : v < 10
    · rw [if_pos h1]
      go_enter Tryz.func143, Tryz.ntmps143
      go_wp2
      go_ret
      exact ⟨rfl, rfl⟩
    · rw [if_neg h1]
      by_cases h2 : v < 100
      · rw [if_pos h2]
        go_enter Tryz.func143, Tryz.ntmps143
        go_wp2
        go_ret
        exact ⟨rfl, rfl⟩
      · rw [if_neg h2]
        go_enter Tryz.func143, Tryz.ntmps143
        go_wp2
        go_ret
        exact ⟨rfl, rfl⟩

theorem single_any (v : Int) (w : World) :
    Calls Tryz.prog 119 #[.int .i64 v] w fun e w' => e = .returned (aggV (one v)) ∧ Below w.heap.size w w' := by
  have hb : bucket v = 0 ∨ bucket v = 1 ∨ bucket v = 2 ∨ bucket v = 3 := by have := bucket_le v; omega
  rcases hb with h | h | h | h
  all_goals
    have hh := hide h
    clear h
    go_enter Tryz.func119, Tryz.ntmps119
    go_wp2_with fail
    refine (bucket_any _ _).mono ?_
    rintro e w' ⟨rfl, rfl⟩
    rw [unhide hh]
    go_wp2
    refine bodyPost_ret (v := aggV (one v)) (by simp [results, Tryz.results119, go_sem, aggV, cellsA, one, at1, I, unhide hh]) rfl ?_
    exact ⟨rfl, ((Below.refl _ _).alloc (Nat.le_refl _) _).alloc (by simp) _⟩

theorem ends_any (a b : AggV) (w : World) :
    Calls Tryz.prog 142 #[aggV a, aggV b] w fun e w' => e = .returned (.tuple #[.int .i64 (least a b), .int .i64 (great a b)]) ∧ Below w.heap.size w w' := by
  obtain ⟨ac, aS, amn, amx, a0, a1, a2, a3⟩ := a
  obtain ⟨bc, bS, bmn, bmx, b0, b1, b2, b3⟩ := b
  simp only [aggV, cellsA, I, least, great]
  have HB : ∀ o1 o2, Below w.heap.size w ((w.alloc o1).alloc o2) := fun o1 o2 => ((Below.refl _ _).alloc (Nat.le_refl _) _).alloc (by simp) _
  have HB := hide HB
  by_cases h1 : ac = 0
  · rw [if_pos h1, if_pos h1]
    subst h1
    by_cases h2 : bc = 0
    · rw [if_pos h2, if_pos h2]
      subst h2
      go_enter Tryz.func142, Tryz.ntmps142
      go_wp2
      refine bodyPost_ret (by simp [results, Tryz.results142, go_sem]; rfl) rfl ?_
      exact ⟨rfl, unhide HB _ _⟩
    · rw [if_neg h2, if_neg h2]
      go_enter Tryz.func142, Tryz.ntmps142
      go_wp2
      go_quiet (fail)
      go_wp2
      refine bodyPost_ret (by simp [results, Tryz.results142, go_sem]; rfl) rfl ?_
      exact ⟨rfl, below_drewN (unhide HB _ _) _⟩
  · rw [if_neg h1, if_neg h1]
    by_cases h2 : bc = 0
    · rw [if_pos h2, if_pos h2]
      subst h2
      go_enter Tryz.func142, Tryz.ntmps142
      go_wp2
      go_quiet (fail)
      go_wp2
      refine bodyPost_ret (by simp [results, Tryz.results142, go_sem]; rfl) rfl ?_
      exact ⟨rfl, below_drewN (unhide HB _ _) _⟩
    · rw [if_neg h2, if_neg h2]
      rcases Int.lt_or_le bmn amn with hmn | hmn
      · rw [Int.min_eq_right (Int.le_of_lt hmn)]
        rcases Int.lt_or_le amx bmx with hmx | hmx
        · rw [Int.max_eq_right (Int.le_of_lt hmx)]
          go_enter Tryz.func142, Tryz.ntmps142
          go_wp2
          go_quiet (fail)
          go_wp2
          refine bodyPost_ret (by simp [results, Tryz.results142, go_sem]; rfl) rfl ?_
          exact ⟨rfl, below_drewN (unhide HB _ _) _⟩
        · rw [Int.max_eq_left hmx]
          have hmx' : ¬ amx < bmx := Int.not_lt.2 hmx
          go_enter Tryz.func142, Tryz.ntmps142
          go_wp2
          go_quiet (fail)
          go_wp2
          refine bodyPost_ret (by simp [results, Tryz.results142, go_sem]; rfl) rfl ?_
          exact ⟨rfl, below_drewN (unhide HB _ _) _⟩
      · rw [Int.min_eq_left hmn]
        have hmn' : ¬ bmn < amn := Int.not_lt.2 hmn
        rcases Int.lt_or_le amx bmx with hmx | hmx
        · rw [Int.max_eq_right (Int.le_of_lt hmx)]
          go_enter Tryz.func142, Tryz.ntmps142
          go_wp2
          go_quiet (fail)
          go_wp2
          refine bodyPost_ret (by simp [results, Tryz.results142, go_sem]; rfl) rfl ?_
          exact ⟨rfl, below_drewN (unhide HB _ _) _⟩
        · rw [Int.max_eq_left hmx]
          have hmx' : ¬ amx < bmx := Int.not_lt.2 hmx
          go_enter Tryz.func142, Tryz.ntmps142
          go_wp2
          go_quiet (fail)
          go_wp2
          refine bodyPost_ret (by simp [results, Tryz.results142, go_sem]; rfl) rfl ?_
          exact ⟨rfl, below_drewN (unhide HB _ _) _⟩
end Go.Proofs.YtigmhljaoicdbaaGreat

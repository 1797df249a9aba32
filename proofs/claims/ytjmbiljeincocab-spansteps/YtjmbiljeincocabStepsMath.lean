/- The windows that are over since a mark, told in two steps, are those told at once. No Go. -/
import Derived.Test.YtjmbiljeincocabSt
namespace Go.Proofs.Ytjmbiljeincocab

theorem upL_enough {m : Int} : ∀ (k : Nat) (x : Int), m < x + 10 * k + 15 → upL m (k + 1) x = upL m k x
  | 0, x, h => by
    rw [upL, upL, if_neg]
    intro ho; have := ho.2.2; omega
  | k + 1, x, h => by
    have ih := upL_enough (m := m) k (x + 10) (by omega)
    have d : ∀ j, upL m (j + 1) x = if isOver x m then x :: upL m j (x + 10) else [] := fun j => by rw [upL]
    rw [d (k + 1), d k, ih]
theorem upL_more {m x : Int} {k : Nat} : ∀ j : Nat, m < x + 10 * k + 15 → upL m (k + j) x = upL m k x
  | 0, _ => rfl
  | j + 1, h => by rw [show k + (j + 1) = (k + j) + 1 from rfl, upL_enough (k + j) x (by omega), upL_more j h]
theorem upL_split {m t : Int} (hmt : m ≤ t) (ht : 0 ≤ t ∧ t ≤ 1099511627776) : ∀ (k : Nat) (x : Int) (K : Nat), k ≤ K → upL t K x = upL m k x ++ upL t (K - (upL m k x).length) (x + 10 * ((upL m k x).length : Int))
  | 0, x, K, _ => by simp [upL]
  | k + 1, x, K, h => by
    obtain ⟨K', rfl⟩ : ∃ K', K = K' + 1 := ⟨K - 1, by omega⟩
    by_cases ho : isOver x m
    · have ho' : isOver x t := ⟨ho.1, ht, by have := ho.2.2; omega⟩
      have ih := upL_split hmt ht k (x + 10) K' (by omega)
      have e1 : upL m (k + 1) x = x :: upL m k (x + 10) := by rw [upL, if_pos ho]
      have e2 : upL t (K' + 1) x = x :: upL t K' (x + 10) := by rw [upL, if_pos ho']
      rw [e1, e2, ih, List.cons_append, List.length_cons]
      congr 2
      congr 1
      · omega
      · push_cast; omega
    · have e1 : upL m (k + 1) x = [] := by rw [upL, if_neg ho]
      rw [e1]; simp
theorem upL_end {m : Int} (hm : 0 ≤ m ∧ m ≤ 1099511627776) : ∀ (k : Nat) (x : Int), 0 ≤ x → x % 10 = 0 → m < x + 10 * k + 15 →
    m < x + 10 * ((upL m k x).length : Int) + 15 ∧ ((upL m k x).length = 0 ∨ x + 10 * ((upL m k x).length : Int) - 10 + 15 ≤ m)
  | 0, x, _, _, h => by simp [upL]; omega
  | k + 1, x, h0, h1, h => by
    by_cases ho : isOver x m
    · have ih := upL_end hm k (x + 10) (by omega) (by omega) (by omega)
      have e1 : upL m (k + 1) x = x :: upL m k (x + 10) := by rw [upL, if_pos ho]
      rw [e1, List.length_cons]
      have := ho.2.2
      omega
    · have e1 : upL m (k + 1) x = [] := by rw [upL, if_neg ho]
      rw [e1]
      unfold isOver at ho
      simp
      omega
theorem steps_eq {f m t : Int} (hf : 0 ≤ f ∧ f ≤ 1099511627776) (hm : 0 ≤ m ∧ m ≤ 1099511627776) (ht : 0 ≤ t ∧ t ≤ 1099511627776) (h1 : f ≤ m) (h2 : m ≤ t) (h3 : t - f ≤ 5000) : startsL t f = startsL m f ++ startsL t m := by
  have a := firstI_right hf
  have fe : firstI f = max (f - 5) 0 - max (f - 5) 0 % 10 := by unfold firstI; exact startI_right (by omega)
  have me : firstI m = max (m - 5) 0 - max (m - 5) 0 % 10 := by unfold firstI; exact startI_right (by omega)
  have e1 : startsL t f = upL t 1000 (firstI f) := by unfold startsL; rw [if_pos hf]
  have e2 : startsL m f = upL m 1000 (firstI f) := by unfold startsL; rw [if_pos hf]
  have e3 : startsL t m = upL t 1000 (firstI m) := by unfold startsL; rw [if_pos hm]
  rw [e1, e2, e3, upL_split h2 ht 1000 (firstI f) 1000 (Nat.le_refl _)]
  have hE := upL_end hm 1000 (firstI f) a.1 a.2.2 (by omega)
  generalize hn : (upL m 1000 (firstI f)).length = n at *
  have hy : firstI f + 10 * (n : Int) = firstI m := by omega
  rw [hy]
  congr 1
  have hn1 : n ≤ 502 := by omega
  have := upL_more (m := t) (x := firstI m) (k := 1000 - n) n (by omega)
  rw [show 1000 - n + n = 1000 by omega] at this
  exact this.symm
end Go.Proofs.Ytjmbiljeincocab

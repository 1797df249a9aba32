/- Plain facts on numbers as bytes of seven bits, with no Go text in them: what is written is read back, what is read is what would be written, and no number's bytes begin another's. No conditions. -/
import Derived.Laws.BitsAllLaws
namespace Go.Proofs.YtkbmbcmcnpeabaaDoor.Pk

/-- A number's bytes. -/
def numBytes (n : Nat) : List UInt8 :=
  if n < 128 then [UInt8.ofNat n] else UInt8.ofNat (n % 128 + 128) :: numBytes (n / 128)
termination_by n
decreasing_by omega

/-- What is read from the k-th byte on: the number, how many bytes it took, an error. -/
def rd (k acc : Nat) (l : List UInt8) : Nat × Nat × Nat :=
  match l with
  | [] => if 10 ≤ k then (0, 0, 8) else (0, 0, 7)
  | c :: t =>
    if 10 ≤ k then (0, 0, 8)
    else if c.toNat < 128 then (if (c.toNat = 0 ∧ 0 < k) ∨ (k = 9 ∧ 1 < c.toNat) then (0, 0, 8) else (acc + c.toNat * 2 ^ (7 * k), k + 1, 0))
    else rd (k + 1) (acc + (c.toNat - 128) * 2 ^ (7 * k)) t

theorem rd_ten (k acc : Nat) (l : List UInt8) (h : 10 ≤ k) : rd k acc l = (0, 0, 8) := by
  cases l <;> simp [rd, h]

theorem numBytes_pos (n : Nat) : 0 < (numBytes n).length := by
  rw [numBytes]; split <;> simp

theorem toNat_ofNat_lt {n : Nat} (h : n < 256) : (UInt8.ofNat n).toNat = n := by
  rw [UInt8.toNat_ofNat']; omega

/-- What was written is read. -/
theorem rd_num (n : Nat) : ∀ (k acc : Nat) (t : List UInt8), n * 2 ^ (7 * k) < 2 ^ 64 → (0 < k → 0 < n) → rd k acc (numBytes n ++ t) = (acc + n * 2 ^ (7 * k), k + (numBytes n).length, 0) := by
  induction n using Nat.strongRecOn with
  | ind n ih =>
    intro k acc t hlt hpos
    have hk : n = 0 ∨ k ≤ 9 := by
      rcases Nat.eq_zero_or_pos n with h | h
      · exact .inl h
      · right
        rcases Nat.lt_or_ge k 10 with h' | h'
        · omega
        · exfalso
          have h1 : 2 ^ 70 ≤ 2 ^ (7 * k) := Nat.pow_le_pow_right (by decide) (by omega)
          have h2 : 1 * 2 ^ (7 * k) ≤ n * 2 ^ (7 * k) := Nat.mul_le_mul_right _ h
          have h3 : (2 : Nat) ^ 70 = 64 * 2 ^ 64 := by decide
          omega
    have hk9 : k ≤ 9 := by
      rcases hk with h | h
      · rcases Nat.eq_zero_or_pos k with h' | h'
        · omega
        · have := hpos h'; omega
      · exact h
    have htop : k = 9 → n ≤ 1 := by
      rintro rfl
      have : (2 : Nat) ^ 64 = 2 * 2 ^ (7 * 9) := by decide
      rw [this] at hlt
      have := Nat.lt_of_mul_lt_mul_right hlt
      omega
    rw [numBytes]
    by_cases hs : n < 128
    · rw [if_pos hs]
      have hn : (UInt8.ofNat n).toNat = n := toNat_ofNat_lt (by omega)
      simp only [List.cons_append, List.nil_append, rd, hn, if_pos hs, if_neg (show ¬ 10 ≤ k by omega)]
      rw [if_neg (by rintro (⟨h1, h2⟩ | ⟨h1, h2⟩); · have := hpos h2; omega
                     · have := htop h1; omega)]
      simp
    · rw [if_neg hs]
      have hb : (UInt8.ofNat (n % 128 + 128)).toNat = n % 128 + 128 := toNat_ofNat_lt (by omega)
      simp only [List.cons_append, rd, hb, if_neg (show ¬ 10 ≤ k by omega), if_neg (show ¬ n % 128 + 128 < 128 by omega)]
      have hpow : 2 ^ (7 * (k + 1)) = 2 ^ (7 * k) * 128 := by rw [show 7 * (k + 1) = 7 * k + 7 by omega, Nat.pow_add]
      have hsplit : n / 128 * 2 ^ (7 * (k + 1)) + n % 128 * 2 ^ (7 * k) = n * 2 ^ (7 * k) := by
        rw [hpow, ← Nat.mul_assoc, Nat.mul_right_comm, ← Nat.add_mul]
        congr 1
        omega
      rw [ih (n / 128) (by omega) (k + 1) _ t (by omega) (by omega)]
      refine Prod.ext ?_ (Prod.ext ?_ rfl)
      · show acc + (n % 128 + 128 - 128) * 2 ^ (7 * k) + n / 128 * 2 ^ (7 * (k + 1)) = acc + n * 2 ^ (7 * k)
        rw [Nat.add_sub_cancel]; omega
      · show k + 1 + (numBytes (n / 128)).length = k + ((numBytes (n / 128)).length + 1)
        omega

/-- What is read is what would be written. -/
theorem rd_back (l : List UInt8) : ∀ (k acc m j : Nat), rd k acc l = (m, j, 0) → ∃ n, m = acc + n * 2 ^ (7 * k) ∧ (0 < k → 0 < n) ∧ j = k + (numBytes n).length ∧ l.take (numBytes n).length = numBytes n ∧ n * 2 ^ (7 * k) < 2 ^ 64 ∧ k ≤ 9 := by
  induction l with
  | nil => intro k acc m j h; simp only [rd] at h; split at h <;> simp at h
  | cons c t ih =>
    intro k acc m j h
    have hc := c.toNat_lt
    simp only [rd] at h
    by_cases h10 : 10 ≤ k
    · rw [if_pos h10] at h; simp at h
    · rw [if_neg h10] at h
      by_cases hs : c.toNat < 128
      · rw [if_pos hs] at h
        by_cases hbad : (c.toNat = 0 ∧ 0 < k) ∨ (k = 9 ∧ 1 < c.toNat)
        · rw [if_pos hbad] at h; simp at h
        · rw [if_neg hbad] at h
          simp only [Prod.mk.injEq] at h
          obtain ⟨h1, h2, _⟩ := h
          have hnb : numBytes c.toNat = [c] := by rw [numBytes, if_pos hs]; simp
          refine ⟨c.toNat, h1.symm, fun hk => ?_, ?_, ?_, ?_, by omega⟩
          · rcases Nat.eq_zero_or_pos c.toNat with h0 | h0
            · exact absurd (.inl ⟨h0, hk⟩) hbad
            · exact h0
          · rw [hnb]; exact h2.symm
          · rw [hnb]; simp
          · rcases Nat.lt_or_ge k 9 with h9 | h9
            · have h3 : 2 ^ (7 * k) ≤ 2 ^ 56 := Nat.pow_le_pow_right (by decide) (by omega)
              have h4 : c.toNat * 2 ^ (7 * k) ≤ 127 * 2 ^ 56 := Nat.mul_le_mul (by omega) h3
              exact Nat.lt_of_le_of_lt h4 (by decide)
            · have hk9 : k = 9 := by omega
              subst hk9
              have hc1 : c.toNat ≤ 1 := by
                rcases Nat.lt_or_ge 1 c.toNat with h' | h'
                · exact absurd (.inr ⟨rfl, h'⟩) hbad
                · exact h'
              exact Nat.lt_of_le_of_lt (Nat.mul_le_mul_right _ hc1) (by decide)
      · rw [if_neg hs] at h
        obtain ⟨n, h1, h2, h3, h4, h5, h6⟩ := ih _ _ _ _ h
        have hnp := h2 (by omega)
        have hpow : 2 ^ (7 * (k + 1)) = 2 ^ (7 * k) * 128 := by rw [show 7 * (k + 1) = 7 * k + 7 by omega, Nat.pow_add]
        have hN : numBytes (n * 128 + (c.toNat - 128)) = c :: numBytes n := by
          rw [numBytes, if_neg (by omega), show (n * 128 + (c.toNat - 128)) % 128 + 128 = c.toNat by omega, show (n * 128 + (c.toNat - 128)) / 128 = n by omega]
          simp
        have hval : (n * 128 + (c.toNat - 128)) * 2 ^ (7 * k) = (c.toNat - 128) * 2 ^ (7 * k) + n * 2 ^ (7 * (k + 1)) := by
          rw [hpow, Nat.add_mul, ← Nat.mul_assoc, Nat.mul_right_comm n 128]; omega
        refine ⟨n * 128 + (c.toNat - 128), ?_, fun _ => by omega, ?_, ?_, ?_, by omega⟩
        · rw [h1, hval]; omega
        · rw [hN, h3, List.length_cons]; omega
        · rw [hN, List.length_cons, List.take_succ_cons, h4]
        · rw [hval]
          have hlt : n * 2 ^ (7 * (k + 1)) < 2 ^ 64 := h5
          have h8 : (c.toNat - 128) * 2 ^ (7 * k) < 2 ^ (7 * (k + 1)) := by
            rw [hpow, Nat.mul_comm (2 ^ (7 * k))]
            exact Nat.mul_lt_mul_of_pos_right (by omega) (Nat.two_pow_pos _)
          -- both are multiples below 2 ^ 64 of a power that divides it
          have h7 : 7 * (k + 1) ≤ 64 := by
            rcases Nat.lt_or_ge 64 (7 * (k + 1)) with h' | h'
            · exfalso
              have h9 : 2 ^ 64 ≤ 2 ^ (7 * (k + 1)) := Nat.pow_le_pow_right (by decide) (by omega)
              have := Nat.mul_le_mul_right (2 ^ (7 * (k + 1))) hnp
              omega
            · exact h'
          have he : (2 : Nat) ^ 64 = 2 ^ (64 - 7 * (k + 1)) * 2 ^ (7 * (k + 1)) := by rw [← Nat.pow_add]; congr 1; omega
          rw [he] at hlt ⊢
          have hn1 := Nat.lt_of_mul_lt_mul_right hlt
          have := Nat.mul_le_mul_right (2 ^ (7 * (k + 1))) (show n + 1 ≤ 2 ^ (64 - 7 * (k + 1)) by omega)
          rw [Nat.add_mul] at this
          omega

/-- A number at the beginning of a text. -/
def num (l : List UInt8) : Nat × Nat × Nat := rd 0 0 l

theorem num_of (n : Nat) (t : List UInt8) (h : n < 2 ^ 64) : num (numBytes n ++ t) = (n, (numBytes n).length, 0) := by
  unfold num
  rw [rd_num n 0 0 t (by simpa using h) (by omega)]
  simp
theorem num_back {l : List UInt8} {m j : Nat} (h : num l = (m, j, 0)) : m < 2 ^ 64 ∧ j = (numBytes m).length ∧ l.take j = numBytes m ∧ j ≤ l.length := by
  obtain ⟨n, h1, _, h3, h4, h5, _⟩ := rd_back l 0 0 m j h
  simp only [Nat.mul_zero, Nat.pow_zero, Nat.mul_one, Nat.zero_add] at h1 h3 h5
  subst h1
  subst h3
  refine ⟨h5, rfl, h4, ?_⟩
  have := congrArg List.length h4
  rw [List.length_take] at this
  omega
theorem rd_fault (l : List UInt8) : ∀ k acc, (rd k acc l).2.2 = 0 ∨ ((rd k acc l).1 = 0 ∧ (rd k acc l).2.1 = 0 ∧ ((rd k acc l).2.2 = 7 ∨ (rd k acc l).2.2 = 8)) := by
  induction l with
  | nil => intro k acc; simp only [rd]; split <;> simp
  | cons c t ih => intro k acc; simp only [rd]; split; · simp
                   · split
                     · split <;> simp
                     · exact ih _ _
theorem num_fault (l : List UInt8) : (num l).2.2 = 0 ∨ num l = (0, 0, 7) ∨ num l = (0, 0, 8) := by
  rcases rd_fault l 0 0 with h | ⟨h1, h2, h3⟩
  · exact .inl h
  · right
    rcases h3 with h3 | h3
    · left; exact Prod.ext h1 (Prod.ext h2 h3)
    · right; exact Prod.ext h1 (Prod.ext h2 h3)
theorem num_nil : num [] = (0, 0, 7) := rfl

theorem numBytes_length (n : Nat) (h : n < 2 ^ 64) : (numBytes n).length ≤ 10 := by
  have := num_of n [] h
  obtain ⟨m, h1, _, h3, _, h5, _⟩ := rd_back _ 0 0 _ _ this
  have aux : ∀ (k : Nat) (m : Nat), m < 128 ^ (k + 1) → (numBytes m).length ≤ k + 1 := by
    intro k
    induction k with
    | zero => intro m hm; rw [numBytes, if_pos (by simpa using hm)]; simp
    | succ k ih =>
      intro m hm
      rw [numBytes]
      split
      · simp
      · rw [List.length_cons]
        have := ih (m / 128) (Nat.div_lt_of_lt_mul (by rw [Nat.mul_comm, ← Nat.pow_succ]; exact hm))
        omega
  exact aux 9 n (by have : (2 : Nat) ^ 64 ≤ 128 ^ 10 := by decide
                    omega)

/-- No number's bytes begin another's. -/
theorem num_prefix {a b : Nat} (ha : a < 2 ^ 64) (hb : b < 2 ^ 64) {t u : List UInt8} (h : numBytes a ++ t = numBytes b ++ u) : a = b ∧ t = u := by
  have h1 := num_of a t ha
  rw [h, num_of b u hb] at h1
  simp only [Prod.mk.injEq] at h1
  obtain ⟨rfl, _⟩ := h1
  exact ⟨rfl, List.append_cancel_left h⟩

/-- An integer as a number, and back. -/
def zig (i : Int) : Nat := if i < 0 then (-(i + 1)).toNat * 2 + 1 else i.toNat * 2
def zag (n : Nat) : Int := if n % 2 = 1 then -((n / 2 : Nat) : Int) - 1 else ((n / 2 : Nat) : Int)
theorem zag_zig (i : Int) : zag (zig i) = i := by
  unfold zag zig; split <;> split <;> omega
theorem zig_zag (n : Nat) : zig (zag n) = n := by
  unfold zag zig; split <;> split <;> omega
theorem zig_lt (i : Int) (h : -9223372036854775808 ≤ i ∧ i ≤ 9223372036854775807) : zig i < 2 ^ 64 := by
  unfold zig; split <;> omega
theorem zag_in (n : Nat) (h : n < 2 ^ 64) : -9223372036854775808 ≤ zag n ∧ zag n ≤ 9223372036854775807 := by
  unfold zag; split <;> omega
theorem zig_inj {i k : Int} (h : zig i = zig k) : i = k := by rw [← zag_zig i, h, zag_zig]

/-- A text's bytes. -/
def textBytes (l : List UInt8) : List UInt8 := numBytes l.length ++ l

end Go.Proofs.YtkbmbcmcnpeabaaDoor.Pk

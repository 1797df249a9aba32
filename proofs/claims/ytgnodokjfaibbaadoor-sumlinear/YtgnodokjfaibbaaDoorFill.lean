/- Plain facts: a row that is filled place by place; three texts xored byte by byte. No conditions, no Go text. -/
import Derived.Test.YtgnodokjfaibbaaDoorMath
namespace Go.Proofs.YtgnodokjfaibbaaDoor.Crc

/-- n places, of which the first k are f's, the others 0. -/
def fill (f : Nat → UInt8) (n k : Nat) : List UInt8 := (List.range n).map fun j => if j < k then f j else 0
theorem fill_length (f : Nat → UInt8) (n k : Nat) : (fill f n k).length = n := by simp [fill]
theorem fill_at (f : Nat → UInt8) (n k j : Nat) (hj : j < n) : (fill f n k).getD j 0 = if j < k then f j else 0 := by
  simp [fill, List.getD_eq_getElem?_getD, hj]
theorem fill_zero (f : Nat → UInt8) (n : Nat) : fill f n 0 = List.replicate n 0 := by
  apply List.ext_getElem
  · simp [fill]
  · intro j h1 h2; simp [fill]
theorem fill_set (f : Nat → UInt8) (n k : Nat) : (fill f n k).set k (f k) = fill f n (k + 1) := by
  apply List.ext_getElem
  · simp [fill]
  · intro j h1 h2
    rw [List.getElem_set]
    by_cases e : k = j
    · subst e; simp [fill]
    · rw [if_neg e]
      have : (j < k + 1) = (j < k) := by apply propext; omega
      simp [fill, this]
theorem fill_same (f : Nat → UInt8) (n k : Nat) (h : f k = 0) : fill f n (k + 1) = fill f n k := by
  rw [← fill_set, h]
  apply List.ext_getElem
  · simp [fill]
  · intro j h1 h2
    rw [List.getElem_set]
    by_cases e : k = j
    · subst e; simp [fill]
    · rw [if_neg e]
theorem fill_bit (f : Nat → UInt8) (n j : Nat) (hj : j < 8 * n) : bitAt (fill f n n) j = (f (j / 8)).toNat.testBit (j % 8) := by
  unfold bitAt
  have h8 : j / 8 < n := by omega
  rw [fill_at _ _ _ _ h8, if_pos h8]
theorem fill_linear (a b c : List UInt8) (n : Nat) (hn : a.length = n) :
    crc (fill (fun j => a.getD j 0 ^^^ b.getD j 0 ^^^ c.getD j 0) n n) = crc a ^^^ crc (fill (fun j => b.getD j 0) n n) ^^^ crc (fill (fun j => c.getD j 0) n n) := by
  subst hn
  apply crc_linear
  · rw [fill_length]
  · rw [fill_length]
  · rw [fill_length]
  · intro j hj
    rw [fill_bit _ _ _ hj, fill_bit _ _ _ hj, fill_bit _ _ _ hj]
    unfold bitAt
    rw [UInt8.toNat_xor, UInt8.toNat_xor, Nat.testBit_xor, Nat.testBit_xor, Bool.xor_assoc]
end Go.Proofs.YtgnodokjfaibbaaDoor.Crc

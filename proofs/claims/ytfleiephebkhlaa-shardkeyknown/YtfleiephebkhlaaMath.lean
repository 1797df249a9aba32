/- FNV-1a of 64 bits over bit vectors, with no Go: a text's print, and that texts which differ in their last byte alone have unlike prints. No conditions. -/
import Derived.WalkKit
import Derived.Outline
import Derived.Below
namespace Go.Proofs.Ytfleiephebkhlaa
open Go.RowKit

def prime : BitVec 64 := 1099511628211#64
def first : BitVec 64 := 14695981039346656037#64
def byteOf (b : UInt8) : BitVec 64 := BitVec.ofNat 64 b.toNat
def step (n : BitVec 64) (b : UInt8) : BitVec 64 := (n ^^^ byteOf b) * prime
def fnv (l : List UInt8) : BitVec 64 := l.foldl step first

theorem fnv_snoc (l : List UInt8) (b : UInt8) : fnv (l ++ [b]) = step (fnv l) b := by simp [fnv]
theorem prime_inv : prime * 14886173955864302971#64 = 1#64 := by decide
theorem mul_prime {a b : BitVec 64} (h : a * prime = b * prime) : a = b := by
  have := congrArg (· * 14886173955864302971#64) h
  simpa [BitVec.mul_assoc, prime_inv] using this
theorem byteOf_inj {a b : UInt8} (h : byteOf a = byteOf b) : a = b := by
  have := congrArg BitVec.toNat h
  have ha := a.toNat_lt
  have hb := b.toNat_lt
  simp only [byteOf, BitVec.toNat_ofNat] at this
  exact UInt8.toNat_inj.1 (by omega)
theorem step_inj {n : BitVec 64} {a b : UInt8} : step n a = step n b ↔ a = b := by
  constructor
  · intro h
    have h1 := mul_prime h
    have h2 : n ^^^ (n ^^^ byteOf a) = n ^^^ (n ^^^ byteOf b) := by rw [h1]
    rw [← BitVec.xor_assoc, ← BitVec.xor_assoc, BitVec.xor_self, BitVec.zero_xor, BitVec.zero_xor] at h2
    exact byteOf_inj h2
  · rintro rfl; rfl

/-- Go's uint64. -/
theorem byte_bv (b : UInt8) : ((b.toNat : Int) % 18446744073709551616) = (((byteOf b).toNat : Nat) : Int) := by
  have h := b.toNat_lt
  unfold byteOf
  rw [BitVec.toNat_ofNat]
  omega
theorem byte_bv' (b : UInt8) : (b.toNat : Int) = (((byteOf b).toNat : Nat) : Int) := by
  rw [← byte_bv]; have h := b.toNat_lt; omega
theorem xor_bv (a b : BitVec 64) : bits .xor .u64 (a.toNat : Int) (b.toNat : Int) = (((a ^^^ b).toNat : Nat) : Int) := by
  rw [u64_xor_nat _ _ a.isLt b.isLt, BitVec.toNat_xor]
theorem mul_bv (a : BitVec 64) : ((a.toNat : Int) * 1099511628211) % 18446744073709551616 = (((a * prime).toNat : Nat) : Int) := by
  rw [BitVec.toNat_mul, show prime.toNat = 1099511628211 from rfl, Int.natCast_emod, Int.natCast_mul]
  rfl
theorem step_bv (n : BitVec 64) (b : UInt8) : bits .xor .u64 (n.toNat : Int) ((b.toNat : Int) % 18446744073709551616) * 1099511628211 % 18446744073709551616 = (((step n b).toNat : Nat) : Int) := by
  rw [byte_bv, xor_bv, mul_bv]; rfl

/-- The shard of a key. -/
def ofKey (l : List UInt8) (n : Int) : Int := if n < 1 then 0 else ((fnv l).toNat : Int) % n
theorem ofKey_lo (l : List UInt8) (n : Int) : 0 ≤ ofKey l n := by
  unfold ofKey; split
  · exact Int.le_refl _
  · exact Int.emod_nonneg _ (by omega)
theorem ofKey_hi (l : List UInt8) (n : Int) (h : 1 ≤ n) : ofKey l n < n := by
  unfold ofKey; rw [if_neg (by omega)]; exact Int.emod_lt_of_pos _ (by omega)
theorem ofKey_parts (l : List UInt8) (n t : Int) (h : 1 ≤ n) (ht : 1 ≤ t) : ofKey l (n * t) % n = ofKey l n := by
  have : 1 ≤ n * t := Int.mul_pos (by omega) (by omega)
  unfold ofKey
  rw [if_neg (by omega), if_neg (by omega), Int.emod_emod_of_dvd _ ⟨t, rfl⟩]

theorem hide {p : Prop} (h : p) : Hid p := h
theorem unhide {p : Prop} (h : Hid p) : p := h
end Go.Proofs.Ytfleiephebkhlaa

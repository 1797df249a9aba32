/- Go's operations on uint32 as the model writes them (integers) are those on bit vectors; half a byte's table is four steps. No conditions. -/
import Derived.Test.YtkbmbcmcnpeabaaDoorFMath
import Derived.WalkKit
namespace Go.Proofs.YtkbmbcmcnpeabaaDoor.Fm.Crc

theorem xor_bv (a b : BitVec 32) : bits .xor .u32 (a.toNat : Int) (b.toNat : Int) = (((a ^^^ b).toNat : Nat) : Int) := by
  rw [u32_xor_nat _ _ a.isLt b.isLt, BitVec.toNat_xor]
theorem max_bv : IntKind.u32.max = (((~~~ 0#32 : BitVec 32).toNat : Nat) : Int) := by decide
theorem ones_bv : (4294967295 : Int) = (((~~~ 0#32 : BitVec 32).toNat : Nat) : Int) := by decide
theorem ones_xor (a : BitVec 32) : ~~~ 0#32 ^^^ a = ~~~ a := by
  apply BitVec.eq_of_getLsbD_eq; intro i hi; simp only [BitVec.getLsbD_xor, BitVec.getLsbD_not, BitVec.getLsbD_zero, hi, decide_true, Bool.true_and, Bool.not_false, Bool.true_xor]
theorem xor_ones (a : BitVec 32) : a ^^^ ~~~ 0#32 = ~~~ a := by rw [BitVec.xor_comm, ones_xor]
theorem not_bv (a : BitVec 32) : bits .xor .u32 IntKind.u32.max (a.toNat : Int) = (((~~~ a).toNat : Nat) : Int) := by
  rw [max_bv, xor_bv, ones_xor]
theorem not_bv' (a : BitVec 32) : bits .xor .u32 (a.toNat : Int) 4294967295 = (((~~~ a).toNat : Nat) : Int) := by
  rw [ones_bv, xor_bv, xor_ones]
theorem byte_bv (b : UInt8) : ((b.toNat : Int) % 4294967296) = (((byteOf b).toNat : Nat) : Int) := by
  have h := b.toNat_lt
  unfold byteOf
  rw [BitVec.toNat_ofNat]
  omega
theorem byte_bv' (b : UInt8) : (b.toNat : Int) = (((byteOf b).toNat : Nat) : Int) := by
  rw [← byte_bv]; have h := b.toNat_lt; omega
theorem and15_bv (a : BitVec 32) : bits .and .u32 (a.toNat : Int) 15 = ((a.toNat % 16 : Nat) : Int) := by
  rw [show (15 : Int) = ((15 : Nat) : Int) from rfl, u32_and_nat _ _ a.isLt (by decide), nat_mask4]
theorem shr4_bv (a : BitVec 32) : (a.toNat : Int) / (16 : Int) = (((a >>> 4).toNat : Nat) : Int) := by
  rw [BitVec.toNat_ushiftRight, Nat.shiftRight_eq_div_pow]; omega

def tab : List Int := [0, 274646895, 549293790, 820201905, 1098587580, 1361435347, 1640403810, 1905808397, 2197175160, 2460548119, 2722870694, 2987750089, 3280807620, 3553878443, 3811616794, 4084100981]
theorem tab_fin : ∀ i : Fin 16, tab.getD i.val 0 = (((Ln 4 (BitVec.ofNat 32 i.val)).toNat : Nat) : Int) := by decide +kernel
theorem tab_at (i : Nat) (h : i < 16) : tab.getD i 0 = (((Ln 4 (BitVec.ofNat 32 i)).toNat : Nat) : Int) := tab_fin ⟨i, h⟩

theorem L_even (y : BitVec 32) (h : y.getLsbD 0 = false) : L y = y >>> 1 := by
  unfold L; rw [if_neg (by rw [h]; decide), BitVec.xor_zero]
theorem Ln_even (n : Nat) (y : BitVec 32) (h : ∀ i, i < n → y.getLsbD i = false) : Ln n y = y >>> n := by
  induction n with
  | zero => simp [Ln]
  | succ n ih =>
    simp only [Ln]
    rw [ih (fun i hi => h i (by omega)), L_even, ← BitVec.shiftRight_add]
    rw [BitVec.getLsbD_ushiftRight]; exact h n (by omega)
theorem low4 (x : BitVec 32) : BitVec.ofNat 32 (x.toNat % 16) = low 4 x := by
  apply BitVec.eq_of_getLsbD_eq
  intro i hi
  rw [low_bit, BitVec.getLsbD_ofNat, show 16 = 2 ^ 4 from rfl, Nat.testBit_mod_two_pow, BitVec.testBit_toNat]
  simp [hi]
/-- HALF A BYTE: the table's step is four steps. -/
theorem half (x : BitVec 32) : (x >>> 4) ^^^ Ln 4 (BitVec.ofNat 32 (x.toNat % 16)) = Ln 4 x := by
  rw [low4]
  have e : x = (x ^^^ low 4 x) ^^^ low 4 x := by rw [BitVec.xor_assoc, BitVec.xor_self, BitVec.xor_zero]
  have e2 : Ln 4 (x ^^^ low 4 x) = x >>> 4 := by
    rw [Ln_even 4 _ (fun i hi => by rw [BitVec.getLsbD_xor, low_bit]; simp [hi])]
    apply BitVec.eq_of_getLsbD_eq
    intro i hi
    rw [BitVec.getLsbD_ushiftRight, BitVec.getLsbD_ushiftRight, BitVec.getLsbD_xor, low_bit]
    have : ¬ 4 + i < 4 := by omega
    simp [this]
  have e3 : Ln 4 x = Ln 4 (x ^^^ low 4 x) ^^^ Ln 4 (low 4 x) := by rw [← Ln_xor, ← e]
  rw [e3, e2]

/-- Eight steps one by one, as the document's own function does them. -/
theorem ref_step (c : BitVec 32) : ((c.toNat : Int) % (2 : Int) = 1 → bits .xor .u32 ((c.toNat : Int) / (2 : Int)) 2197175160 = (((L c).toNat : Nat) : Int)) ∧ ((c.toNat : Int) % (2 : Int) ≠ 1 → (c.toNat : Int) / (2 : Int) = (((L c).toNat : Nat) : Int)) := by
  have hs : (c.toNat : Int) / (2 : Int) = (((c >>> 1).toNat : Nat) : Int) := by
    rw [BitVec.toNat_ushiftRight, Nat.shiftRight_eq_div_pow]; omega
  have hb : c.getLsbD 0 = decide (c.toNat % 2 = 1) := by rw [← BitVec.testBit_toNat, Nat.testBit_zero]
  constructor
  · intro h
    have h' : c.toNat % 2 = 1 := by omega
    unfold L
    rw [if_pos (by rw [hb]; simp [h']), hs, show (2197175160 : Int) = ((poly.toNat : Nat) : Int) from by decide, xor_bv]
  · intro h
    have h' : ¬ c.toNat % 2 = 1 := by omega
    unfold L
    rw [if_neg (by rw [hb]; simp [h']), hs, BitVec.xor_zero]
theorem step8_ref (r : BitVec 32) (b : UInt8) : step8 r b = Ln 8 (r ^^^ byteOf b) := rfl
end Go.Proofs.YtkbmbcmcnpeabaaDoor.Fm.Crc

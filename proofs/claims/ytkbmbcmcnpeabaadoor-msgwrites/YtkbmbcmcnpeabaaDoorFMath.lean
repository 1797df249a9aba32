/- Plain facts on CRC-32C over bit vectors, with no Go text in them: the step by one bit is linear and loses nothing; half a byte's table is four such steps; the register over a list of bytes is the register over its bits. No conditions. -/
import Derived.Laws.BitsAllLaws
namespace Go.Proofs.YtkbmbcmcnpeabaaDoor.Fm.Crc

def poly : BitVec 32 := 2197175160#32
def L (r : BitVec 32) : BitVec 32 := (r >>> 1) ^^^ (if r.getLsbD 0 = true then poly else 0#32)
def Ln : Nat → BitVec 32 → BitVec 32
  | 0, r => r
  | n + 1, r => L (Ln n r)

theorem L_xor (a b : BitVec 32) : L (a ^^^ b) = L a ^^^ L b := by
  unfold L
  rw [BitVec.ushiftRight_xor_distrib, BitVec.getLsbD_xor]
  cases a.getLsbD 0 <;> cases b.getLsbD 0 <;> simp
  · exact BitVec.xor_assoc _ _ _
  · rw [BitVec.xor_assoc, BitVec.xor_assoc, BitVec.xor_comm poly]
  · rw [BitVec.xor_assoc, BitVec.xor_comm poly (b >>> 1 ^^^ poly), BitVec.xor_assoc, BitVec.xor_self, BitVec.xor_zero]

theorem L_zero : L 0#32 = 0#32 := by decide
theorem Ln_xor (n : Nat) (a b : BitVec 32) : Ln n (a ^^^ b) = Ln n a ^^^ Ln n b := by
  induction n with
  | zero => rfl
  | succ n ih => simp only [Ln, ih, L_xor]
theorem Ln_zero (n : Nat) : Ln n 0#32 = 0#32 := by
  induction n with
  | zero => rfl
  | succ n ih => simp only [Ln, ih, L_zero]
theorem Ln_add (m n : Nat) (r : BitVec 32) : Ln (m + n) r = Ln n (Ln m r) := by
  induction n with
  | zero => rfl
  | succ n ih => rw [← Nat.add_assoc]; simp only [Ln, ih]
theorem poly_top : poly.getLsbD 31 = true := by decide
theorem L_inj (r : BitVec 32) (h : L r = 0#32) : r = 0#32 := by
  have h0 : r.getLsbD 0 = false := by
    cases e : r.getLsbD 0 with
    | false => rfl
    | true =>
      exfalso
      unfold L at h
      rw [if_pos e] at h
      have h31 := congrArg (fun x : BitVec 32 => x.getLsbD 31) h
      simp only [BitVec.getLsbD_xor, BitVec.getLsbD_ushiftRight, poly_top, BitVec.getLsbD_zero] at h31
      rw [BitVec.getLsbD_of_ge _ _ (by decide)] at h31
      exact absurd h31 (by decide)
  apply BitVec.eq_of_getLsbD_eq
  intro i hi
  cases i with
  | zero => simpa using h0
  | succ j =>
    unfold L at h
    rw [if_neg (by rw [h0]; decide), BitVec.xor_zero] at h
    have hj := congrArg (fun x : BitVec 32 => x.getLsbD j) h
    simp only [BitVec.getLsbD_ushiftRight, BitVec.getLsbD_zero] at hj
    rw [Nat.add_comm] at hj
    rw [hj, BitVec.getLsbD_zero]
theorem Ln_inj (n : Nat) (r : BitVec 32) (h : Ln n r = 0#32) : r = 0#32 := by
  induction n with
  | zero => exact h
  | succ n ih => exact ih (L_inj _ h)

/-- A bit that stands at place k comes to place 0 in k steps. -/
theorem Ln_two : ∀ k : Fin 32, Ln k.val (BitVec.twoPow 32 k.val) = 1#32 := by decide +kernel
theorem Ln_twoPow (k : Nat) (h : k < 32) : Ln k (BitVec.twoPow 32 k) = 1#32 := Ln_two ⟨k, h⟩

/-- The lowest k bits. -/
def low (k : Nat) (x : BitVec 32) : BitVec 32 := (x.setWidth k).setWidth 32
theorem low_bit (k : Nat) (x : BitVec 32) (j : Nat) : (low k x).getLsbD j = (decide (j < k) && x.getLsbD j) := by
  unfold low
  simp only [BitVec.getLsbD_setWidth]
  by_cases hj : j < 32
  · simp [hj]
  · have := BitVec.getLsbD_of_ge x j (by omega)
    simp [this]
def one (b : Bool) : BitVec 32 := if b = true then 1#32 else 0#32
theorem low_succ (k : Nat) (h : k < 32) (x : BitVec 32) : low (k + 1) x = low k x ^^^ (if x.getLsbD k = true then BitVec.twoPow 32 k else 0#32) := by
  apply BitVec.eq_of_getLsbD_eq
  intro i hi
  rw [BitVec.getLsbD_xor, low_bit, low_bit]
  by_cases e : k = i
  · subst e
    cases e2 : x.getLsbD k <;> simp [h]
  · have e1 : decide (i < k + 1) = decide (i < k) := by
      by_cases hik : i < k
      · simp [hik]; omega
      · simp [hik]; omega
    rw [e1]
    cases e2 : x.getLsbD k <;> simp [BitVec.getLsbD_twoPow, e]
theorem low_all (x : BitVec 32) : low 32 x = x := by
  unfold low; simp

/-- The register over bits: bit j comes in at place 0, then one step. -/
def R (r : BitVec 32) (D : Nat → Bool) : Nat → BitVec 32
  | 0 => r
  | n + 1 => L (R r D n ^^^ one (D n))
theorem R_congr (r : BitVec 32) (D E : Nat → Bool) (n : Nat) (h : ∀ j, j < n → D j = E j) : R r D n = R r E n := by
  induction n with
  | zero => rfl
  | succ n ih => simp only [R]; rw [ih (fun j hj => h j (by omega)), h n (by omega)]
theorem R_add (r : BitVec 32) (D : Nat → Bool) (m n : Nat) : R r D (m + n) = R (R r D m) (fun j => D (m + j)) n := by
  induction n with
  | zero => rfl
  | succ n ih => rw [← Nat.add_assoc]; simp only [R]; rw [ih]
theorem one_xor (a b : Bool) : one (a ^^ b) = one a ^^^ one b := by
  cases a <;> cases b <;> decide
theorem R_xor (r s : BitVec 32) (D E : Nat → Bool) (n : Nat) : R (r ^^^ s) (fun j => D j ^^ E j) n = R r D n ^^^ R s E n := by
  induction n with
  | zero => rfl
  | succ n ih =>
    simp only [R]; rw [ih, one_xor, ← L_xor]
    congr 1
    rw [BitVec.xor_assoc, BitVec.xor_assoc, ← BitVec.xor_assoc (R s E n), BitVec.xor_comm (R s E n) (one (D n)), BitVec.xor_assoc]
theorem R_none (r : BitVec 32) (n : Nat) : R r (fun _ => false) n = Ln n r := by
  induction n with
  | zero => rfl
  | succ n ih => simp only [R, Ln, ih]; simp [one]
theorem R_low (r x : BitVec 32) (k : Nat) (h : k ≤ 32) : R r (fun j => x.getLsbD j) k = Ln k (r ^^^ low k x) := by
  induction k with
  | zero =>
    have : low 0 x = 0#32 := by apply BitVec.eq_of_getLsbD_eq; intro i _; rw [low_bit]; simp
    simp [R, Ln, this]
  | succ k ih =>
    simp only [R, Ln]
    rw [ih (by omega), low_succ k (by omega) x, ← BitVec.xor_assoc, Ln_xor k (r ^^^ low k x)]
    congr 2
    cases x.getLsbD k with
    | false => simp [one, Ln_zero]
    | true => simp only [one, if_true]; rw [Ln_twoPow k (by omega)]

/-- A byte's step, and the register over bytes. -/
def byteOf (b : UInt8) : BitVec 32 := BitVec.ofNat 32 b.toNat
def step8 (r : BitVec 32) (b : UInt8) : BitVec 32 := Ln 8 (r ^^^ byteOf b)
def reg (r : BitVec 32) (l : List UInt8) : BitVec 32 := l.foldl step8 r
def more (c : BitVec 32) (l : List UInt8) : BitVec 32 := ~~~ (reg (~~~ c) l)
def crc (l : List UInt8) : BitVec 32 := more 0#32 l
theorem reg_append (r : BitVec 32) (a b : List UInt8) : reg r (a ++ b) = reg (reg r a) b := by unfold reg; exact List.foldl_append
theorem more_append (c : BitVec 32) (a b : List UInt8) : more (more c a) b = more c (a ++ b) := by
  unfold more; rw [BitVec.not_not, reg_append]
theorem more_nil (c : BitVec 32) : more c [] = c := by unfold more reg; simp
theorem crc_append (a b : List UInt8) : more (crc a) b = crc (a ++ b) := more_append _ _ _

/-- The bits of a text. -/
def bitAt (l : List UInt8) (j : Nat) : Bool := (l.getD (j / 8) 0).toNat.testBit (j % 8)
theorem byteOf_bit (b : UInt8) (j : Nat) (h : j < 8) : (byteOf b).getLsbD j = b.toNat.testBit j := by
  unfold byteOf; rw [BitVec.getLsbD_ofNat]; have : j < 32 := by omega
  simp [this]
theorem low_byteOf (b : UInt8) : low 8 (byteOf b) = byteOf b := by
  apply BitVec.eq_of_getLsbD_eq
  intro i hi
  rw [low_bit]
  by_cases h : i < 8
  · simp [h]
  · have hb : b.toNat < 2 ^ 8 := b.toNat_lt
    have : b.toNat.testBit i = false := Nat.testBit_lt_two_pow (Nat.lt_of_lt_of_le hb (Nat.pow_le_pow_right (by decide) (by omega)))
    unfold byteOf
    simp [h, BitVec.getLsbD_ofNat, this]
theorem bitAt_append_left (l : List UInt8) (b : List UInt8) (j : Nat) (h : j < 8 * l.length) : bitAt (l ++ b) j = bitAt l j := by
  unfold bitAt
  have : j / 8 < l.length := by omega
  rw [List.getD_eq_getElem?_getD, List.getD_eq_getElem?_getD, List.getElem?_append_left this]
theorem reg_R (r : BitVec 32) (l : List UInt8) : reg r l = R r (bitAt l) (8 * l.length) := by
  have key : ∀ n, ∀ l : List UInt8, l.length = n → reg r l = R r (bitAt l) (8 * n) := by
    intro n
    induction n with
    | zero => intro l hl; obtain rfl := List.length_eq_zero_iff.1 hl; rfl
    | succ n ih =>
      intro l hl
      obtain ⟨a, b, rfl⟩ : ∃ a b, l = a ++ [b] := ⟨l.dropLast, l.getLast (by intro h; simp [h] at hl), (List.dropLast_concat_getLast _).symm⟩
      have ha : a.length = n := by simpa using hl
      rw [reg_append, ih a ha, show 8 * (n + 1) = 8 * n + 8 by omega, R_add]
      rw [R_congr r (bitAt (a ++ [b])) (bitAt a) (8 * n) (fun j hj => bitAt_append_left a [b] j (by omega))]
      rw [R_congr _ (fun j => bitAt (a ++ [b]) (8 * n + j)) (fun j => (byteOf b).getLsbD j) 8 ?_]
      · rw [R_low _ _ 8 (by decide), low_byteOf]; rfl
      · intro j hj
        rw [byteOf_bit b j hj]
        unfold bitAt
        have e1 : (8 * n + j) / 8 = n := by omega
        have e2 : (8 * n + j) % 8 = j := by omega
        rw [e1, e2]
        have : (a ++ [b]).getD n 0 = b := by simp [← ha]
        rw [this]
  exact key l.length l rfl

/-- SumLinear's fact: three texts of one length, xored bit by bit. -/
theorem crc_linear (z a x y : List UInt8) (hz : z.length = a.length) (hx : x.length = a.length) (hy : y.length = a.length)
    (h : ∀ j, j < 8 * a.length → bitAt z j = (bitAt a j ^^ (bitAt x j ^^ bitAt y j))) : crc z = crc a ^^^ crc x ^^^ crc y := by
  unfold crc more
  rw [reg_R, reg_R, reg_R, reg_R, hz, hx, hy, R_congr _ _ _ _ h]
  have e : (~~~ 0#32 : BitVec 32) = ~~~ 0#32 ^^^ (~~~ 0#32 ^^^ ~~~ 0#32) := by decide
  have h2 : R (~~~ 0#32) (fun j => bitAt a j ^^ (bitAt x j ^^ bitAt y j)) (8 * a.length) = R (~~~ 0#32) (bitAt a) (8 * a.length) ^^^ (R (~~~ 0#32) (bitAt x) (8 * a.length) ^^^ R (~~~ 0#32) (bitAt y) (8 * a.length)) := by
    rw [← R_xor, ← R_xor, ← e]
  rw [h2]
  generalize R (~~~ 0#32) (bitAt a) (8 * a.length) = A
  generalize R (~~~ 0#32) (bitAt x) (8 * a.length) = X
  generalize R (~~~ 0#32) (bitAt y) (8 * a.length) = Y
  apply BitVec.eq_of_getLsbD_eq
  intro i hi
  simp only [BitVec.getLsbD_xor, BitVec.getLsbD_not, hi, decide_true, Bool.true_and]
  cases A.getLsbD i <;> cases X.getLsbD i <;> cases Y.getLsbD i <;> rfl

/-- SumTail's fact: a text with its own sum behind it, the lowest byte first. -/
def four (c : BitVec 32) : List UInt8 := [UInt8.ofNat c.toNat, UInt8.ofNat (c.toNat / 256), UInt8.ofNat (c.toNat / 65536), UInt8.ofNat (c.toNat / 16777216)]
theorem four_bit (c : BitVec 32) (j : Nat) (h : j < 32) : bitAt (four c) j = c.getLsbD j := by
  unfold bitAt four
  have hd : j / 8 = 0 ∨ j / 8 = 1 ∨ j / 8 = 2 ∨ j / 8 = 3 := by omega
  rw [← BitVec.testBit_toNat]
  have key : ∀ q : Nat, j / 8 = q → (UInt8.ofNat (c.toNat / 2 ^ (8 * q))).toNat.testBit (j % 8) = c.toNat.testBit j := by
    intro q hq
    have : (UInt8.ofNat (c.toNat / 2 ^ (8 * q))).toNat = c.toNat / 2 ^ (8 * q) % 2 ^ 8 := by simp
    rw [this, Nat.testBit_mod_two_pow, Nat.testBit_div_two_pow]
    have h8 : j % 8 < 8 := Nat.mod_lt _ (by decide)
    simp only [h8, decide_true, Bool.true_and]
    congr 1
    omega
  rcases hd with e | e | e | e
  · rw [e]; simpa using key 0 e
  · rw [e]; simpa using key 1 e
  · rw [e]; simpa using key 2 e
  · rw [e]; simpa using key 3 e
theorem reg_four (r c : BitVec 32) : reg r (four c) = Ln 32 (r ^^^ c) := by
  rw [reg_R, show 8 * (four c).length = 32 from rfl, R_congr _ _ (fun j => c.getLsbD j) 32 (fun j hj => four_bit c j hj), R_low _ _ 32 (by decide), low_all]
theorem crc_tail (a : List UInt8) : crc (a ++ four (crc a)) = ~~~ (Ln 32 (~~~ 0#32)) := by
  rw [← crc_append]
  show ~~~ (reg (~~~ crc a) (four (crc a))) = _
  rw [reg_four]
  congr 2
  apply BitVec.eq_of_getLsbD_eq
  intro i hi
  simp only [BitVec.getLsbD_xor, BitVec.getLsbD_not, hi, decide_true, Bool.true_and, BitVec.getLsbD_zero]
  cases (crc a).getLsbD i <;> rfl

/-- SumBurst's fact: bits turned within 32 change the sum. -/
theorem R_burst (x : BitVec 32) (p n k : Nat) (hk : k ≤ 32) (h1 : p + k ≤ n) (h2 : k = 32 ∨ p + k = n) (hx : low k x ≠ 0#32) :
    R 0#32 (fun j => decide (p ≤ j) && x.getLsbD (j - p)) n ≠ 0#32 := by
  have e0 : R 0#32 (fun j => decide (p ≤ j) && x.getLsbD (j - p)) p = 0#32 := by
    rw [R_congr _ _ (fun _ => false) p (fun j hj => by simp; omega), R_none, Ln_zero]
  have e1 : R 0#32 (fun j => decide (p ≤ j) && x.getLsbD (j - p)) (p + k) = Ln k (low k x) := by
    rw [R_add, e0, R_congr _ _ (fun j => x.getLsbD j) k (fun j hj => by simp), R_low _ _ k hk, BitVec.zero_xor]
  have e2 : R 0#32 (fun j => decide (p ≤ j) && x.getLsbD (j - p)) n = Ln (n - (p + k)) (Ln k (low k x)) := by
    rw [show n = (p + k) + (n - (p + k)) by omega, R_add, e1]
    rw [R_congr _ _ (fun _ => false) _ (fun j hj => ?_), R_none, show p + k + (n - (p + k)) - (p + k) = n - (p + k) by omega]
    rcases h2 with h2 | h2
    · have : x.getLsbD (p + k + j - p) = false := BitVec.getLsbD_of_ge _ _ (by omega)
      simp [this]
    · omega
  rw [e2]
  intro h
  exact hx (Ln_inj _ _ (Ln_inj _ _ h))
theorem crc_burst (a t : List UInt8) (x : BitVec 32) (p k : Nat) (hl : t.length = a.length) (hk : k ≤ 32) (h1 : p + k ≤ 8 * a.length) (h2 : k = 32 ∨ p + k = 8 * a.length) (hx : low k x ≠ 0#32)
    (h : ∀ j, j < 8 * a.length → bitAt t j = (bitAt a j ^^ (decide (p ≤ j) && x.getLsbD (j - p)))) : crc t ≠ crc a := by
  intro he
  have hb := R_burst x p (8 * a.length) k hk h1 h2 hx
  apply hb
  unfold crc more at he
  have he2 : reg (~~~ 0#32) t = reg (~~~ 0#32) a := by
    have := congrArg (fun y : BitVec 32 => ~~~ y) he
    simpa only [BitVec.not_not] using this
  rw [reg_R, reg_R, hl, R_congr _ _ _ _ h] at he2
  have e3 := R_xor (~~~ 0#32) 0#32 (bitAt a) (fun j => decide (p ≤ j) && x.getLsbD (j - p)) (8 * a.length)
  rw [BitVec.xor_zero, he2] at e3
  have e4 := congrArg (fun y => R (~~~ 0#32) (bitAt a) (8 * a.length) ^^^ y) e3
  simp only [← BitVec.xor_assoc, BitVec.xor_self, BitVec.zero_xor] at e4
  exact e4.symm
end Go.Proofs.YtkbmbcmcnpeabaaDoor.Fm.Crc

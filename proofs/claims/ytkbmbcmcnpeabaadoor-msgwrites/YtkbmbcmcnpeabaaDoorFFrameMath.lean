/- Plain facts on texts in frames, with no Go text in them: what was framed is read back, what is read is the frame of what it tells, a frame that is cut is short, no frame begins another one, and a frame in which bits are turned within 32 that follow one another is not read whole. No conditions. -/
import Derived.Test.YtkbmbcmcnpeabaaDoorFTurn
namespace Go.Proofs.YtkbmbcmcnpeabaaDoor.Fm.Crc

/-- Four bytes as a number, the lowest first. -/
def le4 (l : List UInt8) : Nat := (l.getD 0 0).toNat + 256 * (l.getD 1 0).toNat + 65536 * (l.getD 2 0).toNat + 16777216 * (l.getD 3 0).toNat
theorem le4_four (c : BitVec 32) : le4 (four c) = c.toNat := by
  have h := c.isLt
  unfold le4 four
  simp only [List.getD_cons_zero, List.getD_cons_succ, UInt8.toNat_ofNat']
  omega
theorem four_length (c : BitVec 32) : (four c).length = 4 := rfl
theorem four_inj {c d : BitVec 32} (h : four c = four d) : c = d := BitVec.eq_of_toNat_eq (by rw [← le4_four c, h, le4_four])
/-- Four bytes are those of their number. -/
theorem four_le4 (l : List UInt8) (h : l.length = 4) : four (BitVec.ofNat 32 (le4 l)) = l := by
  match l, h with
  | [a, b, c, d], _ =>
    have ha := a.toNat_lt
    have hb := b.toNat_lt
    have hc := c.toNat_lt
    have hd := d.toNat_lt
    unfold four le4
    simp only [List.getD_cons_zero, List.getD_cons_succ, BitVec.toNat_ofNat]
    have e : (a.toNat + 256 * b.toNat + 65536 * c.toNat + 16777216 * d.toNat) % 2 ^ 32 = a.toNat + 256 * b.toNat + 65536 * c.toNat + 16777216 * d.toNat := Nat.mod_eq_of_lt (by omega)
    rw [e]
    have key : ∀ (x : Nat) (y : UInt8), x % 256 = y.toNat → UInt8.ofNat x = y := fun x y hxy => by
      apply UInt8.toNat_inj.1
      rw [UInt8.toNat_ofNat']; omega
    rw [key _ a (by omega), key _ b (by omega), key _ c (by omega), key _ d (by omega)]

/-- A frame's head, and a frame. -/
def headOf (n : Nat) : List UInt8 := four (BitVec.ofNat 32 n)
def frameOf (b : List UInt8) : List UInt8 := headOf b.length ++ four (crc (headOf b.length)) ++ (b ++ four (crc b))
theorem headOf_length (n : Nat) : (headOf n).length = 4 := rfl
theorem frameOf_length (b : List UInt8) : (frameOf b).length = b.length + 12 := by
  unfold frameOf
  simp only [List.length_append, headOf_length, four_length]; omega

/-- What stands at the beginning: the body, how many bytes its frame has, an error. -/
def nextOf (l : List UInt8) : List UInt8 × Nat × Nat :=
  if l.length < 8 then ([], 0, 7)
  else if four (crc (l.take 4)) ≠ (l.drop 4).take 4 then ([], 0, 9)
  else if 16384 < le4 (l.take 4) then ([], 0, 3)
  else if l.length < le4 (l.take 4) + 12 then ([], 0, 7)
  else if four (crc ((l.drop 8).take (le4 (l.take 4)))) ≠ (l.drop (8 + le4 (l.take 4))).take 4 then ([], 0, 9)
  else ((l.drop 8).take (le4 (l.take 4)), le4 (l.take 4) + 12, 0)
/-- What a text is as a whole. -/
def wholeOf (l : List UInt8) : List UInt8 × Nat :=
  if (nextOf l).2.2 ≠ 0 then ([], (nextOf l).2.2) else if (nextOf l).2.1 ≠ l.length then ([], 8) else ((nextOf l).1, 0)

theorem head_le4 (n : Nat) (h : n ≤ 16384) : le4 (headOf n) = n := by
  unfold headOf
  rw [le4_four, BitVec.toNat_ofNat]
  exact Nat.mod_eq_of_lt (by omega)

section
variable (b t : List UInt8)
theorem frame_take4 : (frameOf b ++ t).take 4 = headOf b.length := by
  unfold frameOf
  simp only [List.append_assoc]
  exact List.take_left' (headOf_length _)
theorem frame_drop4 : (frameOf b ++ t).drop 4 = four (crc (headOf b.length)) ++ (b ++ (four (crc b) ++ t)) := by
  unfold frameOf
  simp only [List.append_assoc]
  exact List.drop_left' (headOf_length _)
theorem frame_drop8 : (frameOf b ++ t).drop 8 = b ++ (four (crc b) ++ t) := by
  rw [show (8 : Nat) = 4 + 4 from rfl, ← List.drop_drop, frame_drop4]
  exact List.drop_left' (four_length _)
/-- What was framed is read back. -/
theorem frame_back (h : b.length ≤ 16384) : nextOf (frameOf b ++ t) = (b, b.length + 12, 0) := by
  have hl : (frameOf b ++ t).length = b.length + 12 + t.length := by rw [List.length_append, frameOf_length]
  unfold nextOf
  rw [if_neg (by omega), frame_take4, frame_drop4, List.take_left' (four_length _), if_neg (by simp), head_le4 _ h, if_neg (by omega), if_neg (by omega)]
  rw [frame_drop8, List.take_left, ← List.drop_drop, frame_drop8, List.drop_left, List.take_left' (four_length _), if_neg (by simp)]
end
/-- What is read is just those bytes. -/
theorem frame_again {l b : List UInt8} {k : Nat} (h : nextOf l = (b, k, 0)) : b.length ≤ 16384 ∧ k = (frameOf b).length ∧ k ≤ l.length ∧ l.take k = frameOf b := by
  unfold nextOf at h
  by_cases h1 : l.length < 8
  · rw [if_pos h1] at h; simp at h
  rw [if_neg h1] at h
  by_cases h2 : four (crc (l.take 4)) ≠ (l.drop 4).take 4
  · rw [if_pos h2] at h; simp at h
  rw [if_neg h2] at h
  by_cases h3 : 16384 < le4 (l.take 4)
  · rw [if_pos h3] at h; simp at h
  rw [if_neg h3] at h
  by_cases h4 : l.length < le4 (l.take 4) + 12
  · rw [if_pos h4] at h; simp at h
  rw [if_neg h4] at h
  by_cases h5 : four (crc ((l.drop 8).take (le4 (l.take 4)))) ≠ (l.drop (8 + le4 (l.take 4))).take 4
  · rw [if_pos h5] at h; simp at h
  rw [if_neg h5] at h
  simp only [Prod.mk.injEq, and_true] at h
  obtain ⟨hb, hk⟩ := h
  have e2 : four (crc (l.take 4)) = (l.drop 4).take 4 := Classical.not_not.1 h2
  have e5 : four (crc ((l.drop 8).take (le4 (l.take 4)))) = (l.drop (8 + le4 (l.take 4))).take 4 := Classical.not_not.1 h5
  have hhead : headOf (le4 (l.take 4)) = l.take 4 := four_le4 _ (by rw [List.length_take]; omega)
  generalize le4 (l.take 4) = n at *
  have hlen : b.length = n := by rw [← hb, List.length_take, List.length_drop]; omega
  refine ⟨by omega, by rw [frameOf_length]; omega, by omega, ?_⟩
  unfold frameOf
  rw [hlen, hhead, e2, ← hb, e5, ← hk]
  have s1 : l.take 8 = l.take 4 ++ (l.drop 4).take 4 := by rw [show (8 : Nat) = 4 + 4 from rfl, List.take_add]
  have s2 : l.take (8 + n) = l.take 8 ++ (l.drop 8).take n := List.take_add
  have s3 : l.take (8 + n + 4) = l.take (8 + n) ++ (l.drop (8 + n)).take 4 := List.take_add
  rw [show n + 12 = 8 + n + 4 by omega, s3, s2, s1]
  simp only [List.append_assoc]
theorem next_fault (l : List UInt8) : (nextOf l).2.2 = 0 ∨ ((nextOf l).1 = [] ∧ (nextOf l).2.1 = 0) := by
  unfold nextOf
  repeat' split
  all_goals simp
/-- A frame of which some bytes are missing is short. -/
theorem frame_cut (b : List UInt8) (h : b.length ≤ 16384) (k : Nat) (hk : k < (frameOf b).length) : nextOf ((frameOf b).take k) = ([], 0, 7) := by
  rw [frameOf_length] at hk
  have hl : ((frameOf b).take k).length = k := by rw [List.length_take, frameOf_length]; omega
  unfold nextOf
  by_cases h8 : k < 8
  · rw [if_pos (by omega)]
  · have t4 : ((frameOf b).take k).take 4 = headOf b.length := by
      rw [List.take_take, Nat.min_eq_left (by omega)]
      have := frame_take4 b []
      rwa [List.append_nil] at this
    have d4 : (((frameOf b).take k).drop 4).take 4 = four (crc (headOf b.length)) := by
      rw [List.drop_take, List.take_take, Nat.min_eq_left (by omega)]
      have := frame_drop4 b []
      rw [List.append_nil] at this
      rw [this]
      exact List.take_left' (four_length _)
    rw [if_neg (by omega), t4, d4, if_neg (by simp), head_le4 _ h, if_neg (by omega), if_pos (by omega)]
/-- No frame begins another one. -/
theorem frame_prefix {a b t : List UInt8} (ha : a.length ≤ 16384) (hb : b.length ≤ 16384) (h : frameOf b = frameOf a ++ t) : a = b := by
  have h1 := frame_back a t ha
  rw [← h] at h1
  have h2 := frame_back b [] hb
  rw [List.append_nil, h1] at h2
  simp only [Prod.mk.injEq] at h2
  exact h2.1

/-- Texts of one length with the same bits are the same. -/
theorem bits_ext {a b : List UInt8} (hl : a.length = b.length) (h : ∀ j, j < 8 * a.length → bitAt a j = bitAt b j) : a = b := by
  apply List.ext_getElem hl
  intro i h1 h2
  apply UInt8.toNat_inj.1
  apply Nat.eq_of_testBit_eq
  intro m
  by_cases hm : m < 8
  · have := h (8 * i + m) (by omega)
    unfold bitAt at this
    rw [show (8 * i + m) / 8 = i by omega, show (8 * i + m) % 8 = m by omega, List.getD_eq_getElem?_getD, List.getD_eq_getElem?_getD, List.getElem?_eq_getElem h1, List.getElem?_eq_getElem h2] at this
    simpa using this
  · have ha := a[i].toNat_lt
    have hb := b[i].toNat_lt
    rw [Nat.testBit_lt_two_pow (Nat.lt_of_lt_of_le ha (Nat.pow_le_pow_right (by decide) (by omega : 8 ≤ m))), Nat.testBit_lt_two_pow (Nat.lt_of_lt_of_le hb (Nat.pow_le_pow_right (by decide) (by omega : 8 ≤ m)))]
theorem bitAt_take (l : List UInt8) (n j : Nat) (h : j < 8 * n) : bitAt (l.take n) j = bitAt l j := by
  unfold bitAt
  rw [List.getD_eq_getElem?_getD, List.getD_eq_getElem?_getD, List.getElem?_take_of_lt (by omega)]
theorem bitAt_drop (l : List UInt8) (n j : Nat) : bitAt (l.drop n) j = bitAt l (8 * n + j) := by
  unfold bitAt
  rw [List.getD_eq_getElem?_getD, List.getD_eq_getElem?_getD, List.getElem?_drop, show n + j / 8 = (8 * n + j) / 8 by omega, show (8 * n + j) % 8 = j % 8 by omega]
theorem turned_iff (a : List UInt8) (p : Nat) (x : BitVec 32) (k : Nat) : turnedTo a p x k = true ↔ ∃ i, i < k ∧ x.getLsbD i = true ∧ (p + i) / 8 < a.length := by
  refine ⟨turnedTo_some a p x k, ?_⟩
  rintro ⟨i, hi, hx, hl⟩
  induction k with
  | zero => omega
  | succ k ih =>
    by_cases e : i = k
    · subst e; exact turnedTo_yes _ _ _ _ hx hl
    · simp only [turnedTo, ih (by omega), Bool.true_or]
theorem turn_none {a : List UInt8} {p : Nat} {x : BitVec 32} (h : turnedTo a p x 32 = false) : turnTo a p x 32 = a := by
  apply bits_ext (turnTo_length _ _ _ _)
  intro j hj
  rw [turnTo_length] at hj
  rw [turnTo_bit _ _ _ _ _ hj]
  have : (decide (p ≤ j) && decide (j < p + 32) && x.getLsbD (j - p)) = false := by
    rw [Bool.eq_false_iff]
    intro e
    simp only [Bool.and_eq_true, decide_eq_true_eq] at e
    have := (turned_iff a p x 32).2 ⟨j - p, by omega, e.2, by rw [show p + (j - p) = j by omega]; omega⟩
    rw [h] at this
    cases this
  rw [this, Bool.xor_false]
/-- The first bytes, and the rest, of a text in which bits are turned. -/
theorem turn_take (a c : List UInt8) (p : Nat) (x : BitVec 32) : (turnTo (a ++ c) p x 32).take a.length = turnTo a p x 32 := by
  have hl : ((turnTo (a ++ c) p x 32).take a.length).length = a.length := by rw [List.length_take, turnTo_length, List.length_append]; omega
  apply bits_ext (by rw [hl, turnTo_length])
  intro j hj
  rw [hl] at hj
  rw [bitAt_take _ _ _ hj, turnTo_bit _ _ _ _ _ (by rw [List.length_append]; omega), turnTo_bit _ _ _ _ _ hj, bitAt_append_left _ _ _ hj]
theorem turn_drop (a c : List UInt8) (p : Nat) (x : BitVec 32) : (turnTo (a ++ c) p x 32).drop a.length = turnTo c (p - 8 * a.length) (x >>> (8 * a.length - p)) 32 := by
  have hl : ((turnTo (a ++ c) p x 32).drop a.length).length = c.length := by rw [List.length_drop, turnTo_length, List.length_append]; omega
  apply bits_ext (by rw [hl, turnTo_length])
  intro j hj
  rw [hl] at hj
  rw [bitAt_drop, turnTo_bit _ _ _ _ _ (by rw [List.length_append]; omega), turnTo_bit _ _ _ _ _ hj]
  have e1 : bitAt (a ++ c) (8 * a.length + j) = bitAt c j := by
    rw [← bitAt_drop, List.drop_left]
  rw [e1, BitVec.getLsbD_ushiftRight]
  congr 1
  by_cases h : p ≤ 8 * a.length
  · rw [show p - 8 * a.length = 0 by omega, show 8 * a.length - p + (j - 0) = 8 * a.length + j - p by omega]
    by_cases h2 : 8 * a.length + j < p + 32
    · have h3 : j < 0 + 32 := by omega
      simp [h2, h3, show p ≤ 8 * a.length + j by omega]
    · have h4 : x.getLsbD (8 * a.length + j - p) = false := BitVec.getLsbD_of_ge _ _ (by omega)
      simp [h4]
  · rw [show 8 * a.length - p = 0 by omega, Nat.zero_add]
    by_cases h1 : p ≤ 8 * a.length + j
    · rw [show 8 * a.length + j - p = j - (p - 8 * a.length) by omega]
      have h2 : (p - 8 * a.length ≤ j) := by omega
      by_cases h3 : 8 * a.length + j < p + 32
      · have h4 : j < p - 8 * a.length + 32 := by omega
        simp [h1, h2, h3, h4]
      · have h4 : ¬ j < p - 8 * a.length + 32 := by omega
        simp [h3, h4]
    · have h2 : ¬ (p - 8 * a.length ≤ j) := by omega
      simp [h1, h2]
theorem turned_parts (a c : List UInt8) (p : Nat) (x : BitVec 32) : turnedTo (a ++ c) p x 32 = (turnedTo a p x 32 || turnedTo c (p - 8 * a.length) (x >>> (8 * a.length - p)) 32) := by
  rw [Bool.eq_iff_iff, Bool.or_eq_true, turned_iff, turned_iff, turned_iff]
  constructor
  · rintro ⟨i, hi, hx, hl⟩
    rw [List.length_append] at hl
    by_cases h : (p + i) / 8 < a.length
    · exact .inl ⟨i, hi, hx, h⟩
    · refine .inr ⟨i - (8 * a.length - p), by omega, ?_, ?_⟩
      · rw [BitVec.getLsbD_ushiftRight, show 8 * a.length - p + (i - (8 * a.length - p)) = i by omega]; exact hx
      · have e : p - 8 * a.length + (i - (8 * a.length - p)) = p + i - 8 * a.length := by omega
        rw [e]; omega
  · rintro (⟨i, hi, hx, hl⟩ | ⟨i, hi, hx, hl⟩)
    · exact ⟨i, hi, hx, by rw [List.length_append]; omega⟩
    · rw [BitVec.getLsbD_ushiftRight] at hx
      have h32 : 8 * a.length - p + i < 32 := by
        rcases Nat.lt_or_ge (8 * a.length - p + i) 32 with h | h
        · exact h
        · rw [BitVec.getLsbD_of_ge _ _ h] at hx; cases hx
      exact ⟨8 * a.length - p + i, h32, hx, by rw [List.length_append]; omega⟩

/-- A text with its own sum behind it, in which bits are turned, has not its own sum behind it. -/
theorem sum_spoilt (m : List UInt8) (p : Nat) (x : BitVec 32) (m' s' : List UInt8) (h : turnedTo (m ++ four (crc m)) p x 32 = true) (he : turnTo (m ++ four (crc m)) p x 32 = m' ++ s') (hs : four (crc m') = s') : False := by
  have h1 := turned_differs _ p x h
  rw [he, ← hs, crc_tail, crc_tail] at h1
  exact h1 rfl
/-- A frame in which bits are turned within 32 that follow one another is not read. -/
theorem frame_spoilt (b : List UInt8) (hb : b.length ≤ 16384) (p : Nat) (x : BitVec 32) (h : turnedTo (frameOf b) p x 32 = true) : (nextOf (turnTo (frameOf b) p x 32)).2.2 ≠ 0 := by
  intro h0
  have hF : frameOf b = (headOf b.length ++ four (crc (headOf b.length))) ++ (b ++ four (crc b)) := rfl
  have hlen : (turnTo (frameOf b) p x 32).length = b.length + 12 := by rw [turnTo_length, frameOf_length]
  obtain ⟨b', k, he⟩ : ∃ b' k, nextOf (turnTo (frameOf b) p x 32) = (b', k, 0) := ⟨_, _, Prod.ext rfl (Prod.ext rfl h0)⟩
  obtain ⟨_, hk, hkl, ht⟩ := frame_again he
  have hk' : k = b'.length + 12 := by rw [hk, frameOf_length]
  -- the first eight bytes
  have t8 : (turnTo (frameOf b) p x 32).take 8 = turnTo (headOf b.length ++ four (crc (headOf b.length))) p x 32 := by
    rw [hF]
    exact turn_take (headOf b.length ++ four (crc (headOf b.length))) (b ++ four (crc b)) p x
  have t8' : (turnTo (frameOf b) p x 32).take 8 = headOf b'.length ++ four (crc (headOf b'.length)) := by
    have e : (frameOf b').take 8 = headOf b'.length ++ four (crc (headOf b'.length)) := by
      unfold frameOf
      exact List.take_left' (by rw [List.length_append, headOf_length, four_length])
    rw [← e, ← ht, List.take_take, Nat.min_eq_left (by omega)]
  have hpart := turned_parts (headOf b.length ++ four (crc (headOf b.length))) (b ++ four (crc b)) p x
  rw [← hF, h] at hpart
  have hl8 : (headOf b.length ++ four (crc (headOf b.length))).length = 8 := rfl
  cases hh : turnedTo (headOf b.length ++ four (crc (headOf b.length))) p x 32 with
  | true => exact sum_spoilt (headOf b.length) p x _ _ hh (t8.symm.trans t8') rfl
  | false =>
    rw [hh, Bool.false_or, hl8] at hpart
    have hsame := turn_none hh
    rw [hsame] at t8
    have hbl : b'.length = b.length := by
      have e1 := t8.symm.trans t8'
      have e2 := congrArg (fun l => le4 (l.take 4)) e1
      simp only [List.take_left' (headOf_length _)] at e2
      rw [head_le4 _ hb, head_le4 _ (by omega)] at e2
      exact e2.symm
    have d8 : (turnTo (frameOf b) p x 32).drop 8 = turnTo (b ++ four (crc b)) (p - 64) (x >>> (64 - p)) 32 := by
      rw [hF]
      exact turn_drop (headOf b.length ++ four (crc (headOf b.length))) (b ++ four (crc b)) p x
    have d8' : (turnTo (frameOf b) p x 32).drop 8 = b' ++ four (crc b') := by
      have e0 : (turnTo (frameOf b) p x 32).take k = turnTo (frameOf b) p x 32 := List.take_of_length_le (by omega)
      rw [← e0, ht]
      unfold frameOf
      exact List.drop_left' (by rw [List.length_append, headOf_length, four_length])
    exact sum_spoilt b (p - 64) (x >>> (64 - p)) _ _ hpart.symm (d8.symm.trans d8') rfl
end Go.Proofs.YtkbmbcmcnpeabaaDoor.Fm.Crc

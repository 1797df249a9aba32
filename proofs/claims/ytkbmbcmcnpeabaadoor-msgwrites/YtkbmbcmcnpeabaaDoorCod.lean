/- Plain facts on codes, with no Go text in them: a value's bytes, and what any bytes are read as; codes put one behind the other, lists behind their count. What is written is read back; what is read is what would be written; what is cut is short. No conditions. -/
import Derived.Test.YtkbmbcmcnpeabaaDoorMath
namespace Go.Proofs.YtkbmbcmcnpeabaaDoor.Pk

/-- How values are written, and read out of any bytes: the value, how many bytes it took, an error. -/
structure Cod (α : Type) where
  ok : α → Prop
  enc : α → List UInt8
  dec : List UInt8 → α × Nat × Nat

/-- What a code keeps. -/
structure Cod.Law {α : Type} (C : Cod α) : Prop where
  back : ∀ a t, C.ok a → C.dec (C.enc a ++ t) = (a, (C.enc a).length, 0)
  just : ∀ l a k, C.dec l = (a, k, 0) → C.ok a ∧ k ≤ l.length ∧ l.take k = C.enc a
  cut : ∀ a k, C.ok a → k < (C.enc a).length → (C.dec ((C.enc a).take k)).2.2 = 7
  room : ∀ l, (C.dec l).2.2 ≤ 8 ∧ (C.dec l).2.1 ≤ l.length

section
variable {α β : Type}

/-- One behind the other. -/
def Cod.seq (A : Cod α) (B : Cod β) (za : α) (zb : β) : Cod (α × β) where
  ok x := A.ok x.1 ∧ B.ok x.2
  enc x := A.enc x.1 ++ B.enc x.2
  dec l := if (A.dec l).2.2 ≠ 0 then ((za, zb), 0, (A.dec l).2.2)
    else if (B.dec (l.drop (A.dec l).2.1)).2.2 ≠ 0 then ((za, zb), 0, (B.dec (l.drop (A.dec l).2.1)).2.2)
    else (((A.dec l).1, (B.dec (l.drop (A.dec l).2.1)).1), (A.dec l).2.1 + (B.dec (l.drop (A.dec l).2.1)).2.1, 0)

theorem Cod.Law.seq {A : Cod α} {B : Cod β} (ha : A.Law) (hb : B.Law) (za : α) (zb : β) : (A.seq B za zb).Law where
  back := by
    rintro ⟨a, b⟩ t ⟨h1, h2⟩
    have e1 : A.dec (A.enc a ++ B.enc b ++ t) = (a, (A.enc a).length, 0) := by rw [List.append_assoc]; exact ha.back a _ h1
    have e2 : B.dec ((A.enc a ++ B.enc b ++ t).drop (A.enc a).length) = (b, (B.enc b).length, 0) := by rw [List.append_assoc, List.drop_left]; exact hb.back b t h2
    simp only [Cod.seq]
    rw [e1, e2, if_neg (fun h => h rfl), if_neg (fun h => h rfl), List.length_append]
  just := by
    rintro l ⟨a, b⟩ k h
    simp only [Cod.seq] at h ⊢
    by_cases e1 : (A.dec l).2.2 = 0
    · rw [if_neg (fun h' => h' e1)] at h
      by_cases e2 : (B.dec (l.drop (A.dec l).2.1)).2.2 = 0
      · rw [if_neg (fun h' => h' e2)] at h
        simp only [Prod.mk.injEq, and_true] at h
        obtain ⟨⟨rfl, rfl⟩, rfl⟩ := h
        obtain ⟨o1, l1, t1⟩ := ha.just l (A.dec l).1 (A.dec l).2.1 (Prod.ext rfl (Prod.ext rfl e1))
        obtain ⟨o2, l2, t2⟩ := hb.just (l.drop (A.dec l).2.1) (B.dec (l.drop (A.dec l).2.1)).1 (B.dec (l.drop (A.dec l).2.1)).2.1 (Prod.ext rfl (Prod.ext rfl e2))
        rw [List.length_drop] at l2
        refine ⟨⟨o1, o2⟩, by omega, ?_⟩
        rw [List.take_add, t1, t2]
      · rw [if_pos e2] at h
        simp only [Prod.mk.injEq] at h
        exact absurd h.2.2 e2
    · rw [if_pos e1] at h
      simp only [Prod.mk.injEq] at h
      exact absurd h.2.2 e1
  cut := by
    rintro ⟨a, b⟩ k ⟨h1, h2⟩ hk
    simp only [Cod.seq] at hk ⊢
    rw [List.length_append] at hk
    by_cases hlt : k < (A.enc a).length
    · have e : A.enc a ++ B.enc b = A.enc a ++ B.enc b := rfl
      rw [List.take_append_of_le_length (by omega)]
      have e1 := ha.cut a k h1 hlt
      rw [if_pos (by rw [e1]; decide)]
      exact e1
    · have e0 : (A.enc a ++ B.enc b).take k = A.enc a ++ (B.enc b).take (k - (A.enc a).length) := by
        rw [List.take_append, List.take_of_length_le (by omega)]
      have e1 : A.dec ((A.enc a ++ B.enc b).take k) = (a, (A.enc a).length, 0) := by rw [e0]; exact ha.back a _ h1
      have e2 : (B.dec (((A.enc a ++ B.enc b).take k).drop (A.enc a).length)).2.2 = 7 := by
        rw [e0, List.drop_left]; exact hb.cut b _ h2 (by omega)
      rw [e1]
      simp only []
      rw [if_neg (by simp), if_pos (by rw [e2]; decide)]
      exact e2
  room := by
    intro l
    have h1 := ha.room l
    have h2 := hb.room (l.drop (A.dec l).2.1)
    rw [List.length_drop] at h2
    simp only [Cod.seq]
    split
    · exact ⟨h1.1, Nat.zero_le _⟩
    · split
      · exact ⟨h2.1, Nat.zero_le _⟩
      · exact ⟨Nat.zero_le _, by simp only []; omega⟩

/-- The same bytes for other values. -/
def Cod.map (A : Cod α) (f : α → β) (g : β → α) (ok : β → Prop) : Cod β where
  ok := ok
  enc b := A.enc (g b)
  dec l := (f (A.dec l).1, (A.dec l).2.1, (A.dec l).2.2)
theorem Cod.Law.map {A : Cod α} (ha : A.Law) (f : α → β) (g : β → α) (ok : β → Prop) (h1 : ∀ b, ok b → A.ok (g b) ∧ f (g b) = b) (h2 : ∀ a, A.ok a → ok (f a) ∧ g (f a) = a) : (A.map f g ok).Law where
  back := by
    intro b t h
    simp only [Cod.map]
    rw [ha.back _ t (h1 b h).1]
    simp only [(h1 b h).2]
  just := by
    intro l b k h
    simp only [Cod.map, Prod.mk.injEq] at h ⊢
    obtain ⟨rfl, rfl, h0⟩ := h
    obtain ⟨o, l1, t⟩ := ha.just l (A.dec l).1 (A.dec l).2.1 (Prod.ext rfl (Prod.ext rfl h0))
    exact ⟨(h2 _ o).1, l1, by rw [(h2 _ o).2]; exact t⟩
  cut := fun b k h hk => ha.cut _ k (h1 b h).1 hk
  room := fun l => ha.room l

/-- n of them. -/
def rdN (A : Cod α) : Nat → List UInt8 → List α × Nat × Nat
  | 0, _ => ([], 0, 0)
  | n + 1, l => if (A.dec l).2.2 ≠ 0 then ([], 0, (A.dec l).2.2)
    else if (rdN A n (l.drop (A.dec l).2.1)).2.2 ≠ 0 then ([], 0, (rdN A n (l.drop (A.dec l).2.1)).2.2)
    else ((A.dec l).1 :: (rdN A n (l.drop (A.dec l).2.1)).1, (A.dec l).2.1 + (rdN A n (l.drop (A.dec l).2.1)).2.1, 0)
def encN (A : Cod α) : List α → List UInt8
  | [] => []
  | a :: r => A.enc a ++ encN A r
def Cod.times (A : Cod α) (n : Nat) : Cod (List α) where
  ok x := x.length = n ∧ ∀ a ∈ x, A.ok a
  enc x := encN A x
  dec l := rdN A n l
theorem Cod.Law.times {A : Cod α} (ha : A.Law) (n : Nat) : (A.times n).Law := by
  induction n with
  | zero =>
    refine ⟨?_, ?_, ?_, ?_⟩
    · rintro x t ⟨h, _⟩
      obtain rfl := List.length_eq_zero_iff.1 h
      rfl
    · intro l x k h
      simp only [Cod.times, rdN, Prod.mk.injEq, and_true] at h
      obtain ⟨rfl, rfl⟩ := h
      exact ⟨⟨rfl, fun _ h => by cases h⟩, Nat.zero_le _, rfl⟩
    · rintro x k ⟨h, _⟩ hk
      obtain rfl := List.length_eq_zero_iff.1 h
      simp [Cod.times, encN] at hk
    · intro l
      exact ⟨Nat.zero_le _, Nat.zero_le _⟩
  | succ n ih =>
    refine ⟨?_, ?_, ?_, ?_⟩
    · rintro x t ⟨h, ho⟩
      match x, h with
      | a :: r, h =>
        have h1 : A.ok a := ho a (by simp)
        have h2 : (A.times n).ok r := ⟨by simpa using h, fun b hb => ho b (by simp [hb])⟩
        have e1 : A.dec (A.enc a ++ encN A r ++ t) = (a, (A.enc a).length, 0) := by rw [List.append_assoc]; exact ha.back a _ h1
        have e2 : rdN A n ((A.enc a ++ encN A r ++ t).drop (A.enc a).length) = (r, (encN A r).length, 0) := by rw [List.append_assoc, List.drop_left]; exact ih.back r t h2
        simp only [Cod.times, rdN, encN]
        rw [e1]
        simp only []
        rw [e2, if_neg (fun h => h rfl), if_neg (fun h => h rfl), List.length_append]
    · intro l x k h
      simp only [Cod.times, rdN] at h
      by_cases e1 : (A.dec l).2.2 = 0
      · rw [if_neg (fun h' => h' e1)] at h
        by_cases e2 : (rdN A n (l.drop (A.dec l).2.1)).2.2 = 0
        · rw [if_neg (fun h' => h' e2)] at h
          simp only [Prod.mk.injEq, and_true] at h
          obtain ⟨rfl, rfl⟩ := h
          obtain ⟨o1, l1, t1⟩ := ha.just l (A.dec l).1 (A.dec l).2.1 (Prod.ext rfl (Prod.ext rfl e1))
          obtain ⟨⟨o2, o3⟩, l2, t2⟩ := ih.just (l.drop (A.dec l).2.1) (rdN A n (l.drop (A.dec l).2.1)).1 (rdN A n (l.drop (A.dec l).2.1)).2.1 (Prod.ext rfl (Prod.ext rfl e2))
          rw [List.length_drop] at l2
          simp only [Cod.times] at l2 t2
          refine ⟨⟨by simp [o2], fun b hb => ?_⟩, by omega, ?_⟩
          · rcases List.mem_cons.1 hb with rfl | hb
            · exact o1
            · exact o3 b hb
          · rw [List.take_add, t1, t2]; rfl
        · rw [if_pos e2] at h
          simp only [Prod.mk.injEq] at h
          exact absurd h.2.2 e2
      · rw [if_pos e1] at h
        simp only [Prod.mk.injEq] at h
        exact absurd h.2.2 e1
    · rintro x k ⟨h, ho⟩ hk
      match x, h with
      | a :: r, h =>
        have h1 : A.ok a := ho a (by simp)
        have h2 : (A.times n).ok r := ⟨by simpa using h, fun b hb => ho b (by simp [hb])⟩
        simp only [Cod.times, encN] at hk ⊢
        rw [List.length_append] at hk
        simp only [rdN]
        by_cases hlt : k < (A.enc a).length
        · rw [List.take_append_of_le_length (by omega)]
          have e1 := ha.cut a k h1 hlt
          rw [if_pos (by rw [e1]; decide)]
          exact e1
        · have e0 : (A.enc a ++ encN A r).take k = A.enc a ++ (encN A r).take (k - (A.enc a).length) := by
            rw [List.take_append, List.take_of_length_le (by omega)]
          have e1 : A.dec ((A.enc a ++ encN A r).take k) = (a, (A.enc a).length, 0) := by rw [e0]; exact ha.back a _ h1
          have e2 : (rdN A n (((A.enc a ++ encN A r).take k).drop (A.enc a).length)).2.2 = 7 := by
            rw [e0, List.drop_left]; exact ih.cut r _ h2 (by simp only [Cod.times]; omega)
          rw [e1]
          simp only []
          rw [if_neg (by simp), if_pos (by rw [e2]; decide)]
          exact e2
    · intro l
      have h1 := ha.room l
      have h2 := ih.room (l.drop (A.dec l).2.1)
      rw [List.length_drop] at h2
      simp only [Cod.times] at h2
      simp only [Cod.times, rdN]
      split
      · exact ⟨h1.1, Nat.zero_le _⟩
      · split
        · exact ⟨h2.1, Nat.zero_le _⟩
        · exact ⟨Nat.zero_le _, by simp only []; omega⟩
end

/-- A number of at most m at the beginning of a text. -/
def most (m : Nat) (l : List UInt8) : Nat × Nat × Nat := if (num l).2.2 ≠ 0 then (0, 0, (num l).2.2) else if m < (num l).1 then (0, 0, 8) else num l
theorem num_cut (n k : Nat) (h : n < 2 ^ 64) (hk : k < (numBytes n).length) : (num ((numBytes n).take k)).2.2 = 7 := by
  have aux : ∀ (n : Nat) (j acc k : Nat), n * 2 ^ (7 * j) < 2 ^ 64 → (0 < j → 0 < n) → k < (numBytes n).length → (rd j acc ((numBytes n).take k)).2.2 = 7 := by
    intro n
    induction n using Nat.strongRecOn with
    | ind n ih =>
      intro j acc k hlt hpos hk
      have hj : j ≤ 9 := by
        rcases Nat.lt_or_ge j 10 with h' | h'
        · omega
        · exfalso
          have hn : 0 < n := hpos (by omega)
          have h1 : 2 ^ 70 ≤ 2 ^ (7 * j) := Nat.pow_le_pow_right (by decide) (by omega)
          have h2 : 1 * 2 ^ (7 * j) ≤ n * 2 ^ (7 * j) := Nat.mul_le_mul_right _ hn
          have h3 : (2 : Nat) ^ 70 = 64 * 2 ^ 64 := by decide
          omega
      cases k with
      | zero => simp only [List.take_zero, rd]; rw [if_neg (by omega)]
      | succ k =>
        rw [numBytes] at hk ⊢
        by_cases hs : n < 128
        · rw [if_pos hs] at hk; simp at hk
        · rw [if_neg hs] at hk ⊢
          rw [List.length_cons] at hk
          have hb : (UInt8.ofNat (n % 128 + 128)).toNat = n % 128 + 128 := toNat_ofNat_lt (by omega)
          simp only [List.take_succ_cons, rd, hb, if_neg (show ¬ 10 ≤ j by omega), if_neg (show ¬ n % 128 + 128 < 128 by omega)]
          have hpow : 2 ^ (7 * (j + 1)) = 2 ^ (7 * j) * 128 := by rw [show 7 * (j + 1) = 7 * j + 7 by omega, Nat.pow_add]
          refine ih (n / 128) (by omega) (j + 1) _ k ?_ (by omega) (by omega)
          have hsplit : n / 128 * 2 ^ (7 * (j + 1)) + n % 128 * 2 ^ (7 * j) = n * 2 ^ (7 * j) := by
            rw [hpow, ← Nat.mul_assoc, Nat.mul_right_comm, ← Nat.add_mul]
            congr 1
            omega
          omega
  exact aux n 0 0 k (by simpa using h) (by omega) hk
def numC : Cod Nat := ⟨fun n => n < 2 ^ 64, numBytes, num⟩
theorem num_room' (l : List UInt8) : (num l).2.2 ≤ 8 ∧ (num l).2.1 ≤ l.length := by
  rcases num_fault l with h | h | h
  · have hb := num_back (l := l) (m := (num l).1) (j := (num l).2.1) (by rw [← h])
    exact ⟨by omega, hb.2.2.2⟩
  · rw [h]; simp
  · rw [h]; simp
theorem numC_law : numC.Law where
  back := fun n t h => num_of n t h
  just := fun l n k h => by
    obtain ⟨h1, h2, h3, h4⟩ := num_back h
    exact ⟨h1, h4, by rw [h3]; rfl⟩
  cut := fun n k h hk => num_cut n k h hk
  room := num_room'
def mostC (m : Nat) : Cod Nat := ⟨fun n => n ≤ m, numBytes, most m⟩
theorem mostC_law (m : Nat) (hm : m < 2 ^ 64) : (mostC m).Law where
  back := fun n t (h : n ≤ m) => by
    show most m (numBytes n ++ t) = _
    have e := num_of n t (by omega)
    unfold most
    rw [e, if_neg (by simp), if_neg (by simp only []; omega)]
    rfl
  just := fun l n k (h : most m l = (n, k, 0)) => by
    unfold most at h
    split at h
    · simp only [Prod.mk.injEq] at h; exact absurd h.2.2 ‹_›
    · split at h
      · simp at h
      · obtain ⟨h1, h2, h3, h4⟩ := num_back h
        have hle := ‹¬ m < (num l).1›
        rw [h] at hle
        exact ⟨by show n ≤ m; simp only [] at hle; omega, h4, by rw [h3]; rfl⟩
  cut := fun n k (h : n ≤ m) hk => by
    show (most m ((numBytes n).take k)).2.2 = 7
    have e := num_cut n k (by omega) hk
    unfold most
    rw [if_pos (by rw [e]; decide)]
    exact e
  room := fun l => by
    have h := num_room' l
    show (most m l).2.2 ≤ 8 ∧ (most m l).2.1 ≤ l.length
    unfold most
    split
    · exact ⟨h.1, Nat.zero_le _⟩
    · split
      · exact ⟨by simp, Nat.zero_le _⟩
      · exact h
def byteOf? (l : List UInt8) : UInt8 × Nat × Nat := match l with | [] => (0, 0, 7) | c :: _ => (c, 1, 0)
def byteC : Cod UInt8 := ⟨fun _ => True, fun b => [b], byteOf?⟩
theorem byteC_law : byteC.Law where
  back := fun _ _ _ => rfl
  just := fun l a k (h : byteOf? l = (a, k, 0)) => by
    match l, h with
    | [], h => simp [byteOf?] at h
    | c :: t, h =>
      simp only [byteOf?, Prod.mk.injEq, and_true] at h
      obtain ⟨rfl, rfl⟩ := h
      exact ⟨trivial, by simp, rfl⟩
  cut := fun a k _ hk => by
    have : k = 0 := by simp [byteC] at hk; exact hk
    subst this
    rfl
  room := fun l => by
    match l with
    | [] => exact ⟨by decide, Nat.zero_le _⟩
    | c :: t => exact ⟨by simp [byteC, byteOf?], by simp [byteC, byteOf?]⟩
/-- Bytes of a length. -/
def bytesC (n : Nat) : Cod (List UInt8) := ⟨fun x => x.length = n, id, fun l => if l.length < n then ([], 0, 7) else (l.take n, n, 0)⟩
theorem bytesC_law (n : Nat) : (bytesC n).Law where
  back := fun x t (h : x.length = n) => by
    subst h
    show (if (x ++ t).length < x.length then (([], 0, 7) : List UInt8 × Nat × Nat) else ((x ++ t).take x.length, x.length, 0)) = (x, x.length, 0)
    rw [if_neg (by rw [List.length_append]; omega), List.take_left]
  just := fun l x k h => by
    simp only [bytesC] at h
    split at h
    · simp at h
    · simp only [Prod.mk.injEq, and_true] at h
      obtain ⟨rfl, rfl⟩ := h
      exact ⟨by show (l.take n).length = n; rw [List.length_take]; omega, by omega, rfl⟩
  cut := fun x k (h : x.length = n) hk => by
    have hk' : k < x.length := hk
    show (if (x.take k).length < n then (([], 0, 7) : List UInt8 × Nat × Nat) else ((x.take k).take n, n, 0)).2.2 = 7
    rw [if_pos (by rw [List.length_take]; omega)]
  room := fun l => by
    simp only [bytesC]
    split
    · exact ⟨by simp, Nat.zero_le _⟩
    · exact ⟨by simp, by simp only []; omega⟩
section
variable {β : Type}
/-- A count of at most m, and what stands behind it by that count. -/
def Cod.behind (m : Nat) (B : Nat → Cod β) (size : β → Nat) (zb : β) : Cod β where
  ok b := size b ≤ m ∧ (B (size b)).ok b
  enc b := numBytes (size b) ++ (B (size b)).enc b
  dec l := if (most m l).2.2 ≠ 0 then (zb, 0, (most m l).2.2)
    else if ((B (most m l).1).dec (l.drop (most m l).2.1)).2.2 ≠ 0 then (zb, 0, ((B (most m l).1).dec (l.drop (most m l).2.1)).2.2)
    else (((B (most m l).1).dec (l.drop (most m l).2.1)).1, (most m l).2.1 + ((B (most m l).1).dec (l.drop (most m l).2.1)).2.1, 0)
theorem Cod.Law.behind {m : Nat} (hm : m < 2 ^ 64) {B : Nat → Cod β} {size : β → Nat} (hb : ∀ n, (B n).Law) (hsz : ∀ n b, (B n).ok b → size b = n) (zb : β) : (Cod.behind m B size zb).Law where
  back := by
    rintro b t ⟨h1, h2⟩
    have e1 : most m (numBytes (size b) ++ (B (size b)).enc b ++ t) = (size b, (numBytes (size b)).length, 0) := by rw [List.append_assoc]; exact (mostC_law m hm).back (size b) _ h1
    have e2 : (B (size b)).dec ((numBytes (size b) ++ (B (size b)).enc b ++ t).drop (numBytes (size b)).length) = (b, ((B (size b)).enc b).length, 0) := by rw [List.append_assoc, List.drop_left]; exact (hb _).back b t h2
    simp only [Cod.behind]
    rw [e1]
    simp only []
    rw [e2, if_neg (fun h => h rfl), if_neg (fun h => h rfl), List.length_append]
  just := by
    intro l b k h
    simp only [Cod.behind] at h ⊢
    by_cases e1 : (most m l).2.2 = 0
    · rw [if_neg (fun h' => h' e1)] at h
      by_cases e2 : ((B (most m l).1).dec (l.drop (most m l).2.1)).2.2 = 0
      · rw [if_neg (fun h' => h' e2)] at h
        simp only [Prod.mk.injEq, and_true] at h
        obtain ⟨rfl, rfl⟩ := h
        obtain ⟨o1, l1, t1⟩ := (mostC_law m hm).just l (most m l).1 (most m l).2.1 (Prod.ext rfl (Prod.ext rfl e1))
        obtain ⟨o2, l2, t2⟩ := (hb (most m l).1).just (l.drop (most m l).2.1) ((B (most m l).1).dec (l.drop (most m l).2.1)).1 ((B (most m l).1).dec (l.drop (most m l).2.1)).2.1 (Prod.ext rfl (Prod.ext rfl e2))
        rw [List.length_drop] at l2
        have hn := hsz _ _ o2
        rw [hn]
        refine ⟨⟨o1, o2⟩, by omega, ?_⟩
        rw [List.take_add, t1, t2]
        rfl
      · rw [if_pos e2] at h
        simp only [Prod.mk.injEq] at h
        exact absurd h.2.2 e2
    · rw [if_pos e1] at h
      simp only [Prod.mk.injEq] at h
      exact absurd h.2.2 e1
  cut := by
    rintro b k ⟨h1, h2⟩ hk
    simp only [Cod.behind] at hk ⊢
    rw [List.length_append] at hk
    by_cases hlt : k < (numBytes (size b)).length
    · rw [List.take_append_of_le_length (by omega)]
      have e1 : (most m ((numBytes (size b)).take k)).2.2 = 7 := (mostC_law m hm).cut (size b) k h1 hlt
      rw [if_pos (by rw [e1]; decide)]
      exact e1
    · have e0 : (numBytes (size b) ++ (B (size b)).enc b).take k = numBytes (size b) ++ ((B (size b)).enc b).take (k - (numBytes (size b)).length) := by
        rw [List.take_append, List.take_of_length_le (by omega)]
      have e1 : most m ((numBytes (size b) ++ (B (size b)).enc b).take k) = (size b, (numBytes (size b)).length, 0) := by rw [e0]; exact (mostC_law m hm).back (size b) _ h1
      have e2 : ((B (size b)).dec (((numBytes (size b) ++ (B (size b)).enc b).take k).drop (numBytes (size b)).length)).2.2 = 7 := by
        rw [e0, List.drop_left]; exact (hb _).cut b _ h2 (by omega)
      rw [e1]
      simp only []
      rw [if_neg (by simp), if_pos (by rw [e2]; decide)]
      exact e2
  room := by
    intro l
    have h1 := (mostC_law m hm).room l
    have h2 := (hb (most m l).1).room (l.drop (most m l).2.1)
    rw [List.length_drop] at h2
    simp only [mostC] at h1
    simp only [Cod.behind]
    split
    · exact ⟨h1.1, Nat.zero_le _⟩
    · split
      · exact ⟨h2.1, Nat.zero_le _⟩
      · exact ⟨Nat.zero_le _, by simp only []; omega⟩
end
/-- A text of at most m bytes; a list of at most m. -/
def textC (m : Nat) : Cod (List UInt8) := Cod.behind m bytesC List.length []
theorem textC_law (m : Nat) (hm : m < 2 ^ 64) : (textC m).Law := Cod.Law.behind hm bytesC_law (fun _ _ h => h) []
def listC {α : Type} (A : Cod α) (m : Nat) : Cod (List α) := Cod.behind m A.times List.length []
theorem listC_law {α : Type} {A : Cod α} (ha : A.Law) (m : Nat) (hm : m < 2 ^ 64) : (listC A m).Law := Cod.Law.behind hm (fun n => ha.times n) (fun _ _ h => h.1) []
/-- An int of at most m, none below nought; an integer. -/
def posC (m : Nat) : Cod Int := (mostC m).map (fun n => (n : Int)) Int.toNat (fun x => 0 ≤ x ∧ x ≤ m)
theorem posC_law (m : Nat) (hm : m < 2 ^ 64) : (posC m).Law := (mostC_law m hm).map _ _ _ (fun b h => ⟨by show b.toNat ≤ m; omega, by omega⟩) (fun a (h : a ≤ m) => ⟨by omega, by omega⟩)
def intC : Cod Int := numC.map zag zig (fun x => -9223372036854775808 ≤ x ∧ x ≤ 9223372036854775807)
theorem intC_law : intC.Law := numC_law.map _ _ _ (fun b h => ⟨zig_lt b h, zag_zig b⟩) (fun a h => ⟨zag_in a h, zig_zag a⟩)
end Go.Proofs.YtkbmbcmcnpeabaaDoor.Pk

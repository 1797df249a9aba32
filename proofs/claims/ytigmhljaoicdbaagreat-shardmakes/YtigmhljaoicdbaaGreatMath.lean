/- Aggregates with no Go in them: held sums, buckets, joining, what a list adds up to, when an aggregate is right; and what follows of the values alone. No conditions but those that a theorem tells. -/
import Derived.WalkKit
import Derived.Outline
import Derived.Below
namespace Go.Proofs.YtigmhljaoicdbaaGreat
open Go.RowKit
theorem hide {p : Prop} (h : p) : Hid p := h
theorem unhide {p : Prop} (h : Hid p) : p := h

def cl (x : Int) : Int := if 9223372036854775807 < x then 9223372036854775807 else if x < -9223372036854775808 then -9223372036854775808 else x
def plus (a b : Int) : Int := cl (a + b)
def bucket (v : Int) : Nat := if v < 0 then 0 else if v < 10 then 1 else if v < 100 then 2 else 3
def i64 (x : Int) : Prop := -9223372036854775808 ≤ x ∧ x ≤ 9223372036854775807

structure AggV where
  count : Int
  sum : Int
  mn : Int
  mx : Int
  h0 : Int
  h1 : Int
  h2 : Int
  h3 : Int
  deriving DecidableEq

structure AggV.In (a : AggV) : Prop where
  count : i64 a.count
  sum : i64 a.sum
  mn : i64 a.mn
  mx : i64 a.mx
  h0 : i64 a.h0
  h1 : i64 a.h1
  h2 : i64 a.h2
  h3 : i64 a.h3

def zero : AggV := ⟨0, 0, 0, 0, 0, 0, 0, 0⟩
def at1 (v : Int) (i : Nat) : Int := if bucket v = i then 1 else 0
def one (v : Int) : AggV := ⟨1, v, v, v, at1 v 0, at1 v 1, at1 v 2, at1 v 3⟩
def least (a b : AggV) : Int := if a.count = 0 then (if b.count = 0 then 0 else b.mn) else if b.count = 0 then a.mn else min a.mn b.mn
def great (a b : AggV) : Int := if a.count = 0 then (if b.count = 0 then 0 else b.mx) else if b.count = 0 then a.mx else max a.mx b.mx
def join (a b : AggV) : AggV := ⟨plus a.count b.count, plus a.sum b.sum, least a b, great a b, plus a.h0 b.h0, plus a.h1 b.h1, plus a.h2 b.h2, plus a.h3 b.h3⟩
def put (a : AggV) (v : Int) : AggV := join a (one v)
def of (l : List Int) : AggV := l.foldl put zero

theorem cl_in (x : Int) : i64 (cl x) := by unfold cl i64; split <;> (try split) <;> omega
theorem plus_in (a b : Int) : i64 (plus a b) := cl_in _
theorem cl_id {x : Int} (h : i64 x) : cl x = x := by unfold i64 at h; unfold cl; split <;> (try split) <;> omega
theorem plus_id {a b : Int} (h : i64 (a + b)) : plus a b = a + b := cl_id h
theorem plus_zero {a : Int} (h : i64 a) : plus a 0 = a := by unfold plus; rw [Int.add_zero]; exact cl_id h
theorem plus_comm (a b : Int) : plus a b = plus b a := by unfold plus; rw [Int.add_comm]
theorem at1_in (v : Int) (i : Nat) : i64 (at1 v i) := by unfold at1 i64; split <;> omega
theorem zero_in : zero.In := by constructor <;> (unfold i64 zero; decide)
theorem one_in {v : Int} (h : i64 v) : (one v).In := ⟨⟨by show (-9223372036854775808 : Int) ≤ 1; omega, by show (1 : Int) ≤ 9223372036854775807; omega⟩, h, h, h, at1_in _ _, at1_in _ _, at1_in _ _, at1_in _ _⟩
theorem least_in {a b : AggV} (ha : a.In) (hb : b.In) : i64 (least a b) := by
  have := ha.mn; have := hb.mn
  unfold least i64 at *; split <;> split <;> omega
theorem great_in {a b : AggV} (ha : a.In) (hb : b.In) : i64 (great a b) := by
  have := ha.mx; have := hb.mx
  unfold great i64 at *; split <;> split <;> omega
theorem join_in {a b : AggV} (ha : a.In) (hb : b.In) : (join a b).In :=
  ⟨plus_in _ _, plus_in _ _, least_in ha hb, great_in ha hb, plus_in _ _, plus_in _ _, plus_in _ _, plus_in _ _⟩
theorem put_in {a : AggV} {v : Int} (ha : a.In) (hv : i64 v) : (put a v).In := join_in ha (one_in hv)
theorem fold_in (l : List Int) (hl : ∀ v ∈ l, i64 v) : ∀ a : AggV, a.In → (l.foldl put a).In := by
  induction l with
  | nil => intro a h; exact h
  | cons v l ih => intro a h; exact ih (fun x hx => hl x (List.mem_cons_of_mem _ hx)) _ (put_in h (hl v List.mem_cons_self))
theorem of_in (l : List Int) (hl : ∀ v ∈ l, i64 v) : (of l).In := fold_in l hl _ zero_in
theorem of_snoc (l : List Int) (v : Int) : of (l ++ [v]) = put (of l) v := by unfold of; rw [List.foldl_append]; rfl

-- whether it is right
def neg4 (a : AggV) : Bool := decide (a.h0 < 0) || decide (a.h1 < 0) || decide (a.h2 < 0) || decide (a.h3 < 0)
def held4 (a : AggV) : Bool := decide (a.h0 = 9223372036854775807) || decide (a.h1 = 9223372036854775807) || decide (a.h2 = 9223372036854775807) || decide (a.h3 = 9223372036854775807)
def all4 (a : AggV) : Int := plus (plus (plus (plus 0 a.h0) a.h1) a.h2) a.h3
def first4 (a : AggV) : Int := if 0 < a.h0 then 0 else if 0 < a.h1 then 1 else if 0 < a.h2 then 2 else if 0 < a.h3 then 3 else -1
def last4 (a : AggV) : Int := if 0 < a.h3 then 3 else if 0 < a.h2 then 2 else if 0 < a.h1 then 1 else if 0 < a.h0 then 0 else -1
def rightHist (a : AggV) : Bool := !neg4 a && (held4 a || (decide (all4 a = a.count) && decide (first4 a = bucket a.mn) && decide (last4 a = bucket a.mx)))
def isZero (a : AggV) : Bool := decide (a.count = 0) && decide (a.sum = 0) && decide (a.mn = 0) && decide (a.mx = 0) && decide (a.h0 = 0) && decide (a.h1 = 0) && decide (a.h2 = 0) && decide (a.h3 = 0)
def right (a : AggV) : Bool := if a.count = 0 then isZero a else decide (0 < a.count) && decide (a.mn ≤ a.mx) && rightHist a

-- what an aggregate is, by the values alone
structure Is (a : AggV) (l : List Int) : Prop where
  count : a.count = l.length
  h0 : a.h0 = (l.countP (fun v => bucket v = 0) : Nat)
  h1 : a.h1 = (l.countP (fun v => bucket v = 1) : Nat)
  h2 : a.h2 = (l.countP (fun v => bucket v = 2) : Nat)
  h3 : a.h3 = (l.countP (fun v => bucket v = 3) : Nat)
  none : l = [] → a.mn = 0 ∧ a.mx = 0 ∧ a.sum = 0
  mnIn : l ≠ [] → a.mn ∈ l
  mxIn : l ≠ [] → a.mx ∈ l
  mnLe : ∀ v ∈ l, a.mn ≤ v
  mxGe : ∀ v ∈ l, v ≤ a.mx

theorem is_zero : Is zero [] := by constructor <;> simp [zero]
theorem is_one (v : Int) : Is (one v) [v] := by
  constructor <;> simp [one, at1, List.countP_cons]
  all_goals (split <;> rfl)
theorem count_le (l : List Int) (i : Nat) : l.countP (fun v => bucket v = i) ≤ l.length := List.countP_le_length
theorem plus_nat {a b : Nat} (h : a + b ≤ 9223372036854775807) : plus (a : Int) (b : Int) = ((a + b : Nat) : Int) := by
  rw [plus_id (by unfold i64; omega)]; omega
theorem is_join {a b : AggV} {k l : List Int} (ha : Is a k) (hb : Is b l) (h : k.length + l.length ≤ 9223372036854775807) : Is (join a b) (k ++ l) := by
  have c0 := count_le k 0; have c1 := count_le k 1; have c2 := count_le k 2; have c3 := count_le k 3
  have d0 := count_le l 0; have d1 := count_le l 1; have d2 := count_le l 2; have d3 := count_le l 3
  have hac := ha.count
  have hbc := hb.count
  have hmn : (join a b).mn = least a b := rfl
  have hmx : (join a b).mx = great a b := rfl
  constructor
  · show plus a.count b.count = _
    rw [ha.count, hb.count, plus_nat h, List.length_append]
  · show plus a.h0 b.h0 = _
    rw [ha.h0, hb.h0, plus_nat (by omega), List.countP_append]
  · show plus a.h1 b.h1 = _
    rw [ha.h1, hb.h1, plus_nat (by omega), List.countP_append]
  · show plus a.h2 b.h2 = _
    rw [ha.h2, hb.h2, plus_nat (by omega), List.countP_append]
  · show plus a.h3 b.h3 = _
    rw [ha.h3, hb.h3, plus_nat (by omega), List.countP_append]
  · intro e
    obtain ⟨rfl, rfl⟩ := List.append_eq_nil_iff.1 e
    have h1 := ha.none rfl
    have h2 := hb.none rfl
    refine ⟨?_, ?_, ?_⟩
    · rw [hmn]; unfold least; rw [if_pos (show a.count = 0 from hac), if_pos (show b.count = 0 from hbc)]
    · rw [hmx]; unfold great; rw [if_pos (show a.count = 0 from hac), if_pos (show b.count = 0 from hbc)]
    · show plus a.sum b.sum = 0
      rw [h1.2.2, h2.2.2]; rfl
  · intro e
    rw [hmn]; unfold least
    rcases k with _ | ⟨x, k⟩
    · rw [if_pos (by simpa using hac)]
      rcases l with _ | ⟨y, l⟩
      · exact absurd rfl e
      · rw [if_neg (by rw [hbc]; simp; omega)]
        exact List.mem_append_right _ (hb.mnIn (by simp))
    · rw [if_neg (by rw [hac]; simp; omega)]
      have h1 := ha.mnIn (by simp)
      rcases l with _ | ⟨y, l⟩
      · rw [if_pos (by simpa using hbc)]
        exact List.mem_append_left _ h1
      · rw [if_neg (by rw [hbc]; simp; omega)]
        have h2 := hb.mnIn (by simp)
        rcases Int.le_total a.mn b.mn with hle | hle
        · rw [Int.min_eq_left hle]; exact List.mem_append_left _ h1
        · rw [Int.min_eq_right hle]; exact List.mem_append_right _ h2
  · intro e
    rw [hmx]; unfold great
    rcases k with _ | ⟨x, k⟩
    · rw [if_pos (by simpa using hac)]
      rcases l with _ | ⟨y, l⟩
      · exact absurd rfl e
      · rw [if_neg (by rw [hbc]; simp; omega)]
        exact List.mem_append_right _ (hb.mxIn (by simp))
    · rw [if_neg (by rw [hac]; simp; omega)]
      have h1 := ha.mxIn (by simp)
      rcases l with _ | ⟨y, l⟩
      · rw [if_pos (by simpa using hbc)]
        exact List.mem_append_left _ h1
      · rw [if_neg (by rw [hbc]; simp; omega)]
        have h2 := hb.mxIn (by simp)
        rcases Int.le_total a.mx b.mx with hle | hle
        · rw [Int.max_eq_right hle]; exact List.mem_append_right _ h2
        · rw [Int.max_eq_left hle]; exact List.mem_append_left _ h1
  · intro v hv
    rw [hmn]; unfold least
    rcases List.mem_append.1 hv with hv | hv
    · have := ha.mnLe v hv
      have : 0 < k.length := List.length_pos_of_mem hv
      rw [if_neg (by omega)]
      split <;> omega
    · have := hb.mnLe v hv
      have : 0 < l.length := List.length_pos_of_mem hv
      rw [if_neg (c := b.count = 0) (by omega)]
      split
      · omega
      · rw [if_neg (by omega)]; omega
  · intro v hv
    rw [hmx]; unfold great
    rcases List.mem_append.1 hv with hv | hv
    · have := ha.mxGe v hv
      have : 0 < k.length := List.length_pos_of_mem hv
      rw [if_neg (by omega)]
      split <;> omega
    · have := hb.mxGe v hv
      have : 0 < l.length := List.length_pos_of_mem hv
      rw [if_neg (c := b.count = 0) (by omega)]
      split
      · omega
      · rw [if_neg (by omega)]; omega
theorem is_fold (l : List Int) : ∀ (a : AggV) (k : List Int), Is a k → k.length + l.length ≤ 9223372036854775807 → Is (l.foldl put a) (k ++ l) := by
  induction l with
  | nil => intro a k h _; simpa using h
  | cons v l ih =>
    intro a k h hl
    rw [List.length_cons] at hl
    have := ih (put a v) (k ++ [v]) (is_join h (is_one v) (by rw [List.length_singleton]; omega)) (by rw [List.length_append, List.length_singleton]; omega)
    rw [List.append_assoc] at this
    exact this
theorem is_of (l : List Int) (h : l.length ≤ 9223372036854775807) : Is (of l) l := by
  have := is_fold l zero [] is_zero (by simpa using h)
  rw [List.nil_append] at this
  exact this

theorem Is.perm {a : AggV} {k l : List Int} (h : Is a k) (p : k.Perm l) : Is a l := by
  have hn : k = [] ↔ l = [] := ⟨fun e => by subst e; exact (List.nil_perm.1 p), fun e => by subst e; exact (List.perm_nil.1 p)⟩
  exact ⟨by rw [h.count, p.length_eq], by rw [h.h0, p.countP_eq], by rw [h.h1, p.countP_eq], by rw [h.h2, p.countP_eq], by rw [h.h3, p.countP_eq], fun e => h.none (hn.2 e),
    fun e => (p.mem_iff).1 (h.mnIn (fun e2 => e (hn.1 e2))), fun e => (p.mem_iff).1 (h.mxIn (fun e2 => e (hn.1 e2))), fun v hv => h.mnLe v ((p.mem_iff).2 hv), fun v hv => h.mxGe v ((p.mem_iff).2 hv)⟩
-- two aggregates of the same values are the same, but for the sum
theorem is_same {a b : AggV} {l : List Int} (ha : Is a l) (hb : Is b l) : { b with sum := a.sum } = a := by
  have e0 := ha.h0.trans hb.h0.symm; have e1 := ha.h1.trans hb.h1.symm; have e2 := ha.h2.trans hb.h2.symm; have e3 := ha.h3.trans hb.h3.symm
  have ec := ha.count.trans hb.count.symm
  have em : a.mn = b.mn ∧ a.mx = b.mx := by
    rcases l with _ | ⟨x, l⟩
    · have := ha.none rfl; have := hb.none rfl; omega
    · have h1 := ha.mnLe _ (hb.mnIn (by simp)); have h2 := hb.mnLe _ (ha.mnIn (by simp))
      have h3 := ha.mxGe _ (hb.mxIn (by simp)); have h4 := hb.mxGe _ (ha.mxIn (by simp))
      omega
  cases a; cases b
  simp only at e0 e1 e2 e3 ec em
  simp [e0, e1, e2, e3, ec, em]
theorem bucket_mono {a b : Int} (h : a ≤ b) : bucket a ≤ bucket b := by
  unfold bucket; repeat' split
  all_goals omega
theorem bucket_le (a : Int) : bucket a ≤ 3 := by
  unfold bucket; repeat' split
  all_goals omega
theorem four (l : List Int) : l.countP (fun v => bucket v = 0) + l.countP (fun v => bucket v = 1) + l.countP (fun v => bucket v = 2) + l.countP (fun v => bucket v = 3) = l.length := by
  induction l with
  | nil => rfl
  | cons v l ih =>
    have := bucket_le v
    simp only [List.countP_cons, List.length_cons, decide_eq_true_eq]
    have : bucket v = 0 ∨ bucket v = 1 ∨ bucket v = 2 ∨ bucket v = 3 := by omega
    rcases this with h | h | h | h <;> simp [h] <;> omega
theorem pos_iff (l : List Int) (i : Nat) : 0 < l.countP (fun v => bucket v = i) ↔ ∃ v ∈ l, bucket v = i := by
  rw [List.countP_pos_iff]; simp
theorem is_right {a : AggV} {l : List Int} (h : Is a l) (hl : l.length ≤ 9223372036854775807) : right a = true := by
  unfold right
  split
  · next hc =>
    rw [h.count] at hc
    have : l = [] := List.length_eq_zero_iff.1 (by omega)
    subst this
    have := h.none rfl
    have e0 := h.h0; have e1 := h.h1; have e2 := h.h2; have e3 := h.h3; have ec := h.count
    simp at e0 e1 e2 e3 ec
    unfold isZero
    rw [ec, e0, e1, e2, e3, this.1, this.2.1, this.2.2]; rfl
  · next hc =>
    have hne : l ≠ [] := by intro e; subst e; exact hc h.count
    have hpos : 0 < l.length := List.length_pos_iff.2 hne
    have hc' := h.count
    have hm := h.mnLe _ (h.mxIn hne)
    have hf := four l
    have e0 := h.h0; have e1 := h.h1; have e2 := h.h2; have e3 := h.h3
    have b0 := bucket_le a.mn; have b1 := bucket_le a.mx
    have p0 := pos_iff l 0; have p1 := pos_iff l 1; have p2 := pos_iff l 2; have p3 := pos_iff l 3
    have key : ∀ i, 0 < l.countP (fun v => bucket v = i) → bucket a.mn ≤ i ∧ i ≤ bucket a.mx := by
      intro i hi
      obtain ⟨v, hv, rfl⟩ := (pos_iff l i).1 hi
      exact ⟨bucket_mono (h.mnLe v hv), bucket_mono (h.mxGe v hv)⟩
    have k0 := key 0; have k1 := key 1; have k2 := key 2; have k3 := key 3
    have q : ∀ i, bucket a.mn = i → 0 < l.countP (fun v => bucket v = i) := fun i e => (pos_iff l i).2 ⟨_, h.mnIn hne, e⟩
    have r : ∀ i, bucket a.mx = i → 0 < l.countP (fun v => bucket v = i) := fun i e => (pos_iff l i).2 ⟨_, h.mxIn hne, e⟩
    have q0 := q 0; have q1 := q 1; have q2 := q 2; have q3 := q 3
    have r0 := r 0; have r1 := r 1; have r2 := r 2; have r3 := r 3
    generalize hn0 : l.countP (fun v => bucket v = 0) = n0 at *
    generalize hn1 : l.countP (fun v => bucket v = 1) = n1 at *
    generalize hn2 : l.countP (fun v => bucket v = 2) = n2 at *
    generalize hn3 : l.countP (fun v => bucket v = 3) = n3 at *
    clear p0 p1 p2 p3 key q r hn0 hn1 hn2 hn3
    have ha : all4 a = a.count := by
      unfold all4
      rw [e0, e1, e2, e3, plus_comm 0, plus_zero (by unfold i64; omega), plus_nat (by omega), plus_nat (by omega), plus_nat (by omega)]
      omega
    have hfi : first4 a = (bucket a.mn : Int) := by
      unfold first4
      rw [e0, e1, e2, e3]
      generalize bucket a.mn = x at *
      repeat' split
      all_goals omega
    have hla : last4 a = (bucket a.mx : Int) := by
      unfold last4
      rw [e0, e1, e2, e3]
      generalize bucket a.mx = x at *
      repeat' split
      all_goals omega
    have hng : neg4 a = false := by
      unfold neg4
      rw [e0, e1, e2, e3]
      simp
    unfold rightHist
    rw [ha, hfi, hla, hng]
    simp only [decide_true, Bool.and_self, Bool.or_true, Bool.not_false, Bool.and_true]
    simp only [Bool.and_eq_true, decide_eq_true_eq]
    omega

-- sums of small values
def small (v : Int) : Bool := decide (-1099511627776 < v) && decide (v < 1099511627776)
theorem small_sum (l : List Int) (h : ∀ v ∈ l, small v = true) : -((l.length : Int) * 1099511627776) ≤ l.sum ∧ l.sum ≤ (l.length : Int) * 1099511627776 := by
  induction l with
  | nil => simp
  | cons v l ih =>
    have h1 := h v List.mem_cons_self
    have h2 := ih (fun x hx => h x (List.mem_cons_of_mem _ hx))
    unfold small at h1
    simp only [Bool.and_eq_true, decide_eq_true_eq] at h1
    simp only [List.sum_cons, List.length_cons]
    omega
theorem fold_sum (l : List Int) : ∀ (a : AggV) (k : List Int), a.sum = k.sum → (∀ v ∈ k ++ l, small v = true) → k.length + l.length ≤ 1000 → (l.foldl put a).sum = (k ++ l).sum := by
  induction l with
  | nil => intro a k h _ _; simpa using h
  | cons v l ih =>
    intro a k h hs hl
    rw [List.length_cons] at hl
    have hk := small_sum (k ++ [v]) (fun x hx => hs x (by
      rcases List.mem_append.1 hx with hx | hx
      · exact List.mem_append_left _ hx
      · rw [List.mem_singleton.1 hx]; exact List.mem_append_right _ List.mem_cons_self))
    simp only [List.length_append, List.length_singleton, List.sum_append, List.sum_cons, List.sum_nil] at hk
    have hp : (put a v).sum = (k ++ [v]).sum := by
      show plus a.sum v = _
      rw [h, plus_id (by unfold i64; omega)]
      simp
    have := ih (put a v) (k ++ [v]) hp (by rw [List.append_assoc]; exact hs) (by rw [List.length_append, List.length_singleton]; omega)
    rw [List.append_assoc] at this
    exact this
theorem of_sum (l : List Int) (hs : ∀ v ∈ l, small v = true) (hl : l.length ≤ 1000) : (of l).sum = l.sum := by
  have := fold_sum l zero [] rfl (by simpa using hs) (by simpa using hl)
  rw [List.nil_append] at this
  exact this
theorem perm_sum {k l : List Int} (p : k.Perm l) : k.sum = l.sum := by
  induction p with
  | nil => rfl
  | cons x _ ih => simp [ih]
  | swap x y l => simp only [List.sum_cons]; omega
  | trans _ _ ih1 ih2 => exact ih1.trans ih2
theorem join_sum (l : List Int) (k : Nat) (hs : ∀ v ∈ l, small v = true) (hl : l.length ≤ 1000) : (join (of (l.take k)) (of (l.drop k))).sum = (of l).sum := by
  show plus _ _ = _
  have h1 := of_sum (l.take k) (fun v hv => hs v (List.mem_of_mem_take hv)) (by rw [List.length_take]; omega)
  have h2 := of_sum (l.drop k) (fun v hv => hs v (List.mem_of_mem_drop hv)) (by rw [List.length_drop]; omega)
  have h3 := of_sum l hs hl
  have hb := small_sum l hs
  have e : (l.take k).sum + (l.drop k).sum = l.sum := by rw [← List.sum_append, List.take_append_drop]
  rw [h1, h2, h3, plus_id (by rw [e]; unfold i64; omega), e]
theorem ext_sum {a b : AggV} (h : { b with sum := a.sum } = a) (hs : b.sum = a.sum) : b = a := by
  cases a; cases b; simp_all
theorem of_reverse (l : List Int) (hl : l.length ≤ 1000) : { of l.reverse with sum := (of l).sum } = of l :=
  is_same (is_of l (by omega)) ((is_of l.reverse (by rw [List.length_reverse]; omega)).perm (List.reverse_perm l))
theorem of_cut (l : List Int) (k : Nat) (hl : l.length ≤ 1000) : { join (of (l.take k)) (of (l.drop k)) with sum := (of l).sum } = of l := by
  have h := is_join (is_of (l.take k) (by rw [List.length_take]; omega)) (is_of (l.drop k) (by rw [List.length_drop]; omega)) (by rw [List.length_take, List.length_drop]; omega)
  rw [List.take_append_drop] at h
  exact is_same (is_of l (by omega)) h
theorem of_reverse_small (l : List Int) (hs : ∀ v ∈ l, small v = true) (hl : l.length ≤ 1000) : of l.reverse = of l :=
  ext_sum (of_reverse l hl) (by rw [of_sum _ (fun v hv => hs v (List.mem_reverse.1 hv)) (by rw [List.length_reverse]; exact hl), of_sum l hs hl]; exact perm_sum (List.reverse_perm l))
theorem of_cut_small (l : List Int) (k : Nat) (hs : ∀ v ∈ l, small v = true) (hl : l.length ≤ 1000) : join (of (l.take k)) (of (l.drop k)) = of l :=
  ext_sum (of_cut l k hl) (join_sum l k hs hl)
theorem least_comm (a b : AggV) : least a b = least b a := by
  unfold least; repeat' split
  all_goals omega
theorem great_comm (a b : AggV) : great a b = great b a := by
  unfold great; repeat' split
  all_goals omega
theorem join_comm (a b : AggV) : join a b = join b a := by
  unfold join
  rw [plus_comm a.count, plus_comm a.sum, plus_comm a.h0, plus_comm a.h1, plus_comm a.h2, plus_comm a.h3, least_comm, great_comm]
theorem join_zero (a : AggV) (h : a.In) (hz : a.count = 0 → a.mn = 0 ∧ a.mx = 0) : join a zero = a := by
  unfold join zero
  simp only
  rw [plus_zero h.count, plus_zero h.sum, plus_zero h.h0, plus_zero h.h1, plus_zero h.h2, plus_zero h.h3]
  have e1 : least a ⟨0, 0, 0, 0, 0, 0, 0, 0⟩ = a.mn := by unfold least; simp only; split <;> simp_all
  have e2 : great a ⟨0, 0, 0, 0, 0, 0, 0, 0⟩ = a.mx := by unfold great; simp only; split <;> simp_all
  rw [e1, e2]
end Go.Proofs.YtigmhljaoicdbaaGreat

/- Numbers that came, in plain terms: all up to one, and a rising row behind it. No Go. -/
import Derived.Below
namespace Go.Proofs.Ytdmjkbcjljnleaa

def Hid (p : Prop) : Prop := p
theorem hide {p : Prop} (h : p) : Hid p := h
theorem unhide {p : Prop} (h : Hid p) : p := h

/-- All up to low, and some behind it. -/
structure AckV where
  low : Int
  set : List Int
def Rise (l : List Int) : Prop := l.Pairwise (fun a b => a < b)
structure Fine (s : AckV) : Prop where
  lo : 0 ≤ s.low
  hi : s.low ≤ 2147483647
  rise : Rise s.set
  beh : ∀ x ∈ s.set, s.low + 1 < x ∧ x ≤ 2147483647
def AckV.has (s : AckV) (n : Int) : Bool := decide (1 ≤ n ∧ n ≤ s.low) || decide (n ∈ s.set)
def AckV.total (s : AckV) : Int := s.low + s.set.length
def none0 : AckV := ⟨0, []⟩
def isNum (n : Int) : Bool := decide (1 ≤ n ∧ n ≤ 2147483647)
theorem has_iff {s : AckV} {n : Int} : s.has n = true ↔ (1 ≤ n ∧ n ≤ s.low) ∨ n ∈ s.set := by
  simp [AckV.has]
theorem isNum_iff {n : Int} : isNum n = true ↔ 1 ≤ n ∧ n ≤ 2147483647 := by simp [isNum]
theorem fine_none : Fine none0 := ⟨Int.le_refl _, by decide, List.Pairwise.nil, fun _ h => by cases h⟩

/-- A number put into a rising row. -/
def insN (n : Int) : List Int → List Int
  | [] => [n]
  | a :: l => if n < a then n :: a :: l else if n = a then a :: l else a :: insN n l
theorem mem_insN {n x : Int} : ∀ {l : List Int}, x ∈ insN n l ↔ x = n ∨ x ∈ l
  | [] => by simp [insN]
  | a :: l => by
    rw [insN]
    split
    · simp
    · split
      · rename_i h; subst h; simp
      · rw [List.mem_cons, mem_insN, List.mem_cons]; constructor <;> rintro (h | h | h) <;> simp [h]
theorem insN_rise {n : Int} : ∀ {l : List Int}, Rise l → Rise (insN n l)
  | [], _ => by simp [insN, Rise]
  | a :: l, h => by
    rw [insN]
    have h' := List.pairwise_cons.1 h
    split
    · rename_i hn
      refine List.pairwise_cons.2 ⟨fun x hx => ?_, h⟩
      rcases List.mem_cons.1 hx with e | e
      · omega
      · have := h'.1 x e; omega
    · split
      · exact h
      · refine List.pairwise_cons.2 ⟨fun x hx => ?_, insN_rise h'.2⟩
        rcases mem_insN.1 hx with e | e
        · omega
        · exact h'.1 x e
theorem insN_length {n : Int} : ∀ {l : List Int}, n ∉ l → (insN n l).length = l.length + 1
  | [], _ => rfl
  | a :: l, h => by
    rw [insN]
    split
    · rfl
    · split
      · rename_i h2; exact absurd (List.mem_cons.2 (.inl h2)) h
      · rw [List.length_cons, insN_length (fun e => h (List.mem_cons_of_mem _ e))]; rfl
theorem insN_same {n : Int} : ∀ {l : List Int}, n ∈ l → Rise l → insN n l = l
  | a :: l, h, hr => by
    rw [insN]
    have h' := List.pairwise_cons.1 hr
    rcases List.mem_cons.1 h with e | e
    · rw [if_neg (by omega), if_pos e]
    · have := h'.1 n e
      rw [if_neg (by omega), if_neg (by omega), insN_same e h'.2]
theorem insN_perm {n : Int} : ∀ {l : List Int}, n ∉ l → (insN n l).Perm (n :: l)
  | [], _ => List.Perm.refl _
  | a :: l, h => by
    rw [insN]
    split
    · exact List.Perm.refl _
    · split
      · rename_i h2; exact absurd (List.mem_cons.2 (.inl h2)) h
      · exact ((insN_perm (fun e => h (List.mem_cons_of_mem _ e))).cons a).trans (List.Perm.swap _ _ _)
theorem rise_filter {l : List Int} (h : Rise l) (p : Int → Bool) : Rise (l.filter p) := List.Pairwise.filter p h
theorem rise_nodup {l : List Int} (h : Rise l) : l.Nodup := List.Pairwise.imp (fun {a b} (h : a < b) e => by omega) h
/-- Rising rows with the same members are the same. -/
theorem rise_ext : ∀ {l m : List Int}, Rise l → Rise m → (∀ x, x ∈ l ↔ x ∈ m) → l = m
  | [], [], _, _, _ => rfl
  | [], b :: m, _, _, h => absurd ((h b).2 (List.mem_cons_self ..)) (by simp)
  | a :: l, [], _, _, h => absurd ((h a).1 (List.mem_cons_self ..)) (by simp)
  | a :: l, b :: m, hl, hm, h => by
    have hl' := List.pairwise_cons.1 hl
    have hm' := List.pairwise_cons.1 hm
    have e : a = b := by
      rcases List.mem_cons.1 ((h a).1 (List.mem_cons_self ..)) with e | e
      · exact e
      · rcases List.mem_cons.1 ((h b).2 (List.mem_cons_self ..)) with e' | e'
        · exact e'.symm
        · have := hm'.1 a e; have := hl'.1 b e'; omega
    subst e
    rw [rise_ext hl'.2 hm'.2 fun x => ?_]
    have hx := h x
    simp only [List.mem_cons] at hx
    constructor
    · intro hm1
      rcases hx.1 (.inr hm1) with e | e
      · have := hl'.1 x hm1; omega
      · exact e
    · intro hm1
      rcases hx.2 (.inr hm1) with e | e
      · have := hm'.1 x hm1; omega
      · exact e

/-- What the low mark goes by. -/
def norm (lo : Int) : List Int → AckV
  | [] => ⟨lo, []⟩
  | x :: r => if x = lo + 1 then norm (lo + 1) r else ⟨lo, x :: r⟩
structure Pre (a : Int) (l : List Int) : Prop where
  lo : 0 ≤ a
  hi : a ≤ 2147483647
  rise : Rise l
  beh : ∀ x ∈ l, a < x ∧ x ≤ 2147483647
theorem Pre.tail {lo x : Int} {r : List Int} (h : Pre lo (x :: r)) (e : x = lo + 1) : Pre (lo + 1) r := by
  have h' := List.pairwise_cons.1 h.rise
  have h0 := h.lo
  have hx := h.beh x (List.mem_cons_self ..)
  exact ⟨by omega, by omega, h'.2, fun y hy => ⟨by have := h'.1 y hy; omega, (h.beh y (List.mem_cons_of_mem _ hy)).2⟩⟩
theorem norm_fine : ∀ {l : List Int} {lo : Int}, Pre lo l → Fine (norm lo l)
  | [], lo, h => ⟨h.lo, h.hi, List.Pairwise.nil, fun _ h => by cases h⟩
  | x :: r, lo, h => by
    rw [norm]
    split
    · rename_i e; exact norm_fine (h.tail e)
    · rename_i e
      refine ⟨h.lo, h.hi, h.rise, fun y hy => ⟨?_, (h.beh y hy).2⟩⟩
      have hx := h.beh x (List.mem_cons_self ..)
      rcases List.mem_cons.1 hy with e' | e'
      · show lo + 1 < y; omega
      · have := (List.pairwise_cons.1 h.rise).1 y e'; show lo + 1 < y; omega
theorem norm_has : ∀ {l : List Int} {lo : Int}, Pre lo l → ∀ n, ((norm lo l).has n = true ↔ (1 ≤ n ∧ n ≤ lo) ∨ n ∈ l)
  | [], lo, h, n => by rw [norm, has_iff]
  | x :: r, lo, h, n => by
    rw [norm]
    have h0 := h.lo
    split
    · rename_i e
      rw [norm_has (h.tail e) n, List.mem_cons]
      constructor
      · rintro (⟨h1, h2⟩ | h1)
        · by_cases hn : n = x
          · exact .inr (.inl hn)
          · exact .inl (by omega)
        · exact .inr (.inr h1)
      · rintro (h1 | h1 | h1)
        · exact .inl (by omega)
        · exact .inl (by omega)
        · exact .inr h1
    · rw [has_iff]
theorem norm_total : ∀ {l : List Int} {lo : Int}, (norm lo l).total = lo + l.length
  | [], lo => by simp [norm, AckV.total]
  | x :: r, lo => by
    rw [norm]
    split
    · rw [norm_total, List.length_cons]; omega
    · rfl
theorem norm_low : ∀ {l : List Int} {lo : Int}, lo ≤ (norm lo l).low
  | [], lo => Int.le_refl _
  | x :: r, lo => by
    rw [norm]
    split
    · have := norm_low (l := r) (lo := lo + 1); omega
    · exact Int.le_refl _
/-- Two that have the same numbers are the same. -/
theorem Fine.ext {s t : AckV} (hs : Fine s) (ht : Fine t) (h : ∀ n, s.has n = true ↔ t.has n = true) : s = t := by
  have le : ∀ {s t : AckV}, Fine s → Fine t → (∀ n, s.has n = true ↔ t.has n = true) → s.low ≤ t.low := by
    intro s t hs ht h
    by_cases hl : s.low ≤ t.low
    · exact hl
    · have h0 := ht.lo
      have h1 := (h (t.low + 1)).1 (has_iff.2 (.inl (by omega)))
      rcases has_iff.1 h1 with e | e
      · omega
      · have := (ht.beh _ e).1; omega
  have el : s.low = t.low := Int.le_antisymm (le hs ht h) (le ht hs fun n => (h n).symm)
  have es : s.set = t.set := rise_ext hs.rise ht.rise fun x => by
    have hx := h x
    rw [has_iff, has_iff] at hx
    constructor
    · intro hm
      rcases hx.1 (.inr hm) with e | e
      · have := (hs.beh x hm).1; omega
      · exact e
    · intro hm
      rcases hx.2 (.inr hm) with e | e
      · have := (ht.beh x hm).1; omega
      · exact e
  cases s; cases t
  simp only at el es
  rw [el, es]

/-- A number that may come and had not. -/
def AckV.fresh (s : AckV) (n : Int) : Bool := isNum n && !s.has n
def AckV.add (s : AckV) (n : Int) : AckV := if s.fresh n = true then norm s.low (insN n s.set) else s
theorem fresh_iff {s : AckV} {n : Int} : s.fresh n = true ↔ (1 ≤ n ∧ n ≤ 2147483647) ∧ s.has n = false := by
  simp [AckV.fresh, isNum_iff]
theorem fresh_not {s : AckV} {n : Int} (h : s.fresh n = true) : n ∉ s.set := fun hm => by
  have := (fresh_iff.1 h).2
  rw [has_iff.2 (.inr hm)] at this
  cases this
theorem pre_add {s : AckV} {n : Int} (hs : Fine s) (h : s.fresh n = true) : Pre s.low (insN n s.set) := by
  have h1 := fresh_iff.1 h
  refine ⟨hs.lo, hs.hi, insN_rise hs.rise, fun x hx => ?_⟩
  rcases mem_insN.1 hx with e | e
  · subst e
    refine ⟨?_, h1.1.2⟩
    by_cases hl : x ≤ s.low
    · have := h1.2; rw [has_iff.2 (.inl ⟨h1.1.1, hl⟩)] at this; cases this
    · omega
  · have := hs.beh x e; exact ⟨by omega, this.2⟩
theorem Fine.add {s : AckV} (hs : Fine s) (n : Int) : Fine (s.add n) := by
  unfold AckV.add
  split
  · rename_i h; exact norm_fine (pre_add hs h)
  · exact hs
theorem has_add {s : AckV} (hs : Fine s) (n m : Int) : (s.add n).has m = true ↔ s.has m = true ∨ (m = n ∧ isNum n = true) := by
  unfold AckV.add
  split
  · rename_i h
    rw [norm_has (pre_add hs h), mem_insN, has_iff]
    have hn : isNum n = true := isNum_iff.2 (fresh_iff.1 h).1
    constructor
    · rintro (h1 | h1 | h1)
      · exact .inl (.inl h1)
      · exact .inr ⟨h1, hn⟩
      · exact .inl (.inr h1)
    · rintro ((h1 | h1) | ⟨h1, _⟩)
      · exact .inl h1
      · exact .inr (.inr h1)
      · exact .inr (.inl h1)
  · rename_i h
    constructor
    · exact fun h1 => .inl h1
    · rintro (h1 | ⟨rfl, h2⟩)
      · exact h1
      · by_cases hh : s.has m = true
        · exact hh
        · exact absurd (fresh_iff.2 ⟨isNum_iff.1 h2, by simpa using hh⟩) h
def one (b : Bool) : Int := if b = true then 1 else 0
theorem total_add {s : AckV} (n : Int) : (s.add n).total = s.total + one (s.fresh n) := by
  unfold AckV.add one
  split
  · rename_i h
    rw [norm_total, insN_length (fresh_not h)]
    unfold AckV.total
    omega
  · rw [Int.add_zero]
theorem low_add {s : AckV} (n : Int) : s.low ≤ (s.add n).low := by
  unfold AckV.add
  split
  · exact norm_low
  · exact Int.le_refl _

/-- Many, one behind the other. -/
def AckV.adds (s : AckV) (l : List Int) : AckV := l.foldl AckV.add s
theorem adds_nil (s : AckV) : s.adds [] = s := rfl
theorem adds_cons (s : AckV) (n : Int) (l : List Int) : s.adds (n :: l) = (s.add n).adds l := rfl
theorem adds_append (s : AckV) (l m : List Int) : s.adds (l ++ m) = (s.adds l).adds m := List.foldl_append ..
theorem adds_snoc (s : AckV) (l : List Int) (n : Int) : s.adds (l ++ [n]) = (s.adds l).add n := adds_append s l [n]
theorem Fine.adds {s : AckV} (hs : Fine s) : ∀ l : List Int, Fine (s.adds l) := fun l => by
  induction l generalizing s with
  | nil => exact hs
  | cons n l ih => exact ih (hs.add n)
theorem has_adds {s : AckV} (hs : Fine s) (l : List Int) (m : Int) : (s.adds l).has m = true ↔ s.has m = true ∨ (m ∈ l ∧ isNum m = true) := by
  induction l generalizing s with
  | nil => simp [adds_nil]
  | cons n l ih =>
    rw [adds_cons, ih (hs.add n), has_add hs, List.mem_cons]
    constructor
    · rintro ((h | ⟨rfl, h⟩) | ⟨h1, h2⟩)
      · exact .inl h
      · exact .inr ⟨.inl rfl, h⟩
      · exact .inr ⟨.inr h1, h2⟩
    · rintro (h | ⟨rfl | h1, h2⟩)
      · exact .inl (.inl h)
      · exact .inl (.inr ⟨rfl, h2⟩)
      · exact .inr ⟨h1, h2⟩
theorem low_adds (s : AckV) (l : List Int) : s.low ≤ (s.adds l).low := by
  induction l generalizing s with
  | nil => exact Int.le_refl _
  | cons n l ih => exact Int.le_trans (low_add n) (ih _)
theorem total_adds_le (s : AckV) (l : List Int) : s.total ≤ (s.adds l).total ∧ (s.adds l).total ≤ s.total + l.length := by
  induction l generalizing s with
  | nil => simp [adds_nil]
  | cons n l ih =>
    have h := ih (s.add n)
    have e := total_add (s := s) n
    have : one (s.fresh n) = 0 ∨ one (s.fresh n) = 1 := by unfold one; split <;> simp
    rw [adds_cons, List.length_cons]
    omega
theorem fresh_false_of_has {s : AckV} {n : Int} (h : s.has n = true) : s.fresh n = false := by simp [AckV.fresh, h]
theorem add_same {s : AckV} {n : Int} (h : s.fresh n = false) : s.add n = s := by unfold AckV.add; rw [h]; rfl
/-- Numbers that came, or are none, change nothing. -/
theorem adds_same {s : AckV} {l : List Int} (h : ∀ n ∈ l, s.fresh n = false) : s.adds l = s := by
  induction l with
  | nil => rfl
  | cons n l ih => rw [adds_cons, add_same (h n (List.mem_cons_self ..)), ih fun m hm => h m (List.mem_cons_of_mem _ hm)]
theorem low_total {s : AckV} : s.low ≤ s.total := by unfold AckV.total; omega
theorem set_total {s : AckV} (h : Fine s) : (s.set.length : Int) ≤ s.total := by have := h.lo; unfold AckV.total; omega

/-- The numbers from 1 on. -/
def upTo (n : Int) : List Int := (List.range n.toNat).map (fun (i : Nat) => (i : Int) + 1)
theorem mem_upTo {n m : Int} : m ∈ upTo n ↔ 1 ≤ m ∧ m ≤ n := by
  simp only [upTo, List.mem_map, List.mem_range]
  constructor
  · rintro ⟨i, hi, rfl⟩; omega
  · rintro ⟨h1, h2⟩; exact ⟨(m - 1).toNat, by omega, by omega⟩
theorem length_upTo (n : Int) : (upTo n).length = n.toNat := by simp [upTo]
theorem upTo_zero {n : Int} (h : n ≤ 0) : upTo n = [] := by simp [upTo, Int.toNat_of_nonpos h]
theorem upTo_succ {n : Int} (h : 0 ≤ n) : upTo (n + 1) = upTo n ++ [n + 1] := by
  unfold upTo
  rw [show (n + 1).toNat = n.toNat + 1 by omega, List.range_succ, List.map_append]
  simp; omega
/-- The low mark is raised. -/
def AckV.rise (s : AckV) (low : Int) : AckV := if low ≤ s.low then s else norm low (s.set.filter (fun x => decide (low < x)))
theorem pre_rise {s : AckV} {low : Int} (hs : Fine s) (h : ¬ low ≤ s.low) (hh : low ≤ 1048576) : Pre low (s.set.filter (fun x => decide (low < x))) := by
  have h0 := hs.lo
  refine ⟨by omega, by omega, rise_filter hs.rise _, fun x hx => ?_⟩
  obtain ⟨h1, h2⟩ := List.mem_filter.1 hx
  exact ⟨of_decide_eq_true h2, (hs.beh x h1).2⟩
theorem rise_adds {s : AckV} (hs : Fine s) {low : Int} (hh : low ≤ 1048576) : s.rise low = s.adds (upTo low) := by
  unfold AckV.rise
  split
  · rename_i h
    refine (adds_same fun n hn => fresh_false_of_has (has_iff.2 (.inl ?_))).symm
    have := mem_upTo.1 hn
    omega
  · rename_i h
    refine (norm_fine (pre_rise hs h hh)).ext (hs.adds _) fun n => ?_
    rw [norm_has (pre_rise hs h hh), has_adds hs, has_iff, mem_upTo, isNum_iff, List.mem_filter, decide_eq_true_iff]
    have h0 := hs.lo
    constructor
    · rintro (h1 | ⟨h1, h2⟩)
      · exact .inr ⟨h1, by omega⟩
      · exact .inl (.inr h1)
    · rintro ((h1 | h1) | ⟨h1, _⟩)
      · exact .inl (by omega)
      · by_cases hn : n ≤ low
        · have := (hs.beh n h1).1; exact .inl (by omega)
        · exact .inr ⟨h1, by omega⟩
      · exact .inl h1
/-- All numbers up to one, and those of a list. -/
def cut20 (n : Int) : Int := min n 1048576
def told (low : Int) (l : List Int) : List Int := upTo (cut20 low) ++ l
def AckV.merge (s : AckV) (low : Int) (l : List Int) : AckV := s.adds (told low l)
theorem merge_eq {s : AckV} (hs : Fine s) (low : Int) (l : List Int) : s.merge low l = (s.rise (cut20 low)).adds l := by
  rw [rise_adds hs (by unfold cut20; omega)]
  exact adds_append _ _ _
/-- How many a list brings. -/
def AckV.news (s : AckV) (l : List Int) : Int := (s.adds l).total - s.total
theorem news_nil (s : AckV) : s.news [] = 0 := by simp [AckV.news, adds_nil]
theorem news_snoc (s : AckV) (l : List Int) (n : Int) : s.news (l ++ [n]) = s.news l + one ((s.adds l).fresh n) := by
  unfold AckV.news
  rw [adds_snoc, total_add]; omega
theorem news_le (s : AckV) (l : List Int) : 0 ≤ s.news l ∧ s.news l ≤ l.length := by
  have := total_adds_le s l
  unfold AckV.news; omega
theorem news_append (s : AckV) (l m : List Int) : s.news (l ++ m) = s.news l + (s.adds l).news m := by
  unfold AckV.news
  rw [adds_append]; omega
/-- The numbers of one. -/
def AckV.nums (s : AckV) : List Int := told s.low s.set
theorem mem_nums {s : AckV} (hl : s.low ≤ 1048576) {n : Int} : n ∈ s.nums ↔ s.has n = true := by
  unfold AckV.nums told cut20
  rw [show min s.low 1048576 = s.low by omega, List.mem_append, mem_upTo, has_iff]
theorem has_num {s : AckV} (hs : Fine s) {n : Int} (h : s.has n = true) : isNum n = true := by
  rcases has_iff.1 h with e | e
  · have := hs.hi; exact isNum_iff.2 (by omega)
  · have := hs.beh n e; have := hs.lo; exact isNum_iff.2 (by omega)
/-- What is told of another one comes to it. -/
theorem has_merge {s t : AckV} (hs : Fine s) (ht : Fine t) (hl : t.low ≤ 1048576) (n : Int) : (s.merge t.low t.set).has n = true ↔ s.has n = true ∨ t.has n = true := by
  show (s.adds t.nums).has n = true ↔ _
  rw [has_adds hs, mem_nums hl]
  exact ⟨fun h => h.imp id (·.1), fun h => h.imp id fun k => ⟨k, has_num ht k⟩⟩
theorem merge_same {s t : AckV} (hl : t.low ≤ 1048576) (h : ∀ n, t.has n = true → s.has n = true) : s.merge t.low t.set = s :=
  adds_same fun n hn => fresh_false_of_has (h n ((mem_nums hl).1 hn))
/-- The numbers up to one that did not come. -/
def AckV.miss (s : AckV) (upto : Int) : List Int := (upTo upto).filter (fun n => !s.has n)
theorem miss_low (s : AckV) {n : Int} (h : n ≤ s.low) : s.miss n = [] := List.filter_eq_nil_iff.2 fun a ha => by
  have h1 := mem_upTo.1 ha
  have : s.has a = true := has_iff.2 (.inl ⟨h1.1, by omega⟩)
  simp [this]
theorem miss_had (s : AckV) {n : Int} (h0 : 1 ≤ n) (h : s.has n = true) : s.miss n = s.miss (n - 1) := by
  unfold AckV.miss
  rw [show n = (n - 1) + 1 by omega, upTo_succ (by omega), List.filter_append, show n - 1 + 1 = n by omega]
  simp [h]
theorem miss_next (s : AckV) {n : Int} (h0 : 1 ≤ n) (h : s.has n = false) : s.miss n = s.miss (n - 1) ++ [n] := by
  unfold AckV.miss
  rw [show n = (n - 1) + 1 by omega, upTo_succ (by omega), List.filter_append, show n - 1 + 1 = n by omega]
  simp [h]
theorem miss_length (s : AckV) (h : 0 ≤ s.low) (n : Int) : s.low ≤ n → ((s.miss n).length : Int) ≤ n - s.low := by
  intro hn
  obtain ⟨k, hk⟩ : ∃ k : Nat, n = s.low + k := ⟨(n - s.low).toNat, by omega⟩
  subst hk
  clear hn
  induction k with
  | zero => rw [miss_low s (by omega)]; simp
  | succ k ih =>
    cases hc : s.has (s.low + (k + 1 : Nat)) with
    | true => rw [miss_had s (by omega) hc, show s.low + ((k + 1 : Nat) : Int) - 1 = s.low + (k : Int) by omega]; omega
    | false =>
      rw [miss_next s (by omega) hc, show s.low + ((k + 1 : Nat) : Int) - 1 = s.low + (k : Int) by omega, List.length_append, List.length_singleton]; omega
end Go.Proofs.Ytdmjkbcjljnleaa

/- Low marks and codes, as plain facts: asking, giving a code, forgetting; the codes of all sources in their row. No Go program. -/
import Derived.Test.YtoofaldblldncabChecked
namespace Go.Proofs.Ytoofaldblldncab

/-- A fact that is no rewrite rule. -/
def Hid (p : Prop) : Prop := p
theorem hide {p : Prop} (h : p) : Hid p := h
theorem unhide {p : Prop} (h : Hid p) : p := h

/-- Codes, by their numbers. -/
abbrev Codes := List (Int × Int)
def Rise (l : Codes) : Prop := l.Pairwise (fun a b => a.1 < b.1)
def look : Codes → Int → Option Int
  | [], _ => none
  | a :: l, q => if a.1 = q then some a.2 else look l q
def ins (q c : Int) : Codes → Codes
  | [] => [(q, c)]
  | a :: l => if a.1 < q then a :: ins q c l else if q < a.1 then (q, c) :: a :: l else (q, c) :: l

theorem look_some {q c : Int} : ∀ {l : Codes}, look l q = some c → (q, c) ∈ l
  | [], h => by cases h
  | a :: l, h => by
    rw [look] at h
    split at h
    · rename_i e
      cases h
      subst e
      exact List.mem_cons_self
    · exact List.mem_cons_of_mem _ (look_some h)
theorem look_none {q : Int} : ∀ {l : Codes}, look l q = none → ∀ a ∈ l, a.1 ≠ q
  | [], _ => fun a h => by cases h
  | b :: l, h => fun a ha => by
    rw [look] at h
    split at h
    · cases h
    · rename_i e
      rcases List.mem_cons.1 ha with rfl | ha
      · exact e
      · exact look_none h a ha
theorem look_mem {a : Int × Int} : ∀ {l : Codes}, Rise l → a ∈ l → look l a.1 = some a.2
  | [], _, h => by cases h
  | b :: l, hr, h => by
    obtain ⟨h1, h2⟩ := List.pairwise_cons.1 hr
    rw [look]
    rcases List.mem_cons.1 h with rfl | h
    · rw [if_pos rfl]
    · rw [if_neg (by have := h1 a h; omega)]
      exact look_mem h2 h
theorem look_not {l : Codes} {q : Int} (h : ∀ a ∈ l, a.1 ≠ q) : look l q = none := by
  cases e : look l q with
  | none => rfl
  | some c => exact absurd rfl (h _ (look_some e))
theorem ins_mem {q c : Int} {a : Int × Int} : ∀ {l : Codes}, a ∈ ins q c l → a = (q, c) ∨ a ∈ l
  | [], h => by
    rw [ins] at h
    exact .inl (List.mem_singleton.1 h)
  | b :: l, h => by
    rw [ins] at h
    split at h
    · rcases List.mem_cons.1 h with rfl | h
      · exact .inr List.mem_cons_self
      · exact (ins_mem h).imp id (List.mem_cons_of_mem _)
    · split at h
      · rcases List.mem_cons.1 h with rfl | h
        · exact .inl rfl
        · exact .inr h
      · rcases List.mem_cons.1 h with rfl | h
        · exact .inl rfl
        · exact .inr (List.mem_cons_of_mem _ h)
theorem ins_perm {q c : Int} : ∀ {l : Codes}, Rise l → (ins q c l).Perm ((q, c) :: l.filter (fun a => !decide (a.1 = q)))
  | [], _ => List.Perm.refl _
  | a :: l, h => by
    obtain ⟨h1, h2⟩ := List.pairwise_cons.1 h
    rw [ins, List.filter_cons]
    have stay : (∀ b ∈ l, b.1 ≠ q) → l.filter (fun a => !decide (a.1 = q)) = l := fun hm => List.filter_eq_self.2 fun b hb => by simp [hm b hb]
    split
    · rename_i e
      rw [if_pos (by simp; omega)]
      exact ((ins_perm h2).cons a).trans (List.Perm.swap _ _ _)
    · split
      · rename_i e1 e2
        rw [if_pos (by simp; omega), stay fun b hb => by have := h1 b hb; omega]
      · rename_i e1 e2
        rw [if_neg (by simp; omega), stay fun b hb => by have := h1 b hb; omega]
theorem ins_rise {q c : Int} : ∀ {l : Codes}, Rise l → Rise (ins q c l)
  | [], _ => by rw [ins]; exact List.pairwise_singleton _ _
  | a :: l, h => by
    obtain ⟨h1, h2⟩ := List.pairwise_cons.1 h
    rw [ins]
    split
    · rename_i e
      refine List.pairwise_cons.2 ⟨fun b hb => ?_, ins_rise h2⟩
      rcases ins_mem hb with rfl | hb
      · exact e
      · exact h1 b hb
    · split
      · rename_i e1 e2
        exact List.pairwise_cons.2 ⟨fun b hb => by
          rcases List.mem_cons.1 hb with rfl | hb
          · exact e2
          · have := h1 b hb; show q < b.1; omega, h⟩
      · rename_i e1 e2
        exact List.pairwise_cons.2 ⟨fun b hb => by have := h1 b hb; show q < b.1; omega, h2⟩
theorem mem_ins {q c : Int} {l : Codes} (h : Rise l) (a : Int × Int) : a ∈ ins q c l ↔ a = (q, c) ∨ a ∈ l ∧ a.1 ≠ q := by
  rw [(ins_perm h).mem_iff, List.mem_cons, List.mem_filter]
  simp
theorem look_ins {q c q' : Int} {l : Codes} (h : Rise l) : look (ins q c l) q' = if q' = q then some c else look l q' := by
  by_cases e : q' = q
  · subst e
    rw [if_pos rfl]
    exact look_mem (a := (q', c)) (ins_rise h) ((mem_ins h _).2 (.inl rfl))
  · rw [if_neg e]
    cases hx : look l q' with
    | none =>
      refine look_not fun a ha => ?_
      rcases ins_mem ha with rfl | ha
      · exact fun e' => e e'.symm
      · exact look_none hx a ha
    | some d => exact look_mem (a := (q', d)) (ins_rise h) ((mem_ins h _).2 (.inr ⟨look_some hx, e⟩))
theorem ins_last {q c : Int} : ∀ {l : Codes}, (∀ a ∈ l, a.1 < q) → ins q c l = l ++ [(q, c)]
  | [], _ => rfl
  | a :: l, h => by
    rw [ins, if_pos (h a List.mem_cons_self), ins_last fun b hb => h b (List.mem_cons_of_mem _ hb)]
    rfl
theorem ins_new {q c : Int} {l : Codes} (h : Rise l) (hn : look l q = none) : (ins q c l).Perm ((q, c) :: l) := by
  refine (ins_perm h).trans (List.Perm.of_eq ?_)
  rw [List.filter_eq_self.2 fun a ha => by simp [look_none hn a ha]]
theorem filter_rise {l : Codes} (h : Rise l) (p : Int × Int → Bool) : Rise (l.filter p) := h.sublist List.filter_sublist
theorem look_filter {l : Codes} (h : Rise l) (p : Int → Bool) (q : Int) : look (l.filter (fun a => p a.1)) q = if p q then look l q else none := by
  by_cases e : p q = true
  · rw [if_pos e]
    cases hx : look l q with
    | none => exact look_not fun a ha => look_none hx a (List.mem_filter.1 ha).1
    | some c => exact look_mem (a := (q, c)) (filter_rise h _) (List.mem_filter.2 ⟨look_some hx, e⟩)
  · rw [if_neg e]
    exact look_not fun a ha e' => e (by rw [← e']; exact (List.mem_filter.1 ha).2)

/-- What is kept of one source. -/
structure Src where
  low : Int
  codes : Codes
/-- A source as a table has it: of low marks and numbers a machine has no end of, codes in their row. -/
structure Src.Fine (s : Src) : Prop where
  lo : 1 ≤ s.low
  hi : s.low ≤ 1099511627776
  rise : Rise s.codes
  num : ∀ a ∈ s.codes, 1 ≤ a.1 ∧ a.1 ≤ 1099511627800
  code : ∀ a ∈ s.codes, 1 ≤ a.2 ∧ a.2 ≤ 4
  len : s.codes.length ≤ 100
/-- .. and as it is between two calls. -/
structure Src.Ok (s : Src) : Prop extends s.Fine where
  near : ∀ a ∈ s.codes, s.low ≤ a.1 ∧ a.1 < s.low + 16
def Src.ask (s : Src) (q : Int) : Int × Int :=
  if q < s.low then (1, 0) else match look s.codes q with
    | some c => (2, c)
    | none => (3, 0)
def Src.keep (s : Src) (q c : Int) : Src := ⟨s.low, ins q c s.codes⟩
def Src.rise_ (s : Src) (low : Int) : Src := if low ≤ s.low then s else ⟨low, s.codes.filter (fun a => decide (low ≤ a.1))⟩
theorem Src.Fine.new : Src.Fine ⟨1, []⟩ := ⟨by decide, by decide, List.Pairwise.nil, fun _ h => (by cases h), fun _ h => (by cases h), Nat.zero_le _⟩
theorem Src.Ok.new : Src.Ok ⟨1, []⟩ := ⟨Src.Fine.new, fun _ h => (by cases h)⟩
theorem span_len : ∀ {l : Codes} {lo : Int} {n : Nat}, Rise l → (∀ a ∈ l, lo ≤ a.1 ∧ a.1 < lo + n) → l.length ≤ n
  | [], _, _, _, _ => Nat.zero_le _
  | a :: l, lo, 0, _, h => by have := h a List.mem_cons_self; omega
  | a :: l, lo, n + 1, hr, h => by
    obtain ⟨h1, h2⟩ := List.pairwise_cons.1 hr
    have ha := h a List.mem_cons_self
    have : l.length ≤ n := span_len (lo := lo + 1) h2 fun b hb => by
      have := h1 b hb
      have := h b (List.mem_cons_of_mem _ hb)
      omega
    simp only [List.length_cons]; omega
theorem Src.Ok.len16 {s : Src} (h : s.Ok) : s.codes.length ≤ 16 := span_len (lo := s.low) h.rise fun a ha => by have := h.near a ha; omega
theorem Src.Fine.keep {s : Src} (h : s.Fine) {q c : Int} (hq : 1 ≤ q ∧ q ≤ 1099511627800) (hc : 1 ≤ c ∧ c ≤ 4) (hl : s.codes.length < 100) : (s.keep q c).Fine where
  lo := h.lo
  hi := h.hi
  rise := ins_rise h.rise
  num a ha := by
    rcases ins_mem ha with rfl | ha
    · exact hq
    · exact h.num a ha
  code a ha := by
    rcases ins_mem ha with rfl | ha
    · exact hc
    · exact h.code a ha
  len := by
    have h1 : (s.keep q c).codes.length = _ := (ins_perm (q := q) (c := c) h.rise).length_eq
    have h2 := List.length_filter_le (fun a : Int × Int => !decide (a.1 = q)) s.codes
    rw [List.length_cons] at h1
    omega
theorem Src.Fine.rise_ {s : Src} (h : s.Fine) {low : Int} (hl : low ≤ 1099511627776) : (s.rise_ low).Fine := by
  unfold Src.rise_
  split
  · exact h
  · rename_i e
    have := h.lo
    exact ⟨by show 1 ≤ low; omega, hl, filter_rise h.rise _, fun a ha => h.num a (List.mem_filter.1 ha).1, fun a ha => h.code a (List.mem_filter.1 ha).1, Nat.le_trans (List.length_filter_le _ _) h.len⟩
/-- An item that is fresh, and then its low mark. -/
theorem Src.Ok.note {s : Src} (h : s.Ok) {q c low : Int} (h1 : 1 ≤ low) (h2 : low ≤ q) (h3 : q < low + 16) (h4 : q ≤ 1099511627776) (h5 : s.low ≤ q) (hc : 1 ≤ c ∧ c ≤ 4) : ((s.keep q c).rise_ low).Ok := by
  have hf : (s.keep q c).Fine := h.keep ⟨by omega, by omega⟩ hc (by have := h.len16; omega)
  refine ⟨hf.rise_ (by omega), fun a ha => ?_⟩
  unfold Src.rise_ at ha ⊢
  by_cases e : low ≤ (s.keep q c).low
  · rw [if_pos e] at ha ⊢
    have e' : low ≤ s.low := e
    rcases ins_mem ha with rfl | ha
    · show s.low ≤ q ∧ q < s.low + 16; omega
    · exact h.near a ha
  · rw [if_neg e] at ha ⊢
    have e' : ¬ low ≤ s.low := e
    obtain ⟨ha, hb⟩ := List.mem_filter.1 ha
    have hb' : low ≤ a.1 := of_decide_eq_true hb
    show low ≤ a.1 ∧ a.1 < low + 16
    rcases ins_mem ha with rfl | ha
    · exact ⟨hb', h3⟩
    · have := h.near a ha; omega

/-- A table: its four sources. -/
abbrev Tab := Nat → Src
def Tab.Ok (T : Tab) : Prop := ∀ i, (T i).Ok
def upd (T : Tab) (i : Nat) (s : Src) : Tab := fun j => if j = i then s else T j
theorem upd_same (T : Tab) (i : Nat) (s : Src) : upd T i s i = s := if_pos rfl
theorem upd_other (T : Tab) {i j : Nat} (s : Src) (h : j ≠ i) : upd T i s j = T j := if_neg h
theorem upd_upd (T : Tab) (i : Nat) (s u : Src) : upd (upd T i s) i u = upd T i u := by
  funext j; unfold upd; split <;> rfl
theorem upd_swap (T : Tab) {i j : Nat} (h : i ≠ j) (s u : Src) : upd (upd T i s) j u = upd (upd T j u) i s := by
  funext k; unfold upd
  by_cases e1 : k = j
  · subst e1; rw [if_pos rfl, if_neg (Ne.symm h), if_pos rfl]
  · rw [if_neg e1, if_neg e1]
theorem upd_self (T : Tab) (i : Nat) : upd T i (T i) = T := by
  funext k; unfold upd
  by_cases e1 : k = i
  · subst e1; rw [if_pos rfl]
  · rw [if_neg e1]
theorem Tab.Ok.upd {T : Tab} (h : T.Ok) {i : Nat} {s : Src} (hs : s.Ok) : Tab.Ok (upd T i s) := fun j => by
  unfold Ytoofaldblldncab.upd; split
  · exact hs
  · exact h j
def new_ : Tab := fun _ => ⟨1, []⟩
theorem new_ok : Tab.Ok new_ := fun _ => Src.Ok.new
/-- Whether an item's numbers may be. -/
def may (src seq low : Int) : Bool := decide (0 ≤ src ∧ src < 4 ∧ 1 ≤ low ∧ low ≤ seq ∧ seq ≤ 1099511627776 ∧ seq < low + 16)
def isSrc (n : Int) : Bool := decide (0 ≤ n ∧ n < 4)
def isCode (c : Int) : Bool := decide (1 ≤ c ∧ c ≤ 4)
def ask (T : Tab) (src seq low : Int) : Int × Int := if may src seq low = true then (T src.toNat).ask seq else (0, 0)
/-- What an item that is noted turns. -/
def noted (T : Tab) (src seq low code : Int) : Tab := upd T src.toNat (((T src.toNat).keep seq code).rise_ low)
def noteE (T : Tab) (src seq low code : Int) : Int :=
  if (ask T src seq low).1 = 0 ∨ isCode code = false then 1 else if (ask T src seq low).1 = 1 then 12 else if (ask T src seq low).1 = 2 then 5 else 0
def note (T : Tab) (src seq low code : Int) : Tab := if noteE T src seq low code = 0 then noted T src seq low code else T
theorem ask_state (T : Tab) (src seq low : Int) : (ask T src seq low).1 = 0 ∧ may src seq low = false ∨ may src seq low = true ∧ (((ask T src seq low).1 = 1 ∧ seq < (T src.toNat).low) ∨ ((ask T src seq low).1 = 2 ∧ (T src.toNat).low ≤ seq ∧ look (T src.toNat).codes seq = some (ask T src seq low).2) ∨ ((ask T src seq low).1 = 3 ∧ (T src.toNat).low ≤ seq ∧ look (T src.toNat).codes seq = none)) := by
  unfold ask
  cases hm : may src seq low with
  | false => exact .inl ⟨rfl, rfl⟩
  | true =>
    refine .inr ⟨rfl, ?_⟩
    rw [if_pos rfl]
    unfold Src.ask
    by_cases h : seq < (T src.toNat).low
    · rw [if_pos h]; exact .inl ⟨rfl, h⟩
    · rw [if_neg h]
      have h' : (T src.toNat).low ≤ seq := by omega
      cases hl : look (T src.toNat).codes seq with
      | none => exact .inr (.inr ⟨rfl, h', rfl⟩)
      | some c => exact .inr (.inl ⟨rfl, h', rfl⟩)
theorem may_iff {src seq low : Int} : may src seq low = true ↔ 0 ≤ src ∧ src < 4 ∧ 1 ≤ low ∧ low ≤ seq ∧ seq ≤ 1099511627776 ∧ seq < low + 16 := by unfold may; simp
theorem code_iff {c : Int} : isCode c = true ↔ 1 ≤ c ∧ c ≤ 4 := by unfold isCode; simp
/-- What is noted was fresh. -/
theorem noteE_zero {T : Tab} {src seq low code : Int} : noteE T src seq low code = 0 ↔ may src seq low = true ∧ isCode code = true ∧ (T src.toNat).low ≤ seq ∧ look (T src.toNat).codes seq = none := by
  unfold noteE
  rcases ask_state T src seq low with ⟨h, hm⟩ | ⟨hm, ⟨h, h1⟩ | ⟨h, h1, h2⟩ | ⟨h, h1, h2⟩⟩
  · rw [h, if_pos (.inl rfl)]; simp [hm]
  · rw [h]
    cases hc : isCode code
    · simp
    · simp; intro _ h3; omega
  · rw [h]
    cases hc : isCode code
    · simp
    · simp [h2]
  · rw [h]
    cases hc : isCode code
    · simp
    · simp [hm, h1, h2]
theorem note_ok {T : Tab} (h : T.Ok) (src seq low code : Int) : (note T src seq low code).Ok := by
  unfold note
  split
  · rename_i e
    obtain ⟨h1, h2, h3, h4⟩ := noteE_zero.1 e
    obtain ⟨g1, g2, g3, g4, g5, g6⟩ := may_iff.1 h1
    exact h.upd ((h _).note g3 g4 g6 g5 h3 (code_iff.1 h2))
  · exact h

/-- An item's code. -/
structure Ent where
  src : Int
  seq : Int
  code : Int
def ents (i : Nat) (l : Codes) : List Ent := l.map fun a => ⟨(i : Int), a.1, a.2⟩
def allTo (T : Tab) : Nat → List Ent
  | 0 => []
  | n + 1 => allTo T n ++ ents n (T n).codes
/-- The codes of all sources, in their row. -/
def all (T : Tab) : List Ent := allTo T 4
def lows (T : Tab) : List Int := (List.range 4).map fun i => (T i).low
theorem ents_length (i : Nat) (l : Codes) : (ents i l).length = l.length := by simp [ents]
theorem allTo_length {T : Tab} (h : T.Ok) : ∀ n, (allTo T n).length ≤ n * 16
  | 0 => by simp [allTo]
  | n + 1 => by
    have := allTo_length h n
    have := (h n).len16
    simp only [allTo, List.length_append, ents_length]; omega
theorem all_length {T : Tab} (h : T.Ok) : (all T).length ≤ 64 := allTo_length h 4
theorem mem_ents {i : Nat} {l : Codes} {x : Ent} : x ∈ ents i l ↔ x.src = i ∧ (x.seq, x.code) ∈ l := by
  unfold ents
  rw [List.mem_map]
  constructor
  · rintro ⟨a, ha, rfl⟩; exact ⟨rfl, ha⟩
  · rintro ⟨h1, h2⟩
    exact ⟨_, h2, by obtain ⟨a, b, c⟩ := x; cases h1; rfl⟩
theorem mem_allTo {T : Tab} {x : Ent} : ∀ {n : Nat}, x ∈ allTo T n ↔ 0 ≤ x.src ∧ x.src < n ∧ (x.seq, x.code) ∈ (T x.src.toNat).codes
  | 0 => by simp [allTo]; omega
  | n + 1 => by
    rw [allTo, List.mem_append, mem_allTo, mem_ents]
    constructor
    · rintro (⟨h1, h2, h3⟩ | ⟨h1, h2⟩)
      · exact ⟨h1, by omega, h3⟩
      · have : x.src.toNat = n := by omega
        rw [this]
        exact ⟨by omega, by omega, h2⟩
    · rintro ⟨h1, h2, h3⟩
      by_cases e : x.src < n
      · exact .inl ⟨h1, e, h3⟩
      · have : x.src.toNat = n := by omega
        rw [this] at h3
        exact .inr ⟨by omega, h3⟩
/-- By source, then by number. -/
def ahead (x y : Ent) : Bool := decide (x.src < y.src ∨ x.src = y.src ∧ x.seq < y.seq)
def RiseE (l : List Ent) : Prop := l.Pairwise fun x y => ahead x y = true
theorem ahead_iff {x y : Ent} : ahead x y = true ↔ x.src < y.src ∨ x.src = y.src ∧ x.seq < y.seq := by unfold ahead; simp
theorem ents_rise (i : Nat) {l : Codes} (h : Rise l) : RiseE (ents i l) := by
  unfold RiseE ents
  rw [List.pairwise_map]
  refine List.Pairwise.imp (R := fun a b : Int × Int => a.1 < b.1) (fun {a b} hab => ?_) h
  exact ahead_iff.2 (.inr ⟨rfl, hab⟩)
theorem allTo_rise {T : Tab} (h : T.Ok) : ∀ n, RiseE (allTo T n)
  | 0 => List.Pairwise.nil
  | n + 1 => by
    refine List.pairwise_append.2 ⟨allTo_rise h n, ents_rise n (h n).rise, fun x hx y hy => ?_⟩
    have h1 := (mem_allTo.1 hx).2.1
    have h2 := (mem_ents.1 hy).1
    exact ahead_iff.2 (.inl (by omega))
theorem all_rise {T : Tab} (h : T.Ok) : RiseE (all T) := allTo_rise h 4
theorem ent_ext {x y : Ent} (h1 : x.src = y.src) (h2 : x.seq = y.seq) (h3 : x.code = y.code) : x = y := by
  obtain ⟨a, b, c⟩ := x; obtain ⟨a', b', c'⟩ := y
  cases h1; cases h2; cases h3; rfl
/-- Rows that rise and have the same are one row. -/
theorem riseE_perm : ∀ {l m : List Ent}, RiseE l → RiseE m → l.Perm m → l = m
  | [], m, _, _, h => (List.Perm.nil_eq h)
  | a :: l, [], _, _, h => by have := h.length_eq; simp at this
  | a :: l, b :: m, hl, hm, h => by
    obtain ⟨l1, l2⟩ := List.pairwise_cons.1 hl
    obtain ⟨m1, m2⟩ := List.pairwise_cons.1 hm
    have e : a = b := by
      rcases List.mem_cons.1 (h.mem_iff.1 List.mem_cons_self) with e | ha
      · exact e
      · rcases List.mem_cons.1 (h.mem_iff.2 List.mem_cons_self) with e | hb
        · exact e.symm
        · have x := ahead_iff.1 (m1 a ha)
          have y := ahead_iff.1 (l1 b hb)
          omega
    subst e
    rw [riseE_perm l2 m2 (List.Perm.cons_inv h)]
/-- Rows of codes that rise and have the same are one. -/
theorem rise_perm : ∀ {l m : Codes}, Rise l → Rise m → l.Perm m → l = m
  | [], m, _, _, h => (List.Perm.nil_eq h)
  | a :: l, [], _, _, h => by have := h.length_eq; simp at this
  | a :: l, b :: m, hl, hm, h => by
    obtain ⟨l1, l2⟩ := List.pairwise_cons.1 hl
    obtain ⟨m1, m2⟩ := List.pairwise_cons.1 hm
    have e : a = b := by
      rcases List.mem_cons.1 (h.mem_iff.1 List.mem_cons_self) with e | ha
      · exact e
      · rcases List.mem_cons.1 (h.mem_iff.2 List.mem_cons_self) with e | hb
        · exact e.symm
        · have x := m1 a ha
          have y := l1 b hb
          omega
    subst e
    rw [rise_perm l2 m2 (List.Perm.cons_inv h)]
theorem allTo_congr {T U : Tab} : ∀ {n : Nat}, (∀ i, i < n → (T i).codes = (U i).codes) → allTo T n = allTo U n
  | 0, _ => rfl
  | n + 1, h => by rw [allTo, allTo, allTo_congr (fun i hi => h i (by omega)), h n (by omega)]
theorem all_congr {T U : Tab} (h : ∀ i, i < 4 → (T i).codes = (U i).codes) : all T = all U := allTo_congr h

/-- Acts. -/
structure ActV where
  isAsk : Bool
  src : Int
  seq : Int
  low : Int
  code : Int
def noteA (T : Tab) (a : ActV) : Tab := note T a.src a.seq a.low a.code
/-- What is noted of a row of acts, of one source alone, if its number is not below 0. -/
def plays (T : Tab) (l : List ActV) (src : Int) : Tab := l.foldl (fun T a => if src < 0 ∨ a.src = src then noteA T a else T) T
theorem plays_ok {T : Tab} (h : T.Ok) (l : List ActV) (src : Int) : (plays T l src).Ok := by
  unfold plays
  induction l generalizing T with
  | nil => exact h
  | cons a l ih =>
    rw [List.foldl_cons]
    refine ih ?_
    split
    · exact note_ok h _ _ _ _
    · exact h
theorem plays_snoc (T : Tab) (l : List ActV) (a : ActV) (src : Int) : plays T (l ++ [a]) src = if src < 0 ∨ a.src = src then noteA (plays T l src) a else plays T l src := by
  unfold plays; rw [List.foldl_append]; rfl

/-- Sources don't see one another. -/
theorem ask_congr {T U : Tab} {src : Int} (h : T src.toNat = U src.toNat) (seq low : Int) : ask T src seq low = ask U src seq low := by unfold ask; rw [h]
theorem noteE_congr {T U : Tab} {src : Int} (h : T src.toNat = U src.toNat) (seq low code : Int) : noteE T src seq low code = noteE U src seq low code := by unfold noteE; rw [ask_congr h]
theorem noteE_bad {T : Tab} {src seq low code : Int} (h : ¬ (0 ≤ src ∧ src < 4)) : noteE T src seq low code = 1 := by
  have hm : may src seq low = false := by
    cases hx : may src seq low with
    | false => rfl
    | true => have := may_iff.1 hx; omega
  unfold noteE ask
  rw [hm]; simp
theorem note_other (T : Tab) (src seq low code : Int) {j : Nat} (h : (j : Int) ≠ src) : note T src seq low code j = T j := by
  unfold note
  split
  · rename_i e
    have := (may_iff.1 (noteE_zero.1 e).1)
    exact upd_other T _ (by omega)
  · rfl
theorem note_at {T U : Tab} {src : Int} (h : T src.toNat = U src.toNat) (seq low code : Int) : note T src seq low code src.toNat = note U src seq low code src.toNat := by
  unfold note
  rw [noteE_congr h]
  split
  · unfold noted; rw [upd_same, upd_same, h]
  · exact h
/-- Of two tables that go on alike, one with source 0 alone: source 0 is the same. -/
theorem plays_zero {T U : Tab} (h : T 0 = U 0) (l : List ActV) : plays T l (-1) 0 = plays U l 0 0 := by
  unfold plays
  induction l generalizing T U with
  | nil => exact h
  | cons a l ih =>
    rw [List.foldl_cons, List.foldl_cons]
    refine ih ?_
    rw [if_pos (.inl (by decide))]
    by_cases e : a.src = 0
    · rw [if_pos (.inr e)]
      unfold noteA
      rw [e]
      exact note_at (src := 0) h _ _ _
    · rw [if_neg (by omega)]
      unfold noteA
      rw [note_other _ _ _ _ _ (by show ((0 : Nat) : Int) ≠ _; omega)]
      exact h
/-- Items of two sources may be noted in either row. -/
theorem note_swap (T : Tab) {a b : ActV} (h : a.src ≠ b.src) :
    noteE (noteA T a) b.src b.seq b.low b.code = noteE T b.src b.seq b.low b.code ∧ noteA (noteA T a) b = noteA (noteA T b) a := by
  have far : ∀ {a b : ActV}, a.src ≠ b.src → noteE (noteA T a) b.src b.seq b.low b.code = noteE T b.src b.seq b.low b.code := fun {a b} h => by
    by_cases hb : 0 ≤ b.src ∧ b.src < 4
    · exact noteE_congr (note_other T _ _ _ _ (by omega)) _ _ _
    · rw [noteE_bad hb, noteE_bad hb]
  refine ⟨far h, ?_⟩
  have h1 := far h
  have h2 := far (Ne.symm h)
  unfold noteA at h1 h2 ⊢
  unfold note at h1 h2 ⊢
  rw [h1, h2]
  by_cases ea : noteE T a.src a.seq a.low a.code = 0
  · by_cases eb : noteE T b.src b.seq b.low b.code = 0
    · rw [if_pos ea, if_pos eb, if_pos eb, if_pos ea]
      have ma := may_iff.1 (noteE_zero.1 ea).1
      have mb := may_iff.1 (noteE_zero.1 eb).1
      have hne : a.src.toNat ≠ b.src.toNat := by omega
      unfold noted
      rw [upd_other T _ (Ne.symm hne), upd_other T _ hne, upd_swap T hne]
    · rw [if_pos ea, if_neg eb, if_neg eb, if_pos ea]
  · by_cases eb : noteE T b.src b.seq b.low b.code = 0
    · rw [if_neg ea, if_pos eb, if_neg ea]
    · rw [if_neg ea, if_neg eb, if_neg ea]
end Go.Proofs.Ytoofaldblldncab

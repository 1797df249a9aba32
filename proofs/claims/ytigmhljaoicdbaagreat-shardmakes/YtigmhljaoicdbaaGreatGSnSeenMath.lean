/- Low marks and codes, as plain facts: asking, giving a code, forgetting; the codes of all sources in their row. No Go program. -/
import Derived.Test.YtigmhljaoicdbaaGreatMem
import Derived.Maps.RangeWalk
import Derived.Maps.OwnSet
import Derived.Lib.SlKeysI
import Derived.Test.YtigmhljaoicdbaaGreatGShelf
import Derived.BigQuiet
import Derived.Deep.QuietTactic
import Derived.RegionTactic
import Derived.WalkSmall
import Derived.LoopTactic
import Derived.IntWalk
import Derived.Outline
import Derived.Deep.Cut
import Derived.WalkSpells
import Derived.Deep.RegionWith
import Derived.Shelf.SlMaps.Clone
import Derived.Shelf.SlIterI.Nil
import Derived.Shelf.SortM.Plain
import Derived.Shelf.SortM.SortNone
import Derived.Test.YtigmhljaoicdbaaGreatChecked
namespace Go.Proofs.YtigmhljaoicdbaaGreat.Sn


/-- Codes, by their numbers. -/
abbrev Codes := List (Int × Int)
def Rise (l : Codes) : Prop := l.Pairwise (fun a b => a.1 < b.1)
def look : Codes → Int → Option Int
  | [], _ => none
  | a :: l, q => if a.1 = q then some a.2 else look l q
def ins (q c : Int) : Codes → Codes
  | [] => [(q, c)]
  | a :: l => if a.1 < q then a :: ins q c l else if q < a.1 then (q, c) :: a :: l else (q, c) :: l

theorem look_some {q c : Int} : ∀ {l : Codes}, look l q = some c → (q, c) ∈ l
  | [], h => by cases h
  | a :: l, h => by
    rw [look] at h
    split at h
    · rename_i e
      cases h
      subst e
      exact List.mem_cons_self
    · exact List.mem_cons_of_mem _ (look_some h)
theorem look_none {q : Int} : ∀ {l : Codes}, look l q = none → ∀ a ∈ l, a.1 ≠ q
  | [], _ => fun a h => by cases h
  | b :: l, h => fun a ha => by
    rw [look] at h
    split at h
    · cases h
    · rename_i e
      rcases List.mem_cons.1 ha with rfl | ha
      · exact e
      · exact look_none h a ha
theorem look_mem {a : Int × Int} : ∀ {l : Codes}, Rise l → a ∈ l → look l a.1 = some a.2
  | [], _, h => by cases h
  | b :: l, hr, h => by
    obtain ⟨h1, h2⟩ := List.pairwise_cons.1 hr
    rw [look]
    rcases List.mem_cons.1 h with rfl | h
    · rw [if_pos rfl]
    · rw [if_neg (by have := h1 a h; omega)]
      exact look_mem h2 h
theorem look_not {l : Codes} {q : Int} (h : ∀ a ∈ l, a.1 ≠ q) : look l q = none := by
  cases e : look l q with
  | none => rfl
  | some c => exact absurd rfl (h _ (look_some e))
theorem ins_mem {q c : Int} {a : Int × Int} : ∀ {l : Codes}, a ∈ ins q c l → a = (q, c) ∨ a ∈ l
  | [], h => by
    rw [ins] at h
    exact .inl (List.mem_singleton.1 h)
  | b :: l, h => by
    rw [ins] at h
    split at h
    · rcases List.mem_cons.1 h with rfl | h
      · exact .inr List.mem_cons_self
      · exact (ins_mem h).imp id (List.mem_cons_of_mem _)
    · split at h
      · rcases List.mem_cons.1 h with rfl | h
        · exact .inl rfl
        · exact .inr h
      · rcases List.mem_cons.1 h with rfl | h
        · exact .inl rfl
        · exact .inr (List.mem_cons_of_mem _ h)
theorem ins_perm {q c : Int} : ∀ {l : Codes}, Rise l → (ins q c l).Perm ((q, c) :: l.filter (fun a => !decide (a.1 = q)))
  | [], _ => List.Perm.refl _
  | a :: l, h => by
    obtain ⟨h1, h2⟩ := List.pairwise_cons.1 h
    rw [ins, List.filter_cons]
    have stay : (∀ b ∈ l, b.1 ≠ q) → l.filter (fun a => !decide (a.1 = q)) = l := fun hm => List.filter_eq_self.2 fun b hb => by simp [hm b hb]
    split
    · rename_i e
      rw [if_pos (by simp; omega)]
      exact ((ins_perm h2).cons a).trans (List.Perm.swap _ _ _)
    · split
      · rename_i e1 e2
        rw [if_pos (by simp; omega), stay fun b hb => by have := h1 b hb; omega]
      · rename_i e1 e2
        rw [if_neg (by simp; omega), stay fun b hb => by have := h1 b hb; omega]
theorem ins_rise {q c : Int} : ∀ {l : Codes}, Rise l → Rise (ins q c l)
  | [], _ => by rw [ins]; exact List.pairwise_singleton _ _
  | a :: l, h => by
    obtain ⟨h1, h2⟩ := List.pairwise_cons.1 h
    rw [ins]
    split
    · rename_i e
      refine List.pairwise_cons.2 ⟨fun b hb => ?_, ins_rise h2⟩
      rcases ins_mem hb with rfl | hb
      · exact e
      · exact h1 b hb
    · split
      · rename_i e1 e2
        exact List.pairwise_cons.2 ⟨fun b hb => by
          rcases List.mem_cons.1 hb with rfl | hb
          · exact e2
          · have := h1 b hb; show q < b.1; omega, h⟩
      · rename_i e1 e2
        exact List.pairwise_cons.2 ⟨fun b hb => by have := h1 b hb; show q < b.1; omega, h2⟩
theorem mem_ins {q c : Int} {l : Codes} (h : Rise l) (a : Int × Int) : a ∈ ins q c l ↔ a = (q, c) ∨ a ∈ l ∧ a.1 ≠ q := by
  rw [(ins_perm h).mem_iff, List.mem_cons, List.mem_filter]
  simp
theorem look_ins {q c q' : Int} {l : Codes} (h : Rise l) : look (ins q c l) q' = if q' = q then some c else look l q' := by
  by_cases e : q' = q
  · subst e
    rw [if_pos rfl]
    exact look_mem (a := (q', c)) (ins_rise h) ((mem_ins h _).2 (.inl rfl))
  · rw [if_neg e]
    cases hx : look l q' with
    | none =>
      refine look_not fun a ha => ?_
      rcases ins_mem ha with rfl | ha
      · exact fun e' => e e'.symm
      · exact look_none hx a ha
    | some d => exact look_mem (a := (q', d)) (ins_rise h) ((mem_ins h _).2 (.inr ⟨look_some hx, e⟩))
theorem ins_last {q c : Int} : ∀ {l : Codes}, (∀ a ∈ l, a.1 < q) → ins q c l = l ++ [(q, c)]
  | [], _ => rfl
  | a :: l, h => by
    rw [ins, if_pos (h a List.mem_cons_self), ins_last fun b hb => h b (List.mem_cons_of_mem _ hb)]
    rfl
theorem ins_new {q c : Int} {l : Codes} (h : Rise l) (hn : look l q = none) : (ins q c l).Perm ((q, c) :: l) := by
  refine (ins_perm h).trans (List.Perm.of_eq ?_)
  rw [List.filter_eq_self.2 fun a ha => by simp [look_none hn a ha]]
theorem filter_rise {l : Codes} (h : Rise l) (p : Int × Int → Bool) : Rise (l.filter p) := h.sublist List.filter_sublist
theorem look_filter {l : Codes} (h : Rise l) (p : Int → Bool) (q : Int) : look (l.filter (fun a => p a.1)) q = if p q then look l q else none := by
  by_cases e : p q = true
  · rw [if_pos e]
    cases hx : look l q with
    | none => exact look_not fun a ha => look_none hx a (List.mem_filter.1 ha).1
    | some c => exact look_mem (a := (q, c)) (filter_rise h _) (List.mem_filter.2 ⟨look_some hx, e⟩)
  · rw [if_neg e]
    exact look_not fun a ha e' => e (by rw [← e']; exact (List.mem_filter.1 ha).2)

/-- What is kept of one source. -/
structure Src where
  low : Int
  codes : Codes
/-- A source as a table has it: of low marks and numbers a machine has no end of, codes in their row. -/
structure Src.Fine (s : Src) : Prop where
  lo : 1 ≤ s.low
  hi : s.low ≤ 1099511627776
  rise : Rise s.codes
  num : ∀ a ∈ s.codes, 1 ≤ a.1 ∧ a.1 ≤ 1099511627800
  code : ∀ a ∈ s.codes, 1 ≤ a.2 ∧ a.2 ≤ 4
  len : s.codes.length ≤ 100
/-- .. and as it is between two calls. -/
structure Src.Ok (s : Src) : Prop extends s.Fine where
  near : ∀ a ∈ s.codes, s.low ≤ a.1 ∧ a.1 < s.low + 16
def Src.ask (s : Src) (q : Int) : Int × Int :=
  if q < s.low then (1, 0) else match look s.codes q with
    | some c => (2, c)
    | none => (3, 0)
def Src.keep (s : Src) (q c : Int) : Src := ⟨s.low, ins q c s.codes⟩
def Src.rise_ (s : Src) (low : Int) : Src := if low ≤ s.low then s else ⟨low, s.codes.filter (fun a => decide (low ≤ a.1))⟩
theorem Src.Fine.new : Src.Fine ⟨1, []⟩ := ⟨by decide, by decide, List.Pairwise.nil, fun _ h => (by cases h), fun _ h => (by cases h), Nat.zero_le _⟩
theorem Src.Ok.new : Src.Ok ⟨1, []⟩ := ⟨Src.Fine.new, fun _ h => (by cases h)⟩
theorem span_len : ∀ {l : Codes} {lo : Int} {n : Nat}, Rise l → (∀ a ∈ l, lo ≤ a.1 ∧ a.1 < lo + n) → l.length ≤ n
  | [], _, _, _, _ => Nat.zero_le _
  | a :: l, lo, 0, _, h => by have := h a List.mem_cons_self; omega
  | a :: l, lo, n + 1, hr, h => by
    obtain ⟨h1, h2⟩ := List.pairwise_cons.1 hr
    have ha := h a List.mem_cons_self
    have : l.length ≤ n := span_len (lo := lo + 1) h2 fun b hb => by
      have := h1 b hb
      have := h b (List.mem_cons_of_mem _ hb)
      omega
    simp only [List.length_cons]; omega
theorem Src.Ok.len16 {s : Src} (h : s.Ok) : s.codes.length ≤ 16 := span_len (lo := s.low) h.rise fun a ha => by have := h.near a ha; omega
theorem Src.Fine.keep {s : Src} (h : s.Fine) {q c : Int} (hq : 1 ≤ q ∧ q ≤ 1099511627800) (hc : 1 ≤ c ∧ c ≤ 4) (hl : s.codes.length < 100) : (s.keep q c).Fine where
  lo := h.lo
  hi := h.hi
  rise := ins_rise h.rise
  num a ha := by
    rcases ins_mem ha with rfl | ha
    · exact hq
    · exact h.num a ha
  code a ha := by
    rcases ins_mem ha with rfl | ha
    · exact hc
    · exact h.code a ha
  len := by
    have h1 : (s.keep q c).codes.length = _ := (ins_perm (q := q) (c := c) h.rise).length_eq
    have h2 := List.length_filter_le (fun a : Int × Int => !decide (a.1 = q)) s.codes
    rw [List.length_cons] at h1
    omega
theorem Src.Fine.rise_ {s : Src} (h : s.Fine) {low : Int} (hl : low ≤ 1099511627776) : (s.rise_ low).Fine := by
  unfold Src.rise_
  split
  · exact h
  · rename_i e
    have := h.lo
    exact ⟨by show 1 ≤ low; omega, hl, filter_rise h.rise _, fun a ha => h.num a (List.mem_filter.1 ha).1, fun a ha => h.code a (List.mem_filter.1 ha).1, Nat.le_trans (List.length_filter_le _ _) h.len⟩
/-- An item that is fresh, and then its low mark. -/
theorem Src.Ok.note {s : Src} (h : s.Ok) {q c low : Int} (h1 : 1 ≤ low) (h2 : low ≤ q) (h3 : q < low + 16) (h4 : q ≤ 1099511627776) (h5 : s.low ≤ q) (hc : 1 ≤ c ∧ c ≤ 4) : ((s.keep q c).rise_ low).Ok := by
  have hf : (s.keep q c).Fine := h.keep ⟨by omega, by omega⟩ hc (by have := h.len16; omega)
  refine ⟨hf.rise_ (by omega), fun a ha => ?_⟩
  unfold Src.rise_ at ha ⊢
  by_cases e : low ≤ (s.keep q c).low
  · rw [if_pos e] at ha ⊢
    have e' : low ≤ s.low := e
    rcases ins_mem ha with rfl | ha
    · show s.low ≤ q ∧ q < s.low + 16; omega
    · exact h.near a ha
  · rw [if_neg e] at ha ⊢
    have e' : ¬ low ≤ s.low := e
    obtain ⟨ha, hb⟩ := List.mem_filter.1 ha
    have hb' : low ≤ a.1 := of_decide_eq_true hb
    show low ≤ a.1 ∧ a.1 < low + 16
    rcases ins_mem ha with rfl | ha
    · exact ⟨hb', h3⟩
    · have := h.near a ha; omega

/-- A table: its four sources. -/
abbrev Tab := Nat → Src
def Tab.Ok (T : Tab) : Prop := ∀ i, (T i).Ok
def upd (T : Tab) (i : Nat) (s : Src) : Tab := fun j => if j = i then s else T j
theorem upd_same (T : Tab) (i : Nat) (s : Src) : upd T i s i = s := if_pos rfl
theorem upd_other (T : Tab) {i j : Nat} (s : Src) (h : j ≠ i) : upd T i s j = T j := if_neg h
theorem upd_upd (T : Tab) (i : Nat) (s u : Src) : upd (upd T i s) i u = upd T i u := by
  funext j; unfold upd; split <;> rfl
theorem upd_swap (T : Tab) {i j : Nat} (h : i ≠ j) (s u : Src) : upd (upd T i s) j u = upd (upd T j u) i s := by
  funext k; unfold upd
  by_cases e1 : k = j
  · subst e1; rw [if_pos rfl, if_neg (Ne.symm h), if_pos rfl]
  · rw [if_neg e1, if_neg e1]
theorem upd_self (T : Tab) (i : Nat) : upd T i (T i) = T := by
  funext k; unfold upd
  by_cases e1 : k = i
  · subst e1; rw [if_pos rfl]
  · rw [if_neg e1]
theorem Tab.Ok.upd {T : Tab} (h : T.Ok) {i : Nat} {s : Src} (hs : s.Ok) : Tab.Ok (upd T i s) := fun j => by
  unfold YtigmhljaoicdbaaGreat.Sn.upd; split
  · exact hs
  · exact h j
def new_ : Tab := fun _ => ⟨1, []⟩
theorem new_ok : Tab.Ok new_ := fun _ => Src.Ok.new
/-- Whether an item's numbers may be. -/
def may (src seq low : Int) : Bool := decide (0 ≤ src ∧ src < 4 ∧ 1 ≤ low ∧ low ≤ seq ∧ seq ≤ 1099511627776 ∧ seq < low + 16)
def isSrc (n : Int) : Bool := decide (0 ≤ n ∧ n < 4)
def isCode (c : Int) : Bool := decide (1 ≤ c ∧ c ≤ 4)
def ask (T : Tab) (src seq low : Int) : Int × Int := if may src seq low = true then (T src.toNat).ask seq else (0, 0)
/-- What an item that is noted turns. -/
def noted (T : Tab) (src seq low code : Int) : Tab := upd T src.toNat (((T src.toNat).keep seq code).rise_ low)
def noteE (T : Tab) (src seq low code : Int) : Int :=
  if (ask T src seq low).1 = 0 ∨ isCode code = false then 1 else if (ask T src seq low).1 = 1 then 12 else if (ask T src seq low).1 = 2 then 5 else 0
def note (T : Tab) (src seq low code : Int) : Tab := if noteE T src seq low code = 0 then noted T src seq low code else T
theorem ask_state (T : Tab) (src seq low : Int) : (ask T src seq low).1 = 0 ∧ may src seq low = false ∨ may src seq low = true ∧ (((ask T src seq low).1 = 1 ∧ seq < (T src.toNat).low) ∨ ((ask T src seq low).1 = 2 ∧ (T src.toNat).low ≤ seq ∧ look (T src.toNat).codes seq = some (ask T src seq low).2) ∨ ((ask T src seq low).1 = 3 ∧ (T src.toNat).low ≤ seq ∧ look (T src.toNat).codes seq = none)) := by
  unfold ask
  cases hm : may src seq low with
  | false => exact .inl ⟨rfl, rfl⟩
  | true =>
    refine .inr ⟨rfl, ?_⟩
    rw [if_pos rfl]
    unfold Src.ask
    by_cases h : seq < (T src.toNat).low
    · rw [if_pos h]; exact .inl ⟨rfl, h⟩
    · rw [if_neg h]
      have h' : (T src.toNat).low ≤ seq := by omega
      cases hl : look (T src.toNat).codes seq with
      | none => exact .inr (.inr ⟨rfl, h', rfl⟩)
      | some c => exact .inr (.inl ⟨rfl, h', rfl⟩)
theorem may_iff {src seq low : Int} : may src seq low = true ↔ 0 ≤ src ∧ src < 4 ∧ 1 ≤ low ∧ low ≤ seq ∧ seq ≤ 1099511627776 ∧ seq < low + 16 := by unfold may; simp
theorem code_iff {c : Int} : isCode c = true ↔ 1 ≤ c ∧ c ≤ 4 := by unfold isCode; simp
/-- What is noted was fresh. -/
theorem noteE_zero {T : Tab} {src seq low code : Int} : noteE T src seq low code = 0 ↔ may src seq low = true ∧ isCode code = true ∧ (T src.toNat).low ≤ seq ∧ look (T src.toNat).codes seq = none := by
  unfold noteE
  rcases ask_state T src seq low with ⟨h, hm⟩ | ⟨hm, ⟨h, h1⟩ | ⟨h, h1, h2⟩ | ⟨h, h1, h2⟩⟩
  · rw [h, if_pos (.inl rfl)]; simp [hm]
  · rw [h]
    cases hc : isCode code
    · simp
    · simp; intro _ h3; omega
  · rw [h]
    cases hc : isCode code
    · simp
    · simp [h2]
  · rw [h]
    cases hc : isCode code
    · simp
    · simp [hm, h1, h2]
theorem note_ok {T : Tab} (h : T.Ok) (src seq low code : Int) : (note T src seq low code).Ok := by
  unfold note
  split
  · rename_i e
    obtain ⟨h1, h2, h3, h4⟩ := noteE_zero.1 e
    obtain ⟨g1, g2, g3, g4, g5, g6⟩ := may_iff.1 h1
    exact h.upd ((h _).note g3 g4 g6 g5 h3 (code_iff.1 h2))
  · exact h

/-- An item's code. -/
structure Ent where
  src : Int
  seq : Int
  code : Int
def ents (i : Nat) (l : Codes) : List Ent := l.map fun a => ⟨(i : Int), a.1, a.2⟩
def allTo (T : Tab) : Nat → List Ent
  | 0 => []
  | n + 1 => allTo T n ++ ents n (T n).codes
/-- The codes of all sources, in their row. -/
def all (T : Tab) : List Ent := allTo T 4
def lows (T : Tab) : List Int := (List.range 4).map fun i => (T i).low
theorem ents_length (i : Nat) (l : Codes) : (ents i l).length = l.length := by simp [ents]
theorem allTo_length {T : Tab} (h : T.Ok) : ∀ n, (allTo T n).length ≤ n * 16
  | 0 => by simp [allTo]
  | n + 1 => by
    have := allTo_length h n
    have := (h n).len16
    simp only [allTo, List.length_append, ents_length]; omega
theorem all_length {T : Tab} (h : T.Ok) : (all T).length ≤ 64 := allTo_length h 4
theorem mem_ents {i : Nat} {l : Codes} {x : Ent} : x ∈ ents i l ↔ x.src = i ∧ (x.seq, x.code) ∈ l := by
  unfold ents
  rw [List.mem_map]
  constructor
  · rintro ⟨a, ha, rfl⟩; exact ⟨rfl, ha⟩
  · rintro ⟨h1, h2⟩
    exact ⟨_, h2, by obtain ⟨a, b, c⟩ := x; cases h1; rfl⟩
theorem mem_allTo {T : Tab} {x : Ent} : ∀ {n : Nat}, x ∈ allTo T n ↔ 0 ≤ x.src ∧ x.src < n ∧ (x.seq, x.code) ∈ (T x.src.toNat).codes
  | 0 => by simp [allTo]; omega
  | n + 1 => by
    rw [allTo, List.mem_append, mem_allTo, mem_ents]
    constructor
    · rintro (⟨h1, h2, h3⟩ | ⟨h1, h2⟩)
      · exact ⟨h1, by omega, h3⟩
      · have : x.src.toNat = n := by omega
        rw [this]
        exact ⟨by omega, by omega, h2⟩
    · rintro ⟨h1, h2, h3⟩
      by_cases e : x.src < n
      · exact .inl ⟨h1, e, h3⟩
      · have : x.src.toNat = n := by omega
        rw [this] at h3
        exact .inr ⟨by omega, h3⟩
/-- By source, then by number. -/
def ahead (x y : Ent) : Bool := decide (x.src < y.src ∨ x.src = y.src ∧ x.seq < y.seq)
def RiseE (l : List Ent) : Prop := l.Pairwise fun x y => ahead x y = true
theorem ahead_iff {x y : Ent} : ahead x y = true ↔ x.src < y.src ∨ x.src = y.src ∧ x.seq < y.seq := by unfold ahead; simp
theorem ents_rise (i : Nat) {l : Codes} (h : Rise l) : RiseE (ents i l) := by
  unfold RiseE ents
  rw [List.pairwise_map]
  refine List.Pairwise.imp (R := fun a b : Int × Int => a.1 < b.1) (fun {a b} hab => ?_) h
  exact ahead_iff.2 (.inr ⟨rfl, hab⟩)
theorem allTo_rise {T : Tab} (h : T.Ok) : ∀ n, RiseE (allTo T n)
  | 0 => List.Pairwise.nil
  | n + 1 => by
    refine List.pairwise_append.2 ⟨allTo_rise h n, ents_rise n (h n).rise, fun x hx y hy => ?_⟩
    have h1 := (mem_allTo.1 hx).2.1
    have h2 := (mem_ents.1 hy).1
    exact ahead_iff.2 (.inl (by omega))
theorem all_rise {T : Tab} (h : T.Ok) : RiseE (all T) := allTo_rise h 4
theorem ent_ext {x y : Ent} (h1 : x.src = y.src) (h2 : x.seq = y.seq) (h3 : x.code = y.code) : x = y := by
  obtain ⟨a, b, c⟩ := x; obtain ⟨a', b', c'⟩ := y
  cases h1; cases h2; cases h3; rfl
/-- Rows that rise and have the same are one row. -/
theorem riseE_perm : ∀ {l m : List Ent}, RiseE l → RiseE m → l.Perm m → l = m
  | [], m, _, _, h => (List.Perm.nil_eq h)
  | a :: l, [], _, _, h => by have := h.length_eq; simp at this
  | a :: l, b :: m, hl, hm, h => by
    obtain ⟨l1, l2⟩ := List.pairwise_cons.1 hl
    obtain ⟨m1, m2⟩ := List.pairwise_cons.1 hm
    have e : a = b := by
      rcases List.mem_cons.1 (h.mem_iff.1 List.mem_cons_self) with e | ha
      · exact e
      · rcases List.mem_cons.1 (h.mem_iff.2 List.mem_cons_self) with e | hb
        · exact e.symm
        · have x := ahead_iff.1 (m1 a ha)
          have y := ahead_iff.1 (l1 b hb)
          omega
    subst e
    rw [riseE_perm l2 m2 (List.Perm.cons_inv h)]
/-- Rows of codes that rise and have the same are one. -/
theorem rise_perm : ∀ {l m : Codes}, Rise l → Rise m → l.Perm m → l = m
  | [], m, _, _, h => (List.Perm.nil_eq h)
  | a :: l, [], _, _, h => by have := h.length_eq; simp at this
  | a :: l, b :: m, hl, hm, h => by
    obtain ⟨l1, l2⟩ := List.pairwise_cons.1 hl
    obtain ⟨m1, m2⟩ := List.pairwise_cons.1 hm
    have e : a = b := by
      rcases List.mem_cons.1 (h.mem_iff.1 List.mem_cons_self) with e | ha
      · exact e
      · rcases List.mem_cons.1 (h.mem_iff.2 List.mem_cons_self) with e | hb
        · exact e.symm
        · have x := m1 a ha
          have y := l1 b hb
          omega
    subst e
    rw [rise_perm l2 m2 (List.Perm.cons_inv h)]
theorem allTo_congr {T U : Tab} : ∀ {n : Nat}, (∀ i, i < n → (T i).codes = (U i).codes) → allTo T n = allTo U n
  | 0, _ => rfl
  | n + 1, h => by rw [allTo, allTo, allTo_congr (fun i hi => h i (by omega)), h n (by omega)]
theorem all_congr {T U : Tab} (h : ∀ i, i < 4 → (T i).codes = (U i).codes) : all T = all U := allTo_congr h

/-- Acts. -/
structure ActV where
  isAsk : Bool
  src : Int
  seq : Int
  low : Int
  code : Int
def noteA (T : Tab) (a : ActV) : Tab := note T a.src a.seq a.low a.code
/-- What is noted of a row of acts, of one source alone, if its number is not below 0. -/
def plays (T : Tab) (l : List ActV) (src : Int) : Tab := l.foldl (fun T a => if src < 0 ∨ a.src = src then noteA T a else T) T
theorem plays_ok {T : Tab} (h : T.Ok) (l : List ActV) (src : Int) : (plays T l src).Ok := by
  unfold plays
  induction l generalizing T with
  | nil => exact h
  | cons a l ih =>
    rw [List.foldl_cons]
    refine ih ?_
    split
    · exact note_ok h _ _ _ _
    · exact h
theorem plays_snoc (T : Tab) (l : List ActV) (a : ActV) (src : Int) : plays T (l ++ [a]) src = if src < 0 ∨ a.src = src then noteA (plays T l src) a else plays T l src := by
  unfold plays; rw [List.foldl_append]; rfl

/-- Sources don't see one another. -/
theorem ask_congr {T U : Tab} {src : Int} (h : T src.toNat = U src.toNat) (seq low : Int) : ask T src seq low = ask U src seq low := by unfold ask; rw [h]
theorem noteE_congr {T U : Tab} {src : Int} (h : T src.toNat = U src.toNat) (seq low code : Int) : noteE T src seq low code = noteE U src seq low code := by unfold noteE; rw [ask_congr h]
theorem noteE_bad {T : Tab} {src seq low code : Int} (h : ¬ (0 ≤ src ∧ src < 4)) : noteE T src seq low code = 1 := by
  have hm : may src seq low = false := by
    cases hx : may src seq low with
    | false => rfl
    | true => have := may_iff.1 hx; omega
  unfold noteE ask
  rw [hm]; simp
theorem note_other (T : Tab) (src seq low code : Int) {j : Nat} (h : (j : Int) ≠ src) : note T src seq low code j = T j := by
  unfold note
  split
  · rename_i e
    have := (may_iff.1 (noteE_zero.1 e).1)
    exact upd_other T _ (by omega)
  · rfl
theorem note_at {T U : Tab} {src : Int} (h : T src.toNat = U src.toNat) (seq low code : Int) : note T src seq low code src.toNat = note U src seq low code src.toNat := by
  unfold note
  rw [noteE_congr h]
  split
  · unfold noted; rw [upd_same, upd_same, h]
  · exact h
/-- Of two tables that go on alike, one with source 0 alone: source 0 is the same. -/
theorem plays_zero {T U : Tab} (h : T 0 = U 0) (l : List ActV) : plays T l (-1) 0 = plays U l 0 0 := by
  unfold plays
  induction l generalizing T U with
  | nil => exact h
  | cons a l ih =>
    rw [List.foldl_cons, List.foldl_cons]
    refine ih ?_
    rw [if_pos (.inl (by decide))]
    by_cases e : a.src = 0
    · rw [if_pos (.inr e)]
      unfold noteA
      rw [e]
      exact note_at (src := 0) h _ _ _
    · rw [if_neg (by omega)]
      unfold noteA
      rw [note_other _ _ _ _ _ (by show ((0 : Nat) : Int) ≠ _; omega)]
      exact h
/-- Items of two sources may be noted in either row. -/
theorem note_swap (T : Tab) {a b : ActV} (h : a.src ≠ b.src) :
    noteE (noteA T a) b.src b.seq b.low b.code = noteE T b.src b.seq b.low b.code ∧ noteA (noteA T a) b = noteA (noteA T b) a := by
  have far : ∀ {a b : ActV}, a.src ≠ b.src → noteE (noteA T a) b.src b.seq b.low b.code = noteE T b.src b.seq b.low b.code := fun {a b} h => by
    by_cases hb : 0 ≤ b.src ∧ b.src < 4
    · exact noteE_congr (note_other T _ _ _ _ (by omega)) _ _ _
    · rw [noteE_bad hb, noteE_bad hb]
  refine ⟨far h, ?_⟩
  have h1 := far h
  have h2 := far (Ne.symm h)
  unfold noteA at h1 h2 ⊢
  unfold note at h1 h2 ⊢
  rw [h1, h2]
  by_cases ea : noteE T a.src a.seq a.low a.code = 0
  · by_cases eb : noteE T b.src b.seq b.low b.code = 0
    · rw [if_pos ea, if_pos eb, if_pos eb, if_pos ea]
      have ma := may_iff.1 (noteE_zero.1 ea).1
      have mb := may_iff.1 (noteE_zero.1 eb).1
      have hne : a.src.toNat ≠ b.src.toNat := by omega
      unfold noted
      rw [upd_other T _ (Ne.symm hne), upd_other T _ hne, upd_swap T hne]
    · rw [if_pos ea, if_neg eb, if_neg eb, if_pos ea]
  · by_cases eb : noteE T b.src b.seq b.low b.code = 0
    · rw [if_neg ea, if_pos eb, if_neg ea]
    · rw [if_neg ea, if_neg eb, if_neg ea]
end Go.Proofs.YtigmhljaoicdbaaGreat.Sn

namespace Go.Proofs.YtigmhljaoicdbaaGreat.Sn
open Go.RowKit Go.Maps Go.WideShapes Go.ChangeMaps Go.MapKept

def kz (q : Int) : Lit := .int .i64 q
def dz (a : Int × Int) : Lit × DataW Unit := (kz a.1, .lit (.int .i64 a.2))
/-- A datum that is these codes. -/
def DIs (D : DataW Unit) (l : Codes) : Prop := ∃ E, D = .map E ∧ E.Perm (l.map dz)
theorem kz_inj {q q' : Int} (h : kz q = kz q') : q = q' := by unfold kz at h; simpa using h
theorem kz_key (q : Int) : WideAt.IsKeyLit (kz q) := trivial
theorem same_kz (q q' : Int) : (kz q).sameKey (kz q') = decide (q = q') := by simp [kz, Lit.sameKey]
theorem dis_apart {l : Codes} (h : Rise l) {E : List (Lit × DataW Unit)} (hE : E.Perm (l.map dz)) : E.Pairwise (fun p q => p.1 ≠ q.1) := by
  refine (hE.symm.pairwise_iff (fun {a b} (h : a.1 ≠ b.1) => h.symm)).1 ?_
  rw [List.pairwise_map]
  refine List.Pairwise.imp (R := fun a b : Int × Int => a.1 < b.1) (fun {a b} hab e => ?_) h
  have := kz_inj e
  omega
theorem dis_has {D : DataW Unit} {l : Codes} (h : DIs D l) (q : Int) : has D (kz q) = (look l q).isSome := by
  obtain ⟨E, rfl, hE⟩ := h
  rw [has_eq, hE.any_eq]
  clear hE
  induction l with
  | nil => rfl
  | cons a l ih =>
    rw [List.map_cons, List.any_cons, ih, look]
    have e : (dz a).1.sameKey (kz q) = decide (a.1 = q) := same_kz _ _
    rw [e]
    by_cases ha : a.1 = q <;> simp [ha]
theorem dis_some {D : DataW Unit} {l : Codes} (h : DIs D l) (hr : Rise l) {q c : Int} (hl : look l q = some c) (z : DataW Unit) : D.atKey (kz q) z = .lit (.int .i64 c) := by
  obtain ⟨E, rfl, hE⟩ := h
  have hp : (kz q, (.lit (.int .i64 c) : DataW Unit)) ∈ E := hE.mem_iff.2 (List.mem_map.2 ⟨_, look_some hl, rfl⟩)
  exact WideAt.atKey_mem z (kz_key q) (dis_apart hr hE) hp
theorem dis_none {D : DataW Unit} {l : Codes} (h : DIs D l) {q : Int} (hl : look l q = none) (z : DataW Unit) : D.atKey (kz q) z = z :=
  atKey_of_not_has (by rw [dis_has h, hl]; rfl) z
theorem dis_size {D : DataW Unit} {l : Codes} (h : DIs D l) : size D = l.length := by
  obtain ⟨E, rfl, hE⟩ := h
  rw [size_eq, hE.length_eq, List.length_map]
theorem dis_empty : DIs (.map [] : DataW Unit) [] := ⟨[], rfl, List.Perm.refl _⟩
theorem dis_del {D : DataW Unit} {l : Codes} (h : DIs D l) (q : Int) : DIs (D.del (kz q)) (l.filter (fun a => !decide (a.1 = q))) := by
  obtain ⟨E, rfl, hE⟩ := h
  refine ⟨E.filter (fun p => !p.1.sameKey (kz q)), rfl, (hE.filter _).trans ?_⟩
  rw [List.filter_map]
  refine List.Perm.of_eq (congrArg _ (List.filter_congr fun a ha => ?_))
  have e : (dz a).1.sameKey (kz q) = decide (a.1 = q) := same_kz _ _
  show (!(dz a).1.sameKey (kz q)) = _
  rw [e]
theorem dis_put {D : DataW Unit} {l : Codes} (h : DIs D l) (hr : Rise l) (q c : Int) : DIs (D.put (kz q) (.lit (.int .i64 c))) (ins q c l) := by
  obtain ⟨E, hD, hE⟩ := dis_del h q
  obtain ⟨E0, rfl, _⟩ := h
  have hE' : E0.filter (fun p => !p.1.sameKey (kz q)) = E := by
    have : (DataW.map E0).del (kz q) = .map (E0.filter fun p => !p.1.sameKey (kz q)) := rfl
    rw [this] at hD
    exact DataW.map.inj hD
  refine ⟨DataW.insert (kz q, .lit (.int .i64 c)) E, ?_, (WideShapes.insert_perm _ _).trans (((hE.cons _).trans (List.Perm.of_eq rfl)).trans ((ins_perm (c := c) hr).map dz).symm)⟩
  rw [← hE']; rfl
theorem dis_entry {D : DataW Unit} {l : Codes} (h : DIs D l) (hr : Rise l) {q : Int} {y : DataW Unit} (hat : ∀ z, D.atKey (kz q) z = y) : ∃ c, look l q = some c ∧ y = .lit (.int .i64 c) := by
  have hh := has_true_of_atKey hat
  rw [dis_has h] at hh
  obtain ⟨c, hc⟩ := Option.isSome_iff_exists.1 hh
  exact ⟨c, hc, (hat .nil).symm.trans (dis_some h hr hc .nil)⟩
theorem dis_keys {D : DataW Unit} {l : Codes} (h : DIs D l) : (intKeys D).Perm (l.map (·.1)) := by
  obtain ⟨E, rfl, hE⟩ := h
  refine (hE.map fun p => Go.intOf p.1).trans (List.Perm.of_eq ?_)
  rw [List.map_map]; rfl
/-- A map's keys, sorted, are its codes' numbers in their row. -/
theorem dis_sorted {D : DataW Unit} {l : Codes} (h : DIs D l) (hr : Rise l) {ss : List Int} (hs : ss.Perm (intKeys D)) : ss.mergeSort (fun x y => decide (x ≤ y)) = l.map (·.1) := by
  have hp : ss.Perm (l.map (·.1)) := hs.trans (dis_keys h)
  rw [mergeSort_of_perm_i hp]
  refine List.mergeSort_of_pairwise ?_
  rw [List.pairwise_map]
  refine List.Pairwise.imp (R := fun a b : Int × Int => a.1 < b.1) (fun {a b} hab => ?_) hr
  simp only [leI, decide_eq_true_eq]; omega

theorem wf_i64 {q : Int} (h : -9223372036854775808 ≤ q ∧ q ≤ 9223372036854775807) : (Lit.int .i64 q).wf = true := WalkArith.wf_i64 h
theorem key3 : Keyed Tryz.prog 3 := int_keyed Tryz.underlying3
theorem zero3 (w : World) : (zeroValue 3).run Tryz.prog w = .ok (.int .i64 0) w := by
  have h : (Tryz.prog.info? 3).map (fun i => (i.zero, i.size)) = some (some (.int .i64 0), 1) := by kernel_rfl
  obtain ⟨i, hi, he⟩ := Option.map_eq_some_iff.1 h
  simp only [Prod.mk.injEq] at he
  simp [zeroValue, typeInfo, hi, he.1]
/-- Block b is a map that has these codes. -/
def MIs (w : World) (b : Nat) (l : Codes) : Prop := ∃ D : DataW Unit, w.ownsMap Tryz.prog 3 (plainElem Tryz.prog 3) b l.length D ∧ DIs D l
theorem owns_n {w : World} {b n : Nat} {D : DataW Unit} (h : w.ownsMap Tryz.prog 3 (plainElem Tryz.prog 3) b n D) : w.ownsMap Tryz.prog 3 (plainElem Tryz.prog 3) b (size D) D := by
  obtain ⟨es, clock, hb, F, _, rfl⟩ := h
  exact ⟨es, clock, hb, F, by simp [size, length_sorted], rfl⟩
theorem MIs.of {w : World} {b n : Nat} {D : DataW Unit} {l : Codes} (h : w.ownsMap Tryz.prog 3 (plainElem Tryz.prog 3) b n D) (hD : DIs D l) : MIs w b l := ⟨D, by rw [← dis_size hD]; exact owns_n h, hD⟩
theorem MIs.lt {w : World} {b : Nat} {l : Codes} (h : MIs w b l) : b < w.heap.size := by obtain ⟨D, h, _⟩ := h; exact h.lt
theorem MIs.keep {w w' : World} {b : Nat} {l : Codes} (h : MIs w b l) (hb : w'.heap[b]? = w.heap[b]?) : MIs w' b l := by
  obtain ⟨D, ⟨es, clock, h1, h2⟩, hD⟩ := h
  exact ⟨D, ⟨es, clock, hb.trans h1, h2⟩, hD⟩
theorem MIs.made (w : World) : MIs (w.alloc (.map #[] 0)) w.heap.size [] := .of (World.ownsMap_made w Tryz.prog 3 (plainElem Tryz.prog 3)) dis_empty
/-- Two blocks of unlike kinds are two. -/
theorem MIs.not_cells {w : World} {b : Nat} {l : Codes} (h : MIs w b l) {o : Nat} {v : Value} (hc : w.cell? ⟨b, o, none⟩ = some v) : False := by
  obtain ⟨D, ⟨es, clock, h1, _⟩, _⟩ := h
  simp [World.cell?, h1] at hc
theorem key_of {q : Int} (hq : -9223372036854775808 ≤ q ∧ q ≤ 9223372036854775807) : keyOf Tryz.prog 3 (.int .i64 q) = some (kz q) := keyOf_int_mk Tryz.underlying3 (wf_i64 hq)
section
variable {w : World} {b : Nat} {l : Codes} {q : Int}
theorem MIs.get (h : MIs w b l) (hr : Rise l) (hq : -9223372036854775808 ≤ q ∧ q ≤ 9223372036854775807) :
    (Instr.lookup 79 (.map (some b)) (.int .i64 q) false).run Tryz.prog w = .ok (.int .i64 ((look l q).getD 0)) w := by
  obtain ⟨D, h, hD⟩ := h
  obtain ⟨c, hrun, hat, _⟩ := h.lookup_int key3 Tryz.underlying79 Tryz.underlying3 (zero3 w) (key_of hq)
  rw [hrun]
  cases hx : YtigmhljaoicdbaaGreat.Sn.look l q with
  | none =>
    rw [dis_none hD hx] at hat
    simp only [DataW.lit.injEq, Lit.int.injEq, true_and] at hat
    rw [← hat]; rfl
  | some d =>
    rw [dis_some hD hr hx] at hat
    simp only [DataW.lit.injEq, Lit.int.injEq, true_and] at hat
    rw [← hat]; rfl
theorem MIs.get_ok (h : MIs w b l) (hr : Rise l) (hq : -9223372036854775808 ≤ q ∧ q ≤ 9223372036854775807) :
    (Instr.lookup 79 (.map (some b)) (.int .i64 q) true).run Tryz.prog w = .ok (.tuple #[.int .i64 ((look l q).getD 0), .bool (look l q).isSome]) w := by
  obtain ⟨D, h, hD⟩ := h
  have hz : plainElem (H := Unit) Tryz.prog 3 (.int .i64 0) = some (.lit (.int .i64 0), []) := plainElem_int Tryz.underlying3 (by decide)
  obtain ⟨v, ps, hrun, hv⟩ := h.look_ok key3 Tryz.underlying79 (zero3 w) hz (key_of hq)
  rw [hrun, dis_has hD]
  obtain ⟨c, rfl, hc, _⟩ := plainElem_int_inv Tryz.underlying3 hv
  have hat := congrArg Prod.fst hc
  simp only at hat
  cases hx : YtigmhljaoicdbaaGreat.Sn.look l q with
  | none =>
    rw [dis_none hD hx] at hat
    simp only [DataW.lit.injEq, Lit.int.injEq, true_and] at hat
    rw [← hat]; rfl
  | some d =>
    rw [dis_some hD hr hx] at hat
    simp only [DataW.lit.injEq, Lit.int.injEq, true_and] at hat
    rw [← hat]; rfl
theorem MIs.put (h : MIs w b l) (hr : Rise l) (hn : l.length < 1000) (hq : -9223372036854775808 ≤ q ∧ q ≤ 9223372036854775807) {c : Int} (hc : -9223372036854775808 ≤ c ∧ c ≤ 9223372036854775807) :
    ∃ w', (Instr.mapUpdate 79 (.map (some b)) (.int .i64 q) (.int .i64 c)).run Tryz.prog w = .ok () w' ∧ MIs w' b (ins q c l) ∧ w.mapTurned w' b := by
  obtain ⟨D, h, hD⟩ := h
  obtain ⟨w', hrun, h', ht⟩ := h.store key3 Tryz.underlying79 (by unfold maxLen; omega) (key_of hq) (plainElem_int Tryz.underlying3 (wf_i64 hc))
  exact ⟨w', hrun, .of h' (dis_put hD hr q c), ht⟩
end
theorem look_nil51 {w : World} {q : Int} (hq : -9223372036854775808 ≤ q ∧ q ≤ 9223372036854775807) (c : Bool) :
    (Instr.lookup 79 (.map none) (.int .i64 q) c).run Tryz.prog w = .ok (if c then .tuple #[.int .i64 0, .bool false] else .int .i64 0) w := Maps.look_nil c key3 Tryz.underlying79 (zero3 w) (key_of hq)
theorem turned_moved {w w' : World} {b : Nat} (h : w.mapTurned w' b) : Moved (fun j => j = b) w w' := by
  obtain ⟨es, clock, es', clock', hb, rfl⟩ := h
  refine ⟨rfl, rfl, rfl, by simp [setBlock], fun i _ hi => ?_⟩
  show (w.heap.setIfInBounds b _)[i]? = w.heap[i]?
  rw [Array.getElem?_setIfInBounds_ne (fun e => hi e.symm)]

/-- A map that may be nil. -/
def MO (w : World) (m : Option Nat) (l : Codes) : Prop := (m = none ∧ l = []) ∨ ∃ b, m = some b ∧ MIs w b l
theorem MO.get {w : World} {m : Option Nat} {l : Codes} {q : Int} (h : MO w m l) (hr : Rise l) (hq : -9223372036854775808 ≤ q ∧ q ≤ 9223372036854775807) :
    (Instr.lookup 79 (.map m) (.int .i64 q) false).run Tryz.prog w = .ok (.int .i64 ((look l q).getD 0)) w := by
  rcases h with ⟨rfl, rfl⟩ | ⟨b, rfl, h⟩
  · exact look_nil51 hq false
  · exact h.get hr hq
theorem MO.get_ok {w : World} {m : Option Nat} {l : Codes} {q : Int} (h : MO w m l) (hr : Rise l) (hq : -9223372036854775808 ≤ q ∧ q ≤ 9223372036854775807) :
    (Instr.lookup 79 (.map m) (.int .i64 q) true).run Tryz.prog w = .ok (.tuple #[.int .i64 ((look l q).getD 0), .bool (look l q).isSome]) w := by
  rcases h with ⟨rfl, rfl⟩ | ⟨b, rfl, h⟩
  · exact look_nil51 hq true
  · exact h.get_ok hr hq
theorem MO.keep {w w' : World} {m : Option Nat} {l : Codes} (h : MO w m l) (hb : ∀ b, m = some b → w'.heap[b]? = w.heap[b]?) : MO w' m l := by
  rcases h with h | ⟨b, e, h⟩
  · exact .inl h
  · exact .inr ⟨b, e, h.keep (hb b e)⟩
theorem MO.lt {w : World} {m : Option Nat} {l : Codes} (h : MO w m l) : ∀ b, m = some b → b < w.heap.size := fun b e => by
  rcases h with ⟨h, _⟩ | ⟨b', e', h⟩
  · rw [h] at e; cases e
  · rw [e'] at e; cases e; exact h.lt
end Go.Proofs.YtigmhljaoicdbaaGreat.Sn

namespace Go.Proofs.YtigmhljaoicdbaaGreat.Sn
open Go.RowKit

/-- A world of which St holds. -/
structure SX (St : World → Prop) where
  w : World
  ok : St w
theorem wp_region_sx {P : Program} {St : World → Prop} {id : Nat} {Q : Exit → Act → World → Prop} {a : Act} {w : World} {l : List Oper} (hm : P.follows .mixedOrders = true) (hB : Region.lexB .any l.toArray = true) (hS : St w.drew)
    (h : wpQuiet P l.toArray (fun w' => ∃ p : SX St, w' = p.w) (fun a' => ∀ w', (∃ p : SX St, w' = p.w) → Q .normal a' w') l a) : (Code.region id l.toArray true).wp P Q a w :=
  wp_region_quiet (C := fun w' => ∃ p : SX St, w' = p.w) hm hB ⟨⟨_, hS⟩, rfl⟩ (by simpa using h)

theorem source_any (n : Int) (w : World) : Calls Tryz.prog 77 #[.int .i64 n] w fun e w' => e = .returned (.bool (isSrc n)) ∧ w' = w := by
  by_cases h1 : (0 : Int) ≤ n
  · by_cases h2 : n < 4
    · have hd : Hid (isSrc n = true) := hide (decide_eq_true ⟨h1, h2⟩)
      go_enter Tryz.func77, Tryz.ntmps77
      go_wp2
      go_ret
      exact ⟨by rw [unhide hd]; rfl, rfl⟩
    · have hd : Hid (isSrc n = false) := hide (decide_eq_false fun h => h2 h.2)
      go_enter Tryz.func77, Tryz.ntmps77
      go_wp2
      go_ret
      exact ⟨by rw [unhide hd]; rfl, rfl⟩
  · have hd : Hid (isSrc n = false) := hide (decide_eq_false fun h => h1 h.1)
    go_enter Tryz.func77, Tryz.ntmps77
    go_wp2
    go_ret
    exact ⟨by rw [unhide hd]; rfl, rfl⟩
theorem code_any (c : Int) (w : World) : Calls Tryz.prog 56 #[.int .i64 c] w fun e w' => e = .returned (.bool (isCode c)) ∧ w' = w := by
  by_cases h1 : (1 : Int) ≤ c
  · by_cases h2 : c ≤ 4
    · have hd : Hid (isCode c = true) := hide (decide_eq_true ⟨h1, h2⟩)
      go_enter Tryz.func56, Tryz.ntmps56
      go_wp2
      go_ret
      exact ⟨by rw [unhide hd]; rfl, rfl⟩
    · have hd : Hid (isCode c = false) := hide (decide_eq_false fun h => h2 h.2)
      go_enter Tryz.func56, Tryz.ntmps56
      go_wp2
      go_ret
      exact ⟨by rw [unhide hd]; rfl, rfl⟩
  · have hd : Hid (isCode c = false) := hide (decide_eq_false fun h => h1 h.1)
    go_enter Tryz.func56, Tryz.ntmps56
    go_wp2
    go_ret
    exact ⟨by rw [unhide hd]; rfl, rfl⟩
theorem may_any (src seq low : Int) (w : World) : Calls Tryz.prog 52 #[.int .i64 src, .int .i64 seq, .int .i64 low] w fun e w' => e = .returned (.bool (may src seq low)) ∧ w' = w := by
  have fin : ∀ {b : Bool}, (may src seq low = true ↔ b = true) → Hid (may src seq low = b) := fun {b} h => hide (Bool.eq_iff_iff.2 h)
  by_cases h0 : 0 ≤ src ∧ src < 4
  · have d0 : isSrc src = true := decide_eq_true h0
    by_cases h1 : 1 ≤ low
    · by_cases h2 : low ≤ seq
      · by_cases h3 : seq ≤ 1099511627776
        · have hw : IntKind.i64.wrap (low + 16) = low + 16 := Go.IntWalk.i64_in _ (by omega)
          by_cases h4 : seq < low + 16
          · have hd := fin (b := true) (by rw [may_iff]; simp; omega)
            clear fin h0
            go_enter Tryz.func52, Tryz.ntmps52
            go_wp2_with fail
            refine (source_any _ _).mono ?_
            rintro e w' ⟨rfl, hw'⟩
            rw [hw', d0]
            go_wp2_with fail
            go_ret
            exact ⟨by rw [unhide hd]; rfl, rfl⟩
          · have hd := fin (b := false) (by rw [may_iff]; simp; omega)
            have g4 : decide (seq < low + 16) = false := decide_eq_false h4
            clear fin h0
            go_enter Tryz.func52, Tryz.ntmps52
            go_wp2_with fail
            refine (source_any _ _).mono ?_
            rintro e w' ⟨rfl, hw'⟩
            rw [hw', d0]
            go_wp2_with fail
            go_ret
            exact ⟨by rw [unhide hd]; rfl, rfl⟩
        · have hd := fin (b := false) (by rw [may_iff]; simp; omega)
          clear fin h0
          go_enter Tryz.func52, Tryz.ntmps52
          go_wp2_with fail
          refine (source_any _ _).mono ?_
          rintro e w' ⟨rfl, hw'⟩
          rw [hw', d0]
          go_wp2_with fail
          go_ret
          exact ⟨by rw [unhide hd]; rfl, rfl⟩
      · have hd := fin (b := false) (by rw [may_iff]; simp; omega)
        clear fin h0
        go_enter Tryz.func52, Tryz.ntmps52
        go_wp2_with fail
        refine (source_any _ _).mono ?_
        rintro e w' ⟨rfl, hw'⟩
        rw [hw', d0]
        go_wp2_with fail
        go_ret
        exact ⟨by rw [unhide hd]; rfl, rfl⟩
    · have hd := fin (b := false) (by rw [may_iff]; simp; omega)
      clear fin h0
      go_enter Tryz.func52, Tryz.ntmps52
      go_wp2_with fail
      refine (source_any _ _).mono ?_
      rintro e w' ⟨rfl, hw'⟩
      rw [hw', d0]
      go_wp2_with fail
      go_ret
      exact ⟨by rw [unhide hd]; rfl, rfl⟩
  · have d0 : isSrc src = false := decide_eq_false h0
    have hd := fin (b := false) (by rw [may_iff]; simp; omega)
    clear fin h0
    go_enter Tryz.func52, Tryz.ntmps52
    go_wp2_with fail
    refine (source_any _ _).mono ?_
    rintro e w' ⟨rfl, hw'⟩
    rw [hw', d0]
    go_wp2_with fail
    go_ret
    exact ⟨by rw [unhide hd]; rfl, rfl⟩

/-- A source at cell o of block B. -/
structure SrcAt (w : World) (B o : Nat) (m : Option Nat) (s : Src) : Prop where
  c0 : w.cell? ⟨B, o, none⟩ = some (.int .i64 (s.low - 1))
  c1 : w.cell? ⟨B, o + 1, none⟩ = some (.map m)
  f0 : w.frozen? ⟨B, o, none⟩ = false
  f1 : w.frozen? ⟨B, o + 1, none⟩ = false
  mo : MO w m s.codes
  fine : s.Fine
theorem SrcAt.lt {w : World} {B o : Nat} {m : Option Nat} {s : Src} (h : SrcAt w B o m s) : B < w.heap.size := World.block_lt_of_cell? _ _ h.c0
theorem SrcAt.ne {w : World} {B o : Nat} {m : Option Nat} {s : Src} (h : SrcAt w B o m s) : m ≠ some B := fun e => by
  rcases h.mo with ⟨h0, _⟩ | ⟨b, h0, hm⟩
  · rw [h0] at e; cases e
  · rw [h0] at e; cases e; exact hm.not_cells h.c0
theorem SrcAt.keep {G : Nat → Prop} {w w' : World} {B o : Nat} {m : Option Nat} {s : Src} (h : SrcAt w B o m s) (k : Moved G w w') (hB : ¬ G B) (hm : ∀ b, m = some b → ¬ G b) : SrcAt w' B o m s :=
  ⟨(k.cell (p := ⟨B, o, none⟩) h.lt hB).trans h.c0, (k.cell (p := ⟨B, o + 1, none⟩) h.lt hB).trans h.c1, (k.frozen (p := ⟨B, o, none⟩) h.lt hB).trans h.f0, (k.frozen (p := ⟨B, o + 1, none⟩) h.lt hB).trans h.f1, h.mo.keep fun b e => k.block b (h.mo.lt b e) (hm b e), h.fine⟩
theorem low_any {w : World} {B o : Nat} {v : Int} (h : w.cell? ⟨B, o, none⟩ = some (.int .i64 v)) (hv : IntKind.i64.wrap (v + 1) = v + 1) :
    Calls Tryz.prog 72 #[.pointer (some ⟨B, o, none⟩)] w fun e w' => e = .returned (.int .i64 (v + 1)) ∧ w' = w := by
  go_enter Tryz.func72, Tryz.ntmps72
  go_wp2
  go_ret
  exact ⟨rfl, rfl⟩
theorem SrcAt.low {w : World} {B o : Nat} {m : Option Nat} {s : Src} (h : SrcAt w B o m s) : Calls Tryz.prog 72 #[.pointer (some ⟨B, o, none⟩)] w fun e w' => e = .returned (.int .i64 s.low) ∧ w' = w := by
  have h1 := h.fine.lo
  have h2 := h.fine.hi
  have e : s.low - 1 + 1 = s.low := by omega
  have := low_any h.c0 (Go.IntWalk.i64_in _ (by omega))
  rw [e] at this
  exact this
set_option maxRecDepth 100000 in
theorem ask_any {w : World} {B o : Nat} {m : Option Nat} {s : Src} (h : SrcAt w B o m s) {q : Int} (hq : -9223372036854775808 ≤ q ∧ q ≤ 9223372036854775807) :
    Calls Tryz.prog 53 #[.pointer (some ⟨B, o, none⟩), .int .i64 q] w fun e w' => e = .returned (.tuple #[.int .i64 (s.ask q).1, .int .i64 (s.ask q).2]) ∧ w' = w := by
  have hl := h.low
  have hk := h.mo.get_ok h.fine.rise hq
  have c1 := h.c1
  clear h
  by_cases h1 : q < s.low
  · have hd : Hid (s.ask q = (1, 0)) := hide (by unfold Src.ask; rw [if_pos h1])
    go_enter Tryz.func53, Tryz.ntmps53
    go_wp2_with fail
    refine hl.mono ?_
    rintro e w' ⟨rfl, hw'⟩
    rw [hw']
    go_wp2_with fail
    go_ret2
    exact ⟨by rw [unhide hd]; rfl, rfl⟩
  · cases hx : look s.codes q with
    | none =>
      have hd : Hid (s.ask q = (3, 0)) := hide (by unfold Src.ask; rw [if_neg h1, hx])
      rw [hx] at hk
      simp only [Option.getD_none, Option.isSome_none] at hk
      clear hx
      go_enter Tryz.func53, Tryz.ntmps53
      go_wp2_with fail
      refine hl.mono ?_
      rintro e w' ⟨rfl, hw'⟩
      rw [hw']
      go_wp2_with fail
      go_ret2
      exact ⟨by rw [unhide hd]; rfl, rfl⟩
    | some c =>
      have hd : Hid (s.ask q = (2, c)) := hide (by unfold Src.ask; rw [if_neg h1, hx])
      rw [hx] at hk
      simp only [Option.getD_some, Option.isSome_some] at hk
      clear hx
      go_enter Tryz.func53, Tryz.ntmps53
      go_wp2_with fail
      refine hl.mono ?_
      rintro e w' ⟨rfl, hw'⟩
      rw [hw']
      go_wp2_with fail
      go_ret2
      exact ⟨by rw [unhide hd]; rfl, rfl⟩
end Go.Proofs.YtigmhljaoicdbaaGreat.Sn

namespace Go.Proofs.YtigmhljaoicdbaaGreat.Sn
open Go.Shelf
def sortL_ren : Go.Shelf.Ren := ⟨fun | 5 => 100 | 8 => 113 | 7 => 117 | 19 => 130 | 20 => 131 | 10 => 132 | 11 => 133 | 12 => 134 | 13 => 135 | 14 => 136 | 15 => 137 | 16 => 138 | 17 => 139 | 18 => 140 | 30 => 149 | 31 => 145 | 32 => 146 | 33 => 150 | 34 => 151 | 35 => 111 | 40 => 153 | n => n, fun | 23 => 47 | 25 => 3 | 3 => 3 | 32 => 168 | 22 => 47 | 0 => 0 | 44 => 181 | 46 => 183 | 4 => 4 | 36 => 175 | 35 => 174 | 41 => 139 | 5 => 5 | 9 => 9 | 53 => 194 | 57 => 198 | 63 => 202 | 64 => 75 | n => n, fun | n => n⟩
theorem sortL : Go.Proofs.SlLaysM.n5 Tryz.prog sortL_ren := {
  mixed := by kernel_rfl
  f5 := ⟨Tryz.f100.name, by decide, Tryz.func100.trans (congrArg some (by kernel_rfl))⟩
  f7 := ⟨Tryz.f117.name, by decide, Tryz.func117.trans (congrArg some (by kernel_rfl))⟩
  f8 := Tryz.func113.trans (congrArg some (by kernel_rfl))
  f10 := ⟨Tryz.f132.name, by decide, Tryz.func132.trans (congrArg some (by kernel_rfl))⟩
  f11 := ⟨Tryz.f133.name, by decide, Tryz.func133.trans (congrArg some (by kernel_rfl))⟩
  f12 := ⟨Tryz.f134.name, by decide, Tryz.func134.trans (congrArg some (by kernel_rfl))⟩
  f13 := ⟨Tryz.f135.name, by decide, Tryz.func135.trans (congrArg some (by kernel_rfl))⟩
  f14 := ⟨Tryz.f136.name, by decide, Tryz.func136.trans (congrArg some (by kernel_rfl))⟩
  f15 := ⟨Tryz.f137.name, by decide, Tryz.func137.trans (congrArg some (by kernel_rfl))⟩
  f16 := ⟨Tryz.f138.name, by decide, Tryz.func138.trans (congrArg some (by kernel_rfl))⟩
  f17 := ⟨Tryz.f139.name, by decide, Tryz.func139.trans (congrArg some (by kernel_rfl))⟩
  f18 := ⟨Tryz.f140.name, by decide, Tryz.func140.trans (congrArg some (by kernel_rfl))⟩
  f19 := Tryz.func130.trans (congrArg some (by kernel_rfl))
  f20 := Tryz.func131.trans (congrArg some (by kernel_rfl))
  f30 := ⟨Tryz.f149.name, by decide, Tryz.func149.trans (congrArg some (by kernel_rfl))⟩
  f31 := Tryz.func145.trans (congrArg some (by kernel_rfl))
  f32 := Tryz.func146.trans (congrArg some (by kernel_rfl))
  f33 := ⟨Tryz.f150.name, by decide, Tryz.func150.trans (congrArg some (by kernel_rfl))⟩
  f34 := ⟨Tryz.f151.name, by decide, Tryz.func151.trans (congrArg some (by kernel_rfl))⟩
  f35 := ⟨Tryz.f111.name, by decide, Tryz.func111.trans (congrArg some (by kernel_rfl))⟩
  f40 := ⟨Tryz.f153.name, by decide, Tryz.func153.trans (congrArg some (by kernel_rfl))⟩
  t0 := Tryz.underlying0
  a0 := Tryz.isAgg0
  z0 := Tryz.sizeOf0
  v0 := Tryz.zeroValue0
  t3 := Tryz.underlying3
  a3 := Tryz.isAgg3
  z3 := Tryz.sizeOf3
  v3 := Tryz.zeroValue3
  t4 := Tryz.underlying4
  a4 := Tryz.isAgg4
  z4 := Tryz.sizeOf4
  v4 := Tryz.zeroValue4
  t5 := Tryz.underlying5
  a5 := Tryz.isAgg5
  z5 := Tryz.sizeOf5
  v5 := Tryz.zeroValue5
  t9 := Tryz.underlying9
  a9 := Tryz.isAgg9
  z9 := Tryz.sizeOf9
  v9 := Tryz.zeroValue9
  t22 := Tryz.underlying47
  a22 := Tryz.isAgg47
  z22 := Tryz.sizeOf47
  v22 := Tryz.zeroValue47
  t23 := Tryz.underlying47
  a23 := Tryz.isAgg47
  z23 := Tryz.sizeOf47
  v23 := Tryz.zeroValue47
  t25 := Tryz.underlying3
  a25 := Tryz.isAgg3
  z25 := Tryz.sizeOf3
  v25 := Tryz.zeroValue3
  t32 := Tryz.underlying168
  a32 := Tryz.isAgg168
  z32 := Tryz.sizeOf168
  v32 := Tryz.zeroValue168
  t35 := Tryz.underlying174
  a35 := Tryz.isAgg174
  z35 := Tryz.sizeOf174
  v35 := Tryz.zeroValue174
  t36 := Tryz.underlying175
  a36 := Tryz.isAgg175
  z36 := Tryz.sizeOf175
  v36 := Tryz.zeroValue175
  t41 := Tryz.underlying139
  a41 := Tryz.isAgg139
  z41 := Tryz.sizeOf139
  v41 := Tryz.zeroValue139
  t44 := Tryz.underlying181
  a44 := Tryz.isAgg181
  z44 := Tryz.sizeOf181
  v44 := Tryz.zeroValue181
  t46 := Tryz.underlying183
  a46 := Tryz.isAgg183
  z46 := Tryz.sizeOf183
  v46 := Tryz.zeroValue183
  t53 := Tryz.underlying194
  a53 := Tryz.isAgg194
  z53 := Tryz.sizeOf194
  v53 := Tryz.zeroValue194
  t57 := Tryz.underlying198
  a57 := Tryz.isAgg198
  z57 := Tryz.sizeOf198
  v57 := Tryz.zeroValue198
  t63 := Tryz.underlying202
  a63 := Tryz.isAgg202
  z63 := Tryz.sizeOf202
  v63 := Tryz.zeroValue202
  t64 := Tryz.underlying75
  a64 := Tryz.isAgg75
  z64 := Tryz.sizeOf75
  v64 := Tryz.zeroValue75 }
def keysL_ren : Go.Shelf.Ren := ⟨fun | 7 => 74 | 10 => 101 | n => n, fun | 23 => 79 | 26 => 3 | 3 => 3 | 28 => 132 | 0 => 0 | 27 => 131 | 33 => 115 | 4 => 4 | n => n, fun | n => n⟩
theorem keysL : Go.Proofs.SlLaysZI.n7 Tryz.prog keysL_ren := {
  mixed := by kernel_rfl
  f7 := ⟨Tryz.f74.name, by decide, Tryz.func74.trans (congrArg some (by kernel_rfl))⟩
  f10 := ⟨Tryz.f101.name, by decide, Tryz.func101.trans (congrArg some (by kernel_rfl))⟩
  t0 := Tryz.underlying0
  a0 := Tryz.isAgg0
  z0 := Tryz.sizeOf0
  v0 := Tryz.zeroValue0
  t4 := Tryz.underlying4
  a4 := Tryz.isAgg4
  z4 := Tryz.sizeOf4
  v4 := Tryz.zeroValue4
  t23 := Tryz.underlying79
  a23 := Tryz.isAgg79
  z23 := Tryz.sizeOf79
  v23 := Tryz.zeroValue79
  t26 := Tryz.underlying3
  a26 := Tryz.isAgg3
  z26 := Tryz.sizeOf3
  v26 := Tryz.zeroValue3
  t27 := Tryz.underlying131
  a27 := Tryz.isAgg131
  z27 := Tryz.sizeOf131
  v27 := Tryz.zeroValue131
  t28 := Tryz.underlying132
  a28 := Tryz.isAgg132
  z28 := Tryz.sizeOf132
  v28 := Tryz.zeroValue132
  t33 := Tryz.underlying115
  a33 := Tryz.isAgg115
  z33 := Tryz.sizeOf115
  v33 := Tryz.zeroValue115 }
def sortedL_ren : Go.Shelf.Ren := ⟨fun | 6 => 73 | 8 => 99 | 9 => 100 | 11 => 116 | 13 => 113 | 12 => 117 | 23 => 130 | 24 => 131 | 14 => 132 | 15 => 133 | 16 => 134 | 17 => 135 | 18 => 136 | 19 => 137 | 20 => 138 | 21 => 139 | 22 => 140 | 25 => 149 | 26 => 145 | 27 => 146 | 28 => 150 | 29 => 151 | 30 => 111 | 31 => 153 | n => n, fun | 26 => 3 | 28 => 132 | 24 => 47 | 0 => 0 | 3 => 3 | 37 => 168 | 48 => 181 | 50 => 183 | 4 => 4 | 40 => 175 | 39 => 174 | 45 => 139 | 5 => 5 | 9 => 9 | 51 => 194 | 55 => 198 | 57 => 202 | 58 => 75 | 33 => 115 | n => n, fun | n => n⟩
theorem sortedL : Go.Proofs.SlLaysZI.n6 Tryz.prog sortedL_ren := {
  mixed := by kernel_rfl
  f6 := ⟨Tryz.f73.name, by decide, Tryz.func73.trans (congrArg some (by kernel_rfl))⟩
  f8 := ⟨Tryz.f99.name, by decide, Tryz.func99.trans (congrArg some (by kernel_rfl))⟩
  f11 := ⟨Tryz.f116.name, by decide, Tryz.func116.trans (congrArg some (by kernel_rfl))⟩
  t0 := Tryz.underlying0
  a0 := Tryz.isAgg0
  z0 := Tryz.sizeOf0
  v0 := Tryz.zeroValue0
  t24 := Tryz.underlying47
  a24 := Tryz.isAgg47
  z24 := Tryz.sizeOf47
  v24 := Tryz.zeroValue47
  t26 := Tryz.underlying3
  a26 := Tryz.isAgg3
  z26 := Tryz.sizeOf3
  v26 := Tryz.zeroValue3
  t28 := Tryz.underlying132
  a28 := Tryz.isAgg132
  z28 := Tryz.sizeOf132
  v28 := Tryz.zeroValue132
  i26 := by kernel_rfl }
def cloneL_ren : Go.Shelf.Ren := ⟨fun | 5 => 76 | 7 => 103 | n => n, fun | 23 => 79 | 25 => 3 | 3 => 3 | 4 => 4 | 20 => 20 | n => n, fun | n => n⟩
theorem cloneL : Go.Proofs.SlLaysW.n5 Tryz.prog cloneL_ren := {
  mixed := by kernel_rfl
  f5 := ⟨Tryz.f76.name, by decide, Tryz.func76.trans (congrArg some (by kernel_rfl))⟩
  f7 := Tryz.func103.trans (congrArg some (by kernel_rfl))
  t4 := Tryz.underlying4
  a4 := Tryz.isAgg4
  z4 := Tryz.sizeOf4
  v4 := Tryz.zeroValue4
  t20 := Tryz.underlying20
  a20 := Tryz.isAgg20
  z20 := Tryz.sizeOf20
  v20 := Tryz.zeroValue20
  t23 := Tryz.underlying79
  a23 := Tryz.isAgg79
  z23 := Tryz.sizeOf79
  v23 := Tryz.zeroValue79 }
end Go.Proofs.YtigmhljaoicdbaaGreat.Sn

namespace Go.Proofs.YtigmhljaoicdbaaGreat.Sn
open Go.RowKit Go.Maps

/-- Of block B nothing has turned but the two cells from o on. -/
def Others (w w' : World) (B o : Nat) : Prop := ∀ i, i ≠ o → i ≠ o + 1 → w'.cell? ⟨B, i, none⟩ = w.cell? ⟨B, i, none⟩ ∧ w'.frozen? ⟨B, i, none⟩ = w.frozen? ⟨B, i, none⟩
theorem Others.refl (w : World) (B o : Nat) : Others w w B o := fun _ _ _ => ⟨rfl, rfl⟩
theorem eqmap (m : Option Nat) (w : World) : (binOp .eql 79 (.map m) (.map none)).run Tryz.prog w = .ok (.bool m.isNone) w := run_eql_map_nil_sl w 79 3 3 m Tryz.underlying79
theorem Others.trans {a b c : World} {B o : Nat} (h : Others a b B o) (k : Others b c B o) : Others a c B o := fun i h1 h2 => ⟨(k i h1 h2).1.trans (h i h1 h2).1, (k i h1 h2).2.trans (h i h1 h2).2⟩
theorem Others.of_block {w w' : World} {B o : Nat} (h : w'.heap[B]? = w.heap[B]?) : Others w w' B o := fun _ _ _ => ⟨World.cell?_of_block (w := w) h, World.frozen?_of_block (w := w) h⟩
theorem Others.setCell {w : World} {B o j : Nat} (hj : j = o ∨ j = o + 1) (u : Value) : Others w (w.setCell ⟨B, j, none⟩ u) B o := fun i h1 h2 =>
  ⟨by rw [World.cell?_setCell_other (h := fun e => by have := congrArg Addr.off e; simp only at this; omega)], by rw [World.frozen?_setCell]⟩
/-- What a step of a source may turn. -/
def SFoot (B : Nat) (m : Option Nat) (k : Nat) : Prop := k = B ∨ m = some k
/-- A step of a source. -/
structure SDid (w w' : World) (B o : Nat) (m : Option Nat) (s' : Src) (m' : Option Nat) : Prop where
  at_ : SrcAt w' B o m' s'
  new_ : ∀ b, m' = some b → m = some b ∨ w.heap.size ≤ b
  moved : Moved (SFoot B m) w w'
  others : Others w w' B o
theorem MO.made (w : World) : MO (w.alloc (.map #[] 0)) (some w.heap.size) [] := .inr ⟨_, rfl, MIs.made w⟩
set_option maxRecDepth 100000 in
set_option maxHeartbeats 1000000 in
theorem keep_some {w : World} {B o b : Nat} {s : Src} (h : SrcAt w B o (some b) s) {q c : Int} (hq : 1 ≤ q ∧ q ≤ 1099511627800) (hc : 1 ≤ c ∧ c ≤ 4) (hl : s.codes.length < 100) :
    Calls Tryz.prog 57 #[.pointer (some ⟨B, o, none⟩), .int .i64 q, .int .i64 c] w fun e w' => e = .returned (.tuple #[]) ∧ SDid w w' B o (some b) (s.keep q c) (some b) := by
  have hm : MIs w b s.codes := by
    rcases h.mo with ⟨h0, _⟩ | ⟨b', h0, hm⟩
    · cases h0
    · cases h0; exact hm
  obtain ⟨w', hrun, hM, hT⟩ := hm.put h.fine.rise (by omega) (q := q) (by omega) (c := c) (by omega)
  have hne : b ≠ B := fun e => h.ne (by rw [e])
  have mv := turned_moved hT
  have c1 := h.c1
  have hne0 := fun W => eqmap (some b) W
  have FIN : Hid (SDid w w' B o (some b) (s.keep q c) (some b)) := hide
    ⟨⟨(mv.cell (p := ⟨B, o, none⟩) h.lt (Ne.symm hne)).trans h.c0, (mv.cell (p := ⟨B, o + 1, none⟩) h.lt (Ne.symm hne)).trans h.c1, (mv.frozen (p := ⟨B, o, none⟩) h.lt (Ne.symm hne)).trans h.f0, (mv.frozen (p := ⟨B, o + 1, none⟩) h.lt (Ne.symm hne)).trans h.f1, .inr ⟨b, rfl, hM⟩, h.fine.keep hq hc hl⟩,
      fun b' e => .inl e, mv.mono fun k e => .inl (.inr (by rw [e])), Others.of_block (mv.block B h.lt (Ne.symm hne))⟩
  clear h hm hM hT mv hne
  go_enter Tryz.func57, Tryz.ntmps57
  go_wp2_with fail
  go_end0
  exact ⟨rfl, unhide FIN⟩
set_option maxRecDepth 100000 in
set_option maxHeartbeats 1000000 in
theorem keep_none {w : World} {B o : Nat} {s : Src} (h : SrcAt w B o none s) {q c : Int} (hq : 1 ≤ q ∧ q ≤ 1099511627800) (hc : 1 ≤ c ∧ c ≤ 4) :
    Calls Tryz.prog 57 #[.pointer (some ⟨B, o, none⟩), .int .i64 q, .int .i64 c] w fun e w' => e = .returned (.tuple #[]) ∧ SDid w w' B o none (s.keep q c) (some w.heap.size) := by
  have h0 : s.codes = [] := by
    rcases h.mo with ⟨_, h0⟩ | ⟨b', h0, _⟩
    · exact h0
    · cases h0
  have hmm := @run_makeMap Tryz.prog
  obtain ⟨b, hb⟩ : ∃ b, b = w.heap.size := ⟨_, rfl⟩
  obtain ⟨W, hW⟩ : ∃ W, W = (w.alloc (.map #[] 0)).setCell ⟨B, o + 1, none⟩ (.map (some b)) := ⟨_, rfl⟩
  have hlt := h.lt
  have hne : b ≠ B := by omega
  have m1 : Moved (SFoot B none) w (w.alloc (.map #[] 0)) := (Moved.refl _ _).alloc _
  have m2 : Moved (SFoot B none) w W := by rw [hW]; exact m1.setCell (.inl (.inl rfl)) _
  have k0 : ∀ i, (w.alloc (.map #[] 0)).cell? ⟨B, i, none⟩ = w.cell? ⟨B, i, none⟩ := fun i => ((Below.refl _ w).alloc (Nat.le_refl _) _).cell (p := ⟨B, i, none⟩) hlt
  have k1 : ∀ i, (w.alloc (.map #[] 0)).frozen? ⟨B, i, none⟩ = w.frozen? ⟨B, i, none⟩ := fun i => World.frozen?_of_block (Below.heap_alloc w _ B hlt)
  have o2 : Others w W B o := by
    rw [hW]
    exact Others.trans (fun i _ _ => ⟨k0 i, k1 i⟩) (Others.setCell (.inr rfl) _)
  have g0 : W.cell? ⟨B, o, none⟩ = some (.int .i64 (s.low - 1)) := by
    rw [hW, World.cell?_setCell_other (h := fun e => by have := congrArg Addr.off e; simp only at this; omega), k0]; exact h.c0
  have g1 : W.cell? ⟨B, o + 1, none⟩ = some (.map (some b)) := by
    rw [hW, World.cell?_setCell_same (h := (k0 (o + 1)).trans h.c1)]
  have g2 : W.frozen? ⟨B, o, none⟩ = false := by rw [hW, World.frozen?_setCell, k1]; exact h.f0
  have g3 : W.frozen? ⟨B, o + 1, none⟩ = false := by rw [hW, World.frozen?_setCell, k1]; exact h.f1
  have hm : MIs W b [] := by
    rw [hW, hb]
    exact (MIs.made w).keep (Below.heap_setCell _ ⟨B, o + 1, none⟩ _ _ (by show _ ≠ B; omega))
  obtain ⟨w', hrun, hM, hT⟩ := hm.put List.Pairwise.nil (by decide) (q := q) (by omega) (c := c) (by omega)
  have mv := turned_moved hT
  have hlW : B < W.heap.size := Nat.lt_of_lt_of_le hlt m2.size
  have FIN : Hid (SDid w w' B o none (s.keep q c) (some w.heap.size)) := hide
    ⟨⟨(mv.cell (p := ⟨B, o, none⟩) hlW (Ne.symm hne)).trans g0, (mv.cell (p := ⟨B, o + 1, none⟩) hlW (Ne.symm hne)).trans (by rw [g1, hb]), (mv.frozen (p := ⟨B, o, none⟩) hlW (Ne.symm hne)).trans g2, (mv.frozen (p := ⟨B, o + 1, none⟩) hlW (Ne.symm hne)).trans g3, .inr ⟨_, rfl, by rw [← hb]; unfold Src.keep; rw [h0]; exact hM⟩, h.fine.keep hq hc (by rw [h0]; decide)⟩,
      fun b' e => .inr (by cases e; exact Nat.le_refl _), m2.trans mv fun k e => .inr (by omega), o2.trans (Others.of_block (mv.block B hlW (Ne.symm hne)))⟩
  have c1 := h.c1
  have f1 := h.f1
  have hne0 := fun W => eqmap none W
  have HW := hide hW
  have HB := hide hb
  clear h hM hT mv hne m1 m2 o2 g0 g2 g3 hm hlW hW hb k0 k1 h0
  go_enter Tryz.func57, Tryz.ntmps57
  go_upto_region 2 with fail
  simp only [← unhide HB]
  rw [← World.setCell_alloc_past (w := w) (.map #[] 0) B (o + 1) (.map (some b)) hlt, ← unhide HW]
  go_wp2_with fail
  go_end0
  exact ⟨rfl, unhide FIN⟩
theorem keep_any {w : World} {B o : Nat} {m : Option Nat} {s : Src} (h : SrcAt w B o m s) {q c : Int} (hq : 1 ≤ q ∧ q ≤ 1099511627800) (hc : 1 ≤ c ∧ c ≤ 4) (hl : s.codes.length < 100) :
    Calls Tryz.prog 57 #[.pointer (some ⟨B, o, none⟩), .int .i64 q, .int .i64 c] w fun e w' => e = .returned (.tuple #[]) ∧ ∃ m', SDid w w' B o m (s.keep q c) m' := by
  cases m with
  | none => exact (keep_none h hq hc).mono fun e w' ⟨h1, h2⟩ => ⟨h1, _, h2⟩
  | some b => exact (keep_some h hq hc hl).mono fun e w' ⟨h1, h2⟩ => ⟨h1, _, h2⟩
end Go.Proofs.YtigmhljaoicdbaaGreat.Sn

namespace Go.Proofs.YtigmhljaoicdbaaGreat.Sn
open Go.RowKit Go.Maps

/-- What is left of codes while they are gone through. -/
def stay (low : Int) (left : Lit → Bool) (l : Codes) : Codes := l.filter fun a => decide (low ≤ a.1) || left (kz a.1)
theorem stay_start {D : DataW Unit} {l : Codes} (h : DIs D l) (hr : Rise l) (low : Int) : stay low (has D) l = l := List.filter_eq_self.2 fun a ha => by
  rw [dis_has h, look_mem hr ha]; simp
theorem stay_end (low : Int) {left : Lit → Bool} (l : Codes) (h : ∀ q, left q = false) : stay low left l = l.filter fun a => decide (low ≤ a.1) := by
  unfold stay
  exact List.filter_congr fun a _ => by rw [h]; simp
theorem stay_keep {low : Int} {left : Lit → Bool} {l : Codes} {q : Int} (h : low ≤ q) : stay low (fun z => left z && !z.sameKey (kz q)) l = stay low left l := by
  unfold stay
  refine List.filter_congr fun a _ => ?_
  dsimp only
  rw [same_kz]
  by_cases e : a.1 = q
  · rw [e, decide_eq_true h]; simp
  · rw [decide_eq_false e]; simp
theorem stay_drop {low : Int} {left : Lit → Bool} {l : Codes} {q : Int} (h : q < low) : (stay low left l).filter (fun a => !decide (a.1 = q)) = stay low (fun z => left z && !z.sameKey (kz q)) l := by
  unfold stay
  rw [List.filter_filter]
  refine List.filter_congr fun a _ => ?_
  dsimp only
  rw [same_kz]
  by_cases e : a.1 = q
  · rw [e, decide_eq_false (show ¬ low ≤ q by omega)]; simp
  · rw [decide_eq_false e]; simp

theorem rise_low {w : World} {B o : Nat} {m : Option Nat} {s : Src} (h : SrcAt w B o m s) {low : Int} (hl : low ≤ s.low) :
    Calls Tryz.prog 58 #[.pointer (some ⟨B, o, none⟩), .int .i64 low] w fun e w' => e = .returned (.tuple #[]) ∧ w' = w := by
  have hlow := h.low
  clear h
  go_enter Tryz.func58, Tryz.ntmps58
  go_wp2_with fail
  refine hlow.mono ?_
  rintro e w' ⟨rfl, hw'⟩
  rw [hw']
  go_wp2_with fail
  refine bodyPost_ret (v := .tuple #[]) (by simp [results, Tryz.results58, go_sem]) rfl ⟨rfl, rfl⟩
/-- The source's low mark is set. -/
theorem set_low {w : World} {B o : Nat} {m : Option Nat} {s : Src} (h : SrcAt w B o m s) {low : Int} (h1 : 1 ≤ low) (h2 : low ≤ 1099511627776) :
    SDid w (w.setCell ⟨B, o, none⟩ (.int .i64 (low - 1))) B o m ⟨low, s.codes⟩ m := by
  have mv : Moved (fun k => k = B) w (w.setCell ⟨B, o, none⟩ (.int .i64 (low - 1))) := (Moved.refl (fun k => k = B) w).setCell (p := ⟨B, o, none⟩) (.inl rfl) _
  have hne : ∀ b, m = some b → b ≠ B := fun b e e' => h.ne (by rw [e, e'])
  refine ⟨⟨?_, ?_, ?_, ?_, ?_, ⟨h1, h2, h.fine.rise, h.fine.num, h.fine.code, h.fine.len⟩⟩, fun b e => .inl e, mv.mono fun k e => .inl (.inl e), Others.setCell (.inl rfl) _⟩
  · rw [World.cell?_setCell_same (h := h.c0)]
  · rw [World.cell?_setCell_other (h := fun e => by have := congrArg Addr.off e; simp only at this; omega)]; exact h.c1
  · rw [World.frozen?_setCell]; exact h.f0
  · rw [World.frozen?_setCell]; exact h.f1
  · exact h.mo.keep fun b e => Below.heap_setCell _ _ _ _ (hne b e)
theorem SDid.trans {a b c : World} {B o : Nat} {m m' m'' : Option Nat} {s s' : Src} (h : SDid a b B o m s m') (k : SDid b c B o m' s' m'') : SDid a c B o m s' m'' :=
  ⟨k.at_, fun x e => by
    rcases k.new_ x e with e | e
    · exact h.new_ x e
    · exact .inr (Nat.le_trans h.moved.size e), h.moved.trans k.moved fun i e => by
    rcases e with e | e
    · exact .inl (.inl e)
    · rcases h.new_ i e with e | e
      · exact .inl (.inr e)
      · exact .inr e, h.others.trans k.others⟩
set_option maxRecDepth 100000 in
set_option maxHeartbeats 2000000 in
theorem rise_nil {w : World} {B o : Nat} {s : Src} (h : SrcAt w B o none s) {low : Int} (hl : ¬ low ≤ s.low) (h2 : low ≤ 1099511627776) :
    Calls Tryz.prog 58 #[.pointer (some ⟨B, o, none⟩), .int .i64 low] w fun e w' => e = .returned (.tuple #[]) ∧ SDid w w' B o none ⟨low, s.codes⟩ none := by
  have hlow := h.low
  have h1 := h.fine.lo
  have hw1 : IntKind.i64.wrap (low - 1) = low - 1 := Go.IntWalk.i64_in _ (by omega)
  obtain ⟨W, hW⟩ : ∃ W, W = w.setCell ⟨B, o, none⟩ (.int .i64 (low - 1)) := ⟨_, rfl⟩
  have D1 := set_low h (by omega) h2
  rw [← hW] at D1
  have c0 := h.c0
  have f0 := h.f0
  have d1 := D1.at_.c1
  have hrun := fun W => run_range_nilMap W 79 3 3 Tryz.underlying79
  have hnx := fun W => @run_next_nilMap Tryz.prog W
  have HD := hide D1
  have HA := hide (fun (V : World) (hb : Below W.heap.size W V) => (D1.trans ⟨D1.at_.keep (Moved.of_below (F := fun _ => False) hb) id (fun _ _ => id), fun b e => .inl e, (Moved.of_below (F := fun _ => False) hb).mono fun _ f => f.elim, Others.of_block (hb.block B D1.at_.lt)⟩ : SDid w V B o none ⟨low, s.codes⟩ none))
  have HW := hide hW
  clear h D1 hW
  go_enter Tryz.func58, Tryz.ntmps58
  go_wp2_with fail
  refine hlow.mono ?_
  rintro e w' ⟨rfl, hw'⟩
  rw [hw']
  clear hlow
  go_upto_region 2 with fail
  rw [← unhide HW]
  go_wp2_with fail
  refine wp_loop_rounds 1 ?_
  rw [rounds_succ]
  go_wp2_with fail
  go_end0
  exact ⟨rfl, unhide HA _ ((Below.refl _ _).alloc (Nat.le_refl _) _)⟩
theorem grown_moved {F : Nat → Prop} {a b c : World} {row : Option Nat} (h : Moved F a b) (hg : b.grownBy c row) (hr : ∀ k, row = some k → F k ∨ a.heap.size ≤ k) : Moved F a c := h.grown hg hr
set_option maxRecDepth 100000 in
set_option maxHeartbeats 2000000 in
theorem rise_some {w : World} {B o b : Nat} {s : Src} (h : SrcAt w B o (some b) s) {low : Int} (hl : ¬ low ≤ s.low) (h2 : low ≤ 1099511627776) :
    Calls Tryz.prog 58 #[.pointer (some ⟨B, o, none⟩), .int .i64 low] w fun e w' => e = .returned (.tuple #[]) ∧ SDid w w' B o (some b) ⟨low, s.codes.filter (fun a => decide (low ≤ a.1))⟩ (some b) := by
  have hlow := h.low
  have h1 := h.fine.lo
  have hw1 : IntKind.i64.wrap (low - 1) = low - 1 := Go.IntWalk.i64_in _ (by omega)
  obtain ⟨W, hW⟩ : ∃ W, W = w.setCell ⟨B, o, none⟩ (.int .i64 (low - 1)) := ⟨_, rfl⟩
  have D1 := set_low h (by omega) h2
  rw [← hW] at D1
  obtain ⟨D, ho, hD⟩ : ∃ D : DataW Unit, W.ownsMap Tryz.prog 3 (plainElem Tryz.prog 3) b s.codes.length D ∧ DIs D s.codes := by
    rcases D1.at_.mo with ⟨h0, _⟩ | ⟨b', h0, hm⟩
    · cases h0
    · cases h0; exact hm
  have hbB : b ≠ B := fun e => D1.at_.ne (by rw [e])
  have hr := h.fine.rise
  obtain ⟨w0, hrun, hrg, hg, hs⟩ := ho.range key3 Tryz.underlying79
  obtain ⟨r, hre⟩ : ∃ r, r = W.heap.size := ⟨_, rfl⟩
  rw [← hre] at hrun hrg
  have c0 := h.c0
  have f0 := h.f0
  have d1 := D1.at_.c1
  have hBr : B < r := by rw [hre]; exact D1.at_.lt
  have hbr : b < r := by rw [hre]; exact ho.lt
  have m0 : Moved (SFoot B (some b)) W w0 := (Moved.refl _ _).grown hg (fun k e => by cases e)
  have o0 : Others W w0 B o := Others.of_block (hg.block B (by omega) (by simp))
  have START : Hid (w0.ranges Tryz.prog 3 (plainElem Tryz.prog 3) b r s.codes.length D (has D) (size D) ∧ DIs D (stay low (has D) s.codes) ∧ Moved (SFoot B (some b)) W w0 ∧ w0.heap[B]? = W.heap[B]?) :=
    hide ⟨hrg, by rw [stay_start hD hr]; exact hD, m0, hg.block B (by omega) (by simp)⟩
  have HD := hide D1
  have HW := hide hW
  have HR := hide hr
  have HNE := hide hbB
  have HBr := hide hBr
  have Hbr := hide hbr
  have HRE := hide hre
  have HL := hide hl
  clear h D1 hW hrg hg hs ho hD m0 o0 hbB hBr hbr hre
  go_enter Tryz.func58, Tryz.ntmps58
  go_wp2_with fail
  refine hlow.mono ?_
  rintro e w' ⟨rfl, hw'⟩
  rw [hw']
  clear hlow
  go_upto_region 2 with fail
  rw [← unhide HW]
  go_wp2_with fail
  clear hrun
  go_loopw [4] (fun _ wr => ∃ (left : Lit → Bool) (cnt : Nat) (D : DataW Unit), wr.ranges Tryz.prog 3 (plainElem Tryz.prog 3) b r s.codes.length D left cnt ∧ DIs D (stay low left s.codes) ∧ Moved (SFoot B (some b)) W wr ∧ wr.heap[B]? = W.heap[B]?) (fun _ wr => wr.rangeLeft b r)
  case atStart => exact ⟨_, _, _, unhide START⟩
  case round =>
    obtain ⟨left, cnt, D', hrg, hdi, hmv, hbk⟩ := hrel
    clear START
    have HRG := hide hrg
    have HDI := hide hdi
    have HMV := hide hmv
    have HBK := hide hbk
    have hd1 : wr.cell? ⟨B, o + 1, none⟩ = some (.map (some b)) := (World.cell?_of_block (w := W) hbk).trans d1
    clear hrg hdi hmv hbk
    rcases (unhide HRG).next key3 0 with ⟨_, hl0, hnx⟩ | ⟨key, v, kl, y, w2, cnt2, hkey, hlk, hv, hat, hnx, hrg2, hlt, hg2, hs2, hen⟩
    · have HE := hide hl0
      clear hl0
      go_wp2_with fail
      go_end0
      have hst := stay_end low s.codes (unhide HE)
      have hdi := unhide HDI
      rw [hst] at hdi
      have D1 := unhide HD
      have ow := (unhide HRG).owns
      have mv := unhide HMV
      have hbk := unhide HBK
      refine ⟨rfl, D1.trans ⟨⟨(World.cell?_of_block (w := W) hbk).trans D1.at_.c0, (World.cell?_of_block (w := W) hbk).trans D1.at_.c1, (World.frozen?_of_block (w := W) hbk).trans D1.at_.f0, (World.frozen?_of_block (w := W) hbk).trans D1.at_.f1, .inr ⟨b, rfl, MIs.of ow hdi⟩, ?_⟩, fun b e => .inl e, mv, Others.of_block hbk⟩⟩
      have F := D1.at_.fine
      exact ⟨F.lo, F.hi, filter_rise F.rise _, fun a ha => F.num a (List.mem_filter.1 ha).1, fun a ha => F.code a (List.mem_filter.1 ha).1, Nat.le_trans (List.length_filter_le _ _) F.len⟩
    · obtain ⟨q, rfl, rfl, hwf⟩ := keyOf_int_inv Tryz.underlying3 hkey
      obtain ⟨c, rfl, _⟩ := plainElem_int_inv Tryz.underlying3 hv
      have M2 : Moved (SFoot B (some b)) W w2 := (unhide HMV).grown hg2 (fun k e => by cases e; exact .inr (by have := unhide HRE; omega))
      have hbk2 : w2.heap[B]? = W.heap[B]? := (hg2.block B (by have := unhide HBr; have := (unhide HRG).lt; omega) (by have := unhide HBr; simp; omega)).trans (unhide HBK)
      have hd2 : w2.cell? ⟨B, o + 1, none⟩ = some (.map (some b)) := (World.cell?_of_block (w := W) hbk2).trans d1
      have LF := hide (unhide HRG).left_eq
      have HCNT := hide hlt
      by_cases hq : q < low
      · obtain ⟨w3, cnt3, hdel, hrg3, hle, hT⟩ := hrg2.drop key3 Tryz.underlying79 (keyOf_int_mk Tryz.underlying3 hwf) 0
        rw [strike_twice] at hrg3
        have mv3 := turned_moved hT
        have hB2 : B < w2.heap.size := by have := unhide HBr; have := hrg2.lt; omega
        have hd3 := dis_del (unhide HDI) q
        rw [stay_drop hq] at hd3
        have REL := hide (⟨hrg3, hd3, M2.trans mv3 (fun i e => .inl (.inr (by rw [e]))), (mv3.block B hB2 (fun e => unhide HNE e.symm)).trans hbk2⟩ : w3.ranges Tryz.prog 3 (plainElem Tryz.prog 3) b r s.codes.length (D'.del (kz q)) (fun z => left z && !z.sameKey (kz q)) cnt3 ∧ DIs (D'.del (kz q)) (stay low (fun z => left z && !z.sameKey (kz q)) s.codes) ∧ Moved (SFoot B (some b)) W w3 ∧ w3.heap[B]? = W.heap[B]?)
        have L3 := hide hrg3.left_eq
        have HLE := hide hle
        clear hkey hlk hv hat hrg2 hg2 hs2 hwf hrg3 hle hT mv3 hd3 M2 hbk2 hB2
        go_wp2_with fail
        exact ⟨⟨_, _, _, unhide REL⟩, by rw [unhide L3, unhide LF]; have := unhide HCNT; have := unhide HLE; omega⟩
      · have hd3 : DIs D' (stay low (fun z => left z && !z.sameKey (kz q)) s.codes) := by rw [stay_keep (by omega)]; exact unhide HDI
        have REL := hide (⟨hrg2, hd3, M2, hbk2⟩ : w2.ranges Tryz.prog 3 (plainElem Tryz.prog 3) b r s.codes.length D' (fun z => left z && !z.sameKey (kz q)) cnt2 ∧ DIs D' (stay low (fun z => left z && !z.sameKey (kz q)) s.codes) ∧ Moved (SFoot B (some b)) W w2 ∧ w2.heap[B]? = W.heap[B]?)
        have L2 := hide hrg2.left_eq
        clear hkey hlk hv hat hrg2 hg2 hs2 hwf hd3 M2 hbk2
        go_wp2_with fail
        exact ⟨⟨_, _, _, unhide REL⟩, by rw [unhide L2, unhide LF]; exact unhide HCNT⟩
theorem rise_any {w : World} {B o : Nat} {m : Option Nat} {s : Src} (h : SrcAt w B o m s) {low : Int} (h2 : low ≤ 1099511627776) :
    Calls Tryz.prog 58 #[.pointer (some ⟨B, o, none⟩), .int .i64 low] w fun e w' => e = .returned (.tuple #[]) ∧ SDid w w' B o m (s.rise_ low) m := by
  unfold Src.rise_
  by_cases hl : low ≤ s.low
  · rw [if_pos hl]
    exact (rise_low h hl).mono fun e w' ⟨h1, hw⟩ => ⟨h1, by rw [hw]; exact ⟨h, fun b e => .inl e, Moved.refl _ _, Others.refl _ _ _⟩⟩
  · rw [if_neg hl]
    cases m with
    | none =>
      have h0 : s.codes = [] := by
        rcases h.mo with ⟨_, h0⟩ | ⟨b', h0, _⟩
        · exact h0
        · cases h0
      have := rise_nil h hl h2
      rw [h0] at this ⊢
      exact this
    | some b => exact rise_some h hl h2
end Go.Proofs.YtigmhljaoicdbaaGreat.Sn

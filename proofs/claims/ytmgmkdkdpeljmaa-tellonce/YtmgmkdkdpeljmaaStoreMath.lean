/- Windows in their row, as a plain list: by Start, then by key, byte by byte. Looking up, putting in, taking out; two rows that tell the same of every window are one row. No Go. -/
import Derived.Test.YtmgmkdkdpeljmaaChecked
namespace Go.Proofs.Ytmgmkdkdpeljmaa

/-- A key stands ahead of another one. -/
def keyLt : List UInt8 → List UInt8 → Bool
  | _, [] => false
  | [], _ :: _ => true
  | a :: l, b :: m => if a = b then keyLt l m else decide (a < b)
theorem keyLt_irrefl : ∀ k, keyLt k k = false
  | [] => rfl
  | a :: l => by rw [keyLt, if_pos rfl]; exact keyLt_irrefl l
theorem u8_lt_irrefl (a : UInt8) : ¬ a < a := fun h => by have : a.toNat < a.toNat := UInt8.lt_iff_toNat_lt.1 h; omega
theorem u8_total {a b : UInt8} (h : ¬ a = b) : a < b ∨ b < a := by
  have : a.toNat ≠ b.toNat := fun e => h (UInt8.toNat_inj.1 e)
  rcases Nat.lt_or_ge a.toNat b.toNat with h' | h'
  · exact .inl (UInt8.lt_iff_toNat_lt.2 h')
  · exact .inr (UInt8.lt_iff_toNat_lt.2 (by omega))
theorem u8_trans {a b c : UInt8} (h : a < b) (k : b < c) : a < c := by
  rw [UInt8.lt_iff_toNat_lt] at *; omega
theorem keyLt_trans : ∀ {a b c : List UInt8}, keyLt a b = true → keyLt b c = true → keyLt a c = true
  | _, [], _, h, _ => by simp [keyLt] at h
  | _, _ :: _, [], _, k => by simp [keyLt] at k
  | [], _ :: _, _ :: _, _, _ => rfl
  | a :: l, b :: m, c :: n, h, k => by
    rw [keyLt] at h k ⊢
    by_cases e1 : a = b
    · subst e1
      rw [if_pos rfl] at h
      by_cases e2 : a = c
      · subst e2
        rw [if_pos rfl] at k ⊢
        exact keyLt_trans h k
      · rw [if_neg e2] at k ⊢; exact k
    · rw [if_neg e1] at h
      by_cases e2 : b = c
      · subst e2
        rw [if_neg e1]; exact h
      · rw [if_neg e2] at k
        have hh : a < c := u8_trans (of_decide_eq_true h) (of_decide_eq_true k)
        have ne : ¬ a = c := fun e => u8_lt_irrefl a (by rw [← e] at hh; exact hh)
        rw [if_neg ne]; exact decide_eq_true hh
theorem keyLt_total : ∀ {a b : List UInt8}, ¬ a = b → keyLt a b = true ∨ keyLt b a = true
  | [], [], h => absurd rfl h
  | [], _ :: _, _ => .inl rfl
  | _ :: _, [], _ => .inr rfl
  | a :: l, b :: m, h => by
    rw [keyLt, keyLt]
    by_cases e : a = b
    · subst e
      rw [if_pos rfl, if_pos rfl]
      exact keyLt_total (fun e => h (by rw [e]))
    · rw [if_neg e, if_neg (fun e' => e e'.symm)]
      rcases u8_total e with h' | h'
      · exact .inl (decide_eq_true h')
      · exact .inr (decide_eq_true h')

/-- A window: its key, its Start, and what its values add up to. -/
structure Win (α : Type) where
  key : List UInt8
  start : Int
  agg : α
variable {α : Type}

/-- A window stands ahead of another one. -/
def ahead (a b : Win α) : Bool := decide (a.start < b.start) || (decide (a.start = b.start) && keyLt a.key b.key)
theorem ahead_iff {a b : Win α} : ahead a b = true ↔ a.start < b.start ∨ (a.start = b.start ∧ keyLt a.key b.key = true) := by simp [ahead]
/-- The same window, whatever it adds up to. -/
def at_ (k : List UInt8) (s : Int) (a : Win α) : Prop := a.key = k ∧ a.start = s
instance (k : List UInt8) (s : Int) (a : Win α) : Decidable (at_ k s a) := by unfold at_; infer_instance
theorem ahead_irrefl {a b : Win α} (h : at_ b.key b.start a) : ahead a b = false := by
  obtain ⟨h1, h2⟩ := h
  cases e : ahead a b with
  | false => rfl
  | true =>
    rcases ahead_iff.1 e with h | ⟨_, h⟩
    · omega
    · rw [h1, keyLt_irrefl] at h; cases h
theorem ahead_trans {a b c : Win α} (h : ahead a b = true) (k : ahead b c = true) : ahead a c = true := by
  rw [ahead_iff] at *
  rcases h with h | ⟨h, h'⟩ <;> rcases k with k | ⟨k, k'⟩
  · exact .inl (by omega)
  · exact .inl (by omega)
  · exact .inl (by omega)
  · exact .inr ⟨by omega, keyLt_trans h' k'⟩
theorem ahead_total {a b : Win α} (h : ¬ at_ b.key b.start a) : ahead a b = true ∨ ahead b a = true := by
  rw [ahead_iff, ahead_iff]
  by_cases e : a.start = b.start
  · rcases keyLt_total (fun e' => h ⟨e', e⟩) with k | k
    · exact .inl (.inr ⟨e, k⟩)
    · exact .inr (.inr ⟨e.symm, k⟩)
  · rcases Int.lt_or_lt_of_ne e with k | k
    · exact .inl (.inl k)
    · exact .inr (.inl k)
theorem ahead_asymm {a b : Win α} (h : ahead a b = true) : ahead b a = false := by
  cases e : ahead b a with
  | false => rfl
  | true =>
    have := ahead_trans h e
    rw [ahead_irrefl ⟨rfl, rfl⟩] at this; cases this
theorem ahead_not {a b : Win α} (h : ahead a b = true) : ¬ at_ b.key b.start a := fun k => by rw [ahead_irrefl k] at h; cases h

/-- Windows in their row. -/
def Rise (l : List (Win α)) : Prop := l.Pairwise (fun a b => ahead a b = true)
/-- What a row tells of a window. -/
def look (l : List (Win α)) (k : List UInt8) (s : Int) : Option α := match l with
  | [] => none
  | a :: l => if at_ k s a then some a.agg else look l k s
/-- A window put into its place, instead of what was there. -/
def ins (w : Win α) : List (Win α) → List (Win α)
  | [] => [w]
  | a :: l => if ahead a w = true then a :: ins w l else if ahead w a = true then w :: a :: l else w :: l

theorem look_none {l : List (Win α)} {k : List UInt8} {s : Int} (h : ∀ a ∈ l, ¬ at_ k s a) : look l k s = none := by
  induction l with
  | nil => rfl
  | cons a l ih => rw [look, if_neg (h a List.mem_cons_self)]; exact ih (fun b hb => h b (List.mem_cons_of_mem _ hb))
theorem look_mem {l : List (Win α)} (h : Rise l) {a : Win α} (ha : a ∈ l) : look l a.key a.start = some a.agg := by
  induction l with
  | nil => cases ha
  | cons b l ih =>
    rw [look]
    rcases List.mem_cons.1 ha with rfl | ha
    · rw [if_pos ⟨rfl, rfl⟩]
    · have hb := (List.pairwise_cons.1 h).1 a ha
      rw [if_neg (ahead_not hb)]
      exact ih (List.pairwise_cons.1 h).2 ha
theorem look_some {l : List (Win α)} {k : List UInt8} {s : Int} {x : α} (h : look l k s = some x) : (⟨k, s, x⟩ : Win α) ∈ l := by
  induction l with
  | nil => cases h
  | cons b l ih =>
    rw [look] at h
    split at h
    · rename_i e
      obtain ⟨rfl, rfl⟩ := e
      cases h
      exact List.mem_cons_self
    · exact List.mem_cons_of_mem _ (ih h)
theorem ins_mem {w : Win α} : ∀ {l : List (Win α)} {b : Win α}, b ∈ ins w l → b = w ∨ b ∈ l
  | [], b, h => .inl (by simpa [ins] using h)
  | a :: l, b, h => by
    rw [ins] at h
    split at h
    · rcases List.mem_cons.1 h with rfl | h
      · exact .inr List.mem_cons_self
      · exact (ins_mem h).imp id (List.mem_cons_of_mem _)
    · split at h
      · rcases List.mem_cons.1 h with rfl | h
        · exact .inl rfl
        · exact .inr h
      · rcases List.mem_cons.1 h with rfl | h
        · exact .inl rfl
        · exact .inr (List.mem_cons_of_mem _ h)
theorem same_place {a w : Win α} (h1 : ¬ ahead a w = true) (h2 : ¬ ahead w a = true) : at_ w.key w.start a := by
  by_cases h : at_ w.key w.start a
  · exact h
  · rcases ahead_total h with k | k
    · exact absurd k h1
    · exact absurd k h2
theorem ahead_same {a w b : Win α} (h : at_ w.key w.start a) (k : ahead a b = true) : ahead w b = true := by
  obtain ⟨h1, h2⟩ := h
  rw [ahead_iff] at k ⊢
  rw [← h1, ← h2]; exact k
theorem ins_rise {w : Win α} : ∀ {l : List (Win α)}, Rise l → Rise (ins w l)
  | [], _ => List.pairwise_singleton _ _
  | a :: l, h => by
    obtain ⟨h1, h2⟩ := List.pairwise_cons.1 h
    rw [ins]
    split
    · rename_i e
      refine List.pairwise_cons.2 ⟨fun b hb => ?_, ins_rise h2⟩
      rcases ins_mem hb with rfl | hb
      · exact e
      · exact h1 b hb
    · rename_i e
      split
      · rename_i e2
        refine List.pairwise_cons.2 ⟨fun b hb => ?_, h⟩
        rcases List.mem_cons.1 hb with rfl | hb
        · exact e2
        · exact ahead_trans e2 (h1 b hb)
      · rename_i e2
        exact List.pairwise_cons.2 ⟨fun b hb => ahead_same (same_place e e2) (h1 b hb), h2⟩
theorem look_ins {w : Win α} {k : List UInt8} {s : Int} : ∀ {l : List (Win α)}, Rise l → look (ins w l) k s = if at_ k s w then some w.agg else look l k s
  | [], _ => by simp only [ins, look]
  | a :: l, h => by
    obtain ⟨h1, h2⟩ := List.pairwise_cons.1 h
    rw [ins]
    split
    · rename_i e
      rw [look, look, look_ins h2]
      by_cases ha : at_ k s a
      · have hw : ¬ at_ k s w := fun hw => ahead_not e ⟨ha.1.trans hw.1.symm, ha.2.trans hw.2.symm⟩
        rw [if_pos ha, if_neg hw, if_pos ha]
      · rw [if_neg ha, if_neg ha]
    · rename_i e
      split
      · rw [look]
      · rename_i e2
        rw [look, look]
        have hs := same_place e e2
        by_cases hw : at_ k s w
        · rw [if_pos hw, if_pos hw]
        · rw [if_neg hw, if_neg hw, if_neg (fun ha => hw ⟨hs.1.symm.trans ha.1, hs.2.symm.trans ha.2⟩)]
/-- Two rows that tell the same of every window are one row. -/
theorem rise_ext : ∀ {l m : List (Win α)}, Rise l → Rise m → (∀ k s, look l k s = look m k s) → l = m
  | [], [], _, _, _ => rfl
  | [], b :: m, _, hm, h => by
    have := h b.key b.start
    rw [look_mem hm List.mem_cons_self] at this; cases this
  | a :: l, [], hl, _, h => by
    have := h a.key a.start
    rw [look_mem hl List.mem_cons_self] at this; cases this
  | a :: l, b :: m, hl, hm, h => by
    obtain ⟨l1, l2⟩ := List.pairwise_cons.1 hl
    obtain ⟨m1, m2⟩ := List.pairwise_cons.1 hm
    have ha := look_mem hl List.mem_cons_self
    have hb := look_mem hm List.mem_cons_self
    have ha' := look_some ((h a.key a.start).symm.trans ha)
    have hb' := look_some ((h b.key b.start).trans hb)
    have e : a = b := by
      rcases List.mem_cons.1 ha' with e | ha'
      · cases a; cases b; simpa using e
      · rcases List.mem_cons.1 hb' with e | hb'
        · cases a; cases b; simpa using e.symm
        · have x := m1 _ ha'
          have y := l1 _ hb'
          have x' : ahead b a = true := x
          have y' : ahead a b = true := y
          rw [ahead_asymm x'] at y'; cases y'
    subst e
    congr 1
    refine rise_ext l2 m2 fun k s => ?_
    have := h k s
    rw [look, look] at this
    by_cases hk : at_ k s a
    · rw [look_none (fun b hb hx => ahead_not (l1 b hb) ⟨hk.1.trans hx.1.symm, hk.2.trans hx.2.symm⟩), look_none (fun b hb hx => ahead_not (m1 b hb) ⟨hk.1.trans hx.1.symm, hk.2.trans hx.2.symm⟩)]
    · rw [if_neg hk, if_neg hk] at this; exact this
/-- Two windows may be put in in either row. -/
theorem ins_comm {a b : Win α} {l : List (Win α)} (h : Rise l) (hn : ¬ at_ b.key b.start a) : ins a (ins b l) = ins b (ins a l) := by
  refine rise_ext (ins_rise (ins_rise h)) (ins_rise (ins_rise h)) fun k s => ?_
  rw [look_ins (ins_rise h), look_ins h, look_ins (ins_rise h), look_ins h]
  by_cases ha : at_ k s a
  · rw [if_pos ha, if_neg (fun hb => hn ⟨ha.1.trans hb.1.symm, ha.2.trans hb.2.symm⟩), if_pos ha]
  · rw [if_neg ha, if_neg ha]
theorem ins_len {w : Win α} : ∀ {l : List (Win α)}, Rise l → (ins w l).length = if (look l w.key w.start).isSome then l.length else l.length + 1
  | [], _ => by simp [ins, look]
  | a :: l, h => by
    obtain ⟨h1, h2⟩ := List.pairwise_cons.1 h
    rw [ins, look]
    split
    · rename_i e
      rw [if_neg (ahead_not e), List.length_cons, ins_len h2]
      split <;> rfl
    · rename_i e
      split
      · rename_i e2
        have hn : ¬ at_ w.key w.start a := fun hx => by
          rw [ahead_irrefl ⟨hx.1.symm, hx.2.symm⟩] at e2; cases e2
        rw [if_neg hn, look_none (fun b hb hx => ahead_not (ahead_trans e2 (h1 b hb)) ⟨hx.1.symm, hx.2.symm⟩)]
        rfl
      · rename_i e2
        rw [if_pos (same_place e e2)]
        rfl
/-- Some windows alone. -/
theorem rise_filter {p : Win α → Bool} {l : List (Win α)} (h : Rise l) : Rise (l.filter p) := List.Pairwise.filter _ h
theorem look_filter {p : Int → Bool} {l : List (Win α)} (k : List UInt8) (s : Int) : look (l.filter (fun a => p a.start)) k s = if p s then look l k s else none := by
  induction l with
  | nil => simp [look]
  | cons a l ih =>
    rw [List.filter_cons, look]
    split
    · rename_i e
      rw [look, ih]
      by_cases ha : at_ k s a
      · rw [if_pos ha, if_pos ha, ha.2] at *; rw [if_pos e]
      · rw [if_neg ha, if_neg ha]
    · rename_i e
      rw [ih]
      by_cases ha : at_ k s a
      · have : ¬ p s = true := by rw [← ha.2]; exact e
        rw [if_neg this, if_neg this]
      · rw [if_neg ha]
/-- A row, put window by window into an empty one, the last one first, is that row. -/
theorem ins_all : ∀ {l : List (Win α)}, Rise l → l.reverse.foldl (fun r w => ins w r) [] = l
  | [], _ => rfl
  | a :: l, h => by
    obtain ⟨h1, h2⟩ := List.pairwise_cons.1 h
    rw [List.reverse_cons, List.foldl_append, ins_all h2]
    show ins a l = a :: l
    cases l with
    | nil => rfl
    | cons b l =>
      have hb := h1 b List.mem_cons_self
      rw [ins, if_neg (by rw [ahead_asymm hb]; exact Bool.false_ne_true), if_pos hb]
end Go.Proofs.Ytmgmkdkdpeljmaa

/- What a map reads as, as windows in their row: looking up, storing, deleting; what a range over it has collected. No Go program. -/
import Derived.Test.YtmgmkdkdpeljmaaStoreMath
import Derived.Maps.RangeWalk
namespace Go.Proofs.Ytmgmkdkdpeljmaa
open Go.Maps Go.WideShapes
variable {α : Type}

/-- What keys read as: no two as one. -/
structure KeyL (kl : List UInt8 → Int → Lit) (ok : List UInt8 → Int → Prop) : Prop where
  inj : ∀ {k s k' s'}, ok k s → ok k' s' → kl k s = kl k' s' → k = k' ∧ s = s'
  key : ∀ {k s}, ok k s → WideAt.IsKeyLit (kl k s)
variable {kl : List UInt8 → Int → Lit} {ok : List UInt8 → Int → Prop}

def dat (kl : List UInt8 → Int → Lit) (w : Win α) : Lit × DataW α := (kl w.key w.start, .held w.agg)
/-- A datum that is these windows. -/
def DIs (kl : List UInt8 → Int → Lit) (D : DataW α) (l : List (Win α)) : Prop := ∃ E, D = .map E ∧ E.Perm (l.map (dat kl))
def Oks (ok : List UInt8 → Int → Prop) (l : List (Win α)) : Prop := ∀ a ∈ l, ok a.key a.start

theorem same_kl (L : KeyL kl ok) {k k' : List UInt8} {s s' : Int} (h : ok k s) (h' : ok k' s') : (kl k s).sameKey (kl k' s') = decide (k = k' ∧ s = s') := by
  by_cases e : k = k' ∧ s = s'
  · obtain ⟨rfl, rfl⟩ := e
    simp [WideAt.sameKey_self (L.key h)]
  · rw [decide_eq_false e]
    exact sameKey_ne fun e' => e (L.inj h h' e')
theorem rise_apart {l : List (Win α)} (h : Rise l) : l.Pairwise (fun a b => ¬ at_ b.key b.start a) := h.imp fun hab => ahead_not hab
theorem dis_apart (L : KeyL kl ok) {l : List (Win α)} (ho : Oks ok l) (h : Rise l) {E : List (Lit × DataW α)} (hE : E.Perm (l.map (dat kl))) : E.Pairwise (fun p q => p.1 ≠ q.1) := by
  refine (hE.symm.pairwise_iff (fun {a b} (h : a.1 ≠ b.1) => h.symm)).1 ?_
  rw [List.pairwise_map]
  refine List.Pairwise.imp_of_mem (R := fun a b => ¬ at_ b.key b.start a) (fun {a b} ha hb hab e => ?_) (rise_apart h)
  exact hab (L.inj (ho a ha) (ho b hb) e)
theorem dis_has (L : KeyL kl ok) {D : DataW α} {l : List (Win α)} (h : DIs kl D l) (ho : Oks ok l) {k : List UInt8} {s : Int} (hk : ok k s) : has D (kl k s) = (look l k s).isSome := by
  obtain ⟨E, rfl, hE⟩ := h
  rw [has_eq, hE.any_eq]
  clear hE
  induction l with
  | nil => rfl
  | cons a l ih =>
    rw [List.map_cons, List.any_cons, ih (fun b hb => ho b (List.mem_cons_of_mem _ hb)), look]
    have e : (dat kl a).1.sameKey (kl k s) = decide (at_ k s a) := same_kl L (ho a List.mem_cons_self) hk
    rw [e]
    by_cases ha : at_ k s a
    · simp [ha]
    · simp [ha]
theorem dis_at (L : KeyL kl ok) {D : DataW α} {l : List (Win α)} (h : DIs kl D l) (ho : Oks ok l) (hr : Rise l) {k : List UInt8} {s : Int} {a : α} (hl : look l k s = some a) (z : DataW α) : D.atKey (kl k s) z = .held a := by
  obtain ⟨E, rfl, hE⟩ := h
  have hm := look_some hl
  have hk : ok k s := ho _ hm
  have hp : (kl k s, (.held a : DataW α)) ∈ E := hE.mem_iff.2 (List.mem_map.2 ⟨_, hm, rfl⟩)
  exact WideAt.atKey_mem z (L.key hk) (dis_apart L ho hr hE) hp
theorem dis_none (L : KeyL kl ok) {D : DataW α} {l : List (Win α)} (h : DIs kl D l) (ho : Oks ok l) {k : List UInt8} {s : Int} (hk : ok k s) (hl : look l k s = none) (z : DataW α) : D.atKey (kl k s) z = z :=
  atKey_of_not_has (by rw [dis_has L h ho hk, hl]; rfl) z
theorem dis_size {D : DataW α} {l : List (Win α)} (h : DIs kl D l) : size D = l.length := by
  obtain ⟨E, rfl, hE⟩ := h
  rw [size_eq, hE.length_eq, List.length_map]
theorem dis_empty : DIs kl (.map [] : DataW α) [] := ⟨[], rfl, List.Perm.refl _⟩
theorem ins_perm {w : Win α} : ∀ {l : List (Win α)}, Rise l → (ins w l).Perm (w :: l.filter (fun a => !decide (at_ w.key w.start a)))
  | [], _ => List.Perm.refl _
  | a :: l, h => by
    obtain ⟨h1, h2⟩ := List.pairwise_cons.1 h
    rw [ins, List.filter_cons]
    split
    · rename_i e
      have hn : ¬ at_ w.key w.start a := ahead_not e
      rw [if_pos (by simp [hn])]
      exact ((ins_perm h2).cons a).trans (List.Perm.swap _ _ _)
    · rename_i e
      have stay : ∀ {m : List (Win α)}, (∀ b ∈ m, ahead w b = true) → m.filter (fun a => !decide (at_ w.key w.start a)) = m := fun {m} hm => List.filter_eq_self.2 fun b hb => by
        have : ¬ at_ w.key w.start b := fun hx => by
          have := hm b hb
          rw [ahead_irrefl ⟨hx.1.symm, hx.2.symm⟩] at this; cases this
        simp [this]
      split
      · rename_i e2
        have hn : ¬ at_ w.key w.start a := fun hx => by rw [ahead_irrefl ⟨hx.1.symm, hx.2.symm⟩] at e2; cases e2
        rw [if_pos (by simp [hn]), stay fun b hb => ahead_trans e2 (h1 b hb)]
      · rename_i e2
        have hs := same_place e e2
        rw [if_neg (by simp [hs]), stay fun b hb => ahead_same hs (h1 b hb)]
theorem dis_del (L : KeyL kl ok) {D : DataW α} {l : List (Win α)} (h : DIs kl D l) (ho : Oks ok l) {k : List UInt8} {s : Int} (hk : ok k s) : DIs kl (D.del (kl k s)) (l.filter (fun a => !decide (at_ k s a))) := by
  obtain ⟨E, rfl, hE⟩ := h
  refine ⟨E.filter (fun p => !p.1.sameKey (kl k s)), rfl, (hE.filter _).trans ?_⟩
  rw [List.filter_map]
  refine List.Perm.of_eq (congrArg _ (List.filter_congr fun a ha => ?_))
  have e : (dat kl a).1.sameKey (kl k s) = decide (at_ k s a) := same_kl L (ho a ha) hk
  show (!(dat kl a).1.sameKey (kl k s)) = _
  rw [e]
theorem dis_put (L : KeyL kl ok) {D : DataW α} {l : List (Win α)} (h : DIs kl D l) (ho : Oks ok l) (hr : Rise l) {w : Win α} (hw : ok w.key w.start) : DIs kl (D.put (kl w.key w.start) (.held w.agg)) (ins w l) := by
  obtain ⟨E, hD, hE⟩ := dis_del L h ho hw
  obtain ⟨E0, rfl, _⟩ := h
  have hE' : E0.filter (fun p => !p.1.sameKey (kl w.key w.start)) = E := by
    have : (DataW.map E0).del (kl w.key w.start) = .map (E0.filter fun p => !p.1.sameKey (kl w.key w.start)) := rfl
    rw [this] at hD
    exact DataW.map.inj hD
  refine ⟨DataW.insert (kl w.key w.start, .held w.agg) E, ?_, (WideShapes.insert_perm _ _).trans (((hE.cons _).trans (List.Perm.of_eq rfl)).trans ((ins_perm hr).map (dat kl)).symm)⟩
  rw [← hE']; rfl
/-- An entry that is still to come is a window of the row. -/
theorem dis_entry (L : KeyL kl ok) {D : DataW α} {l : List (Win α)} (h : DIs kl D l) (ho : Oks ok l) (hr : Rise l) {q : Lit} {y : DataW α} (hat : ∀ z, D.atKey q z = y) : ∃ w ∈ l, q = kl w.key w.start ∧ y = .held w.agg := by
  have hh := has_true_of_atKey hat
  have h' := h
  obtain ⟨E, rfl, hE⟩ := h
  rw [has_eq] at hh
  obtain ⟨p, hp, hpk⟩ := List.any_eq_true.1 hh
  obtain ⟨w, hw, rfl⟩ := List.mem_map.1 (hE.mem_iff.1 hp)
  have e : kl w.key w.start = q := WideAt.sameKey_eq hpk
  refine ⟨w, hw, e.symm, ?_⟩
  rw [← hat y, ← e]
  exact dis_at L h' ho hr (look_mem hr hw) _

/-- What a range has collected, beside what is still to come. -/
def Coll (kl : List UInt8 → Int → Lit) (l : List (Win α)) (left : Lit → Bool) (c : List (Win α)) : Prop := (c ++ l.filter (fun w => left (kl w.key w.start))).Perm l
theorem coll_start (L : KeyL kl ok) {D : DataW α} {l : List (Win α)} (h : DIs kl D l) (ho : Oks ok l) (hr : Rise l) : Coll kl l (has D) [] := by
  refine List.Perm.of_eq (List.filter_eq_self.2 fun w hw => ?_)
  rw [dis_has L h ho (ho w hw), look_mem hr hw]; rfl
theorem coll_end {l : List (Win α)} {left : Lit → Bool} {c : List (Win α)} (h : Coll kl l left c) (hl : ∀ q, left q = false) : c.Perm l := by
  unfold Coll at h
  rw [List.filter_eq_nil_iff.2 (fun w _ => by rw [hl]; simp), List.append_nil] at h
  exact h
theorem coll_step (L : KeyL kl ok) {l : List (Win α)} (ho : Oks ok l) (hr : Rise l) {left : Lit → Bool} {c : List (Win α)} (h : Coll kl l left c) {w : Win α} (hw : w ∈ l) (hl : left (kl w.key w.start) = true) :
    Coll kl l (fun z => left z && !z.sameKey (kl w.key w.start)) (c ++ [w]) := by
  refine List.Perm.trans ?_ h
  rw [List.append_assoc]
  refine List.Perm.append_left c ?_
  have aux : ∀ {m : List (Win α)}, Rise m → Oks ok m → w ∈ m → ([w] ++ m.filter (fun a => left (kl a.key a.start) && !(kl a.key a.start).sameKey (kl w.key w.start))).Perm (m.filter (fun a => left (kl a.key a.start))) := by
    intro m
    induction m with
    | nil => intro _ _ h; cases h
    | cons b m ih =>
      intro hm hom hwm
      obtain ⟨h1, h2⟩ := List.pairwise_cons.1 hm
      rcases List.mem_cons.1 hwm with rfl | hwm
      · rw [List.filter_cons, List.filter_cons, if_neg (by rw [WideAt.sameKey_self (L.key (ho w hw))]; simp), if_pos hl]
        refine List.Perm.of_eq (congrArg (w :: ·) (List.filter_congr fun a ha => ?_))
        rw [same_kl L (hom a (List.mem_cons_of_mem _ ha)) (ho w hw), decide_eq_false (fun e => ahead_not (h1 a ha) ⟨e.1.symm, e.2.symm⟩)]; simp
      · have hb : ¬ (b.key = w.key ∧ b.start = w.start) := fun e => ahead_not (h1 w hwm) e
        have ih' := ih h2 (fun a ha => hom a (List.mem_cons_of_mem _ ha)) hwm
        rw [List.filter_cons, List.filter_cons, same_kl L (hom b List.mem_cons_self) (ho w hw), decide_eq_false hb]
        by_cases e : left (kl b.key b.start) = true
        · rw [if_pos (by simp [e]), if_pos e]
          exact (List.Perm.swap _ _ _).trans (ih'.cons b)
        · rw [if_neg (by simp [e]), if_neg e]
          exact ih'
  exact aux hr ho hw
theorem coll_len {l : List (Win α)} {left : Lit → Bool} {c : List (Win α)} (h : Coll kl l left c) : c.length ≤ l.length := by
  have := h.length_eq
  rw [List.length_append] at this
  omega
theorem coll_mem {l : List (Win α)} {left : Lit → Bool} {c : List (Win α)} (h : Coll kl l left c) : ∀ w ∈ c, w ∈ l := fun _ hw => h.mem_iff.1 (List.mem_append_left _ hw)
/-- A row's windows, in whatever order, brought into their row, are the row. -/
theorem rise_perm : ∀ {l m : List (Win α)}, Rise l → Rise m → l.Perm m → l = m
  | [], m, _, _, h => (List.Perm.nil_eq h)
  | a :: l, [], _, _, h => by have := h.length_eq; simp at this
  | a :: l, b :: m, hl, hm, h => by
    obtain ⟨l1, l2⟩ := List.pairwise_cons.1 hl
    obtain ⟨m1, m2⟩ := List.pairwise_cons.1 hm
    have e : a = b := by
      rcases List.mem_cons.1 (h.mem_iff.1 List.mem_cons_self) with e | ha
      · exact e
      · rcases List.mem_cons.1 (h.mem_iff.2 List.mem_cons_self) with e | hb
        · exact e.symm
        · have x := m1 a ha
          have y := l1 b hb
          rw [ahead_asymm x] at y; cases y
    subst e
    rw [rise_perm l2 m2 (List.Perm.cons_inv h)]
end Go.Proofs.Ytmgmkdkdpeljmaa

/- A table made of low marks and entries, as plain facts. No Go program. -/
import Derived.Test.YtoofaldblldncabSeenMath
namespace Go.Proofs.Ytoofaldblldncab

/-- Whether a table may have an entry, beside its low marks. -/
def rightE (low : Nat → Int) (x : Ent) : Bool := isSrc x.src && isCode x.code && decide (low x.src.toNat ≤ x.seq) && decide (x.seq < low x.src.toNat + 16)
theorem rightE_iff {low : Nat → Int} {x : Ent} : rightE low x = true ↔ (0 ≤ x.src ∧ x.src < 4) ∧ (1 ≤ x.code ∧ x.code ≤ 4) ∧ low x.src.toNat ≤ x.seq ∧ x.seq < low x.src.toNat + 16 := by
  unfold rightE isSrc isCode
  simp only [Bool.and_eq_true, decide_eq_true_eq, and_assoc]
def e0 : Ent := ⟨0, 0, 0⟩
/-- The low mark of a row at a place. -/
def lowf (lows : List Int) (i : Nat) : Int := lows.getD i 1
def lowOk (n : Int) : Bool := decide (1 ≤ n) && decide (n ≤ 1099511627776)
theorem lowOk_iff {n : Int} : lowOk n = true ↔ 1 ≤ n ∧ n ≤ 1099511627776 := by unfold lowOk; simp
/-- Whether the entry at a place may stand there. -/
def goodB (low : Nat → Int) (l : List Ent) (i : Nat) : Bool := rightE low (l.getD i e0) && (decide (i = 0) || ahead (l.getD (i - 1) e0) (l.getD i e0))
def good (lows : List Int) (l : List Ent) : Bool := decide (lows.length = 4) && lows.all lowOk && (List.range l.length).all (goodB (lowf lows) l)
def keepE (T : Tab) (x : Ent) : Tab := upd T x.src.toNat ((T x.src.toNat).keep x.seq x.code)
def keeps (T : Tab) (l : List Ent) : Tab := l.foldl keepE T
/-- A table of these low marks, without codes; the first k alone. -/
def tabTo (lows : List Int) (k : Nat) : Tab := fun i => if i < k then ⟨lowf lows i, []⟩ else ⟨1, []⟩
def tab0 (lows : List Int) : Tab := tabTo lows 4
theorem tabTo_zero (lows : List Int) : tabTo lows 0 = new_ := rfl
theorem tabTo_succ (lows : List Int) (k : Nat) : tabTo lows (k + 1) = upd (tabTo lows k) k ⟨lowf lows k, []⟩ := by
  funext i
  unfold tabTo upd
  by_cases e : i = k
  · subst e; rw [if_pos (by omega), if_pos rfl]
  · rw [if_neg e]
    show (if i < k + 1 then (⟨lowf lows i, []⟩ : Src) else ⟨1, []⟩) = if i < k then ⟨lowf lows i, []⟩ else ⟨1, []⟩
    by_cases h : i < k
    · rw [if_pos h, if_pos (by omega)]
    · rw [if_neg h, if_neg (by omega)]
theorem tabTo_at (lows : List Int) (k : Nat) : tabTo lows k k = ⟨1, []⟩ := if_neg (Nat.lt_irrefl k)
theorem rise_new {n : Int} (h : 1 ≤ n) : (⟨1, []⟩ : Src).rise_ n = ⟨n, []⟩ := by
  unfold Src.rise_
  by_cases e : n ≤ 1
  · rw [if_pos e]
    have : n = 1 := by omega
    rw [this]
  · rw [if_neg e]; rfl
theorem tab0_ok {lows : List Int} (hl : lows.length = 4) (h : ∀ n ∈ lows, lowOk n = true) : (tab0 lows).Ok := fun i => by
  unfold tab0 tabTo
  split
  · rename_i hi
    have hm : lowf lows i ∈ lows := by
      unfold lowf
      rw [List.getD_eq_getElem?_getD, List.getElem?_eq_getElem (by omega)]
      exact List.getElem_mem _
    obtain ⟨h1, h2⟩ := lowOk_iff.1 (h _ hm)
    exact ⟨⟨h1, h2, List.Pairwise.nil, fun _ h => (by cases h), fun _ h => (by cases h), Nat.zero_le _⟩, fun _ h => (by cases h)⟩
  · exact Src.Ok.new
theorem tab0_low (lows : List Int) {i : Nat} (h : i < 4) : (tab0 lows i).low = lowf lows i := by unfold tab0 tabTo; rw [if_pos h]
theorem keepE_low (T : Tab) (x : Ent) (i : Nat) : (keepE T x i).low = (T i).low := by
  unfold keepE upd
  split
  · rename_i e
    rw [e]; rfl
  · rfl
theorem keeps_low (T : Tab) (l : List Ent) (i : Nat) : (keeps T l i).low = (T i).low := by
  unfold keeps
  induction l generalizing T with
  | nil => rfl
  | cons x l ih => rw [List.foldl_cons, ih, keepE_low]
theorem keeps_snoc (T : Tab) (l : List Ent) (x : Ent) : keeps T (l ++ [x]) = keepE (keeps T l) x := by unfold keeps; rw [List.foldl_append]; rfl
theorem keepE_ok {T : Tab} (h : T.Ok) {x : Ent} (hx : rightE (fun i => (T i).low) x = true) : (keepE T x).Ok := by
  obtain ⟨h1, h2, h3, h4⟩ := rightE_iff.1 hx
  have o := h x.src.toNat
  have lo := o.lo
  have hi := o.hi
  refine h.upd ⟨o.keep ⟨by omega, by omega⟩ h2 (by have := o.len16; omega), fun a ha => ?_⟩
  show (T x.src.toNat).low ≤ a.1 ∧ a.1 < (T x.src.toNat).low + 16
  rcases ins_mem ha with rfl | ha
  · exact ⟨h3, h4⟩
  · exact o.near a ha
theorem keeps_ok {T : Tab} (h : T.Ok) {l : List Ent} (hl : ∀ x ∈ l, rightE (fun i => (T i).low) x = true) : (keeps T l).Ok := by
  unfold keeps
  induction l generalizing T with
  | nil => exact h
  | cons x l ih =>
    rw [List.foldl_cons]
    refine ih (keepE_ok h (hl x List.mem_cons_self)) fun y hy => ?_
    have e : (fun i => (keepE T x i).low) = fun i => (T i).low := funext (keepE_low T x)
    rw [e]
    exact hl y (List.mem_cons_of_mem _ hy)
theorem goodB_low {low low' : Nat → Int} (h : ∀ i, i < 4 → low i = low' i) (x : Ent) : rightE low x = rightE low' x := by
  cases hs : isSrc x.src with
  | false => unfold rightE; rw [hs]; simp
  | true =>
    have := of_decide_eq_true hs
    have e := h x.src.toNat (by omega)
    unfold rightE
    rw [e]
/-- What one source's entries, one behind the other, come to. -/
theorem keeps_ents {U : Tab} {k : Nat} {l : Codes} : ∀ {m : Codes}, Rise (m ++ l) → (U k).codes = m → keeps U (ents k l) = upd U k ⟨(U k).low, m ++ l⟩ := by
  induction l generalizing U with
  | nil =>
    intro m _ hm
    rw [List.append_nil, ← hm]
    show U = _
    exact (upd_self U k).symm
  | cons a l ih =>
    intro m hr hm
    have e : ents k (a :: l) = ⟨(k : Int), a.1, a.2⟩ :: ents k l := rfl
    rw [e]
    show keeps (keepE U ⟨(k : Int), a.1, a.2⟩) (ents k l) = _
    have hk : keepE U ⟨(k : Int), a.1, a.2⟩ = upd U k ⟨(U k).low, m ++ [a]⟩ := by
      unfold keepE
      show upd U k ((U k).keep a.1 a.2) = _
      unfold Src.keep
      rw [hm, ins_last fun b hb => (List.pairwise_append.1 hr).2.2 b hb a List.mem_cons_self]
    have hr2 : Rise ((m ++ [a]) ++ l) := by rw [List.append_assoc]; exact hr
    rw [hk, ih hr2 (by rw [upd_same]), upd_upd, upd_same, List.append_assoc]
    rfl
theorem keeps_allTo {T : Tab} (h : T.Ok) {U : Tab} (hU : ∀ i, i < 4 → U i = ⟨(T i).low, []⟩) : ∀ {n : Nat}, n ≤ 4 → ∀ i, i < 4 → keeps U (allTo T n) i = if i < n then T i else ⟨(T i).low, []⟩
  | 0, _, i, hi => by rw [if_neg (by omega)]; exact hU i hi
  | n + 1, hn, i, hi => by
    have ih := keeps_allTo h hU (n := n) (by omega)
    have e : keeps U (allTo T (n + 1)) = keeps (keeps U (allTo T n)) (ents n (T n).codes) := by unfold keeps; rw [allTo, List.foldl_append]
    have hn' := ih n (by omega)
    rw [if_neg (Nat.lt_irrefl n)] at hn'
    rw [e, keeps_ents (m := []) (by rw [List.nil_append]; exact (h n).rise) (by rw [hn'])]
    unfold upd
    by_cases hin : i = n
    · subst hin
      rw [if_pos rfl, if_pos (by omega), hn', List.nil_append]
    · rw [if_neg hin, ih i hi]
      by_cases hl : i < n
      · rw [if_pos hl, if_pos (by omega)]
      · rw [if_neg hl, if_neg (by omega)]
theorem lowf_lows (T : Tab) {i : Nat} (h : i < 4) : lowf (lows T) i = (T i).low := by
  match i, h with
  | 0, _ => rfl
  | 1, _ => rfl
  | 2, _ => rfl
  | 3, _ => rfl
/-- A table made of a table's low marks and codes is that table. -/
theorem keeps_all {T : Tab} (h : T.Ok) {i : Nat} (hi : i < 4) : keeps (tab0 (lows T)) (all T) i = T i := by
  have := keeps_allTo h (U := tab0 (lows T)) (fun i hi => by unfold tab0 tabTo; rw [if_pos hi, lowf_lows T hi]) (n := 4) (Nat.le_refl 4) i hi
  rw [if_pos hi] at this
  exact this
theorem lows_length (T : Tab) : (lows T).length = 4 := rfl
theorem mem_lows {T : Tab} {n : Int} (h : n ∈ lows T) : ∃ i, i < 4 ∧ n = (T i).low := by
  unfold lows at h
  obtain ⟨i, hi, rfl⟩ := List.mem_map.1 h
  exact ⟨i, List.mem_range.1 hi, rfl⟩
theorem good_all {T : Tab} (h : T.Ok) : good (lows T) (all T) = true := by
  unfold good
  rw [lows_length]
  simp only [decide_true, Bool.true_and, Bool.and_eq_true, List.all_eq_true, List.mem_range]
  refine ⟨fun n hn => ?_, fun i hi => ?_⟩
  · obtain ⟨i, hi, rfl⟩ := mem_lows hn
    exact lowOk_iff.2 ⟨(h i).lo, (h i).hi⟩
  · have hm : ∀ j, j < (all T).length → (all T).getD j e0 ∈ all T := fun j hj => by
      rw [List.getD_eq_getElem?_getD, List.getElem?_eq_getElem hj]
      exact List.getElem_mem hj
    unfold goodB
    rw [Bool.and_eq_true]
    refine ⟨?_, ?_⟩
    · have hx := mem_allTo.1 (hm i hi)
      generalize (all T).getD i e0 = x at *
      have hs : x.src.toNat < 4 := by omega
      have o := h x.src.toNat
      have hn := o.near _ hx.2.2
      have hc := o.code _ hx.2.2
      refine rightE_iff.2 ⟨⟨hx.1, by omega⟩, hc, ?_, ?_⟩
      · rw [lowf_lows T hs]; exact hn.1
      · rw [lowf_lows T hs]; exact hn.2
    · rw [Bool.or_eq_true, decide_eq_true_eq]
      by_cases e : i = 0
      · exact .inl e
      · refine .inr ?_
        have hr := all_rise h
        rw [List.getD_eq_getElem?_getD, List.getElem?_eq_getElem (by omega), List.getD_eq_getElem?_getD, List.getElem?_eq_getElem hi]
        exact List.pairwise_iff_getElem.1 hr (i - 1) i (by omega) hi (by omega)
end Go.Proofs.Ytoofaldblldncab

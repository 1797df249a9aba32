/- The document's table, as plain facts: low marks, and all that was ever noted; beside a table of codes. No Go program. -/
import Derived.Test.YtoofaldblldncaaOfMath
namespace Go.Proofs.Ytoofaldblldncaa

/-- The document's table. -/
structure RefS where
  low : Nat → Int
  l : List Ent
def rlook : List Ent → Int → Int → Option Int
  | [], _, _ => none
  | x :: l, s, q => if x.src = s ∧ x.seq = q then some x.code else rlook l s q
def rask (W : RefS) (src seq low : Int) : Int × Int :=
  if may src seq low = true then
    if seq < W.low src.toNat then (1, 0) else match rlook W.l src seq with
      | some c => (2, c)
      | none => (3, 0)
  else (0, 0)
def rnoteE (W : RefS) (src seq low code : Int) : Int :=
  if (rask W src seq low).1 = 0 ∨ isCode code = false then 1 else if (rask W src seq low).1 = 1 then 12 else if (rask W src seq low).1 = 2 then 5 else 0
def rlow (W : RefS) (src low : Int) : Nat → Int := fun i => if i = src.toNat then (if W.low i < low then low else W.low i) else W.low i
def rnote (W : RefS) (src seq low code : Int) : RefS := if rnoteE W src seq low code = 0 then ⟨rlow W src low, W.l ++ [⟨src, seq, code⟩]⟩ else W
def live (W : RefS) : List Ent := W.l.filter fun x => decide (W.low x.src.toNat ≤ x.seq)
/-- An entry stands behind another one. -/
def over (x y : Ent) : Bool := decide (y.src < x.src ∨ x.src = y.src ∧ y.seq < x.seq)
/-- From which place on the first n of a row stand behind x. -/
def cutAt (out : List Ent) (x : Ent) : Nat → Nat
  | 0 => 0
  | n + 1 => if over (out.getD n e0) x = true then cutAt out x n else n + 1
def rins (out : List Ent) (x : Ent) : List Ent := out.take (cutAt out x out.length) ++ x :: out.drop (cutAt out x out.length)
def rall (l : List Ent) : List Ent := l.foldl rins []
theorem rlook_some {l : List Ent} {s q c : Int} (h : rlook l s q = some c) : (⟨s, q, c⟩ : Ent) ∈ l := by
  induction l with
  | nil => cases h
  | cons x l ih =>
    rw [rlook] at h
    split at h
    · rename_i e
      cases h
      rw [show (⟨s, q, x.code⟩ : Ent) = x from ent_ext e.1.symm e.2.symm rfl]
      exact List.mem_cons_self
    · exact List.mem_cons_of_mem _ (ih h)
/-- No item is there twice. -/
def Once (l : List Ent) : Prop := l.Pairwise fun x y => ¬ (x.src = y.src ∧ x.seq = y.seq)
theorem rlook_mem {l : List Ent} (ho : Once l) {x : Ent} (h : x ∈ l) : rlook l x.src x.seq = some x.code := by
  induction l with
  | nil => cases h
  | cons y l ih =>
    obtain ⟨h1, h2⟩ := List.pairwise_cons.1 ho
    rw [rlook]
    rcases List.mem_cons.1 h with rfl | h
    · rw [if_pos ⟨rfl, rfl⟩]
    · rw [if_neg (h1 x h)]
      exact ih h2 h
theorem rlook_none {l : List Ent} {s q : Int} (h : rlook l s q = none) : ∀ x ∈ l, ¬ (x.src = s ∧ x.seq = q) := by
  induction l with
  | nil => intro x hx; cases hx
  | cons y l ih =>
    rw [rlook] at h
    split at h
    · cases h
    · rename_i e
      intro x hx
      rcases List.mem_cons.1 hx with rfl | hx
      · exact e
      · exact ih h x hx
/-- A table and the document's. -/
structure Rel (T : Tab) (W : RefS) : Prop where
  low : ∀ i, i < 4 → W.low i = (T i).low
  perm : (live W).Perm (all T)
  src : ∀ x ∈ W.l, 0 ≤ x.src ∧ x.src < 4
  once : Once W.l
theorem rel_mem {T : Tab} {W : RefS} (h : Rel T W) {x : Ent} (hs : 0 ≤ x.src ∧ x.src < 4) (hl : (T x.src.toNat).low ≤ x.seq) : x ∈ W.l ↔ (x.seq, x.code) ∈ (T x.src.toNat).codes := by
  have h1 : x ∈ live W ↔ x ∈ all T := h.perm.mem_iff
  have h2 : x ∈ live W ↔ x ∈ W.l := by
    unfold live
    rw [List.mem_filter, h.low _ (by omega)]
    exact ⟨fun h => h.1, fun h => ⟨h, decide_eq_true hl⟩⟩
  rw [← h2, h1]
  unfold all
  rw [mem_allTo]
  exact ⟨fun h => h.2.2, fun h => ⟨hs.1, by omega, h⟩⟩
theorem rel_look {T : Tab} {W : RefS} (h : Rel T W) (hT : T.Ok) {src seq : Int} (hs : 0 ≤ src ∧ src < 4) (hl : (T src.toNat).low ≤ seq) : rlook W.l src seq = look (T src.toNat).codes seq := by
  cases hx : look (T src.toNat).codes seq with
  | some c =>
    have hm : (⟨src, seq, c⟩ : Ent) ∈ W.l := (rel_mem h (x := ⟨src, seq, c⟩) hs hl).2 (look_some hx)
    exact rlook_mem h.once hm
  | none =>
    cases hy : rlook W.l src seq with
    | none => rfl
    | some c =>
      have hm := (rel_mem h (x := ⟨src, seq, c⟩) hs hl).1 (rlook_some hy)
      exact absurd (look_mem (a := (seq, c)) (hT src.toNat).rise hm) (by simp only; rw [hx]; simp)
theorem rel_ask {T : Tab} {W : RefS} (h : Rel T W) (hT : T.Ok) (src seq low : Int) : rask W src seq low = ask T src seq low := by
  unfold rask ask
  split
  · rename_i hm
    have hs := may_iff.1 hm
    unfold Src.ask
    rw [h.low _ (by omega)]
    split
    · rfl
    · rename_i hn
      rw [rel_look h hT ⟨hs.1, hs.2.1⟩ (by omega)]
      cases look (T src.toNat).codes seq <;> rfl
  · rfl
theorem rel_noteE {T : Tab} {W : RefS} (h : Rel T W) (hT : T.Ok) (src seq low code : Int) : rnoteE W src seq low code = noteE T src seq low code := by
  unfold rnoteE noteE
  rw [rel_ask h hT]
theorem riseE_once {l : List Ent} (h : RiseE l) : Once l := h.imp fun hab e => by
  have := ahead_iff.1 hab
  omega
theorem once_of_perm {l m : List Ent} (h : Once l) (p : l.Perm m) : Once m :=
  (p.pairwise_iff (R := fun x y : Ent => ¬ (x.src = y.src ∧ x.seq = y.seq)) (fun h e => h ⟨e.1.symm, e.2.symm⟩)).1 h
theorem once_nodup {l : List Ent} (h : Once l) : l.Nodup := h.imp fun hab e => hab (by rw [e]; exact ⟨rfl, rfl⟩)
theorem once_perm {l m : List Ent} (h : Once l) (k : Once m) (e : ∀ x, x ∈ l ↔ x ∈ m) : l.Perm m := (List.perm_ext_iff_of_nodup (once_nodup h) (once_nodup k)).2 e
theorem once_filter {l : List Ent} (h : Once l) (p : Ent → Bool) : Once (l.filter p) := h.sublist List.filter_sublist
theorem noted_low {T : Tab} {src seq low code : Int} (i : Nat) : (noted T src seq low code i).low = if i = src.toNat then (if (T i).low < low then low else (T i).low) else (T i).low := by
  unfold noted upd
  split
  · rename_i e
    rw [e]
    unfold Src.rise_
    split
    · rename_i h
      have h' : low ≤ (T src.toNat).low := h
      rw [if_neg (by omega)]; rfl
    · rename_i h
      have h' : ¬ low ≤ (T src.toNat).low := h
      rw [if_pos (by omega)]
  · rfl
theorem rel_note {T : Tab} {W : RefS} (h : Rel T W) (hT : T.Ok) (src seq low code : Int) : Rel (note T src seq low code) (rnote W src seq low code) := by
  unfold note rnote
  rw [rel_noteE h hT]
  split
  · rename_i e
    obtain ⟨h1, h2, h3, h4⟩ := noteE_zero.1 e
    have hm := may_iff.1 h1
    have hs : 0 ≤ src ∧ src < 4 := ⟨hm.1, hm.2.1⟩
    have hnew : ∀ x ∈ W.l, ¬ (x.src = src ∧ x.seq = seq) := rlook_none (by rw [rel_look h hT hs h3]; exact h4)
    have honce : Once (W.l ++ [⟨src, seq, code⟩]) := List.pairwise_append.2 ⟨h.once, List.pairwise_singleton _ _, fun x hx y hy => by
      rw [List.mem_singleton.1 hy]; exact hnew x hx⟩
    have hok : (noted T src seq low code).Ok := by
      have := note_ok hT src seq low code
      unfold note at this
      rwa [if_pos e] at this
    have hlow : ∀ i, i < 4 → rlow W src low i = (noted T src seq low code i).low := fun i hi => by
      rw [noted_low]
      unfold rlow
      rw [h.low i hi]
    refine ⟨hlow, ?_, fun x hx => ?_, honce⟩
    · refine once_perm (once_filter honce _) (riseE_once (all_rise hok)) fun x => ?_
      unfold live
      rw [List.mem_filter, decide_eq_true_eq]
      unfold all
      rw [mem_allTo]
      by_cases hx : 0 ≤ x.src ∧ x.src < 4
      · show (x ∈ W.l ++ [⟨src, seq, code⟩] ∧ rlow W src low x.src.toNat ≤ x.seq) ↔ _
        rw [hlow _ (by omega)]
        have key : ∀ c q, (q, c) ∈ (noted T src seq low code x.src.toNat).codes ↔ ((x.src = src ∧ q = seq ∧ c = code) ∨ (q, c) ∈ (T x.src.toNat).codes ∧ ¬ (x.src = src ∧ q = seq)) ∧ (noted T src seq low code x.src.toNat).low ≤ q := fun c q => by
          unfold noted upd
          by_cases es : x.src.toNat = src.toNat
          · have es' : x.src = src := by omega
            rw [if_pos es]
            have hr := (hT src.toNat).rise
            unfold Src.rise_
            by_cases hl : low ≤ ((T src.toNat).keep seq code).low
            · rw [if_pos hl]
              show (q, c) ∈ ins seq code (T src.toNat).codes ↔ _ ∧ (T src.toNat).low ≤ q
              rw [mem_ins hr, es, es']
              simp only [Prod.mk.injEq, true_and, ne_eq]
              constructor
              · intro hh
                refine ⟨hh, ?_⟩
                rcases hh with ⟨rfl, _⟩ | ⟨hh, _⟩
                · exact h3
                · exact ((hT src.toNat).near _ hh).1
              · exact fun hh => hh.1
            · rw [if_neg hl]
              show (q, c) ∈ (ins seq code (T src.toNat).codes).filter (fun a => decide (low ≤ a.1)) ↔ _ ∧ low ≤ q
              rw [List.mem_filter, mem_ins hr, es, es', decide_eq_true_eq]
              simp only [Prod.mk.injEq, true_and, ne_eq]
          · have es' : ¬ x.src = src := fun e => es (by rw [e])
            rw [if_neg es]
            simp only [es', false_and, not_false_eq_true, and_true, false_or]
            exact ⟨fun hh => ⟨hh, ((hT x.src.toNat).near _ hh).1⟩, fun hh => hh.1⟩
        rw [key]
        constructor
        · rintro ⟨hx1, hx2⟩
          refine ⟨hx.1, by omega, ?_, hx2⟩
          rcases List.mem_append.1 hx1 with hx1 | hx1
          · right
            have hlo : (T x.src.toNat).low ≤ x.seq := by
              rw [noted_low] at hx2
              split at hx2
              · split at hx2 <;> omega
              · exact hx2
            exact ⟨(rel_mem h hx hlo).1 hx1, hnew x hx1⟩
          · left
            have := List.mem_singleton.1 hx1
            rw [this]; exact ⟨rfl, rfl, rfl⟩
        · rintro ⟨_, _, hh, hx2⟩
          refine ⟨?_, hx2⟩
          rcases hh with ⟨a1, a2, a3⟩ | ⟨hh, _⟩
          · exact List.mem_append_right _ (List.mem_singleton.2 (ent_ext a1 a2 a3))
          · exact List.mem_append_left _ ((rel_mem h hx ((hT x.src.toNat).near _ hh).1).2 hh)
      · constructor
        · rintro ⟨hx1, _⟩
          exfalso
          rcases List.mem_append.1 hx1 with hx1 | hx1
          · exact hx (h.src x hx1)
          · rw [List.mem_singleton.1 hx1] at hx; exact hx hs
        · rintro ⟨a1, a2, _⟩
          exact absurd ⟨a1, by omega⟩ hx
    · rcases List.mem_append.1 hx with hx | hx
      · exact h.src x hx
      · rw [List.mem_singleton.1 hx]; exact hs
  · exact h
theorem rel_new : Rel new_ ⟨fun _ => 1, []⟩ := ⟨fun _ _ => rfl, List.Perm.of_eq rfl, fun _ h => by (cases h), List.Pairwise.nil⟩
theorem over_iff {x y : Ent} : over x y = true ↔ y.src < x.src ∨ x.src = y.src ∧ y.seq < x.seq := by unfold over; simp
theorem cutAt_le (out : List Ent) (x : Ent) (n : Nat) : cutAt out x n ≤ n := by
  induction n with
  | zero => exact Nat.le_refl _
  | succ n ih =>
    rw [cutAt]
    split
    · omega
    · exact Nat.le_refl _
theorem cutAt_over (out : List Ent) (x : Ent) (n : Nat) : ∀ j, cutAt out x n ≤ j → j < n → over (out.getD j e0) x = true := by
  induction n with
  | zero => intro j _ h; omega
  | succ n ih =>
    intro j h1 h2
    rw [cutAt] at h1
    split at h1
    · rename_i e
      by_cases hj : j = n
      · rw [hj]; exact e
      · exact ih j h1 (by omega)
    · omega
theorem cutAt_not (out : List Ent) (x : Ent) (n : Nat) : 0 < cutAt out x n → ¬ over (out.getD (cutAt out x n - 1) e0) x = true := by
  induction n with
  | zero => intro h; exact absurd h (Nat.lt_irrefl 0)
  | succ n ih =>
    rw [cutAt]
    split
    · exact ih
    · rename_i e
      intro _
      exact e
theorem getD_mem {l : List Ent} {j : Nat} (h : j < l.length) : l.getD j e0 ∈ l := by
  rw [List.getD_eq_getElem?_getD, List.getElem?_eq_getElem h]
  exact List.getElem_mem h
theorem rins_perm (out : List Ent) (x : Ent) : (rins out x).Perm (x :: out) := by
  unfold rins
  refine List.perm_middle.trans ?_
  rw [List.take_append_drop]
theorem rins_rise {out : List Ent} {x : Ent} (h : RiseE out) (hx : ∀ y ∈ out, ¬ (y.src = x.src ∧ y.seq = x.seq)) : RiseE (rins out x) := by
  unfold rins
  obtain ⟨c, hc⟩ : ∃ c, c = cutAt out x out.length := ⟨_, rfl⟩
  have hle := cutAt_le out x out.length
  have hov := cutAt_over out x out.length
  have hno := cutAt_not out x out.length
  rw [← hc] at hle hov hno ⊢
  have hr := List.pairwise_iff_getElem.1 h
  have hlast : ∀ y ∈ out.take c, ahead y x = true := fun y hy => by
    obtain ⟨i, hi, rfl⟩ := List.mem_iff_getElem.1 hy
    rw [List.length_take] at hi
    have hi2 : i < c := by omega
    rw [List.getElem_take]
    have hc1 := hno (by omega)
    have hin : c - 1 < out.length := by omega
    rw [List.getD_eq_getElem?_getD, List.getElem?_eq_getElem hin, Option.getD_some, over_iff] at hc1
    have hne := hx _ (List.getElem_mem hin)
    have h1 : ahead out[c - 1] x = true := ahead_iff.2 (by omega)
    by_cases e : i = c - 1
    · subst e; exact h1
    · have h2 := hr i (c - 1) (by omega) hin (by omega)
      have a1 := ahead_iff.1 h1
      have a2 := ahead_iff.1 h2
      exact ahead_iff.2 (by omega)
  have hfirst : ∀ y ∈ out.drop c, ahead x y = true := fun y hy => by
    obtain ⟨i, hi, rfl⟩ := List.mem_iff_getElem.1 hy
    rw [List.length_drop] at hi
    rw [List.getElem_drop]
    have := hov (c + i) (by omega) (by omega)
    rw [List.getD_eq_getElem?_getD, List.getElem?_eq_getElem (by omega), Option.getD_some, over_iff] at this
    exact ahead_iff.2 (by omega)
  refine List.pairwise_append.2 ⟨h.sublist (List.take_sublist _ _), List.pairwise_cons.2 ⟨hfirst, h.sublist (List.drop_sublist _ _)⟩, fun y hy z hz => ?_⟩
  have a1 := ahead_iff.1 (hlast y hy)
  rcases List.mem_cons.1 hz with rfl | hz
  · exact hlast y hy
  · have a2 := ahead_iff.1 (hfirst z hz)
    exact ahead_iff.2 (by omega)
theorem rall_snoc (l : List Ent) (x : Ent) : rall (l ++ [x]) = rins (rall l) x := by unfold rall; rw [List.foldl_append]; rfl
theorem rall_is {l : List Ent} (h : Once l) : RiseE (rall l) ∧ (rall l).Perm l := by
  have key : ∀ (l out : List Ent), RiseE out → Once (l.reverse ++ out) → RiseE (l.foldl rins out) ∧ (l.foldl rins out).Perm (l ++ out) := fun l => by
    induction l with
    | nil => intro out hr _; exact ⟨hr, List.Perm.refl _⟩
    | cons x l ih =>
      intro out hr ho
      rw [List.foldl_cons]
      have ho2 : Once (x :: (l ++ out)) := once_of_perm ho (List.Perm.append_right out (List.reverse_perm (x :: l)))
      obtain ⟨h1, h2⟩ := List.pairwise_cons.1 ho2
      have hp : (l ++ rins out x).Perm (x :: (l ++ out)) := ((rins_perm out x).append_left l).trans List.perm_middle
      have ho3 : Once (l.reverse ++ rins out x) := once_of_perm ho2 ((List.Perm.append_right _ (List.reverse_perm l)).trans hp).symm
      obtain ⟨i1, i2⟩ := ih (rins out x) (rins_rise hr fun y hy e => h1 y (List.mem_append_right _ hy) ⟨e.1.symm, e.2.symm⟩) ho3
      exact ⟨i1, i2.trans hp⟩
  have ho : Once (l.reverse ++ []) := by
    rw [List.append_nil]
    exact once_of_perm h (List.reverse_perm l).symm
  have := key l [] List.Pairwise.nil ho
  rw [List.append_nil] at this
  exact this
/-- What the document tells as All is the table's. -/
theorem rel_all {T : Tab} {W : RefS} (h : Rel T W) (hT : T.Ok) : rall (live W) = all T := by
  obtain ⟨h1, h2⟩ := rall_is (once_filter h.once _ : Once (live W))
  exact riseE_perm h1 (all_rise hT) (h2.trans h.perm)
theorem rall_len {l : List Ent} : (rall l).length = l.length := by
  have key : ∀ (l out : List Ent), (l.foldl rins out).length = l.length + out.length := fun l => by
    induction l with
    | nil => intro out; simp
    | cons x l ih =>
      intro out
      rw [List.foldl_cons, ih, (rins_perm out x).length_eq]
      simp only [List.length_cons]; omega
  exact key l []
/-- The entries of a good row rise. -/
theorem good_rise {lows : List Int} {l : List Ent} (h : good lows l = true) : RiseE l := by
  unfold good at h
  simp only [Bool.and_eq_true, List.all_eq_true, List.mem_range, decide_eq_true_eq] at h
  have step : ∀ i, i + 1 < l.length → ahead (l.getD i e0) (l.getD (i + 1) e0) = true := fun i hi => by
    have := h.2 (i + 1) hi
    unfold goodB at this
    rw [Bool.and_eq_true, Bool.or_eq_true, decide_eq_true_eq] at this
    rcases this.2 with e | e
    · omega
    · exact e
  refine List.pairwise_iff_getElem.2 fun i j hi hj hij => ?_
  have key : ∀ n, i + 1 + n < l.length → ahead (l.getD i e0) (l.getD (i + 1 + n) e0) = true := fun n => by
    induction n with
    | zero => intro hn; exact step i hn
    | succ n ih =>
      intro hn
      have a1 := ahead_iff.1 (ih (by omega))
      have a2 := ahead_iff.1 (step (i + 1 + n) (by omega))
      exact ahead_iff.2 (by rw [show i + 1 + (n + 1) = i + 1 + n + 1 by omega]; omega)
  have := key (j - i - 1) (by omega)
  rw [show i + 1 + (j - i - 1) = j by omega, List.getD_eq_getElem?_getD, List.getElem?_eq_getElem hi, List.getD_eq_getElem?_getD, List.getElem?_eq_getElem hj] at this
  exact this
theorem good_right {lows : List Int} {l : List Ent} (h : good lows l = true) : ∀ x ∈ l, rightE (lowf lows) x = true := fun x hx => by
  unfold good at h
  simp only [Bool.and_eq_true, List.all_eq_true, List.mem_range, decide_eq_true_eq] at h
  obtain ⟨i, hi, rfl⟩ := List.mem_iff_getElem.1 hx
  have := h.2 i hi
  unfold goodB at this
  rw [Bool.and_eq_true, List.getD_eq_getElem?_getD, List.getElem?_eq_getElem hi] at this
  exact this.1
theorem good_ok {lows : List Int} {l : List Ent} (h : good lows l = true) : (keeps (tab0 lows) l).Ok := by
  have hr := good_right h
  unfold good at h
  simp only [Bool.and_eq_true, List.all_eq_true, decide_eq_true_eq] at h
  refine keeps_ok (tab0_ok h.1.1 h.1.2) fun x hx => ?_
  rw [← hr x hx]
  exact goodB_low (fun i hi => tab0_low lows hi) x
theorem keeps_codes {U : Tab} (hU : ∀ i, (U i).codes = []) : ∀ {l : List Ent}, RiseE l → (∀ x ∈ l, 0 ≤ x.src) → ∀ i, (keeps U l i).codes = (l.filter fun x => decide (x.src.toNat = i)).map fun x => (x.seq, x.code) := fun {l} => by
  have key : ∀ n, n ≤ l.length → RiseE l → (∀ x ∈ l, 0 ≤ x.src) → ∀ i, (keeps U (l.take n) i).codes = ((l.take n).filter fun x => decide (x.src.toNat = i)).map fun x => (x.seq, x.code) := fun n => by
    induction n with
    | zero => intro _ _ _ i; rw [List.take_zero]; exact hU i
    | succ n ih =>
      intro hn hr hs i
      have ih' := ih (by omega) hr hs
      obtain ⟨x, hx⟩ : ∃ x, l[n]? = some x := ⟨_, List.getElem?_eq_getElem (by omega)⟩
      have hxe : l[n] = x := by
        have := List.getElem?_eq_getElem (l := l) (i := n) (by omega)
        rw [this] at hx; exact Option.some.inj hx
      have ts : l.take (n + 1) = l.take n ++ [x] := by rw [← hxe]; exact List.take_succ_eq_append_getElem (by omega)
      rw [ts, keeps_snoc, List.filter_append, List.map_append]
      unfold keepE upd
      by_cases e : i = x.src.toNat
      · subst e
        rw [if_pos rfl]
        show ins x.seq x.code (keeps U (l.take n) x.src.toNat).codes = _
        rw [ih', ins_last fun a ha => ?_]
        · simp
        · obtain ⟨y, hy, rfl⟩ := List.mem_map.1 ha
          obtain ⟨hy1, hy2⟩ := List.mem_filter.1 hy
          obtain ⟨j, hj, rfl⟩ := List.mem_iff_getElem.1 hy1
          rw [List.length_take] at hj
          have hlt := List.pairwise_iff_getElem.1 hr j n (by omega) (by omega) (by omega)
          rw [hxe] at hlt
          have a1 := ahead_iff.1 hlt
          rw [List.getElem_take] at hy2 ⊢
          have h1 := of_decide_eq_true hy2
          have h2 := hs l[j] (List.getElem_mem _)
          have h3 := hs x (by rw [← hxe]; exact List.getElem_mem _)
          show l[j].seq < x.seq
          omega
      · rw [if_neg e, ih', List.filter_cons, if_neg (by simp; omega)]
        simp
  intro hr hs i
  have := key l.length (Nat.le_refl _) hr hs i
  rw [List.take_length] at this
  exact this
/-- A table made of a good row, and the document's. -/
theorem rel_of {lows : List Int} {l : List Ent} (h : good lows l = true) : Rel (keeps (tab0 lows) l) ⟨lowf lows, l⟩ := by
  have hr := good_rise h
  have hk := good_ok h
  have hg := good_right h
  have hlow : ∀ i, i < 4 → lowf lows i = (keeps (tab0 lows) l i).low := fun i hi => by rw [keeps_low, tab0_low lows hi]
  refine ⟨hlow, ?_, fun x hx => (rightE_iff.1 (hg x hx)).1, riseE_once hr⟩
  have hlive : live ⟨lowf lows, l⟩ = l := List.filter_eq_self.2 fun x hx => decide_eq_true (rightE_iff.1 (hg x hx)).2.2.1
  rw [hlive]
  refine once_perm (riseE_once hr) (riseE_once (all_rise hk)) fun x => ?_
  unfold all
  have hc := keeps_codes (U := tab0 lows) (fun i => by unfold tab0 tabTo; split <;> rfl) hr fun x hx => (rightE_iff.1 (hg x hx)).1.1
  rw [mem_allTo]
  constructor
  · intro hx
    have := (rightE_iff.1 (hg x hx)).1
    refine ⟨this.1, by omega, ?_⟩
    rw [hc]
    exact List.mem_map.2 ⟨x, List.mem_filter.2 ⟨hx, by simp⟩, rfl⟩
  · rintro ⟨h1, h2, h3⟩
    rw [hc] at h3
    obtain ⟨y, hy, e⟩ := List.mem_map.1 h3
    obtain ⟨hy1, hy2⟩ := List.mem_filter.1 hy
    simp only [Prod.mk.injEq] at e
    have h5 := of_decide_eq_true hy2
    have h6 := (rightE_iff.1 (hg y hy1)).1
    have : y = x := ent_ext (by omega) e.1 e.2
    rw [← this]; exact hy1
end Go.Proofs.Ytoofaldblldncaa

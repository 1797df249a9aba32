/- A line as plain data: a mark, and windows under it; what Put, Mark and Of do to it, and what follows of that. No Go. -/
import Derived.Test.YtmgmkdkdpeljmaaLaw
namespace Go.Proofs.Ytmgmkdkdpeljmaa
structure LineV where
  mark : Int
  row : List (Win AggV)
/-- What a line always is. -/
structure GoodL (L : LineV) : Prop where
  good : Good SO L.row
  right : Sp.rightI L.mark = true
  young : ∀ a ∈ L.row, Sp.overI a.start L.mark = false
def newL : LineV := ⟨0, []⟩
def putL (L : LineV) (k : List UInt8) (a v : Int) : LineV × Nat :=
  if keyOk k = true ∧ Sp.rightI a = true then
    if Sp.lateI a L.mark = true then (L, 2) else if (putS SO L.row k a v).2 = 0 then (⟨L.mark, (putS SO L.row k a v).1⟩, 1) else (L, 3)
  else (L, 4)
def markL (L : LineV) (a : Int) : LineV × Nat × List (Win AggV) :=
  if Sp.rightI a = true then if a ≤ L.mark then (L, 1, []) else (⟨a, (takeS SO L.row a).1⟩, 1, (takeS SO L.row a).2) else (L, 4, [])
/-- Windows set one behind the other, till one can't be. -/
def setAll (m : Int) : List (Win AggV) → List (Win AggV) → List (Win AggV) × Nat
  | r, [] => (r, 0)
  | r, x :: xs => if Sp.overI x.start m = true then (r, 12) else if (setS SO r x).2 = 0 then setAll m (setS SO r x).1 xs else (r, (setS SO r x).2)
def ofL (m : Int) (o : List (Win AggV)) : LineV × Nat := if Sp.rightI m = true then (⟨m, (setAll m [] o).1⟩, (setAll m [] o).2) else (newL, 1)
theorem goodL_new : GoodL newL := ⟨good_nil, by decide, fun a h => by cases h⟩
theorem putL_ways (L : LineV) (k : List UInt8) (a v : Int) :
    (¬ (keyOk k = true ∧ Sp.rightI a = true) ∧ putL L k a v = (L, 4)) ∨
    ((keyOk k = true ∧ Sp.rightI a = true) ∧ ((Sp.lateI a L.mark = true ∧ putL L k a v = (L, 2)) ∨
      (Sp.lateI a L.mark = false ∧ (((putS SO L.row k a v).2 = 0 ∧ putL L k a v = (⟨L.mark, (putS SO L.row k a v).1⟩, 1)) ∨ (¬ (putS SO L.row k a v).2 = 0 ∧ putL L k a v = (L, 3)))))) := by
  unfold putL
  by_cases h : keyOk k = true ∧ Sp.rightI a = true
  · refine .inr ⟨h, ?_⟩
    rw [if_pos h]
    cases hl : Sp.lateI a L.mark with
    | true => exact .inl ⟨rfl, if_pos rfl⟩
    | false =>
      refine .inr ⟨rfl, ?_⟩
      rw [if_neg (by simp)]
      by_cases h0 : (putS SO L.row k a v).2 = 0
      · exact .inl ⟨h0, if_pos h0⟩
      · exact .inr ⟨h0, if_neg h0⟩
  · exact .inl ⟨h, if_neg h⟩
theorem markL_ways (L : LineV) (a : Int) :
    (Sp.rightI a = false ∧ markL L a = (L, 4, [])) ∨ (Sp.rightI a = true ∧ ((a ≤ L.mark ∧ markL L a = (L, 1, [])) ∨ (¬ a ≤ L.mark ∧ markL L a = (⟨a, (takeS SO L.row a).1⟩, 1, (takeS SO L.row a).2)))) := by
  unfold markL
  cases h : Sp.rightI a with
  | false => exact .inl ⟨rfl, if_neg (by simp)⟩
  | true =>
    refine .inr ⟨rfl, ?_⟩
    rw [if_pos rfl]
    by_cases h0 : a ≤ L.mark
    · exact .inl ⟨h0, if_pos h0⟩
    · exact .inr ⟨h0, if_neg h0⟩
theorem put_mem {l : List (Win AggV)} {k : List UInt8} {a v : Int} {b : Win AggV} (hb : b ∈ (putS SO l k a v).1) : b ∈ l ∨ (b.key = k ∧ b.start = Sp.startI a) := by
  rcases put_ways (O := SO) l k a v with ⟨_, e⟩ | ⟨hk, ⟨x, hx, e⟩ | ⟨hx, ⟨_, e⟩ | ⟨hl, e⟩⟩⟩
  · rw [e] at hb; exact .inl hb
  · rw [e] at hb
    rcases ins_mem hb with rfl | hb
    · exact .inr ⟨rfl, rfl⟩
    · exact .inl hb
  · rw [e] at hb; exact .inl hb
  · rw [e] at hb
    rcases ins_mem hb with rfl | hb
    · exact .inr ⟨rfl, rfl⟩
    · exact .inl hb
theorem goodL_put {L : LineV} (h : GoodL L) {k : List UInt8} {a v : Int} (hv : i64 v) : GoodL (putL L k a v).1 := by
  rcases putL_ways L k a v with ⟨_, e⟩ | ⟨_, ⟨_, e⟩ | ⟨hl, ⟨_, e⟩ | ⟨_, e⟩⟩⟩
  · rw [e]; exact h
  · rw [e]; exact h
  · rw [e]
    refine ⟨put_good so_law h.good hv, h.right, fun b hb => ?_⟩
    rcases put_mem hb with hb | ⟨_, hs⟩
    · exact h.young b hb
    · show Sp.overI b.start L.mark = false
      rw [hs]; exact hl
  · rw [e]; exact h
theorem goodL_mark {L : LineV} (h : GoodL L) (a : Int) : GoodL (markL L a).1 := by
  rcases markL_ways L a with ⟨_, e⟩ | ⟨hr, ⟨_, e⟩ | ⟨_, e⟩⟩
  · rw [e]; exact h
  · rw [e]; exact h
  · rw [e]; exact ⟨(take_good h.good a).1, hr, fun b hb => take_over.2 hb⟩
theorem markL_told {L : LineV} {a : Int} : ∀ b ∈ (markL L a).2.2, Sp.overI b.start (markL L a).1.mark = true := by
  rcases markL_ways L a with ⟨_, e⟩ | ⟨hr, ⟨_, e⟩ | ⟨_, e⟩⟩
  · rw [e]; intro b hb; cases hb
  · rw [e]; intro b hb; cases hb
  · rw [e]; exact fun b hb => take_over.1 hb
theorem markL_len {L : LineV} {a : Int} : (markL L a).2.2.length + (markL L a).1.row.length = L.row.length := by
  rcases markL_ways L a with ⟨_, e⟩ | ⟨hr, ⟨_, e⟩ | ⟨_, e⟩⟩
  · rw [e]; exact Nat.zero_add _
  · rw [e]; exact Nat.zero_add _
  · rw [e]; exact take_len _ _
/-- A later window stands at the end. -/
theorem ins_last {w : Win AggV} : ∀ {l : List (Win AggV)}, (∀ a ∈ l, ahead a w = true) → ins w l = l ++ [w]
  | [], _ => rfl
  | a :: l, h => by
    rw [ins, if_pos (h a List.mem_cons_self), ins_last (fun b hb => h b (List.mem_cons_of_mem _ hb))]
    rfl
theorem good_take {l : List (Win AggV)} (h : Good SO l) (n : Nat) : Good SO (l.take n) :=
  ⟨h.rise.sublist (List.take_sublist n l), Nat.le_trans (by rw [List.length_take]; omega) h.most, fun a ha => h.all a (List.mem_of_mem_take ha)⟩
theorem set_last {l : List (Win AggV)} (h : Good SO l) {j : Nat} {x : Win AggV} (hx : l[j]? = some x) : setS SO (l.take j) x = (l.take (j + 1), 0) := by
  obtain ⟨hj, rfl⟩ := List.getElem?_eq_some_iff.1 hx
  have hsplit : l = l.take j ++ l[j] :: l.drop (j + 1) := by rw [← List.drop_eq_getElem_cons hj, List.take_append_drop]
  have hr := h.rise
  have hah : ∀ a ∈ l.take j, ahead a l[j] = true := by
    have hr' : Rise (l.take j ++ l[j] :: l.drop (j + 1)) := by rw [← hsplit]; exact hr
    exact fun a ha => (List.pairwise_append.1 hr').2.2 a ha l[j] List.mem_cons_self
  have hn : look (l.take j) l[j].key l[j].start = none := look_none (fun b hb => ahead_not (hah b hb))
  have hl : ¬ 32 ≤ (l.take j).length := by have := h.most; rw [List.length_take]; omega
  unfold setS
  rw [if_pos (h.all _ (List.getElem_mem hj)), hn, if_neg (by simp), if_neg hl, ins_last hah, List.take_succ_eq_append_getElem hj]
theorem setAll_drop {m : Int} {l : List (Win AggV)} (h : Good SO l) (hy : ∀ a ∈ l, Sp.overI a.start m = false) : ∀ n j, n + j = l.length → setAll m (l.take j) (l.drop j) = (l, 0)
  | 0, j, e => by
    rw [List.drop_of_length_le (by omega), List.take_of_length_le (by omega)]; rfl
  | n + 1, j, e => by
    have hj : j < l.length := by omega
    rw [List.drop_eq_getElem_cons hj, setAll, if_neg (by rw [hy _ (List.getElem_mem hj)]; simp), set_last h (List.getElem?_eq_getElem hj), if_pos rfl]
    exact setAll_drop h hy n (j + 1) (by omega)
theorem ofL_self {L : LineV} (h : GoodL L) : ofL L.mark L.row = (L, 0) := by
  unfold ofL
  have := setAll_drop h.good h.young L.row.length 0 (by omega)
  rw [List.take_zero, List.drop_zero] at this
  rw [if_pos h.right, this]
/-- What is done to a line. -/
structure ActL where
  do_ : Nat
  key : List UInt8
  at_ : Int
  n : Int
def actL (s : LineV × List (Win AggV)) (a : ActL) : LineV × List (Win AggV) :=
  if a.do_ = 0 then ((putL s.1 a.key a.at_ a.n).1, s.2) else if a.do_ = 1 then ((markL s.1 a.at_).1, s.2 ++ (markL s.1 a.at_).2.2) else s
def playL (s : LineV × List (Win AggV)) (xs : List ActL) : LineV × List (Win AggV) := xs.foldl actL s
theorem playL_snoc (s : LineV × List (Win AggV)) (xs : List ActL) (a : ActL) : playL s (xs ++ [a]) = actL (playL s xs) a := by simp [playL]
theorem goodL_act {s : LineV × List (Win AggV)} (h : GoodL s.1) {a : ActL} (hn : i64 a.n) : GoodL (actL s a).1 := by
  unfold actL
  split
  · exact goodL_put h hn
  · split
    · exact goodL_mark h _
    · exact h
theorem goodL_play : ∀ {xs : List ActL} {s : LineV × List (Win AggV)}, GoodL s.1 → (∀ a ∈ xs, i64 a.n) → GoodL (playL s xs).1
  | [], _, h, _ => h
  | a :: xs, _, h, hn => goodL_play (xs := xs) (goodL_act h (hn a List.mem_cons_self)) (fun b hb => hn b (List.mem_cons_of_mem _ hb))
/-- What is over at a mark is over at a later one. -/
theorem over_up {s m x : Int} (h : Sp.overI s m = true) (hx : Sp.rightI x = true) (hm : m ≤ x) : Sp.overI s x = true := by
  rw [Sp.overI_iff] at *
  have := Sp.rightI_iff.1 hx
  unfold Sp.isOver at *
  omega
theorem over_down {s t m : Int} (h : Sp.overI t m = true) (hs : 0 ≤ s ∧ s ≤ 1099511627776 ∧ s % 10 = 0) (hst : s ≤ t) : Sp.overI s m = true := by
  rw [Sp.overI_iff] at *
  unfold Sp.isOver at *
  omega
theorem isStart_iff {s : Int} (h : SO.isStart s = true) : 0 ≤ s ∧ s ≤ 1099511627776 ∧ s % 10 = 0 := by
  have h' : 0 ≤ Sp.endI s := of_decide_eq_true (show decide (0 ≤ Sp.endI s) = true from h)
  unfold Sp.endI at h'
  split at h'
  · assumption
  · omega
theorem filter_steps {p q : Win AggV → Bool} : ∀ {l : List (Win AggV)}, (∀ a ∈ l, p a = true → q a = true) → l.Pairwise (fun a b => p b = true → p a = true) → l.filter p ++ (l.filter (fun a => !p a)).filter q = l.filter q
  | [], _, _ => rfl
  | a :: l, h, k => by
    obtain ⟨k1, k2⟩ := List.pairwise_cons.1 k
    have ih := filter_steps (fun b hb => h b (List.mem_cons_of_mem _ hb)) k2
    cases hp : p a with
    | true =>
      rw [List.filter_cons, hp, if_pos rfl, List.filter_cons, hp, if_neg (by simp), List.filter_cons (p := q), if_pos (h a List.mem_cons_self hp), List.cons_append, ih]
    | false =>
      have hn : l.filter p = [] := List.filter_eq_nil_iff.2 fun b hb hpb => by rw [k1 b hb hpb] at hp; cases hp
      rw [hn, List.nil_append] at ih
      rw [List.filter_cons, hp, if_neg (by simp), hn, List.nil_append, List.filter_cons, hp, if_pos (by simp), List.filter_cons, ih, ← List.filter_cons]
/-- Two marks, one behind the other, tell what the later one alone does, and leave the same. -/
theorem mark_mark {L : LineV} (h : GoodL L) {m x : Int} (hm : Sp.rightI m = true) (hx : Sp.rightI x = true) (hmx : m < x) :
    (markL (markL L m).1 x).1 = (markL L x).1 ∧ (markL L m).2.2 ++ (markL (markL L m).1 x).2.2 = (markL L x).2.2 := by
  rcases markL_ways L m with ⟨h0, _⟩ | ⟨_, ⟨_, e⟩ | ⟨hlt, e⟩⟩
  · rw [hm] at h0; cases h0
  · rw [e]; exact ⟨rfl, rfl⟩
  · rw [e]
    have e1 : markL ⟨m, (takeS SO L.row m).1⟩ x = (⟨x, (takeS SO (takeS SO L.row m).1 x).1⟩, 1, (takeS SO (takeS SO L.row m).1 x).2) := by
      unfold markL; rw [if_pos hx, if_neg (show ¬ x ≤ m by omega)]
    have e2 : markL L x = (⟨x, (takeS SO L.row x).1⟩, 1, (takeS SO L.row x).2) := by
      unfold markL; rw [if_pos hx, if_neg (show ¬ x ≤ L.mark by omega)]
    have hup : ∀ a ∈ L.row, Sp.overI a.start m = true → Sp.overI a.start x = true := fun a _ ha => over_up ha hx (by omega)
    have hpw : L.row.Pairwise (fun a b => Sp.overI b.start m = true → Sp.overI a.start m = true) := by
      refine (List.Pairwise.and_mem.1 h.good.rise).imp ?_
      rintro a b ⟨ha, _, hab⟩ hb
      refine over_down hb (isStart_iff (h.good.all a ha).2.1) ?_
      rcases ahead_iff.1 hab with h1 | ⟨h1, _⟩ <;> omega
    rw [e1, e2]
    refine ⟨?_, ?_⟩
    · show (⟨x, _⟩ : LineV) = ⟨x, _⟩
      congr 1
      show (L.row.filter (fun a => !Sp.overI a.start m)).filter (fun a => !Sp.overI a.start x) = L.row.filter (fun a => !Sp.overI a.start x)
      rw [List.filter_filter]
      refine List.filter_congr fun a ha => ?_
      cases hq : Sp.overI a.start m with
      | true => rw [hup a ha hq]; rfl
      | false => simp
    · exact filter_steps hup hpw
/-- A mark that is not above changes nothing. -/
theorem mark_low {L : LineV} {m x : Int} (hm : Sp.rightI m = true) (hx : x ≤ m) : (markL (markL L m).1 x).1 = (markL L m).1 ∧ (markL (markL L m).1 x).2.2 = [] := by
  have hmk : m ≤ (markL L m).1.mark := by
    rcases markL_ways L m with ⟨h0, _⟩ | ⟨_, ⟨hle, e⟩ | ⟨hlt, e⟩⟩
    · rw [hm] at h0; cases h0
    · rw [e]; exact hle
    · rw [e]; exact Int.le_refl _
  rcases markL_ways (markL L m).1 x with ⟨_, e⟩ | ⟨_, ⟨_, e⟩ | ⟨hlt, _⟩⟩
  · rw [e]; exact ⟨rfl, rfl⟩
  · rw [e]; exact ⟨rfl, rfl⟩
  · exact absurd (Int.le_trans hx hmk) hlt
theorem mark_wrong {L : LineV} {x : Int} (hx : Sp.rightI x = false) : markL L x = (L, 4, []) := by
  rcases markL_ways L x with ⟨_, e⟩ | ⟨h, _⟩
  · exact e
  · rw [hx] at h; cases h
/-- Marks one behind the other: where the line stands, what was told, and the greatest moment so far. -/
structure Steps (L0 : LineV) (first : Int) (i : Nat) (L : LineV) (told : List (Win AggV)) (most : Int) : Prop where
  is : (most = first ∧ L = L0 ∧ told = [] ∧ (i = 0 ∨ Sp.rightI most = false)) ∨ (Sp.rightI most = true ∧ L = (markL L0 most).1 ∧ told = (markL L0 most).2.2)
theorem steps_zero (L0 : LineV) (first : Int) : Steps L0 first 0 L0 [] first := ⟨.inl ⟨rfl, rfl, rfl, .inl rfl⟩⟩
def moreMost (most x : Int) : Bool := Sp.rightI x && (!Sp.rightI most || decide (most < x))
theorem steps_next {L0 : LineV} (h0 : GoodL L0) {first : Int} {i : Nat} {L : LineV} {told : List (Win AggV)} {most : Int} (h : Steps L0 first i L told most) (x : Int) (hx : i = 0 → x = first) :
    Steps L0 first (i + 1) (markL L x).1 (told ++ (markL L x).2.2) (if moreMost most x = true then x else most) := by
  unfold moreMost
  rcases h.is with ⟨rfl, rfl, rfl, hi⟩ | ⟨hr, rfl, rfl⟩
  · rw [List.nil_append]
    cases hrx : Sp.rightI x with
    | false =>
      rw [mark_wrong hrx]
      simp only [Bool.false_and, Bool.false_eq_true, if_false]
      refine ⟨.inl ⟨rfl, rfl, rfl, .inr ?_⟩⟩
      rcases hi with hi | hi
      · rw [← hx hi]; exact hrx
      · exact hi
    | true =>
      rcases hi with hi | hi
      · have := hx hi
        subst this
        have e : (true && (!Sp.rightI x || decide (x < x))) = false := by rw [hrx]; simp
        rw [e, if_neg (by simp)]
        exact ⟨.inr ⟨hrx, rfl, rfl⟩⟩
      · rw [hi]
        simp only [Bool.not_false, Bool.true_or, Bool.and_self, if_true]
        exact ⟨.inr ⟨hrx, rfl, rfl⟩⟩
  · rw [hr]
    cases hrx : Sp.rightI x with
    | false =>
      rw [mark_wrong hrx]
      simp only [Bool.false_and, Bool.false_eq_true, if_false, List.append_nil]
      exact ⟨.inr ⟨hr, rfl, rfl⟩⟩
    | true =>
      by_cases hlt : most < x
      · simp only [Bool.not_true, Bool.false_or, Bool.true_and, decide_eq_true hlt, if_true]
        obtain ⟨e1, e2⟩ := mark_mark h0 hr hrx hlt
        exact ⟨.inr ⟨hrx, e1, e2⟩⟩
      · simp only [Bool.not_true, Bool.false_or, Bool.true_and, decide_eq_false hlt, Bool.false_eq_true, if_false]
        obtain ⟨e1, e2⟩ := mark_low (L := L0) hr (show x ≤ most by omega)
        rw [e1, e2, List.append_nil]
        exact ⟨.inr ⟨hr, rfl, rfl⟩⟩
theorem steps_end {L0 : LineV} {first : Int} {i : Nat} {L : LineV} {told : List (Win AggV)} {most : Int} (h : Steps L0 first i L told most) (hi : 0 < i) : L = (markL L0 most).1 ∧ told = (markL L0 most).2.2 := by
  rcases h.is with ⟨_, rfl, rfl, h0 | h0⟩ | ⟨_, h1, h2⟩
  · omega
  · rw [mark_wrong h0]; exact ⟨rfl, rfl⟩
  · exact ⟨h1, h2⟩
end Go.Proofs.Ytmgmkdkdpeljmaa

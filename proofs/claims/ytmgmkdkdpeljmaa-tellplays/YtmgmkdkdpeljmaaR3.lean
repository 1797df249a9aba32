/- A line as plain data: a mark, and windows under it; what Put, Mark and Of do to it, and what follows of that. No Go. -/
import Derived.Test.YtmgmkdkdpeljmaaR1
import Derived.Test.YtmgmkdkdpeljmaaR2
namespace Go.Proofs.Ytmgmkdkdpeljmaa
structure LineV where
  mark : Int
  row : List (Win AggV)
/-- What a line always is. -/
structure GoodL (L : LineV) : Prop where
  good : Good SO L.row
  right : Sp.rightI L.mark = true
  young : ∀ a ∈ L.row, Sp.overI a.start L.mark = false
def newL : LineV := ⟨0, []⟩
def putL (L : LineV) (k : List UInt8) (a v : Int) : LineV × Nat :=
  if keyOk k = true ∧ Sp.rightI a = true then
    if Sp.lateI a L.mark = true then (L, 2) else if (putS SO L.row k a v).2 = 0 then (⟨L.mark, (putS SO L.row k a v).1⟩, 1) else (L, 3)
  else (L, 4)
def markL (L : LineV) (a : Int) : LineV × Nat × List (Win AggV) :=
  if Sp.rightI a = true then if a ≤ L.mark then (L, 1, []) else (⟨a, (takeS SO L.row a).1⟩, 1, (takeS SO L.row a).2) else (L, 4, [])
/-- Windows set one behind the other, till one can't be. -/
def setAll (m : Int) : List (Win AggV) → List (Win AggV) → List (Win AggV) × Nat
  | r, [] => (r, 0)
  | r, x :: xs => if Sp.overI x.start m = true then (r, 12) else if (setS SO r x).2 = 0 then setAll m (setS SO r x).1 xs else (r, (setS SO r x).2)
def ofL (m : Int) (o : List (Win AggV)) : LineV × Nat := if Sp.rightI m = true then (⟨m, (setAll m [] o).1⟩, (setAll m [] o).2) else (newL, 1)
theorem goodL_new : GoodL newL := ⟨good_nil, by decide, fun a h => by cases h⟩
theorem putL_ways (L : LineV) (k : List UInt8) (a v : Int) :
    (¬ (keyOk k = true ∧ Sp.rightI a = true) ∧ putL L k a v = (L, 4)) ∨
    ((keyOk k = true ∧ Sp.rightI a = true) ∧ ((Sp.lateI a L.mark = true ∧ putL L k a v = (L, 2)) ∨
      (Sp.lateI a L.mark = false ∧ (((putS SO L.row k a v).2 = 0 ∧ putL L k a v = (⟨L.mark, (putS SO L.row k a v).1⟩, 1)) ∨ (¬ (putS SO L.row k a v).2 = 0 ∧ putL L k a v = (L, 3)))))) := by
  unfold putL
  by_cases h : keyOk k = true ∧ Sp.rightI a = true
  · refine .inr ⟨h, ?_⟩
    rw [if_pos h]
    cases hl : Sp.lateI a L.mark with
    | true => exact .inl ⟨rfl, if_pos rfl⟩
    | false =>
      refine .inr ⟨rfl, ?_⟩
      rw [if_neg (by simp)]
      by_cases h0 : (putS SO L.row k a v).2 = 0
      · exact .inl ⟨h0, if_pos h0⟩
      · exact .inr ⟨h0, if_neg h0⟩
  · exact .inl ⟨h, if_neg h⟩
theorem markL_ways (L : LineV) (a : Int) :
    (Sp.rightI a = false ∧ markL L a = (L, 4, [])) ∨ (Sp.rightI a = true ∧ ((a ≤ L.mark ∧ markL L a = (L, 1, [])) ∨ (¬ a ≤ L.mark ∧ markL L a = (⟨a, (takeS SO L.row a).1⟩, 1, (takeS SO L.row a).2)))) := by
  unfold markL
  cases h : Sp.rightI a with
  | false => exact .inl ⟨rfl, if_neg (by simp)⟩
  | true =>
    refine .inr ⟨rfl, ?_⟩
    rw [if_pos rfl]
    by_cases h0 : a ≤ L.mark
    · exact .inl ⟨h0, if_pos h0⟩
    · exact .inr ⟨h0, if_neg h0⟩
theorem put_mem {l : List (Win AggV)} {k : List UInt8} {a v : Int} {b : Win AggV} (hb : b ∈ (putS SO l k a v).1) : b ∈ l ∨ (b.key = k ∧ b.start = Sp.startI a) := by
  rcases put_ways (O := SO) l k a v with ⟨_, e⟩ | ⟨hk, ⟨x, hx, e⟩ | ⟨hx, ⟨_, e⟩ | ⟨hl, e⟩⟩⟩
  · rw [e] at hb; exact .inl hb
  · rw [e] at hb
    rcases ins_mem hb with rfl | hb
    · exact .inr ⟨rfl, rfl⟩
    · exact .inl hb
  · rw [e] at hb; exact .inl hb
  · rw [e] at hb
    rcases ins_mem hb with rfl | hb
    · exact .inr ⟨rfl, rfl⟩
    · exact .inl hb
theorem goodL_put {L : LineV} (h : GoodL L) {k : List UInt8} {a v : Int} (hv : i64 v) : GoodL (putL L k a v).1 := by
  rcases putL_ways L k a v with ⟨_, e⟩ | ⟨_, ⟨_, e⟩ | ⟨hl, ⟨_, e⟩ | ⟨_, e⟩⟩⟩
  · rw [e]; exact h
  · rw [e]; exact h
  · rw [e]
    refine ⟨put_good so_law h.good hv, h.right, fun b hb => ?_⟩
    rcases put_mem hb with hb | ⟨_, hs⟩
    · exact h.young b hb
    · show Sp.overI b.start L.mark = false
      rw [hs]; exact hl
  · rw [e]; exact h
theorem goodL_mark {L : LineV} (h : GoodL L) (a : Int) : GoodL (markL L a).1 := by
  rcases markL_ways L a with ⟨_, e⟩ | ⟨hr, ⟨_, e⟩ | ⟨_, e⟩⟩
  · rw [e]; exact h
  · rw [e]; exact h
  · rw [e]; exact ⟨(take_good h.good a).1, hr, fun b hb => take_over.2 hb⟩
theorem markL_told {L : LineV} {a : Int} : ∀ b ∈ (markL L a).2.2, Sp.overI b.start (markL L a).1.mark = true := by
  rcases markL_ways L a with ⟨_, e⟩ | ⟨hr, ⟨_, e⟩ | ⟨_, e⟩⟩
  · rw [e]; intro b hb; cases hb
  · rw [e]; intro b hb; cases hb
  · rw [e]; exact fun b hb => take_over.1 hb
theorem markL_len {L : LineV} {a : Int} : (markL L a).2.2.length + (markL L a).1.row.length = L.row.length := by
  rcases markL_ways L a with ⟨_, e⟩ | ⟨hr, ⟨_, e⟩ | ⟨_, e⟩⟩
  · rw [e]; exact Nat.zero_add _
  · rw [e]; exact Nat.zero_add _
  · rw [e]; exact take_len _ _
/-- A later window stands at the end. -/
theorem ins_last {w : Win AggV} : ∀ {l : List (Win AggV)}, (∀ a ∈ l, ahead a w = true) → ins w l = l ++ [w]
  | [], _ => rfl
  | a :: l, h => by
    rw [ins, if_pos (h a List.mem_cons_self), ins_last (fun b hb => h b (List.mem_cons_of_mem _ hb))]
    rfl
theorem good_take {l : List (Win AggV)} (h : Good SO l) (n : Nat) : Good SO (l.take n) :=
  ⟨h.rise.sublist (List.take_sublist n l), Nat.le_trans (by rw [List.length_take]; omega) h.most, fun a ha => h.all a (List.mem_of_mem_take ha)⟩
theorem set_last {l : List (Win AggV)} (h : Good SO l) {j : Nat} {x : Win AggV} (hx : l[j]? = some x) : setS SO (l.take j) x = (l.take (j + 1), 0) := by
  obtain ⟨hj, rfl⟩ := List.getElem?_eq_some_iff.1 hx
  have hsplit : l = l.take j ++ l[j] :: l.drop (j + 1) := by rw [← List.drop_eq_getElem_cons hj, List.take_append_drop]
  have hr := h.rise
  have hah : ∀ a ∈ l.take j, ahead a l[j] = true := by
    have hr' : Rise (l.take j ++ l[j] :: l.drop (j + 1)) := by rw [← hsplit]; exact hr
    exact fun a ha => (List.pairwise_append.1 hr').2.2 a ha l[j] List.mem_cons_self
  have hn : look (l.take j) l[j].key l[j].start = none := look_none (fun b hb => ahead_not (hah b hb))
  have hl : ¬ 32 ≤ (l.take j).length := by have := h.most; rw [List.length_take]; omega
  unfold setS
  rw [if_pos (h.all _ (List.getElem_mem hj)), hn, if_neg (by simp), if_neg hl, ins_last hah, List.take_succ_eq_append_getElem hj]
theorem setAll_drop {m : Int} {l : List (Win AggV)} (h : Good SO l) (hy : ∀ a ∈ l, Sp.overI a.start m = false) : ∀ n j, n + j = l.length → setAll m (l.take j) (l.drop j) = (l, 0)
  | 0, j, e => by
    rw [List.drop_of_length_le (by omega), List.take_of_length_le (by omega)]; rfl
  | n + 1, j, e => by
    have hj : j < l.length := by omega
    rw [List.drop_eq_getElem_cons hj, setAll, if_neg (by rw [hy _ (List.getElem_mem hj)]; simp), set_last h (List.getElem?_eq_getElem hj), if_pos rfl]
    exact setAll_drop h hy n (j + 1) (by omega)
theorem ofL_self {L : LineV} (h : GoodL L) : ofL L.mark L.row = (L, 0) := by
  unfold ofL
  have := setAll_drop h.good h.young L.row.length 0 (by omega)
  rw [List.take_zero, List.drop_zero] at this
  rw [if_pos h.right, this]
/-- What is done to a line. -/
structure ActL where
  do_ : Nat
  key : List UInt8
  at_ : Int
  n : Int
def actL (s : LineV × List (Win AggV)) (a : ActL) : LineV × List (Win AggV) :=
  if a.do_ = 0 then ((putL s.1 a.key a.at_ a.n).1, s.2) else if a.do_ = 1 then ((markL s.1 a.at_).1, s.2 ++ (markL s.1 a.at_).2.2) else s
def playL (s : LineV × List (Win AggV)) (xs : List ActL) : LineV × List (Win AggV) := xs.foldl actL s
theorem playL_snoc (s : LineV × List (Win AggV)) (xs : List ActL) (a : ActL) : playL s (xs ++ [a]) = actL (playL s xs) a := by simp [playL]
theorem goodL_act {s : LineV × List (Win AggV)} (h : GoodL s.1) {a : ActL} (hn : i64 a.n) : GoodL (actL s a).1 := by
  unfold actL
  split
  · exact goodL_put h hn
  · split
    · exact goodL_mark h _
    · exact h
theorem goodL_play : ∀ {xs : List ActL} {s : LineV × List (Win AggV)}, GoodL s.1 → (∀ a ∈ xs, i64 a.n) → GoodL (playL s xs).1
  | [], _, h, _ => h
  | a :: xs, _, h, hn => goodL_play (xs := xs) (goodL_act h (hn a List.mem_cons_self)) (fun b hb => hn b (List.mem_cons_of_mem _ hb))
/-- What is over at a mark is over at a later one. -/
theorem over_up {s m x : Int} (h : Sp.overI s m = true) (hx : Sp.rightI x = true) (hm : m ≤ x) : Sp.overI s x = true := by
  rw [Sp.overI_iff] at *
  have := Sp.rightI_iff.1 hx
  unfold Sp.isOver at *
  omega
theorem over_down {s t m : Int} (h : Sp.overI t m = true) (hs : 0 ≤ s ∧ s ≤ 1099511627776 ∧ s % 10 = 0) (hst : s ≤ t) : Sp.overI s m = true := by
  rw [Sp.overI_iff] at *
  unfold Sp.isOver at *
  omega
theorem isStart_iff {s : Int} (h : SO.isStart s = true) : 0 ≤ s ∧ s ≤ 1099511627776 ∧ s % 10 = 0 := by
  have h' : 0 ≤ Sp.endI s := of_decide_eq_true (show decide (0 ≤ Sp.endI s) = true from h)
  unfold Sp.endI at h'
  split at h'
  · assumption
  · omega
theorem filter_steps {p q : Win AggV → Bool} : ∀ {l : List (Win AggV)}, (∀ a ∈ l, p a = true → q a = true) → l.Pairwise (fun a b => p b = true → p a = true) → l.filter p ++ (l.filter (fun a => !p a)).filter q = l.filter q
  | [], _, _ => rfl
  | a :: l, h, k => by
    obtain ⟨k1, k2⟩ := List.pairwise_cons.1 k
    have ih := filter_steps (fun b hb => h b (List.mem_cons_of_mem _ hb)) k2
    cases hp : p a with
    | true =>
      rw [List.filter_cons, hp, if_pos rfl, List.filter_cons, hp, if_neg (by simp), List.filter_cons (p := q), if_pos (h a List.mem_cons_self hp), List.cons_append, ih]
    | false =>
      have hn : l.filter p = [] := List.filter_eq_nil_iff.2 fun b hb hpb => by rw [k1 b hb hpb] at hp; cases hp
      rw [hn, List.nil_append] at ih
      rw [List.filter_cons, hp, if_neg (by simp), hn, List.nil_append, List.filter_cons, hp, if_pos (by simp), List.filter_cons, ih, ← List.filter_cons]
/-- Two marks, one behind the other, tell what the later one alone does, and leave the same. -/
theorem mark_mark {L : LineV} (h : GoodL L) {m x : Int} (hm : Sp.rightI m = true) (hx : Sp.rightI x = true) (hmx : m < x) :
    (markL (markL L m).1 x).1 = (markL L x).1 ∧ (markL L m).2.2 ++ (markL (markL L m).1 x).2.2 = (markL L x).2.2 := by
  rcases markL_ways L m with ⟨h0, _⟩ | ⟨_, ⟨_, e⟩ | ⟨hlt, e⟩⟩
  · rw [hm] at h0; cases h0
  · rw [e]; exact ⟨rfl, rfl⟩
  · rw [e]
    have e1 : markL ⟨m, (takeS SO L.row m).1⟩ x = (⟨x, (takeS SO (takeS SO L.row m).1 x).1⟩, 1, (takeS SO (takeS SO L.row m).1 x).2) := by
      unfold markL; rw [if_pos hx, if_neg (show ¬ x ≤ m by omega)]
    have e2 : markL L x = (⟨x, (takeS SO L.row x).1⟩, 1, (takeS SO L.row x).2) := by
      unfold markL; rw [if_pos hx, if_neg (show ¬ x ≤ L.mark by omega)]
    have hup : ∀ a ∈ L.row, Sp.overI a.start m = true → Sp.overI a.start x = true := fun a _ ha => over_up ha hx (by omega)
    have hpw : L.row.Pairwise (fun a b => Sp.overI b.start m = true → Sp.overI a.start m = true) := by
      refine (List.Pairwise.and_mem.1 h.good.rise).imp ?_
      rintro a b ⟨ha, _, hab⟩ hb
      refine over_down hb (isStart_iff (h.good.all a ha).2.1) ?_
      rcases ahead_iff.1 hab with h1 | ⟨h1, _⟩ <;> omega
    rw [e1, e2]
    refine ⟨?_, ?_⟩
    · show (⟨x, _⟩ : LineV) = ⟨x, _⟩
      congr 1
      show (L.row.filter (fun a => !Sp.overI a.start m)).filter (fun a => !Sp.overI a.start x) = L.row.filter (fun a => !Sp.overI a.start x)
      rw [List.filter_filter]
      refine List.filter_congr fun a ha => ?_
      cases hq : Sp.overI a.start m with
      | true => rw [hup a ha hq]; rfl
      | false => simp
    · exact filter_steps hup hpw
/-- A mark that is not above changes nothing. -/
theorem mark_low {L : LineV} {m x : Int} (hm : Sp.rightI m = true) (hx : x ≤ m) : (markL (markL L m).1 x).1 = (markL L m).1 ∧ (markL (markL L m).1 x).2.2 = [] := by
  have hmk : m ≤ (markL L m).1.mark := by
    rcases markL_ways L m with ⟨h0, _⟩ | ⟨_, ⟨hle, e⟩ | ⟨hlt, e⟩⟩
    · rw [hm] at h0; cases h0
    · rw [e]; exact hle
    · rw [e]; exact Int.le_refl _
  rcases markL_ways (markL L m).1 x with ⟨_, e⟩ | ⟨_, ⟨_, e⟩ | ⟨hlt, _⟩⟩
  · rw [e]; exact ⟨rfl, rfl⟩
  · rw [e]; exact ⟨rfl, rfl⟩
  · exact absurd (Int.le_trans hx hmk) hlt
theorem mark_wrong {L : LineV} {x : Int} (hx : Sp.rightI x = false) : markL L x = (L, 4, []) := by
  rcases markL_ways L x with ⟨_, e⟩ | ⟨h, _⟩
  · exact e
  · rw [hx] at h; cases h
/-- Marks one behind the other: where the line stands, what was told, and the greatest moment so far. -/
structure Steps (L0 : LineV) (first : Int) (i : Nat) (L : LineV) (told : List (Win AggV)) (most : Int) : Prop where
  is : (most = first ∧ L = L0 ∧ told = [] ∧ (i = 0 ∨ Sp.rightI most = false)) ∨ (Sp.rightI most = true ∧ L = (markL L0 most).1 ∧ told = (markL L0 most).2.2)
theorem steps_zero (L0 : LineV) (first : Int) : Steps L0 first 0 L0 [] first := ⟨.inl ⟨rfl, rfl, rfl, .inl rfl⟩⟩
def moreMost (most x : Int) : Bool := Sp.rightI x && (!Sp.rightI most || decide (most < x))
theorem steps_next {L0 : LineV} (h0 : GoodL L0) {first : Int} {i : Nat} {L : LineV} {told : List (Win AggV)} {most : Int} (h : Steps L0 first i L told most) (x : Int) (hx : i = 0 → x = first) :
    Steps L0 first (i + 1) (markL L x).1 (told ++ (markL L x).2.2) (if moreMost most x = true then x else most) := by
  unfold moreMost
  rcases h.is with ⟨rfl, rfl, rfl, hi⟩ | ⟨hr, rfl, rfl⟩
  · rw [List.nil_append]
    cases hrx : Sp.rightI x with
    | false =>
      rw [mark_wrong hrx]
      simp only [Bool.false_and, Bool.false_eq_true, if_false]
      refine ⟨.inl ⟨rfl, rfl, rfl, .inr ?_⟩⟩
      rcases hi with hi | hi
      · rw [← hx hi]; exact hrx
      · exact hi
    | true =>
      rcases hi with hi | hi
      · have := hx hi
        subst this
        have e : (true && (!Sp.rightI x || decide (x < x))) = false := by rw [hrx]; simp
        rw [e, if_neg (by simp)]
        exact ⟨.inr ⟨hrx, rfl, rfl⟩⟩
      · rw [hi]
        simp only [Bool.not_false, Bool.true_or, Bool.and_self, if_true]
        exact ⟨.inr ⟨hrx, rfl, rfl⟩⟩
  · rw [hr]
    cases hrx : Sp.rightI x with
    | false =>
      rw [mark_wrong hrx]
      simp only [Bool.false_and, Bool.false_eq_true, if_false, List.append_nil]
      exact ⟨.inr ⟨hr, rfl, rfl⟩⟩
    | true =>
      by_cases hlt : most < x
      · simp only [Bool.not_true, Bool.false_or, Bool.true_and, decide_eq_true hlt, if_true]
        obtain ⟨e1, e2⟩ := mark_mark h0 hr hrx hlt
        exact ⟨.inr ⟨hrx, e1, e2⟩⟩
      · simp only [Bool.not_true, Bool.false_or, Bool.true_and, decide_eq_false hlt, Bool.false_eq_true, if_false]
        obtain ⟨e1, e2⟩ := mark_low (L := L0) hr (show x ≤ most by omega)
        rw [e1, e2, List.append_nil]
        exact ⟨.inr ⟨hr, rfl, rfl⟩⟩
theorem steps_end {L0 : LineV} {first : Int} {i : Nat} {L : LineV} {told : List (Win AggV)} {most : Int} (h : Steps L0 first i L told most) (hi : 0 < i) : L = (markL L0 most).1 ∧ told = (markL L0 most).2.2 := by
  rcases h.is with ⟨_, rfl, rfl, h0 | h0⟩ | ⟨_, h1, h2⟩
  · omega
  · rw [mark_wrong h0]; exact ⟨rfl, rfl⟩
  · exact ⟨h1, h2⟩
end Go.Proofs.Ytmgmkdkdpeljmaa

namespace Go.Proofs.Ytmgmkdkdpeljmaa
open Go.RowKit
theorem tlate_any (a m : Int) (w : World) : Calls Try.prog 52 #[.int .i64 a, .int .i64 m] w fun e w' => e = .returned (.bool (Sp.lateI a m)) ∧ w' = w := by
  have C1 := hide (fun v => Sp.start_any a v)
  have C2 := hide (fun v => Sp.over_any (Sp.startI a) m v)
  have HL : Hid (Sp.lateI a m = Sp.overI (Sp.startI a) m) := hide rfl
  generalize Sp.startI a = s at *
  go_enter Try.func52, Try.ntmps52
  go_wp2_with fail
  refine (unhide C1 _).mono ?_
  rintro e v' ⟨rfl, hw⟩
  rw [hw]
  clear hw v'
  go_wp2_with fail
  refine (unhide C2 _).mono ?_
  rintro e v' ⟨rfl, hw⟩
  rw [hw]
  clear hw v'
  go_wp2_with fail
  go_ret
  exact ⟨by rw [unhide HL]; rfl, rfl⟩
/-- Block p holds a line: a store at q, of the blocks G, and the mark. -/
structure LineF (v : World) (p q : Nat) (G : Nat → Prop) (L : LineV) : Prop where
  row : RowAt v p [.pointer (some ⟨q, 0, none⟩), .int .i64 L.mark]
  st : StIs v q G L.row
  off : ¬ G p
/-- A line at p, of the blocks F. -/
def LineIs (v : World) (p : Nat) (F : Nat → Prop) (L : LineV) : Prop := ∃ q G, LineF v p q G L ∧ F = fun k => k = p ∨ G k
theorem LineIs.lt {v : World} {p : Nat} {F : Nat → Prop} {L : LineV} (h : LineIs v p F L) : ∀ k, F k → k < v.heap.size := by
  obtain ⟨q, G, h, rfl⟩ := h
  rintro k (rfl | hk)
  · exact h.row.lt
  · exact h.st.lt k hk
theorem LineIs.keep {G F : Nat → Prop} {v v' : World} {p : Nat} {L : LineV} (h : LineIs v p F L) (k : Moved G v v') (hG : ∀ i, G i → ¬ F i) : LineIs v' p F L := by
  obtain ⟨q, G', h, rfl⟩ := h
  exact ⟨q, G', ⟨h.row.keep k (fun g => hG p g (.inl rfl)), h.st.keep k (fun i g f => hG i g (.inr f)), h.off⟩, rfl⟩
theorem LineIs.fine {v : World} {p : Nat} {F : Nat → Prop} {L : LineV} (h : LineIs v p F L) : Fine L.row := by obtain ⟨q, G, h, rfl⟩ := h; exact h.st.fine
/-- A step of a line. -/
def DidL (v v' : World) (p : Nat) (F : Nat → Prop) (L : LineV) : Prop := ∃ F', LineIs v' p F' L ∧ (∀ k, F' k → F k ∨ v.heap.size ≤ k) ∧ Moved F v v'
theorem DidL.same {v : World} {p : Nat} {F : Nat → Prop} {L : LineV} (h : LineIs v p F L) : DidL v v p F L := ⟨F, h, fun _ f => .inl f, Moved.refl _ _⟩
theorem LineF.did {v v' : World} {p q : Nat} {G : Nat → Prop} {L : LineV} {l : List (Win AggV)} (h : LineF v p q G L) (hd : Did v v' q G l) : DidL v v' p (fun k => k = p ∨ G k) ⟨L.mark, l⟩ := by
  obtain ⟨G', h1, h2, h3⟩ := hd
  refine ⟨_, ⟨q, G', ⟨h.row.keep h3 h.off, h1, fun f => ?_⟩, rfl⟩, fun k hk => ?_, h3.mono fun _ g => .inl (.inr g)⟩
  · rcases h2 p f with f | f
    · exact h.off f
    · have := h.row.lt; omega
  · rcases hk with rfl | hk
    · exact .inl (.inl rfl)
    · exact (h2 k hk).imp .inr id
theorem LineF.same {v v' : World} {p q : Nat} {G : Nat → Prop} {L : LineV} {l : List (Win AggV)} (h : LineF v p q G L) (hs : StIs v' q G l) (m : Moved G v v') : LineIs v' p (fun k => k = p ∨ G k) ⟨L.mark, l⟩ ∧ Moved (fun k => k = p ∨ G k) v v' :=
  ⟨⟨q, G, ⟨h.row.keep m h.off, hs, h.off⟩, rfl⟩, m.mono fun _ g => .inl (.inr g)⟩
theorem tnew_any (v : World) : Calls Try.prog 24 #[] v fun e v' => ∃ p F, e = .returned (.pointer (some ⟨p, 0, none⟩)) ∧ LineIs v' p F newL ∧ (∀ k, F k → v.heap.size ≤ k) ∧ Below v.heap.size v v' := by
  have C := hide (new_any v)
  go_enter Try.func24, Try.ntmps24
  go_wp2_with fail
  refine (unhide C).mono ?_
  rintro e v1 ⟨rfl, hb, hs⟩
  have HB := hide hb
  have HS := hide hs
  clear hb hs C
  go_wp2_with fail
  go_ret
  have b2 : Below v1.heap.size v1 (v1.alloc (.cells #[.pointer (some ⟨v.heap.size, 0, none⟩), .int .i64 0] 95)) := (Below.refl _ _).alloc (Nat.le_refl _) _
  refine ⟨v1.heap.size, _, rfl, ⟨v.heap.size, foot v.heap.size none, ⟨row_new v1 _ _, (unhide HS).keep (Moved.of_below (F := fun _ => False) b2) (fun _ f => f.elim), fun f => Nat.lt_irrefl _ ((unhide HS).lt _ f)⟩, rfl⟩, ?_, (unhide HB).trans (b2.mono (unhide HB).size)⟩
  rintro k (rfl | rfl | f)
  · exact (unhide HB).size
  · exact Nat.le_refl _
  · cases f
theorem tat_any {v : World} {p : Nat} {F : Nat → Prop} {L : LineV} (h : LineIs v p F L) : Calls Try.prog 29 #[.pointer (some ⟨p, 0, none⟩)] v fun e v' => e = .returned (.int .i64 L.mark) ∧ v' = v := by
  obtain ⟨q, G, h, rfl⟩ := h
  have c1 : v.cell? ⟨p, 1, none⟩ = some (.int .i64 L.mark) := h.row.cell 1 (Nat.lt_of_sub_pos (Nat.succ_pos _))
  clear h
  go_enter Try.func29, Try.ntmps29
  go_wp2_with fail
  go_ret
  exact ⟨rfl, rfl⟩
theorem topen_any {v : World} {p : Nat} {F : Nat → Prop} {L : LineV} (h : LineIs v p F L) (hl : L.row.length ≤ 1000) :
    Calls Try.prog 30 #[.pointer (some ⟨p, 0, none⟩)] v fun e v' => ∃ a c, e = .returned (.slice a L.row.length c) ∧ OutK.Row v' v.heap.size a c L.row ∧ Below v.heap.size v v' := by
  obtain ⟨q, G, h, rfl⟩ := h
  have c0 : v.cell? ⟨p, 0, none⟩ = some (.pointer (some ⟨q, 0, none⟩)) := h.row.cell 0 (Nat.succ_pos _)
  have C := hide (all_any h.st hl)
  clear h
  go_enter Try.func30, Try.ntmps30
  go_wp2_with fail
  refine (unhide C).mono ?_
  rintro e v1 ⟨a, c, rfl, h1, h2⟩
  have H1 := hide h1
  have H2 := hide h2
  clear h1 h2 C c0
  go_wp2_with fail
  go_ret
  exact ⟨a, c, rfl, unhide H1, unhide H2⟩
theorem put_code {l : List (Win AggV)} {k : List UInt8} {a v : Int} (hk : keyOk k = true ∧ Sp.rightI a = true) : (putS SO l k a v).2 = 0 ∨ ((putS SO l k a v).2 = 6 ∧ (putS SO l k a v).1 = l) := by
  rcases put_ways (O := SO) l k a v with ⟨hn, _⟩ | ⟨_, ⟨x, hx, e⟩ | ⟨hx, ⟨_, e⟩ | ⟨hl, e⟩⟩⟩
  · exact absurd hk hn
  · rw [e]; exact .inl rfl
  · rw [e]; exact .inr ⟨rfl, rfl⟩
  · rw [e]; exact .inl rfl
set_option maxRecDepth 100000 in
set_option maxHeartbeats 4000000 in
theorem tput_any {v : World} {p : Nat} {F : Nat → Prop} {L : LineV} (h : LineIs v p F L) (hl : L.row.length ≤ 32) (hIn : ∀ a ∈ L.row, a.agg.In) (k : List UInt8) (a n : Int) (hn : i64 n) :
    Calls Try.prog 25 #[.pointer (some ⟨p, 0, none⟩), .string ⟨k.toArray⟩, .int .i64 a, .int .i64 n] v fun e v' => e = .returned (.int .i64 ((putL L k a n).2 : Int)) ∧ DidL v v' p F (putL L k a n).1 := by
  have SAME := hide (DidL.same h)
  obtain ⟨q, G, h, rfl⟩ := h
  have c0 : v.cell? ⟨p, 0, none⟩ = some (.pointer (some ⟨q, 0, none⟩)) := h.row.cell 0 (Nat.succ_pos _)
  have c1 : v.cell? ⟨p, 1, none⟩ = some (.int .i64 L.mark) := h.row.cell 1 (Nat.lt_of_sub_pos (Nat.succ_pos _))
  have CK := hide (fun u => key_any k u)
  have CR := hide (fun u => Sp.right_any a u)
  have CL := hide (fun u => tlate_any a L.mark u)
  have CP := hide (sput_any h.st hl hIn k a n hn)
  have H := hide h
  clear h
  rcases putL_ways L k a n with ⟨hk, e⟩ | ⟨hk, ⟨hlt, e⟩ | ⟨hlt, hz⟩⟩
  · rw [e]
    have HE := hide e
    clear e
    by_cases hko : keyOk k = true
    · have hro : Sp.rightI a = false := Bool.eq_false_iff.2 (fun h => hk ⟨hko, h⟩)
      rw [hko] at CK
      rw [hro] at CR
      clear hk hko hro
      go_enter Try.func25, Try.ntmps25
      go_wp2_with fail
      refine (unhide CK _).mono ?_
      rintro e v' ⟨rfl, hw⟩
      rw [hw]
      clear hw v'
      go_wp2_with fail
      refine (unhide CR _).mono ?_
      rintro e v' ⟨rfl, hw⟩
      rw [hw]
      clear hw v'
      go_wp2_with fail
      go_ret
      exact ⟨rfl, unhide SAME⟩
    · rw [Bool.eq_false_iff.2 hko] at CK
      clear hk hko
      go_enter Try.func25, Try.ntmps25
      go_wp2_with fail
      refine (unhide CK _).mono ?_
      rintro e v' ⟨rfl, hw⟩
      rw [hw]
      clear hw v'
      go_wp2_with fail
      go_ret
      exact ⟨rfl, unhide SAME⟩
  · rw [e]
    rw [hk.1] at CK
    rw [hk.2] at CR
    rw [hlt] at CL
    clear hk hlt e
    go_enter Try.func25, Try.ntmps25
    go_wp2_with fail
    refine (unhide CK _).mono ?_
    rintro e v' ⟨rfl, hw⟩
    rw [hw]
    clear hw v'
    go_wp2_with fail
    refine (unhide CR _).mono ?_
    rintro e v' ⟨rfl, hw⟩
    rw [hw]
    clear hw v'
    go_wp2_with fail
    refine (unhide CL _).mono ?_
    rintro e v' ⟨rfl, hw⟩
    rw [hw]
    clear hw v'
    go_wp2_with fail
    go_ret
    exact ⟨rfl, unhide SAME⟩
  · have HC := hide (put_code (l := L.row) (v := n) hk)
    rw [hk.1] at CK
    rw [hk.2] at CR
    rw [hlt] at CL
    rcases hz with ⟨h0, e⟩ | ⟨h0, e⟩
    · rw [e]
      rw [h0] at CP
      clear e h0 HC
      
      clear hk hlt
      go_enter Try.func25, Try.ntmps25
      go_wp2_with fail
      refine (unhide CK _).mono ?_
      rintro e v' ⟨rfl, hw⟩
      rw [hw]
      clear hw v'
      go_wp2_with fail
      refine (unhide CR _).mono ?_
      rintro e v' ⟨rfl, hw⟩
      rw [hw]
      clear hw v'
      go_wp2_with fail
      refine (unhide CL _).mono ?_
      rintro e v' ⟨rfl, hw⟩
      rw [hw]
      clear hw v'
      go_upto_region 8 with fail
      refine (unhide CP).mono ?_
      rintro e v1 ⟨rfl, hd⟩
      have HD := hide hd
      clear hd CP c0 c1
      go_wp2_with fail
      go_ret
      exact ⟨rfl, (unhide H).did (unhide HD)⟩
    · have h6 := (unhide HC).resolve_left h0
      rw [e]
      rw [h6.1, h6.2] at CP
      clear e h0 HC h6
      
      clear hk hlt
      go_enter Try.func25, Try.ntmps25
      go_wp2_with fail
      refine (unhide CK _).mono ?_
      rintro e v' ⟨rfl, hw⟩
      rw [hw]
      clear hw v'
      go_wp2_with fail
      refine (unhide CR _).mono ?_
      rintro e v' ⟨rfl, hw⟩
      rw [hw]
      clear hw v'
      go_wp2_with fail
      refine (unhide CL _).mono ?_
      rintro e v' ⟨rfl, hw⟩
      rw [hw]
      clear hw v'
      go_upto_region 8 with fail
      refine (unhide CP).mono ?_
      rintro e v1 ⟨rfl, hd⟩
      have HD := hide hd
      clear hd CP c0 c1
      go_wp2_with fail
      go_ret
      exact ⟨rfl, (unhide H).did (unhide HD)⟩
set_option maxRecDepth 100000 in
set_option maxHeartbeats 4000000 in
theorem tmark_any {v : World} {p : Nat} {F : Nat → Prop} {L : LineV} (h : LineIs v p F L) (hl : L.row.length ≤ 1000) (a : Int) :
    Calls Try.prog 27 #[.pointer (some ⟨p, 0, none⟩), .int .i64 a] v fun e v' => ∃ a1 c1, e = .returned (.tuple #[.int .i64 ((markL L a).2.1 : Int), .slice a1 (markL L a).2.2.length c1]) ∧ OutK.Row v' v.heap.size a1 c1 (markL L a).2.2 ∧ LineIs v' p F (markL L a).1 ∧ Moved F v v' := by
  have SAME := hide (⟨h, Moved.refl F v⟩ : LineIs v p F L ∧ Moved F v v)
  obtain ⟨q, G, h, rfl⟩ := h
  have c0 : v.cell? ⟨p, 0, none⟩ = some (.pointer (some ⟨q, 0, none⟩)) := h.row.cell 0 (Nat.succ_pos _)
  have c1 : v.cell? ⟨p, 1, none⟩ = some (.int .i64 L.mark) := h.row.cell 1 (Nat.lt_of_sub_pos (Nat.succ_pos _))
  have CR := hide (fun u => Sp.right_any a u)
  have H := hide h
  clear h
  rcases markL_ways L a with ⟨hr, e⟩ | ⟨hr, ⟨hle, e⟩ | ⟨hle, e⟩⟩
  · rw [e]
    rw [hr] at CR
    clear e hr
    go_enter Try.func27, Try.ntmps27
    go_wp2_with fail
    refine (unhide CR _).mono ?_
    rintro e v' ⟨rfl, hw⟩
    rw [hw]
    clear hw v'
    go_wp2_with fail
    go_ret2
    exact ⟨none, 0, rfl, row_none _ _, (unhide SAME).1, (unhide SAME).2⟩
  · rw [e]
    rw [hr] at CR
    clear e hr
    go_enter Try.func27, Try.ntmps27
    go_wp2_with fail
    refine (unhide CR _).mono ?_
    rintro e v' ⟨rfl, hw⟩
    rw [hw]
    clear hw v'
    go_wp2_with fail
    go_ret2
    exact ⟨none, 0, rfl, row_none _ _, (unhide SAME).1, (unhide SAME).2⟩
  · rw [e]
    rw [hr] at CR
    have f1 : v.frozen? ⟨p, 1, none⟩ = false := (unhide H).row.free 1 (Nat.lt_of_sub_pos (Nat.succ_pos _))
    obtain ⟨v1, hv1⟩ : ∃ v1, v1 = v.setCell ⟨p, 1, none⟩ (.int .i64 a) := ⟨_, rfl⟩
    have m1 : Moved (fun k => k = p) v v1 := by rw [hv1]; exact moved_set v p 1 _
    have r1 : RowAt v1 p [.pointer (some ⟨q, 0, none⟩), .int .i64 a] := by rw [hv1]; exact (unhide H).row.set 1 (Nat.lt_of_sub_pos (Nat.succ_pos _)) _
    have H1 : LineF v1 p q G ⟨a, L.row⟩ := ⟨r1, (unhide H).st.keep m1 (fun i hi g => (unhide H).off (hi ▸ g)), (unhide H).off⟩
    have CT := hide (take_any H1.st hl a)
    have c2 : v1.cell? ⟨p, 0, none⟩ = some (.pointer (some ⟨q, 0, none⟩)) := r1.cell 0 (Nat.succ_pos _)
    have HV := hide hv1
    have M1 := hide m1
    have HH1 := hide H1
    clear e hr m1 hv1 r1 H1
    go_enter Try.func27, Try.ntmps27
    go_wp2_with fail
    refine (unhide CR _).mono ?_
    rintro e v' ⟨rfl, hw⟩
    rw [hw]
    clear hw v'
    go_upto_region 6 with fail
    rw [← unhide HV]
    clear c0 c1 f1
    go_wp2_with fail
    refine (unhide CT).mono ?_
    rintro e v2 ⟨a1, cp, rfl, hro, hst, hmv⟩
    have HRO := hide hro
    have HST := hide hst
    have HMV := hide hmv
    clear hro hst hmv CT c2
    go_wp2_with fail
    go_ret2
    obtain ⟨l1, l2⟩ := (unhide HH1).same (unhide HST) (unhide HMV)
    exact ⟨a1, cp, rfl, row_mono (unhide HRO) (unhide M1).size, l1, ((unhide M1).mono (fun k e => .inl (.inl e))).trans l2 (fun _ f => .inl f)⟩
set_option maxRecDepth 100000 in
set_option maxHeartbeats 4000000 in
theorem ttwin_any {v : World} {p : Nat} {F : Nat → Prop} {L : LineV} (h : LineIs v p F L) :
    Calls Try.prog 31 #[.pointer (some ⟨p, 0, none⟩)] v fun e v' => ∃ p2 F2, e = .returned (.pointer (some ⟨p2, 0, none⟩)) ∧ LineIs v' p2 F2 L ∧ (∀ k, F2 k → v.heap.size ≤ k) ∧ Below v.heap.size v v' := by
  obtain ⟨q, G, h, rfl⟩ := h
  obtain ⟨CL, hCL⟩ : ∃ CL : World → Prop, CL = fun u => Below v.heap.size v u := ⟨_, rfl⟩
  have un : ∀ u, CL u → Below v.heap.size v u := fun u k => by rw [hCL] at k; exact k
  have to_ : Hid (∀ u, Below v.heap.size v u → CL u) := hide fun u k => by rw [hCL]; exact k
  have base : CL v.drew := unhide to_ _ ((Below.refl _ _).drew)
  have q0 : ∀ u : SW CL, u.w.cell? ⟨p, 0, none⟩ = some (.pointer (some ⟨q, 0, none⟩)) := fun u => (h.row.below (un _ u.ok)).cell 0 (Nat.succ_pos _)
  have q1 : ∀ u : SW CL, u.w.cell? ⟨p, 1, none⟩ = some (.int .i64 L.mark) := fun u => (h.row.below (un _ u.ok)).cell 1 (Nat.lt_of_sub_pos (Nat.succ_pos _))
  have C := hide (twin_any (h.st.keep ((Moved.refl (fun _ => False) v).drew) (fun _ f => f.elim)))
  clear h hCL un
  go_enter Try.func31, Try.ntmps31
  go_upto_region 3 with fail
  refine wp_region_chain (S := CL) [true, true, true, true, false, true, true, true, true, false, false, false] [false, false, false, false, true, false, false, false, false, true, true, true] (by kernel_rfl) (by kernel_rfl) (by kernel_rfl) base ?_
  apply Exists.intro
  apply And.intro
  · intro q
    have n0 : Nonempty (SK CL q.w) := ⟨⟨q, rfl⟩⟩
    simp only [pickM]
    repeat (go_big_quiet_step (fail))
    exact wpQuiet_nil rfl
  · simp only [pickZ]
    refine chain_call 13 #[.pointer (some ⟨q, 0, none⟩)] rfl (by simp [go_sem]) ?_
    refine (unhide C).mono ?_
    rintro e v1 ⟨q2, G2, rfl, hs, hg, hb⟩
    have hb' : Below v.heap.size v v1 := ((Below.refl v.heap.size v).drew).trans (hb.mono (Nat.le_refl _))
    refine ⟨_, rfl, unhide to_ _ hb', ?_⟩
    have HS := hide hs
    have HG := hide hg
    have HB := hide hb'
    clear hs hg hb hb' C base q0 q1
    go_simp
    have hb3 : Below v1.heap.size v1 (v1.alloc (.cells #[.pointer (some ⟨q2, 0, none⟩), .int .i64 L.mark] 95)) := (Below.refl _ _).alloc (Nat.le_refl _) _
    have hb4 : Below v.heap.size v (v1.alloc (.cells #[.pointer (some ⟨q2, 0, none⟩), .int .i64 L.mark] 95)) := (unhide HB).trans (hb3.mono (unhide HB).size)
    have CL4 := hide (unhide to_ _ hb4)
    have HB3 := hide hb3
    have HB4 := hide hb4
    clear hb3 hb4
    refine chain_step (.agg #[.pointer (some ⟨q2, 0, none⟩), .int .i64 L.mark]) v1 rfl (by simp [go_sem]) (unhide to_ _ (unhide HB)) ?_
    go_simp
    refine chain_step (.pointer (some ⟨v1.heap.size, 0, none⟩)) (v1.alloc (.cells #[.pointer (some ⟨q2, 0, none⟩), .int .i64 L.mark] 95)) rfl (by simp [go_sem]) (unhide CL4) ?_
    go_simp
    refine chain_step (.pointer (some ⟨v1.heap.size, 0, none⟩)) (v1.alloc (.cells #[.pointer (some ⟨q2, 0, none⟩), .int .i64 L.mark] 95)) rfl (by simp [go_sem]) (unhide CL4) ?_
    simp only [chainM]
    go_simp
    go_wp2_with fail
    go_ret
    refine ⟨v1.heap.size, _, rfl, ⟨q2, G2, ⟨row_new v1 _ _, (unhide HS).keep (Moved.of_below (F := fun _ => False) (unhide HB3)) (fun _ f => f.elim), fun f => Nat.lt_irrefl _ ((unhide HS).lt _ f)⟩, rfl⟩, ?_, unhide HB4⟩
    rintro k (rfl | f)
    · exact (unhide HB).size
    · exact unhide HG k f
end Go.Proofs.Ytmgmkdkdpeljmaa

namespace Go.Proofs.Ytmgmkdkdpeljmaa
open Go.RowKit
theorem late_wrong {a m : Int} (h : Sp.rightI a = false) : Sp.lateI a m = false := by
  unfold Sp.lateI
  have h' : ¬ (0 ≤ a ∧ a ≤ 1099511627776) := fun k => by rw [Sp.rightI_iff.2 k] at h; cases h
  rw [Sp.startI_wrong h']
  refine Bool.eq_false_iff.2 fun k => ?_
  have := Sp.overI_iff.1 k
  unfold Sp.isOver at this
  omega
theorem late_wrong2 {a m : Int} (h : Sp.rightI m = false) : Sp.lateI a m = false := by
  unfold Sp.lateI
  have h' : ¬ (0 ≤ m ∧ m ≤ 1099511627776) := fun k => by rw [Sp.rightI_iff.2 k] at h; cases h
  refine Bool.eq_false_iff.2 fun k => ?_
  have := Sp.overI_iff.1 k
  unfold Sp.isOver at this
  omega
theorem late_right {a m : Int} (ha : Sp.rightI a = true) (hm : Sp.rightI m = true) : Sp.lateI a m = decide ((15 : Int) ≤ m - Sp.startI a) := by
  have h1 := Sp.rightI_iff.1 ha
  have h2 := Sp.rightI_iff.1 hm
  unfold Sp.lateI Sp.overI
  rw [decide_eq_decide, Sp.startI_right h1]
  unfold Sp.isOver
  omega
set_option maxRecDepth 100000 in
theorem rlate_any (a m : Int) (w : World) : Calls Try.prog 54 #[.int .i64 a, .int .i64 m] w fun e w' => e = .returned (.bool (Sp.lateI a m)) ∧ w' = w := by
  have C1 := hide (fun v => Sp.rright_any a v)
  have C2 := hide (fun v => Sp.rright_any m v)
  have C3 := hide (fun v => Sp.rstart_any a v)
  cases ha : Sp.rightI a with
  | false =>
    rw [late_wrong ha]
    rw [ha] at C1
    clear ha
    go_enter Try.func54, Try.ntmps54
    go_wp2_with fail
    refine (unhide C1 _).mono ?_
    rintro e v' ⟨rfl, hw⟩
    rw [hw]
    clear hw v'
    go_wp2_with fail
    go_ret
    exact ⟨rfl, rfl⟩
  | true =>
    rw [ha] at C1
    cases hm : Sp.rightI m with
    | false =>
      rw [late_wrong2 hm]
      rw [hm] at C2
      clear ha hm
      go_enter Try.func54, Try.ntmps54
      go_wp2_with fail
      refine (unhide C1 _).mono ?_
      rintro e v' ⟨rfl, hw⟩
      rw [hw]
      clear hw v'
      go_wp2_with fail
      refine (unhide C2 _).mono ?_
      rintro e v' ⟨rfl, hw⟩
      rw [hw]
      clear hw v'
      go_wp2_with fail
      go_ret
      exact ⟨rfl, rfl⟩
    | true =>
      rw [late_right ha hm]
      rw [hm] at C2
      have hwr : IntKind.i64.wrap (m - Sp.startI a) = m - Sp.startI a := Go.IntWalk.i64_in _ (by
        have h1 := startI_i64 ha
        have h2 := Sp.rightI_iff.1 hm
        omega)
      clear ha hm
      generalize Sp.startI a = s at *
      go_enter Try.func54, Try.ntmps54
      go_wp2_with fail
      refine (unhide C1 _).mono ?_
      rintro e v' ⟨rfl, hw⟩
      rw [hw]
      clear hw v'
      go_wp2_with fail
      refine (unhide C2 _).mono ?_
      rintro e v' ⟨rfl, hw⟩
      rw [hw]
      clear hw v'
      go_wp2_with fail
      refine (unhide C3 _).mono ?_
      rintro e v' ⟨rfl, hw⟩
      rw [hw]
      clear hw v'
      go_wp2_with fail
      go_ret
      exact ⟨rfl, rfl⟩
theorem results_cell_tmp2 {P : Program} {fn : Func} {p t t2 : Tmp} {ty : TypeId} (h : fn.results = #[.cell p ty, .tmp t, .tmp t2]) (tmps : Array Value) (w : World) (g : Nat) (cs : List Value) (d : TypeDesc)
    (hp : tmps.getD p undef = .pointer (some ⟨g, 0, none⟩)) (hc : w.rangeAt g 0 cs) (hu : P.underlying ty = some d) (hd : d.isRow = true) (hi : (P.info? ty).map (·.size) = some cs.length) :
    (results fn tmps).run P w = .ok (.tuple #[.agg cs.toArray, tmps.getD t undef, tmps.getD t2 undef]) w := by
  have hp' : tmps[p]?.getD undef = .pointer (some ⟨g, 0, none⟩) := by simpa using hp
  simp [results, h, hp', asAddr, run_loadVar_mid w g 0 ty cs d hc hu hd hi]
/-- What Put's and Mark's boxes hold: the line, and the answer's room. -/
structure LB (w : World) (H : Nat) (x y : List Value) (v : World) : Prop where
  r0 : RowAt v H x
  r1 : RowAt v (H + 1) y
  bel : Below w.heap.size w v
theorem LB.below {w v v' : World} {H : Nat} {x y : List Value} (h : LB w H x y v) (hb : Below v.heap.size v v') : LB w H x y v' := ⟨h.r0.below hb, h.r1.below hb, h.bel.trans (hb.mono h.bel.size)⟩
theorem LB.put1 {w v : World} {H : Nat} {x y : List Value} (h : LB w H x y v) (hH : H = w.heap.size) (z : List Value) (hz : y.length = z.length) : ∃ wf, v.setCells (H + 1) 0 z = wf ∧ LB w H x z wf ∧ Moved (fun j => j = H + 1) v wf := by
  have m := setCells_moved v (H + 1) 0 z
  exact ⟨_, rfl, ⟨h.r0.keep m (by omega), h.r1.put z hz, ((Moved.of_below (F := fun j => j = H + 1) h.bel).trans m (fun _ hi => .inl hi)).below (fun i hi => by omega) (Nat.le_refl _)⟩, m⟩
theorem there_one {w : World} {B : Nat} {p q : Value} (h : RowAt w B [p, q]) : w.there B 1 1 := fun i hi => by
  have h0 : i = 0 := by omega
  subst h0
  have h1 : 1 < [p, q].length := by simp
  exact ⟨by rw [h.cell 1 h1]; rfl, h.free 1 h1⟩
theorem LB.put0 {w v : World} {H : Nat} {m s : Value} {y : List Value} (h : LB w H [m, s] y v) (hH : H = w.heap.size) (z : Value) : ∃ wf, v.setCells H 1 [z] = wf ∧ LB w H [m, z] y wf ∧ Moved (fun j => j = H) v wf := by
  have mv := setCells_moved v H 1 [z]
  exact ⟨_, rfl, ⟨h.r0.set 1 (by simp) z, h.r1.keep mv (by omega), ((Moved.of_below (F := fun j => j = H) h.bel).trans mv (fun _ hi => .inl hi)).below (fun i hi => by omega) (Nat.le_refl _)⟩, mv⟩
set_option maxRecDepth 100000 in
set_option maxHeartbeats 4000000 in
theorem rtput_any {w : World} {B : Nat} {a : Option Addr} {c : Nat} {L : LineV} (hR : OutK.Row w B a c L.row) (hB : B ≤ w.heap.size) (hg : Good SO L.row) (hm : Mild L.row) (k : List UInt8) (at_ n : Int) (hn : i64 n) :
    Calls Try.prog 26 #[.agg #[.int .i64 L.mark, .slice a L.row.length c], .string ⟨k.toArray⟩, .int .i64 at_, .int .i64 n] w fun e w' => ∃ a' c', e = .returned (.tuple #[.agg #[.int .i64 (putL L k at_ n).1.mark, .slice a' (putL L k at_ n).1.row.length c'], .int .i64 ((putL L k at_ n).2 : Int)]) ∧ OutK.Row w' B a' c' (putL L k at_ n).1.row ∧ (∀ j, (Value.slice a' (putL L k at_ n).1.row.length c').ownBlock = some j → (Value.slice a L.row.length c).ownBlock = some j ∨ w.heap.size ≤ j) ∧ Below w.heap.size w w' := by
  obtain ⟨W, hW⟩ : ∃ W, W = (w.alloc (.cells #[.int .i64 L.mark, .slice a L.row.length c] 51)).alloc (.cells #[.int .i64 0, .slice none 0 0] 51) := ⟨_, rfl⟩
  obtain ⟨H, hH⟩ : ∃ H, H = w.heap.size := ⟨_, rfl⟩
  have T0 : RowAt W H [.int .i64 L.mark, .slice a L.row.length c] := by rw [hW, hH]; exact row_old (row_new _ _ _) _
  have T1 : RowAt W (H + 1) [.int .i64 0, .slice none 0 0] := by rw [hW, hH]; exact row_new2 _ _ _ _ _
  have bW : Below w.heap.size w W := by rw [hW]; exact ((Below.refl _ _).alloc (Nat.le_refl _) _).alloc (by simp) _
  have BL := hide (⟨T0, T1, bW⟩ : LB w H [.int .i64 L.mark, .slice a L.row.length c] [.int .i64 0, .slice none 0 0] W)
  have HSZ : Hid (W.heap.size = H + 2) := hide (by rw [hW, hH]; simp)
  have HW := hide hW
  have HH := hide hH
  have HRW := hide hR
  have HBB := hide hB
  have HG := hide hg
  have HM := hide hm
  clear hW hH hR hB hg hm bW T0 T1
  have CK := hide (fun v => rkey_any k v)
  have CR := hide (fun v => Sp.rright_any at_ v)
  have CL := hide (fun v => rlate_any at_ L.mark v)
  have c0 : W.cell? ⟨H, 0, none⟩ = some (.int .i64 L.mark) := (unhide BL).r0.cell 0 (by simp)
  have c1 : W.cell? ⟨H, 1, none⟩ = some (.slice a L.row.length c) := (unhide BL).r0.cell 1 (by simp)
  rcases putL_ways L k at_ n with ⟨hk, e⟩ | ⟨hk, ⟨hlt, e⟩ | ⟨hlt, hz⟩⟩
  · have RS := hide e
    clear e
    by_cases hko : keyOk k = true
    · have hro : Sp.rightI at_ = false := Bool.eq_false_iff.2 (fun h => hk ⟨hko, h⟩)
      rw [hko] at CK
      rw [hro] at CR
      clear hk hko hro
      go_enter Try.func26, Try.ntmps26
      go_upto_region 1 with fail
      rw [← unhide HH]
      try change Code.wp _ _ _ _ ((w.alloc (.cells #[.int .i64 L.mark, .slice a L.row.length c] 51)).alloc (.cells #[.int .i64 0, .slice none 0 0] 51))
      rw [← unhide HW]
      go_upto_region 2 with fail
      refine (unhide CK _).mono ?_
      rintro e v' ⟨rfl, hw⟩
      rw [hw]
      clear hw v'
      go_upto_region 2 with fail
      refine (unhide CR _).mono ?_
      rintro e v' ⟨rfl, hw⟩
      rw [hw]
      clear hw v'
      go_upto_region 2 with fail
      have hrg := (unhide BL).r0.range
      have hth := (unhide BL).r1.there
      go_step
      refine wpList_load_mid rfl 51 (.tmp 4) rfl H 0 rfl [.int .i64 L.mark, .slice a L.row.length c] _ hrg Try.underlying51 rfl (by kernel_rfl) ?_
      refine wpList_store_mid rfl 51 (.tmp 8) (.tmp 20) rfl (H + 1) 0 #[.int .i64 L.mark, .slice a L.row.length c] rfl rfl hth (by kernel_rfl) (by simp [Value.oneCell']) ?_
      clear hrg hth
      obtain ⟨wf, hwf, hfr, hmv⟩ := (unhide BL).put1 (unhide HH) [.int .i64 L.mark, .slice a L.row.length c] rfl
      change wpList _ _ _ _ _ (World.setCells _ (H + 1) 0 [.int .i64 L.mark, .slice a L.row.length c])
      rw [hwf]
      have HFR := hide hfr
      have HMV := hide hmv
      clear hfr hmv hwf
      go_wp2_with fail
      refine bodyPost_ret (v := .tuple #[.agg #[.int .i64 L.mark, .slice a L.row.length c], .int .i64 4]) ?_ rfl ?_
      · exact results_cell_tmp Try.results26 _ wf (H + 1) [.int .i64 L.mark, .slice a L.row.length c] _ rfl (unhide HFR).r1.range Try.underlying51 rfl (by kernel_rfl)
      · exact ⟨a, c, by rw [unhide RS]; rfl, by rw [unhide RS]; exact row_below (unhide HRW) (unhide HFR).bel, by rw [unhide RS]; exact fun _ h => .inl h, (unhide HFR).bel⟩
    · rw [Bool.eq_false_iff.2 hko] at CK
      clear hk hko
      go_enter Try.func26, Try.ntmps26
      go_upto_region 1 with fail
      rw [← unhide HH]
      try change Code.wp _ _ _ _ ((w.alloc (.cells #[.int .i64 L.mark, .slice a L.row.length c] 51)).alloc (.cells #[.int .i64 0, .slice none 0 0] 51))
      rw [← unhide HW]
      go_upto_region 2 with fail
      refine (unhide CK _).mono ?_
      rintro e v' ⟨rfl, hw⟩
      rw [hw]
      clear hw v'
      go_upto_region 2 with fail
      have hrg := (unhide BL).r0.range
      have hth := (unhide BL).r1.there
      go_step
      refine wpList_load_mid rfl 51 (.tmp 4) rfl H 0 rfl [.int .i64 L.mark, .slice a L.row.length c] _ hrg Try.underlying51 rfl (by kernel_rfl) ?_
      refine wpList_store_mid rfl 51 (.tmp 8) (.tmp 20) rfl (H + 1) 0 #[.int .i64 L.mark, .slice a L.row.length c] rfl rfl hth (by kernel_rfl) (by simp [Value.oneCell']) ?_
      clear hrg hth
      obtain ⟨wf, hwf, hfr, hmv⟩ := (unhide BL).put1 (unhide HH) [.int .i64 L.mark, .slice a L.row.length c] rfl
      change wpList _ _ _ _ _ (World.setCells _ (H + 1) 0 [.int .i64 L.mark, .slice a L.row.length c])
      rw [hwf]
      have HFR := hide hfr
      have HMV := hide hmv
      clear hfr hmv hwf
      go_wp2_with fail
      refine bodyPost_ret (v := .tuple #[.agg #[.int .i64 L.mark, .slice a L.row.length c], .int .i64 4]) ?_ rfl ?_
      · exact results_cell_tmp Try.results26 _ wf (H + 1) [.int .i64 L.mark, .slice a L.row.length c] _ rfl (unhide HFR).r1.range Try.underlying51 rfl (by kernel_rfl)
      · exact ⟨a, c, by rw [unhide RS]; rfl, by rw [unhide RS]; exact row_below (unhide HRW) (unhide HFR).bel, by rw [unhide RS]; exact fun _ h => .inl h, (unhide HFR).bel⟩
  · have RS := hide e
    rw [hk.1] at CK
    rw [hk.2] at CR
    rw [hlt] at CL
    clear hk hlt e
    go_enter Try.func26, Try.ntmps26
    go_upto_region 1 with fail
    rw [← unhide HH]
    try change Code.wp _ _ _ _ ((w.alloc (.cells #[.int .i64 L.mark, .slice a L.row.length c] 51)).alloc (.cells #[.int .i64 0, .slice none 0 0] 51))
    rw [← unhide HW]
    go_upto_region 2 with fail
    refine (unhide CK _).mono ?_
    rintro e v' ⟨rfl, hw⟩
    rw [hw]
    clear hw v'
    go_upto_region 3 with fail
    refine (unhide CR _).mono ?_
    rintro e v' ⟨rfl, hw⟩
    rw [hw]
    clear hw v'
    go_upto_region 4 with fail
    refine (unhide CL _).mono ?_
    rintro e v' ⟨rfl, hw⟩
    rw [hw]
    clear hw v'
    go_upto_region 4 with fail
    have hrg := (unhide BL).r0.range
    have hth := (unhide BL).r1.there
    go_step
    refine wpList_load_mid rfl 51 (.tmp 4) rfl H 0 rfl [.int .i64 L.mark, .slice a L.row.length c] _ hrg Try.underlying51 rfl (by kernel_rfl) ?_
    refine wpList_store_mid rfl 51 (.tmp 8) (.tmp 25) rfl (H + 1) 0 #[.int .i64 L.mark, .slice a L.row.length c] rfl rfl hth (by kernel_rfl) (by simp [Value.oneCell']) ?_
    clear hrg hth
    obtain ⟨wf, hwf, hfr, hmv⟩ := (unhide BL).put1 (unhide HH) [.int .i64 L.mark, .slice a L.row.length c] rfl
    change wpList _ _ _ _ _ (World.setCells _ (H + 1) 0 [.int .i64 L.mark, .slice a L.row.length c])
    rw [hwf]
    have HFR := hide hfr
    have HMV := hide hmv
    clear hfr hmv hwf
    go_wp2_with fail
    refine bodyPost_ret (v := .tuple #[.agg #[.int .i64 L.mark, .slice a L.row.length c], .int .i64 2]) ?_ rfl ?_
    · exact results_cell_tmp Try.results26 _ wf (H + 1) [.int .i64 L.mark, .slice a L.row.length c] _ rfl (unhide HFR).r1.range Try.underlying51 rfl (by kernel_rfl)
    · exact ⟨a, c, by rw [unhide RS]; rfl, by rw [unhide RS]; exact row_below (unhide HRW) (unhide HFR).bel, by rw [unhide RS]; exact fun _ h => .inl h, (unhide HFR).bel⟩
  · rw [hk.1] at CK
    rw [hk.2] at CR
    rw [hlt] at CL
    have HRP := hide (rput_any (row_below (unhide HRW) (unhide BL).bel) (Nat.le_trans (unhide HBB) (unhide BL).bel.size) (unhide HG) (unhide HM).ins_ k at_ n hn)
    have HC := hide (put_code (l := L.row) (v := n) hk)
    have HZ := hide hz
    have RG := hide (show W.rangeAt H 1 [.slice a L.row.length c] from fun j u hu => by
      have := (unhide BL).r0.range (1 + j) u (by rw [← hu, Nat.add_comm 1 j]; rfl)
      rwa [Nat.zero_add] at this)
    clear hk hlt hz
    go_enter Try.func26, Try.ntmps26
    go_upto_region 1 with fail
    rw [← unhide HH]
    try change Code.wp _ _ _ _ ((w.alloc (.cells #[.int .i64 L.mark, .slice a L.row.length c] 51)).alloc (.cells #[.int .i64 0, .slice none 0 0] 51))
    rw [← unhide HW]
    go_upto_region 2 with fail
    refine (unhide CK _).mono ?_
    rintro e v' ⟨rfl, hw⟩
    rw [hw]
    clear hw v'
    go_upto_region 3 with fail
    refine (unhide CR _).mono ?_
    rintro e v' ⟨rfl, hw⟩
    rw [hw]
    clear hw v'
    go_upto_region 5 with fail
    refine (unhide CL _).mono ?_
    rintro e v' ⟨rfl, hw⟩
    rw [hw]
    clear hw v'
    go_upto_region 6 with (refine wpList_load_on rfl 49 (.tmp 27) rfl H 1 rfl [.slice a L.row.length c] _ (unhide RG) Try.underlying49 rfl (by kernel_rfl) ?_)
    rcases unhide HZ with ⟨h0, e⟩ | ⟨h0, e⟩
    · rw [h0, show ((0 : Nat) : Int) = 0 from rfl] at HRP
      have RS := hide e
      clear e h0 HZ HC
      refine (unhide HRP).mono ?_
      rintro e w2 ⟨a', c', rfl, hrow, hown, hb⟩
      have hbel3 : Below w2.heap.size w2 (w2.alloc (.cells #[.slice a' (putS SO L.row k at_ n).1.length c'] 49)) := (Below.refl _ _).alloc (Nat.le_refl _) _
      obtain ⟨w3, hw3⟩ : ∃ w3, w3 = w2.alloc (.cells #[.slice a' (putS SO L.row k at_ n).1.length c'] 49) := ⟨_, rfl⟩
      have RN : RowAt w3 w2.heap.size [.slice a' (putS SO L.row k at_ n).1.length c'] := by rw [hw3]; exact row_new _ _ _
      rw [← hw3] at hbel3
      have B3 := hide (((unhide BL).below hb).below hbel3)
      have HROW := hide (row_below hrow hbel3)
      have HOWN := hide hown
      have HW3 := hide hw3
      have HRN := hide RN
      clear hrow hown hb HRP RG c0 c1 hbel3 hw3 RN
      go_upto_region 6 with fail
      rw [← unhide HW3]
      clear HW3
      generalize w2.heap.size = h2 at HRN ⊢
      go_upto_region 8 with fail
      have hrg := (unhide HRN).range
      have hth := there_one (unhide B3).r0
      obtain ⟨w4, hw4, hb4, hm4⟩ := (unhide B3).put0 (unhide HH) (.slice a' (putS SO L.row k at_ n).1.length c')
      go_upto_region 9 with (first | refine wpList_load_on rfl 49 (.tmp 10) rfl h2 0 rfl [.slice a' (putS SO L.row k at_ n).1.length c'] _ hrg Try.underlying49 rfl (by kernel_rfl) ?_ | (refine wpList_store_mid rfl 49 (.tmp 39) (.tmp 38) (by simp [go_sem]) H 1 #[.slice a' (putS SO L.row k at_ n).1.length c'] rfl rfl hth (by kernel_rfl) (by simp [Value.oneCell']) ?_; change wpList _ _ _ _ _ (World.setCells _ H 1 [.slice a' (putS SO L.row k at_ n).1.length c']); rw [hw4]))
      have B4 := hide hb4
      have HM4 := hide hm4
      clear hrg hth HRN hb4 hm4 hw4 B3
      go_upto_region 9 with fail
      have hrg := (unhide B4).r0.range
      have hth := (unhide B4).r1.there
      go_step
      refine wpList_load_mid rfl 51 (.tmp 4) rfl H 0 rfl [.int .i64 L.mark, .slice a' (putS SO L.row k at_ n).1.length c'] _ hrg Try.underlying51 rfl (by kernel_rfl) ?_
      refine wpList_store_mid rfl 51 (.tmp 8) (.tmp 40) rfl (H + 1) 0 #[.int .i64 L.mark, .slice a' (putS SO L.row k at_ n).1.length c'] rfl rfl hth (by kernel_rfl) (by simp [Value.oneCell']) ?_
      clear hrg hth
      obtain ⟨wf, hwf, hfr, hmv⟩ := (unhide B4).put1 (unhide HH) [.int .i64 L.mark, .slice a' (putS SO L.row k at_ n).1.length c'] rfl
      change wpList _ _ _ _ _ (World.setCells _ (H + 1) 0 [.int .i64 L.mark, .slice a' (putS SO L.row k at_ n).1.length c'])
      rw [hwf]
      have HFR := hide hfr
      have HMV := hide hmv
      clear hfr hmv hwf
      go_wp2_with fail
      refine bodyPost_ret (v := .tuple #[.agg #[.int .i64 L.mark, .slice a' (putS SO L.row k at_ n).1.length c'], .int .i64 1]) ?_ rfl ?_
      · exact results_cell_tmp Try.results26 _ wf (H + 1) [.int .i64 L.mark, .slice a' (putS SO L.row k at_ n).1.length c'] _ rfl (unhide HFR).r1.range Try.underlying51 rfl (by kernel_rfl)
      · exact ⟨a', c', by rw [unhide RS]; rfl, by rw [unhide RS]; exact row_moved (row_moved (unhide HROW) (unhide HM4) (fun i hi k hk => by have := row_lt (unhide HRW) k; have := unhide HOWN k hk; have := unhide HH; have := unhide HSZ; subst hi; rcases unhide HOWN k hk with h | h; (have := (row_lt (unhide HRW) k h).2; omega); omega)) (unhide HMV) (fun i hi k hk => by have := unhide HH; have := unhide HSZ; subst hi; rcases unhide HOWN k hk with h | h; (have := (row_lt (unhide HRW) k h).2; omega); omega), by rw [unhide RS]; exact fun j h => (unhide HOWN j h).imp id (fun h => by have := unhide HH; have := unhide HSZ; omega), (unhide HFR).bel⟩
    · have h6 := (unhide HC).resolve_left h0
      rw [h6.1, show ((6 : Nat) : Int) = 6 from rfl] at HRP
      have RS := hide e
      clear e h0 h6 HZ HC
      refine (unhide HRP).mono ?_
      rintro e w2 ⟨a', c', rfl, hrow, hown, hb⟩
      have hbel3 : Below w2.heap.size w2 (w2.alloc (.cells #[.slice a' (putS SO L.row k at_ n).1.length c'] 49)) := (Below.refl _ _).alloc (Nat.le_refl _) _
      obtain ⟨w3, hw3⟩ : ∃ w3, w3 = w2.alloc (.cells #[.slice a' (putS SO L.row k at_ n).1.length c'] 49) := ⟨_, rfl⟩
      have RN : RowAt w3 w2.heap.size [.slice a' (putS SO L.row k at_ n).1.length c'] := by rw [hw3]; exact row_new _ _ _
      rw [← hw3] at hbel3
      have B3 := hide (((unhide BL).below hb).below hbel3)
      have HROW := hide (row_below hrow hbel3)
      have HOWN := hide hown
      have HW3 := hide hw3
      have HRN := hide RN
      clear hrow hown hb HRP RG c0 c1 hbel3 hw3 RN
      go_upto_region 6 with fail
      rw [← unhide HW3]
      clear HW3
      generalize w2.heap.size = h2 at HRN ⊢
      go_upto_region 7 with fail
      have hrg := (unhide B3).r0.range
      have hth := (unhide B3).r1.there
      go_step
      refine wpList_load_mid rfl 51 (.tmp 4) rfl H 0 rfl [.int .i64 L.mark, .slice a L.row.length c] _ hrg Try.underlying51 rfl (by kernel_rfl) ?_
      refine wpList_store_mid rfl 51 (.tmp 8) (.tmp 37) rfl (H + 1) 0 #[.int .i64 L.mark, .slice a L.row.length c] rfl rfl hth (by kernel_rfl) (by simp [Value.oneCell']) ?_
      clear hrg hth
      obtain ⟨wf, hwf, hfr, hmv⟩ := (unhide B3).put1 (unhide HH) [.int .i64 L.mark, .slice a L.row.length c] rfl
      change wpList _ _ _ _ _ (World.setCells _ (H + 1) 0 [.int .i64 L.mark, .slice a L.row.length c])
      rw [hwf]
      have HFR := hide hfr
      have HMV := hide hmv
      clear hfr hmv hwf
      go_wp2_with fail
      refine bodyPost_ret (v := .tuple #[.agg #[.int .i64 L.mark, .slice a L.row.length c], .int .i64 3]) ?_ rfl ?_
      · exact results_cell_tmp Try.results26 _ wf (H + 1) [.int .i64 L.mark, .slice a L.row.length c] _ rfl (unhide HFR).r1.range Try.underlying51 rfl (by kernel_rfl)
      · exact ⟨a, c, by rw [unhide RS]; rfl, by rw [unhide RS]; exact row_below (unhide HRW) (unhide HFR).bel, by rw [unhide RS]; exact fun _ h => .inl h, (unhide HFR).bel⟩
set_option maxRecDepth 100000 in
set_option maxHeartbeats 4000000 in
theorem rtmark_any {w : World} {B : Nat} {a : Option Addr} {c : Nat} {L : LineV} (hR : OutK.Row w B a c L.row) (hB : B ≤ w.heap.size) (hg : Good SO L.row) (hm : Mild L.row) (at_ : Int) :
    Calls Try.prog 28 #[.agg #[.int .i64 L.mark, .slice a L.row.length c], .int .i64 at_] w fun e w' => ∃ a' c' a2 c2, e = .returned (.tuple #[.agg #[.int .i64 (markL L at_).1.mark, .slice a' (markL L at_).1.row.length c'], .int .i64 ((markL L at_).2.1 : Int), .slice a2 (markL L at_).2.2.length c2]) ∧ OutK.Row w' B a' c' (markL L at_).1.row ∧ OutK.Row w' w.heap.size a2 c2 (markL L at_).2.2 ∧ (∀ j, (Value.slice a' (markL L at_).1.row.length c').ownBlock = some j → (Value.slice a L.row.length c).ownBlock = some j ∨ w.heap.size ≤ j) ∧ Below w.heap.size w w' := by
  obtain ⟨W, hW⟩ : ∃ W, W = (w.alloc (.cells #[.int .i64 L.mark, .slice a L.row.length c] 51)).alloc (.cells #[.int .i64 0, .slice none 0 0] 51) := ⟨_, rfl⟩
  obtain ⟨H, hH⟩ : ∃ H, H = w.heap.size := ⟨_, rfl⟩
  have T0 : RowAt W H [.int .i64 L.mark, .slice a L.row.length c] := by rw [hW, hH]; exact row_old (row_new _ _ _) _
  have T1 : RowAt W (H + 1) [.int .i64 0, .slice none 0 0] := by rw [hW, hH]; exact row_new2 _ _ _ _ _
  have bW : Below w.heap.size w W := by rw [hW]; exact ((Below.refl _ _).alloc (Nat.le_refl _) _).alloc (by simp) _
  have BL := hide (⟨T0, T1, bW⟩ : LB w H [.int .i64 L.mark, .slice a L.row.length c] [.int .i64 0, .slice none 0 0] W)
  have HSZ : Hid (W.heap.size = H + 2) := hide (by rw [hW, hH]; simp)
  have HW := hide hW
  have HH := hide hH
  have HRW := hide hR
  have HBB := hide hB
  have HG := hide hg
  have HM := hide hm
  clear hW hH hR hB hg hm bW T0 T1
  have CR := hide (fun v => Sp.rright_any at_ v)
  have c0 : W.cell? ⟨H, 0, none⟩ = some (.int .i64 L.mark) := (unhide BL).r0.cell 0 (by simp)
  rcases markL_ways L at_ with ⟨hro, e⟩ | ⟨hro, ⟨hle, e⟩ | ⟨hle, e⟩⟩
  · have RS := hide e
    clear e
    rw [hro] at CR
    clear hro
    go_enter Try.func28, Try.ntmps28
    go_upto_region 1 with fail
    rw [← unhide HH]
    try change Code.wp _ _ _ _ ((w.alloc (.cells #[.int .i64 L.mark, .slice a L.row.length c] 51)).alloc (.cells #[.int .i64 0, .slice none 0 0] 51))
    rw [← unhide HW]
    go_upto_region 2 with fail
    refine (unhide CR _).mono ?_
    rintro e v' ⟨rfl, hw⟩
    rw [hw]
    clear hw v'
    go_upto_region 2 with fail
    have hrg := (unhide BL).r0.range
    have hth := (unhide BL).r1.there
    go_step
    refine wpList_load_mid rfl 51 (.tmp 2) rfl H 0 rfl [.int .i64 L.mark, .slice a L.row.length c] _ hrg Try.underlying51 rfl (by kernel_rfl) ?_
    refine wpList_store_mid rfl 51 (.tmp 4) (.tmp 12) rfl (H + 1) 0 #[.int .i64 L.mark, .slice a L.row.length c] rfl rfl hth (by kernel_rfl) (by simp [Value.oneCell']) ?_
    clear hrg hth
    obtain ⟨wf, hwf, hfr, hmv⟩ := (unhide BL).put1 (unhide HH) [.int .i64 L.mark, .slice a L.row.length c] rfl
    change wpList _ _ _ _ _ (World.setCells _ (H + 1) 0 [.int .i64 L.mark, .slice a L.row.length c])
    rw [hwf]
    have HFR := hide hfr
    have HMV := hide hmv
    clear hfr hmv hwf
    go_wp2_with fail
    refine bodyPost_ret (v := .tuple #[.agg #[.int .i64 L.mark, .slice a L.row.length c], .int .i64 4, .slice none 0 0]) ?_ rfl ?_
    · exact results_cell_tmp2 Try.results28 _ wf (H + 1) [.int .i64 L.mark, .slice a L.row.length c] _ rfl (unhide HFR).r1.range Try.underlying51 rfl (by kernel_rfl)
    · exact ⟨a, c, none, 0, by rw [unhide RS]; rfl, by rw [unhide RS]; exact row_below (unhide HRW) (unhide HFR).bel, by rw [unhide RS]; exact row_none _ _, by rw [unhide RS]; exact fun _ h => .inl h, (unhide HFR).bel⟩
  · have RS := hide e
    clear e
    rw [hro] at CR
    clear hro
    go_enter Try.func28, Try.ntmps28
    go_upto_region 1 with fail
    rw [← unhide HH]
    try change Code.wp _ _ _ _ ((w.alloc (.cells #[.int .i64 L.mark, .slice a L.row.length c] 51)).alloc (.cells #[.int .i64 0, .slice none 0 0] 51))
    rw [← unhide HW]
    go_upto_region 3 with fail
    refine (unhide CR _).mono ?_
    rintro e v' ⟨rfl, hw⟩
    rw [hw]
    clear hw v'
    go_upto_region 4 with fail
    have hrg := (unhide BL).r0.range
    have hth := (unhide BL).r1.there
    go_step
    refine wpList_load_mid rfl 51 (.tmp 2) rfl H 0 rfl [.int .i64 L.mark, .slice a L.row.length c] _ hrg Try.underlying51 rfl (by kernel_rfl) ?_
    refine wpList_store_mid rfl 51 (.tmp 4) (.tmp 17) rfl (H + 1) 0 #[.int .i64 L.mark, .slice a L.row.length c] rfl rfl hth (by kernel_rfl) (by simp [Value.oneCell']) ?_
    clear hrg hth
    obtain ⟨wf, hwf, hfr, hmv⟩ := (unhide BL).put1 (unhide HH) [.int .i64 L.mark, .slice a L.row.length c] rfl
    change wpList _ _ _ _ _ (World.setCells _ (H + 1) 0 [.int .i64 L.mark, .slice a L.row.length c])
    rw [hwf]
    have HFR := hide hfr
    have HMV := hide hmv
    clear hfr hmv hwf
    go_wp2_with fail
    refine bodyPost_ret (v := .tuple #[.agg #[.int .i64 L.mark, .slice a L.row.length c], .int .i64 1, .slice none 0 0]) ?_ rfl ?_
    · exact results_cell_tmp2 Try.results28 _ wf (H + 1) [.int .i64 L.mark, .slice a L.row.length c] _ rfl (unhide HFR).r1.range Try.underlying51 rfl (by kernel_rfl)
    · exact ⟨a, c, none, 0, by rw [unhide RS]; rfl, by rw [unhide RS]; exact row_below (unhide HRW) (unhide HFR).bel, by rw [unhide RS]; exact row_none _ _, by rw [unhide RS]; exact fun _ h => .inl h, (unhide HFR).bel⟩
  · have RS := hide e
    clear e
    rw [hro] at CR
    clear hro
    obtain ⟨W5, hW5⟩ : ∃ W5, W5 = W.setCell ⟨H, 0, none⟩ (.int .i64 at_) := ⟨_, rfl⟩
    have m5 : Moved (fun j => j = H) W W5 := by rw [hW5]; exact Moved.setCell (F := fun j => j = H) (Moved.refl _ _) (.inl rfl) _
    have B5 := hide (⟨by rw [hW5]; exact (unhide BL).r0.set 0 (by simp) _, (unhide BL).r1.keep m5 (by omega), ((Moved.of_below (F := fun j => j = H) (unhide BL).bel).trans m5 (fun _ hi => .inl hi)).below (fun i hi => by have := unhide HH; omega) (Nat.le_refl _)⟩ : LB w H [.int .i64 at_, .slice a L.row.length c] [.int .i64 0, .slice none 0 0] W5)
    have HSZ5 : Hid (W5.heap.size = H + 2) := hide (by rw [hW5, World.size_setCell]; exact unhide HSZ)
    have HW5 := hide hW5
    have HLE := hide hle
    have RG := hide (show W5.rangeAt H 1 [.slice a L.row.length c] from fun j u hu => by
      have := (unhide B5).r0.range (1 + j) u (by rw [← hu, Nat.add_comm 1 j]; rfl)
      rwa [Nat.zero_add] at this)
    have HRP := hide (rtake_any (row_below (unhide HRW) (unhide B5).bel) (by have := (unhide HG).most; omega) at_)
    clear m5 hW5
    have f0 : W.frozen? ⟨H, 0, none⟩ = false := (unhide BL).r0.free 0 (by simp)
    go_enter Try.func28, Try.ntmps28
    go_upto_region 1 with fail
    rw [← unhide HH]
    try change Code.wp _ _ _ _ ((w.alloc (.cells #[.int .i64 L.mark, .slice a L.row.length c] 51)).alloc (.cells #[.int .i64 0, .slice none 0 0] 51))
    rw [← unhide HW]
    go_upto_region 3 with fail
    refine (unhide CR _).mono ?_
    rintro e v' ⟨rfl, hw⟩
    rw [hw]
    clear hw v'
    go_upto_region 5 with fail
    go_upto_region 6 with fail
    rw [← unhide HW5]
    clear f0 hle
    go_upto_region 7 with (refine wpList_load_on rfl 49 (.tmp 21) rfl H 1 rfl [.slice a L.row.length c] _ (unhide RG) Try.underlying49 rfl (by kernel_rfl) ?_)
    refine (unhide HRP).mono ?_
    rintro e w2 ⟨a', c', a2, c2, rfl, hrow, hrow2, hb⟩
    have hbel3 : Below w2.heap.size w2 (w2.alloc (.cells #[.slice a' (takeS SO L.row at_).1.length c'] 49)) := (Below.refl _ _).alloc (Nat.le_refl _) _
    obtain ⟨w3, hw3⟩ : ∃ w3, w3 = w2.alloc (.cells #[.slice a' (takeS SO L.row at_).1.length c'] 49) := ⟨_, rfl⟩
    have RN : RowAt w3 w2.heap.size [.slice a' (takeS SO L.row at_).1.length c'] := by rw [hw3]; exact row_new _ _ _
    rw [← hw3] at hbel3
    have B3 := hide (((unhide B5).below hb).below hbel3)
    have HROW := hide (row_below hrow hbel3)
    have HROW2 := hide (row_below hrow2 hbel3)
    have HW3 := hide hw3
    have HRN := hide RN
    clear hrow hrow2 hb HRP RG c0 hbel3 hw3 RN
    go_upto_region 7 with fail
    rw [← unhide HW3]
    clear HW3 HW5
    generalize w2.heap.size = h2 at HRN ⊢
    have hrg := (unhide HRN).range
    have hth := there_one (unhide B3).r0
    obtain ⟨w4, hw4, hb4, hm4⟩ := (unhide B3).put0 (unhide HH) (.slice a' (takeS SO L.row at_).1.length c')
    go_upto_region 8 with (first | refine wpList_load_on rfl 49 (.tmp 7) rfl h2 0 rfl [.slice a' (takeS SO L.row at_).1.length c'] _ hrg Try.underlying49 rfl (by kernel_rfl) ?_ | (refine wpList_store_mid rfl 49 (.tmp 28) (.tmp 27) (by simp [go_sem]) H 1 #[.slice a' (takeS SO L.row at_).1.length c'] rfl rfl hth (by kernel_rfl) (by simp [Value.oneCell']) ?_; change wpList _ _ _ _ _ (World.setCells _ H 1 [.slice a' (takeS SO L.row at_).1.length c']); rw [hw4]))
    have B4 := hide hb4
    have HM4 := hide hm4
    clear hrg hth HRN hb4 hm4 hw4 B3
    have hrg := (unhide B4).r0.range
    have hth := (unhide B4).r1.there
    obtain ⟨wf, hwf, hfr, hmv⟩ := (unhide B4).put1 (unhide HH) [.int .i64 at_, .slice a' (takeS SO L.row at_).1.length c'] rfl
    go_wp2_with (first | refine wpList_load_on rfl 51 (.tmp 2) rfl H 0 rfl [.int .i64 at_, .slice a' (takeS SO L.row at_).1.length c'] _ hrg Try.underlying51 rfl (by kernel_rfl) ?_ | (refine wpList_store_mid rfl 51 (.tmp 4) (.tmp 29) (by simp [go_sem]) (H + 1) 0 #[.int .i64 at_, .slice a' (takeS SO L.row at_).1.length c'] rfl rfl hth (by kernel_rfl) (by simp [Value.oneCell']) ?_; change wpList _ _ _ _ _ (World.setCells _ (H + 1) 0 [.int .i64 at_, .slice a' (takeS SO L.row at_).1.length c']); rw [hwf]))
    have HFR := hide hfr
    have HMV := hide hmv
    clear hfr hmv hwf hrg hth
    refine bodyPost_ret (v := .tuple #[.agg #[.int .i64 at_, .slice a' (takeS SO L.row at_).1.length c'], .int .i64 1, .slice a2 (takeS SO L.row at_).2.length c2]) ?_ rfl ?_
    · exact results_cell_tmp2 Try.results28 _ wf (H + 1) [.int .i64 at_, .slice a' (takeS SO L.row at_).1.length c'] _ rfl (unhide HFR).r1.range Try.underlying51 rfl (by kernel_rfl)
    · exact ⟨a', c', a2, c2, by rw [unhide RS]; rfl, by rw [unhide RS]; exact row_mono (row_moved (row_moved (unhide HROW) (unhide HM4) (fun i hi k hk => by have := (row_lt (unhide HROW) k hk).1; have := unhide HSZ5; omega)) (unhide HMV) (fun i hi k hk => by have := (row_lt (unhide HROW) k hk).1; have := unhide HSZ5; omega)) (by have := unhide HBB; have := unhide HSZ5; have := unhide HH; omega), by rw [unhide RS]; exact row_mono (row_moved (row_moved (unhide HROW2) (unhide HM4) (fun i hi k hk => by have := (row_lt (unhide HROW2) k hk).1; have := unhide HSZ5; omega)) (unhide HMV) (fun i hi k hk => by have := (row_lt (unhide HROW2) k hk).1; have := unhide HSZ5; omega)) (by have := unhide HSZ5; have := unhide HH; omega), by rw [unhide RS]; exact fun j h => .inr (by have := (row_lt (unhide HROW) j h).1; have := unhide HSZ5; have := unhide HH; omega), (unhide HFR).bel⟩
end Go.Proofs.Ytmgmkdkdpeljmaa

namespace Go.Proofs.Ytmgmkdkdpeljmaa
open Go.RowKit
structure HLF (w0 v : World) (p : Nat) (F : Nat → Prop) (L : LineV) (R : List Held) : Prop where
  st : LineIs v p F L
  big : ∀ k, F k → w0.heap.size ≤ k
  bel : Below w0.heap.size w0 v
  rows : ∀ r ∈ R, r.is w0 v ∧ ∀ k, r.at k → ¬ F k
def HL (w0 v : World) (p : Nat) (L : LineV) (R : List Held) : Prop := ∃ F, HLF w0 v p F L R
variable {w0 v v' : World} {p : Nat} {F F' : Nat → Prop} {L L' : LineV} {R R' : List Held}
theorem HLF.step (h : HLF w0 v p F L R) (hs : LineIs v' p F' L') (hf : ∀ k, F' k → F k ∨ v.heap.size ≤ k) (m : Moved F v v') : HLF w0 v' p F' L' R := by
  refine ⟨hs, fun k hk => (hf k hk).elim (h.big k) (fun e => Nat.le_trans h.bel.size e), below_of_moved h.bel h.big m, fun r hr => ?_⟩
  obtain ⟨h1, h2⟩ := h.rows r hr
  refine ⟨row_moved h1 m (fun i hi k hk e => h2 k hk (e ▸ hi)), fun k hk f => ?_⟩
  rcases hf k f with f | f
  · exact h2 k hk f
  · have := (row_lt h1 k hk).2; omega
theorem HLF.did (h : HLF w0 v p F L R) (hd : DidL v v' p F L') : HL w0 v' p L' R := by
  obtain ⟨F', h1, h2, h3⟩ := hd
  exact ⟨F', h.step h1 h2 h3⟩
theorem HLF.below (h : HLF w0 v p F L R) (hb : Below v.heap.size v v') : HLF w0 v' p F L R :=
  h.step (h.st.keep (Moved.of_below (F := fun _ => False) hb) (fun _ f => f.elim)) (fun _ f => .inl f) (Moved.of_below hb)
theorem HL.below (h : HL w0 v p L R) (hb : Below v.heap.size v v') : HL w0 v' p L R := by obtain ⟨F, h⟩ := h; exact ⟨F, h.below hb⟩
theorem HL.bel (h : HL w0 v p L R) : Below w0.heap.size w0 v := by obtain ⟨F, h⟩ := h; exact h.bel
theorem HL.fine (h : HL w0 v p L R) : Fine L.row := by obtain ⟨F, h⟩ := h; exact h.st.fine
theorem HL.row (h : HL w0 v p L R) {r : Held} (hr : r ∈ R) : r.is w0 v := by obtain ⟨F, h⟩ := h; exact (h.rows r hr).1
theorem HL.drop (h : HL w0 v p L R) (hR : ∀ r ∈ R', r ∈ R) : HL w0 v p L R' := by obtain ⟨F, h⟩ := h; exact ⟨F, h.st, h.big, h.bel, fun r hr => h.rows r (hR r hr)⟩
/-- A row more in hand, made in memory of its own. -/
theorem HLF.take {a : Option Addr} {c : Nat} {x : List (Win AggV)} (h : HLF w0 v p F L R) (hs : LineIs v' p F L') (m : Moved F v v') (hx : OutK.Row v' v.heap.size a c x) : HLF w0 v' p F L' ((a, c, x) :: R) := by
  have h' := h.step hs (fun _ f => .inl f) m
  refine ⟨h'.st, h'.big, h'.bel, fun r hr => ?_⟩
  rcases List.mem_cons.1 hr with rfl | hr
  · refine ⟨row_mono hx h.bel.size, fun k hk f => ?_⟩
    have h1 : v.heap.size ≤ k := (row_lt hx k hk).1
    have h2 : k < v.heap.size := h.st.lt k f
    omega
  · exact h'.rows r hr
theorem HL.new (hb : Below w0.heap.size w0 v) : Calls Try.prog 24 #[] v fun e v' => ∃ p, e = .returned (.pointer (some ⟨p, 0, none⟩)) ∧ HL w0 v' p newL [] :=
  (tnew_any v).mono fun e v' ⟨p, F, h1, h2, h3, h4⟩ => ⟨p, h1, F, h2, fun k hk => Nat.le_trans hb.size (h3 k hk), hb.trans (h4.mono hb.size), fun r hr => by cases hr⟩
theorem HL.put (h : HL w0 v p L R) (hm : Mild L.row) (k : List UInt8) (a n : Int) (hn : i64 n) :
    Calls Try.prog 25 #[.pointer (some ⟨p, 0, none⟩), .string ⟨k.toArray⟩, .int .i64 a, .int .i64 n] v fun e v' => e = .returned (.int .i64 ((putL L k a n).2 : Int)) ∧ HL w0 v' p (putL L k a n).1 R := by
  obtain ⟨F, h⟩ := h
  exact (tput_any h.st hm.most hm.ins_ k a n hn).mono fun e v' ⟨h1, h2⟩ => ⟨h1, h.did h2⟩
theorem HL.mark (h : HL w0 v p L R) (hm : Mild L.row) (a : Int) :
    Calls Try.prog 27 #[.pointer (some ⟨p, 0, none⟩), .int .i64 a] v fun e v' => ∃ a1 c1, e = .returned (.tuple #[.int .i64 ((markL L a).2.1 : Int), .slice a1 (markL L a).2.2.length c1]) ∧ HL w0 v' p (markL L a).1 ((a1, c1, (markL L a).2.2) :: R) := by
  obtain ⟨F, h⟩ := h
  exact (tmark_any h.st (Nat.le_trans hm.most (by omega)) a).mono fun e v' ⟨a1, c1, h1, h2, h3, h4⟩ => ⟨a1, c1, h1, F, h.take h3 h4 h2⟩
theorem HL.at_ (h : HL w0 v p L R) : Calls Try.prog 29 #[.pointer (some ⟨p, 0, none⟩)] v fun e v' => e = .returned (.int .i64 L.mark) ∧ v' = v := by
  obtain ⟨F, h⟩ := h
  exact tat_any h.st
theorem HL.open_ (h : HL w0 v p L R) (hm : Mild L.row) :
    Calls Try.prog 30 #[.pointer (some ⟨p, 0, none⟩)] v fun e v' => ∃ a c, e = .returned (.slice a L.row.length c) ∧ HL w0 v' p L ((a, c, L.row) :: R) ∧ Below v.heap.size v v' := by
  obtain ⟨F, h⟩ := h
  exact (topen_any h.st (Nat.le_trans hm.most (by omega))).mono fun e v' ⟨a, c, h1, h2, h3⟩ => ⟨a, c, h1, ⟨F, h.take (h.below h3).st (Moved.of_below h3) h2⟩, h3⟩
theorem HL.twin (h : HL w0 v p L R) :
    Calls Try.prog 31 #[.pointer (some ⟨p, 0, none⟩)] v fun e v' => ∃ q, e = .returned (.pointer (some ⟨q, 0, none⟩)) ∧ HL v v' q L [] ∧ Below v.heap.size v v' := by
  obtain ⟨F, h⟩ := h
  exact (ttwin_any h.st).mono fun e v' ⟨q, F2, h1, h2, h3, h4⟩ => ⟨q, h1, ⟨F2, h2, h3, h4, fun r hr => by cases hr⟩, h4⟩
/-- The last row is appended to the one behind it. -/
theorem HL.grow {a b : Option Addr} {c cb : Nat} {x y : List (Win AggV)} (h : HL w0 v p L [(b, cb, y), (a, c, x)]) (hl : x.length + y.length ≤ 1000000000000) (ty : TypeId) :
    ∃ a' c' v', (Builtin.append_ #[28, 28] ty #[.slice a x.length c, .slice b y.length cb]).run Try.prog v = .ok (.slice a' (x ++ y).length c') v' ∧ HL w0 v' p L [(a', c', x ++ y)] := by
  obtain ⟨F, h⟩ := h
  obtain ⟨ry, _⟩ := h.rows _ List.mem_cons_self
  obtain ⟨rx, nx⟩ := h.rows (a, c, x) (List.mem_cons_of_mem _ List.mem_cons_self)
  have ry' : OutK.Row v w0.heap.size b cb y := ry
  have rx' : OutK.Row v w0.heap.size a c x := rx
  obtain ⟨a', c', v', h1, h2, h3⟩ := grow_app outK_law rx' b cb y (row_lies ry') hl h.bel.size ty
  have hown : ∀ k, (Value.slice a' (x ++ y).length c').ownBlock = some k → (Value.slice a x.length c).ownBlock = some k ∨ v.heap.size ≤ k := fun k hk => by
    cases b with
    | none =>
      have hy : y = [] := (row_lies ry').1 rfl
      subst hy
      obtain ⟨i0, hi, _⟩ := outK_law.info
      have e := run_append_nothing (P := Try.prog) v OutK.t OutK.t ty OutK.e i0 outK_law.und hi a x.length c (row_cap rx') _ (Src.ofNil v outK_law.und cb)
      have h1' : (Builtin.append_ #[OutK.t, OutK.t] ty #[.slice a x.length c, .slice none ([] : List (Win AggV)).length cb]).run Try.prog v = .ok (.slice a' (x ++ []).length c') v' := h1
      rw [show ([] : List (Win AggV)).length = 0 from rfl] at h1'
      rw [e] at h1'
      rw [List.append_nil] at h1' hk
      cases h1'
      exact .inl hk
    | some z =>
      rcases append_block outK_law rx' z cb y (row_lies ry') hl ty h1 with e | e
      · exact .inl (e ▸ hk)
      · rw [e] at hk; cases hk; exact .inr (Nat.le_refl _)
  have mm : Moved (fun k => (Value.slice a x.length c).ownBlock = some k) v v' := (Moved.refl _ _).grown h3 (fun k e => .inl e)
  refine ⟨a', c', v', h1, F, h.st.keep mm (fun i hi f => nx i hi f), h.big, ((Moved.of_below (F := fun k => (Value.slice a x.length c).ownBlock = some k) h.bel).trans mm (fun _ e => .inl e)).below (fun i hi => (row_lt rx' i hi).1) (Nat.le_refl _), fun r hr => ?_⟩
  have : r = (a', c', x ++ y) := by simpa using hr
  subst this
  refine ⟨h2, fun k hk f => ?_⟩
  rcases hown k hk with e | e
  · exact nx k e f
  · have := h.st.lt k f; omega
/-- No windows at all, as a row in hand. -/
theorem HL.nil (h : HL w0 v p L R) : HL w0 v p L ((none, 0, []) :: R) := by
  obtain ⟨F, h⟩ := h
  refine ⟨F, h.st, h.big, h.bel, fun r hr => ?_⟩
  rcases List.mem_cons.1 hr with rfl | hr
  · exact ⟨row_none _ _, fun k hk => by cases hk⟩
  · exact h.rows r hr
theorem mild_putL (h : Mild L.row) {k : List UInt8} {a n : Int} (hn : i64 n) : Mild (putL L k a n).1.row := by
  rcases putL_ways L k a n with ⟨_, e⟩ | ⟨_, ⟨_, e⟩ | ⟨hl, ⟨_, e⟩ | ⟨_, e⟩⟩⟩
  · rw [e]; exact h
  · rw [e]; exact h
  · rw [e]; exact mild_put h hn
  · rw [e]; exact h
theorem mild_markL (h : Mild L.row) (a : Int) : Mild (markL L a).1.row ∧ (markL L a).2.2.length ≤ 32 := by
  rcases markL_ways L a with ⟨_, e⟩ | ⟨hr, ⟨_, e⟩ | ⟨_, e⟩⟩
  · rw [e]; exact ⟨h, Nat.zero_le _⟩
  · rw [e]; exact ⟨h, Nat.zero_le _⟩
  · rw [e]
    refine ⟨mild_take h a, ?_⟩
    have h1 := take_len (O := SO) L.row a
    have h2 := h.most
    show (takeS SO L.row a).2.length ≤ 32
    omega
end Go.Proofs.Ytmgmkdkdpeljmaa

namespace Go.Proofs.Ytmgmkdkdpeljmaa
open Go.RowKit
/-- What Of's line is on the way. -/
structure OfS (v wr : World) (p q : Nat) (G : Nat → Prop) (L : LineV) : Prop where
  line : LineF wr p q G L
  big : ∀ k, k = p ∨ G k → v.heap.size ≤ k
  bel : Below v.heap.size v wr
theorem OfS.below {v wr w' : World} {p q : Nat} {G : Nat → Prop} {L : LineV} (h : OfS v wr p q G L) (hb : Below wr.heap.size wr w') : OfS v w' p q G L :=
  ⟨⟨h.line.row.below hb, h.line.st.keep (Moved.of_below (F := fun _ => False) hb) (fun _ f => f.elim), h.line.off⟩, h.big, h.bel.trans (hb.mono h.bel.size)⟩
theorem OfS.did {v wr w' : World} {p q : Nat} {G : Nat → Prop} {L : LineV} {l : List (Win AggV)} (h : OfS v wr p q G L) (hd : Did wr w' q G l) : ∃ G', OfS v w' p q G' ⟨L.mark, l⟩ := by
  obtain ⟨G', h1, h2, h3⟩ := hd
  refine ⟨G', ⟨h.line.row.keep h3 h.line.off, h1, fun f => ?_⟩, ?_, below_of_moved h.bel (fun k g => h.big k (.inr g)) h3⟩
  · rcases h2 p f with f | f
    · exact h.line.off f
    · have := h.line.row.lt; omega
  · rintro k (rfl | f)
    · exact h.big k (.inl rfl)
    · exact (h2 k f).elim (fun g => h.big k (.inr g)) (fun e => Nat.le_trans h.bel.size e)
theorem OfS.hl {v wr : World} {p q : Nat} {G : Nat → Prop} {L : LineV} (h : OfS v wr p q G L) : HL v wr p L [] := ⟨_, ⟨q, G, h.line, rfl⟩, h.big, h.bel, fun r hr => by cases hr⟩
theorem setAll_over {m : Int} {r xs : List (Win AggV)} {x : Win AggV} (h : Sp.overI x.start m = true) : setAll m r (x :: xs) = (r, 12) := by rw [setAll, if_pos h]
theorem setAll_set {m : Int} {r xs : List (Win AggV)} {x : Win AggV} (h : Sp.overI x.start m = false) (h0 : (setS SO r x).2 = 0) : setAll m r (x :: xs) = setAll m (setS SO r x).1 xs := by
  rw [setAll, if_neg (by rw [h]; simp), if_pos h0]
theorem setAll_no {m : Int} {r xs : List (Win AggV)} {x : Win AggV} (h : Sp.overI x.start m = false) (h0 : ¬ (setS SO r x).2 = 0) : setAll m r (x :: xs) = (r, (setS SO r x).2) := by
  rw [setAll, if_neg (by rw [h]; simp), if_neg h0]
set_option maxRecDepth 100000 in
set_option maxHeartbeats 8000000 in
theorem tof_any {v : World} {a : Option Addr} {c : Nat} {o : List (Win AggV)} (m : Int) (hlay : ∀ u, Below v.heap.size v u → Lay u a o) (hx : ∀ x ∈ o, x.agg.In ∧ okk x.key x.start) :
    Calls Try.prog 22 #[.int .i64 m, .slice a o.length c] v fun e v' => ∃ pt, e = .returned (.tuple #[.pointer pt, .int .i64 ((ofL m o).2 : Int)]) ∧ Below v.heap.size v v' ∧
      ((ofL m o).2 = 0 → ∃ p, pt = some ⟨p, 0, none⟩ ∧ HL v v' p (ofL m o).1 [] ∧ Mild (ofL m o).1.row) ∧ (¬ (ofL m o).2 = 0 → pt = none) := by
  have CR := hide (fun u => Sp.right_any m u)
  have LAY := hide hlay
  have HX := hide hx
  have hmost : o.length ≤ 1000 := (hlay v (Below.refl _ _)).most
  clear hlay hx
  cases hr : Sp.rightI m with
  | false =>
    have HO : Hid (ofL m o = (newL, 1)) := hide (by unfold ofL; rw [hr]; rfl)
    rw [hr] at CR
    clear hr
    go_enter Try.func22, Try.ntmps22
    go_wp2_with fail
    refine (unhide CR _).mono ?_
    rintro e v' ⟨rfl, hw⟩
    rw [hw]
    clear hw v'
    go_wp2_with fail
    go_ret2
    exact ⟨none, by rw [unhide HO]; rfl, Below.refl _ _, fun h => (by rw [unhide HO] at h; cases h), fun _ => rfl⟩
  | true =>
    have HO : Hid (ofL m o = (⟨m, (setAll m [] o).1⟩, (setAll m [] o).2)) := hide (by unfold ofL; rw [hr]; rfl)
    rw [unhide HO]
    rw [hr] at CR
    have CN := hide (tnew_any v)
    clear hr HO
    go_enter Try.func22, Try.ntmps22
    go_upto_region 3 with fail
    refine (unhide CR _).mono ?_
    rintro e v' ⟨rfl, hw⟩
    rw [hw]
    clear hw v' CR
    go_upto_region 4 with fail
    refine (unhide CN).mono ?_
    rintro e u1 ⟨p, F, rfl, hl, hbig, hb⟩
    obtain ⟨q, G, hf, rfl⟩ := hl
    have k1 : u1.cell? ⟨p, 1, none⟩ = some (.int .i64 0) := hf.row.cell 1 (Nat.lt_of_sub_pos (Nat.succ_pos _))
    have f1 : u1.frozen? ⟨p, 1, none⟩ = false := hf.row.free 1 (Nat.lt_of_sub_pos (Nat.succ_pos _))
    obtain ⟨u2, hu2⟩ : ∃ u2, u2 = u1.setCell ⟨p, 1, none⟩ (.int .i64 m) := ⟨_, rfl⟩
    have m2 : Moved (fun k => k = p) u1 u2 := by rw [hu2]; exact moved_set u1 p 1 _
    have START : Hid (OfS v u2 p q G ⟨m, []⟩) := hide ⟨⟨by rw [hu2]; exact hf.row.set 1 (Nat.lt_of_sub_pos (Nat.succ_pos _)) _, hf.st.keep m2 (fun i hi g => hf.off (hi ▸ g)), hf.off⟩, hbig, ((Moved.of_below (F := fun k => k = p) hb).trans m2 (fun _ hi => .inl hi)).below (fun i hi => hbig i (.inl hi)) (Nat.le_refl _)⟩
    have HU2 := hide hu2
    clear hf hbig hb m2 hu2 CN
    go_upto_region 5 with fail
    rw [← unhide HU2]
    clear HU2 k1 f1
    have ho0 : (0 : Int) ≤ (o.length : Int) := by omega
    go_wp2_with fail
    go_loopw [20] (fun i wr => ∃ (k : Nat) (r : List (Win AggV)), i = .int .i64 (k : Int) ∧ k ≤ o.length ∧ (∃ G, OfS v wr p q G ⟨m, r⟩) ∧ Mild r ∧ Hid (setAll m [] o = setAll m r (o.drop k))) (fun i _ => o.length - (intOf i).toNat)
    case atStart => exact ⟨0, [], rfl, Nat.zero_le _, ⟨G, unhide START⟩, mild_nil, hide (by rw [List.drop_zero])⟩
    case round =>
      obtain ⟨k, r, rfl, hk, hs, hmm, HA⟩ := hrel
      have HS := hide hs
      have HMM := hide hmm
      clear hs hmm START
      by_cases hlt : k < o.length
      · have g1 : (k : Int) < (o.length : Int) := by omega
        have hk0 : (0 : Int) ≤ (k : Int) := by omega
        have hwk : IntKind.i64.wrap ((k : Int) + 1) = (k : Int) + 1 := Go.IntWalk.i64_in _ (by omega)
        obtain ⟨x, hx⟩ : ∃ x, o[k]? = some x := ⟨_, List.getElem?_eq_getElem hlt⟩
        have HXX := hide (unhide HX x (List.mem_of_getElem? hx))
        have hdrop : o.drop k = x :: o.drop (k + 1) := by rw [List.drop_eq_getElem_cons hlt, (List.getElem?_eq_some_iff.1 hx).2]
        rw [hdrop] at HA
        obtain ⟨G1, hs⟩ := unhide HS
        obtain ⟨g, rfl, hra, _⟩ := (unhide LAY wr hs.bel).at hx
        have HRA := hide hra
        clear hx hdrop hra HS
        obtain ⟨xk, xs, ⟨g0, g1', g2, g3, g4, g5, g6, g7⟩⟩ := x
        simp only [outV_eq] at HRA
        obtain ⟨w1, hw1⟩ : ∃ w1, w1 = wr.alloc (.cells #[.string ⟨xk.toArray⟩, .int .i64 xs, .int .i64 g0, .int .i64 g1', .int .i64 g2, .int .i64 g3, .int .i64 g4, .int .i64 g5, .int .i64 g6, .int .i64 g7] 38) := ⟨_, rfl⟩
        obtain ⟨b, hb⟩ : ∃ b, b = wr.heap.size := ⟨_, rfl⟩
        have S1 := hide (hs.below (by rw [hw1]; exact (Below.refl _ _).alloc (Nat.le_refl _) _) : OfS v w1 p q G1 ⟨m, r⟩)
        have R1 : Hid (RowAt w1 b [.string ⟨xk.toArray⟩, .int .i64 xs, .int .i64 g0, .int .i64 g1', .int .i64 g2, .int .i64 g3, .int .i64 g4, .int .i64 g5, .int .i64 g6, .int .i64 g7]) := hide (by rw [hw1, hb]; exact row_new _ _ _)
        have hnb : ¬ (b = p ∨ G1 b) := fun h => by
          rw [hb] at h
          rcases h with h | h
          · have := hs.line.row.lt; omega
          · have := hs.line.st.lt _ h; omega
        have HNB := hide hnb
        have HW1 := hide hw1
        have HBB := hide hb
        clear hs hw1 hb hnb
        have CO := hide (fun u => Sp.over_any xs m u)
        go_upto_region 8 with (refine wpList_load_on rfl 38 (.tmp 22) rfl g (k * 10) rfl [.string ⟨xk.toArray⟩, .int .i64 xs, .int .i64 g0, .int .i64 g1', .int .i64 g2, .int .i64 g3, .int .i64 g4, .int .i64 g5, .int .i64 g6, .int .i64 g7] _ (unhide HRA) Try.underlying38 rfl (by kernel_rfl) ?_)
        rw [← unhide HBB]
        try change Code.wp _ _ _ _ (wr.alloc (.cells #[.string ⟨xk.toArray⟩, .int .i64 xs, .int .i64 g0, .int .i64 g1', .int .i64 g2, .int .i64 g3, .int .i64 g4, .int .i64 g5, .int .i64 g6, .int .i64 g7] 38))
        rw [← unhide HW1]
        clear HRA
        have k1 : w1.cell? ⟨b, 1, none⟩ = some (.int .i64 xs) := (unhide R1).cell 1 (by simp)
        go_upto_region 9 with fail
        refine (unhide CO _).mono ?_
        rintro e v' ⟨rfl, hw⟩
        rw [hw]
        clear hw v' CO k1
        cases hov : Sp.overI xs m with
        | true =>
          have HE := hide ((unhide HA).trans (setAll_over hov))
          have BB := hide (unhide S1).bel
          clear HA hov S1
          go_wp2_with fail
          go_ret2
          exact ⟨none, by rw [unhide HE]; rfl, unhide BB, fun h => (by rw [unhide HE] at h; cases h), fun _ => rfl⟩
        | false =>
          have CS := hide (set_any ((unhide S1).line.st.keep ((Moved.refl (fun _ => False) w1).drew) (fun _ f => f.elim)) (unhide HMM).most ⟨xk, xs, ⟨g0, g1', g2, g3, g4, g5, g6, g7⟩⟩ (unhide HXX).1 (unhide HXX).2)
          simp only [outV_eq] at CS
          obtain ⟨CL, hCL⟩ : ∃ CL : World → Prop, CL = fun u => Moved G1 w1 u := ⟨_, rfl⟩
          have un : ∀ u, CL u → Moved G1 w1 u := fun u k => by rw [hCL] at k; exact k
          have TO : Hid (∀ u, Moved G1 w1 u → CL u) := hide fun u k => by rw [hCL]; exact k
          have base : CL w1.drew := unhide TO _ ((Moved.refl _ _).drew)
          have q0 : ∀ u : SW CL, u.w.cell? ⟨p, 0, none⟩ = some (.pointer (some ⟨q, 0, none⟩)) := fun u => ((unhide S1).line.row.keep (un _ u.ok) (unhide S1).line.off).cell 0 (Nat.succ_pos _)
          have RB : Hid (∀ u, (∃ y : SW CL, u = y.w) → u.rangeAt b 0 [.string ⟨xk.toArray⟩, .int .i64 xs, .int .i64 g0, .int .i64 g1', .int .i64 g2, .int .i64 g3, .int .i64 g4, .int .i64 g5, .int .i64 g6, .int .i64 g7]) := hide (by rintro u ⟨y, rfl⟩; exact ((unhide R1).keep (un _ y.ok) (fun g => unhide HNB (.inr g))).range)
          have HOV := hide hov
          clear hCL un hov
          go_upto_region 10 with fail
          refine wp_region_chain (S := CL) [true, true, true, true, true, false, false] [false, false, false, false, false, true, true] (by kernel_rfl) (by kernel_rfl) (by kernel_rfl) base ?_
          apply Exists.intro
          apply And.intro
          · intro u
            have n0 : Nonempty (SK CL u.w) := ⟨⟨u, rfl⟩⟩
            simp only [pickM]
            repeat (go_big_quiet_step (fail))
            refine wpQuiet_load_onx rfl 38 (.tmp 8) rfl b 0 rfl [.string ⟨xk.toArray⟩, .int .i64 xs, .int .i64 g0, .int .i64 g1', .int .i64 g2, .int .i64 g3, .int .i64 g4, .int .i64 g5, .int .i64 g6, .int .i64 g7] _ (fun y ⟨q1, hq⟩ => by rw [hq]; exact unhide RB _ ⟨q1.s, rfl⟩) Try.underlying38 rfl (by kernel_rfl) ?_
            go_simp
            exact wpQuiet_nil rfl
          · simp only [pickZ]
            refine chain_call 37 #[.pointer (some ⟨q, 0, none⟩), .agg #[.string ⟨xk.toArray⟩, .int .i64 xs, .int .i64 g0, .int .i64 g1', .int .i64 g2, .int .i64 g3, .int .i64 g4, .int .i64 g5, .int .i64 g6, .int .i64 g7]] rfl (by simp [go_sem]) ?_
            refine (unhide CS).mono ?_
            rintro e w2 ⟨rfl, hd⟩
            have hd' : Did w1 w2 q G1 (setS SO r ⟨xk, xs, ⟨g0, g1', g2, g3, g4, g5, g6, g7⟩⟩).1 := Did.trans (fun _ f => .inl f) ((Moved.refl _ w1).drew) hd
            refine ⟨_, rfl, unhide TO _ (by obtain ⟨_, _, _, mm⟩ := hd'; exact mm), ?_⟩
            have S2 := hide ((unhide S1).did hd')
            have CL2 := hide (unhide TO w2 (by obtain ⟨_, _, _, mm⟩ := hd'; exact mm))
            have HM2 := hide (mild_set (unhide HMM) (x := ⟨xk, xs, ⟨g0, g1', g2, g3, g4, g5, g6, g7⟩⟩) (unhide HXX).1)
            clear hd hd' CS q0 base
            by_cases h0 : (setS SO r ⟨xk, xs, ⟨g0, g1', g2, g3, g4, g5, g6, g7⟩⟩).2 = 0
            · have HA2 := hide ((unhide HA).trans (setAll_set (unhide HOV) h0))
              rw [h0]
              clear HA h0
              go_simp
              refine chain_step (.int .i64 0) w2 rfl (by simp [go_sem]) (unhide CL2) ?_
              simp only [chainM]
              go_simp
              go_wp2_with fail
              exact ⟨⟨k + 1, _, rfl, by omega, unhide S2, unhide HM2, HA2⟩, by simp [intOf]; omega⟩
            · have HE := hide ((unhide HA).trans (setAll_no (unhide HOV) h0))
              have hz : ¬ (((setS SO r ⟨xk, xs, ⟨g0, g1', g2, g3, g4, g5, g6, g7⟩⟩).2 : Nat) : Int) = 0 := by omega
              have HZ := hide h0
              obtain ⟨ec, hec⟩ : ∃ ec : Int, ec = (((setS SO r ⟨xk, xs, ⟨g0, g1', g2, g3, g4, g5, g6, g7⟩⟩).2 : Nat) : Int) := ⟨_, rfl⟩
              rw [← hec] at hz ⊢
              have HEC := hide hec
              clear HA h0 hec
              go_simp
              refine chain_step (.int .i64 ec) w2 rfl (by simp [go_sem]) (unhide CL2) ?_
              simp only [chainM]
              go_simp
              go_wp2_with fail
              go_ret2
              obtain ⟨_, s2⟩ := unhide S2
              exact ⟨none, by rw [unhide HE, unhide HEC]; rfl, s2.bel, fun h => (by rw [unhide HE] at h; exact absurd h (unhide HZ)), fun _ => rfl⟩
      · have g1 : ¬ (k : Int) < (o.length : Int) := by omega
        have hke : k = o.length := by omega
        subst hke
        obtain ⟨G1, hs⟩ := unhide HS
        have HE : Hid (setAll m [] o = (r, 0)) := hide (by rw [unhide HA, List.drop_length]; rfl)
        have S1 := hide hs
        clear hs HS HA
        go_wp2_with fail
        go_ret2
        exact ⟨_, by rw [unhide HE]; rfl, (unhide S1).bel, fun _ => ⟨p, rfl, by rw [unhide HE]; exact (unhide S1).hl, by rw [unhide HE]; exact unhide HMM⟩, fun h => (by rw [unhide HE] at h; exact absurd rfl h)⟩
end Go.Proofs.Ytmgmkdkdpeljmaa

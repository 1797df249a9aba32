/- What is open has what its values add up to that were put there since it was taken last; and what acts, one behind the other, leave of a store. No Go. -/
import Derived.Test.YtmgmkdkdpeljmaaStoreDo
namespace Go.Proofs.Ytmgmkdkdpeljmaa
variable {α : Type} {O : Ops α} {num : Int → Prop} {l : List (Win α)}

/-- What a list of values adds up to. -/
def ofV (O : Ops α) (V : List Int) : α := V.foldl O.add O.zero
theorem ofV_snoc (V : List Int) (v : Int) : ofV O (V ++ [v]) = O.add (ofV O V) v := by simp [ofV]
/-- The window of a key and a Start has what these values add up to; it is not open if there are none. -/
structure Sums (O : Ops α) (k : List UInt8) (s : Int) (l : List (Win α)) (V : List Int) : Prop where
  good : Good O l
  is : look l k s = if V = [] then none else some (ofV O V)
theorem sums_nil (k : List UInt8) (s : Int) : Sums O k s [] [] := ⟨good_nil, rfl⟩
theorem sums_get {k : List UInt8} {s : Int} {V : List Int} (h : Sums O k s l V) : (look l k s).getD O.zero = ofV O V ∧ ((look l k s).isSome = true ↔ V ≠ []) := by
  rw [h.is]
  by_cases hV : V = []
  · subst hV; simp [ofV]
  · rw [if_neg hV]; simp [hV]
theorem sums_put (hO : O.Law num) {k : List UInt8} {s : Int} {V : List Int} (h : Sums O k s l V) {k' : List UInt8} {a v : Int} (hv : num v) :
    Sums O k s (putS O l k' a v).1 (if (putS O l k' a v).2 = 0 ∧ k' = k ∧ O.start a = s then V ++ [v] else V) := by
  refine ⟨put_good hO h.good hv, ?_⟩
  rw [look_put h.good]
  by_cases hc : (putS O l k' a v).2 = 0 ∧ k' = k ∧ O.start a = s
  · rw [if_pos hc, if_pos hc, if_neg (by simp), (sums_get h).1, ofV_snoc]
  · rw [if_neg hc, if_neg hc, h.is]
theorem sums_take {k : List UInt8} {s : Int} {V : List Int} (h : Sums O k s l V) (m : Int) :
    Sums O k s (takeS O l m).1 (if O.over s m then [] else V) ∧
    (∀ a ∈ (takeS O l m).2, at_ k s a → a.agg = ofV O V ∧ O.over s m = true) ∧
    ((∀ a ∈ (takeS O l m).2, ¬ at_ k s a) → (if O.over s m then [] else V) = V) := by
  obtain ⟨t1, t2⟩ := look_take (O := O) (l := l) m k s
  refine ⟨⟨(take_good h.good m).1, ?_⟩, fun a ha hk => ?_, fun hn => ?_⟩
  · rw [t1]
    cases O.over s m with
    | true => simp
    | false => simpa using h.is
  · have ho := take_over.1 ha
    rw [hk.2] at ho
    have hl := look_mem (take_good h.good m).2.rise ha
    rw [hk.1, hk.2, t2, if_pos ho, h.is] at hl
    by_cases hV : V = []
    · rw [if_pos hV] at hl; cases hl
    · rw [if_neg hV] at hl
      exact ⟨(Option.some.inj hl).symm, ho⟩
  · cases ho : O.over s m with
    | false => simp
    | true =>
      have hl := look_none hn
      rw [t2, if_pos ho, h.is] at hl
      by_cases hV : V = []
      · simp [hV]
      · rw [if_neg hV] at hl; cases hl

/-- What is done to a store. -/
structure ActV (α : Type) where
  do_ : Nat
  key : List UInt8
  at_ : Int
  n : Int
  out : Win α
def actS (O : Ops α) (l : List (Win α)) (a : ActV α) : List (Win α) :=
  if a.do_ = 0 then (putS O l a.key a.at_ a.n).1 else if a.do_ = 1 then (setS O l a.out).1 else if a.do_ = 2 then (takeS O l a.at_).1 else l
def playS (O : Ops α) (l : List (Win α)) (xs : List (ActV α)) : List (Win α) := xs.foldl (actS O) l
theorem act_good (hO : O.Law num) (h : Good O l) {a : ActV α} (hn : num a.n) : Good O (actS O l a) := by
  unfold actS
  split
  · exact put_good hO h hn
  · split
    · exact set_good h _
    · split
      · exact (take_good h _).1
      · exact h
theorem play_good (hO : O.Law num) : ∀ {xs : List (ActV α)} {l : List (Win α)}, Good O l → (∀ a ∈ xs, num a.n) → Good O (playS O l xs)
  | [], _, h, _ => h
  | a :: xs, _, h, hn => play_good hO (xs := xs) (act_good hO h (hn a List.mem_cons_self)) (fun b hb => hn b (List.mem_cons_of_mem _ hb))
theorem play_snoc (xs : List (ActV α)) (a : ActV α) : playS O l (xs ++ [a]) = actS O (playS O l xs) a := by simp [playS]
/-- Behind a Put each window is open that was, and is as it was, but the one that was put to; there is one more at most. -/
theorem put_apart (h : Good O l) {k : List UInt8} {a v : Int} :
    (∀ b ∈ l, ∃ x, look (putS O l k a v).1 b.key b.start = some x ∧ (x = b.agg ∨ (b.key = k ∧ b.start = O.start a))) ∧
    (putS O l k a v).1.length ≤ l.length + 1 ∧ ((putS O l k a v).2 ≠ 0 → (putS O l k a v).1.length = l.length) := by
  refine ⟨fun b hb => ?_, ?_, fun hne => ?_⟩
  · have hl := look_mem h.rise hb
    rw [look_put h]
    by_cases hc : (putS O l k a v).2 = 0 ∧ k = b.key ∧ O.start a = b.start
    · rw [if_pos hc]
      exact ⟨_, rfl, .inr ⟨hc.2.1.symm, hc.2.2.symm⟩⟩
    · rw [if_neg hc]
      exact ⟨_, hl, .inl rfl⟩
  · rw [put_len h]; split <;> omega
  · rw [put_len h, if_neg (fun hc => hne hc.1)]
end Go.Proofs.Ytmgmkdkdpeljmaa

/- What is open has what its values add up to that were put there since it was taken last; and what acts, one behind the other, leave of a store. No Go. -/
import Derived.Test.YtmgmkdkdpeljmaaStoreDo
import Derived.Test.YtmgmkdkdpeljmaaPutS
import Derived.Test.YtmgmkdkdpeljmaaSpCalls
import Derived.Test.YtmgmkdkdpeljmaaWith
import Derived.Test.YtmgmkdkdpeljmaaRefA
import Derived.Test.YtmgmkdkdpeljmaaRowG
namespace Go.Proofs.Ytmgmkdkdpeljmaa
variable {α : Type} {O : Ops α} {num : Int → Prop} {l : List (Win α)}

/-- What a list of values adds up to. -/
def ofV (O : Ops α) (V : List Int) : α := V.foldl O.add O.zero
theorem ofV_snoc (V : List Int) (v : Int) : ofV O (V ++ [v]) = O.add (ofV O V) v := by simp [ofV]
/-- The window of a key and a Start has what these values add up to; it is not open if there are none. -/
structure Sums (O : Ops α) (k : List UInt8) (s : Int) (l : List (Win α)) (V : List Int) : Prop where
  good : Good O l
  is : look l k s = if V = [] then none else some (ofV O V)
theorem sums_nil (k : List UInt8) (s : Int) : Sums O k s [] [] := ⟨good_nil, rfl⟩
theorem sums_get {k : List UInt8} {s : Int} {V : List Int} (h : Sums O k s l V) : (look l k s).getD O.zero = ofV O V ∧ ((look l k s).isSome = true ↔ V ≠ []) := by
  rw [h.is]
  by_cases hV : V = []
  · subst hV; simp [ofV]
  · rw [if_neg hV]; simp [hV]
theorem sums_put (hO : O.Law num) {k : List UInt8} {s : Int} {V : List Int} (h : Sums O k s l V) {k' : List UInt8} {a v : Int} (hv : num v) :
    Sums O k s (putS O l k' a v).1 (if (putS O l k' a v).2 = 0 ∧ k' = k ∧ O.start a = s then V ++ [v] else V) := by
  refine ⟨put_good hO h.good hv, ?_⟩
  rw [look_put h.good]
  by_cases hc : (putS O l k' a v).2 = 0 ∧ k' = k ∧ O.start a = s
  · rw [if_pos hc, if_pos hc, if_neg (by simp), (sums_get h).1, ofV_snoc]
  · rw [if_neg hc, if_neg hc, h.is]
theorem sums_take {k : List UInt8} {s : Int} {V : List Int} (h : Sums O k s l V) (m : Int) :
    Sums O k s (takeS O l m).1 (if O.over s m then [] else V) ∧
    (∀ a ∈ (takeS O l m).2, at_ k s a → a.agg = ofV O V ∧ O.over s m = true) ∧
    ((∀ a ∈ (takeS O l m).2, ¬ at_ k s a) → (if O.over s m then [] else V) = V) := by
  obtain ⟨t1, t2⟩ := look_take (O := O) (l := l) m k s
  refine ⟨⟨(take_good h.good m).1, ?_⟩, fun a ha hk => ?_, fun hn => ?_⟩
  · rw [t1]
    cases O.over s m with
    | true => simp
    | false => simpa using h.is
  · have ho := take_over.1 ha
    rw [hk.2] at ho
    have hl := look_mem (take_good h.good m).2.rise ha
    rw [hk.1, hk.2, t2, if_pos ho, h.is] at hl
    by_cases hV : V = []
    · rw [if_pos hV] at hl; cases hl
    · rw [if_neg hV] at hl
      exact ⟨(Option.some.inj hl).symm, ho⟩
  · cases ho : O.over s m with
    | false => simp
    | true =>
      have hl := look_none hn
      rw [t2, if_pos ho, h.is] at hl
      by_cases hV : V = []
      · simp [hV]
      · rw [if_neg hV] at hl; cases hl

/-- What is done to a store. -/
structure ActV (α : Type) where
  do_ : Nat
  key : List UInt8
  at_ : Int
  n : Int
  out : Win α
def actS (O : Ops α) (l : List (Win α)) (a : ActV α) : List (Win α) :=
  if a.do_ = 0 then (putS O l a.key a.at_ a.n).1 else if a.do_ = 1 then (setS O l a.out).1 else if a.do_ = 2 then (takeS O l a.at_).1 else l
def playS (O : Ops α) (l : List (Win α)) (xs : List (ActV α)) : List (Win α) := xs.foldl (actS O) l
theorem act_good (hO : O.Law num) (h : Good O l) {a : ActV α} (hn : num a.n) : Good O (actS O l a) := by
  unfold actS
  split
  · exact put_good hO h hn
  · split
    · exact set_good h _
    · split
      · exact (take_good h _).1
      · exact h
theorem play_good (hO : O.Law num) : ∀ {xs : List (ActV α)} {l : List (Win α)}, Good O l → (∀ a ∈ xs, num a.n) → Good O (playS O l xs)
  | [], _, h, _ => h
  | a :: xs, _, h, hn => play_good hO (xs := xs) (act_good hO h (hn a List.mem_cons_self)) (fun b hb => hn b (List.mem_cons_of_mem _ hb))
theorem play_snoc (xs : List (ActV α)) (a : ActV α) : playS O l (xs ++ [a]) = actS O (playS O l xs) a := by simp [playS]
/-- Behind a Put each window is open that was, and is as it was, but the one that was put to; there is one more at most. -/
theorem put_apart (h : Good O l) {k : List UInt8} {a v : Int} :
    (∀ b ∈ l, ∃ x, look (putS O l k a v).1 b.key b.start = some x ∧ (x = b.agg ∨ (b.key = k ∧ b.start = O.start a))) ∧
    (putS O l k a v).1.length ≤ l.length + 1 ∧ ((putS O l k a v).2 ≠ 0 → (putS O l k a v).1.length = l.length) := by
  refine ⟨fun b hb => ?_, ?_, fun hne => ?_⟩
  · have hl := look_mem h.rise hb
    rw [look_put h]
    by_cases hc : (putS O l k a v).2 = 0 ∧ k = b.key ∧ O.start a = b.start
    · rw [if_pos hc]
      exact ⟨_, rfl, .inr ⟨hc.2.1.symm, hc.2.2.symm⟩⟩
    · rw [if_neg hc]
      exact ⟨_, hl, .inl rfl⟩
  · rw [put_len h]; split <;> omega
  · rw [put_len h, if_neg (fun hc => hne hc.1)]
end Go.Proofs.Ytmgmkdkdpeljmaa

namespace Go.Proofs.Ytmgmkdkdpeljmaa
theorem cl_up {x : Int} (h : 0 ≤ x) : (x ≤ 9223372036854775807 ∧ cl x = x) ∨ (9223372036854775807 < x ∧ cl x = 9223372036854775807) := by
  unfold cl
  by_cases h1 : 9223372036854775807 < x
  · rw [if_pos h1]; exact .inr ⟨h1, rfl⟩
  · rw [if_neg h1, if_neg (by omega)]; exact .inl ⟨by omega, rfl⟩
theorem neg4_iff (a : AggV) : neg4 a = false ↔ 0 ≤ a.h0 ∧ 0 ≤ a.h1 ∧ 0 ≤ a.h2 ∧ 0 ≤ a.h3 := by unfold neg4; simp; omega
theorem held4_iff (a : AggV) : held4 a = true ↔ a.h0 = 9223372036854775807 ∨ a.h1 = 9223372036854775807 ∨ a.h2 = 9223372036854775807 ∨ a.h3 = 9223372036854775807 := by unfold held4; simp [or_assoc]
theorem all4_is {a : AggV} (h : 0 ≤ a.h0 ∧ 0 ≤ a.h1 ∧ 0 ≤ a.h2 ∧ 0 ≤ a.h3) : (a.h0 + a.h1 + a.h2 + a.h3 ≤ 9223372036854775807 ∧ all4 a = a.h0 + a.h1 + a.h2 + a.h3) ∨ (9223372036854775807 < a.h0 + a.h1 + a.h2 + a.h3 ∧ all4 a = 9223372036854775807) := by
  obtain ⟨k0, k1, k2, k3⟩ := h
  unfold all4 plus
  have e0 := cl_up (x := 0 + a.h0) (by omega)
  have e1 := cl_up (x := cl (0 + a.h0) + a.h1) (by omega)
  have e2 := cl_up (x := cl (cl (0 + a.h0) + a.h1) + a.h2) (by omega)
  have e3 := cl_up (x := cl (cl (cl (0 + a.h0) + a.h1) + a.h2) + a.h3) (by omega)
  omega
theorem bucket_min (x y : Int) : bucket (min x y) = min (bucket x) (bucket y) := by unfold bucket; rcases Int.le_total x y with h | h <;> simp only [Int.min_eq_left h, Int.min_eq_right h] <;> (repeat' split) <;> omega
theorem bucket_max (x y : Int) : bucket (max x y) = max (bucket x) (bucket y) := by unfold bucket; rcases Int.le_total x y with h | h <;> simp only [Int.max_eq_left h, Int.max_eq_right h] <;> (repeat' split) <;> omega
theorem hist_iff (a : AggV) : rightHist a = true ↔ (0 ≤ a.h0 ∧ 0 ≤ a.h1 ∧ 0 ≤ a.h2 ∧ 0 ≤ a.h3) ∧ (held4 a = true ∨ (all4 a = a.count ∧ first4 a = bucket a.mn ∧ last4 a = bucket a.mx)) := by
  rw [← neg4_iff]
  unfold rightHist
  cases neg4 a <;> cases held4 a <;> simp [and_assoc]
set_option maxHeartbeats 2000000 in
theorem hist_put {a : AggV} {v : Int} (hc : 1 ≤ a.count) (h : rightHist a = true) : rightHist (put a v) = true := by
  obtain ⟨hn, hr⟩ := (hist_iff a).1 h
  obtain ⟨c, s, mn, mx, h0, h1, h2, h3⟩ := a
  dsimp only at hn hc
  have hb := bucket_le v
  obtain ⟨d0, e0⟩ : ∃ d, d = at1 v 0 := ⟨_, rfl⟩
  obtain ⟨d1, e1⟩ : ∃ d, d = at1 v 1 := ⟨_, rfl⟩
  obtain ⟨d2, e2⟩ : ∃ d, d = at1 v 2 := ⟨_, rfl⟩
  obtain ⟨d3, e3⟩ : ∃ d, d = at1 v 3 := ⟨_, rfl⟩
  have hp : put ⟨c, s, mn, mx, h0, h1, h2, h3⟩ v = ⟨cl (c + 1), plus s v, min mn v, max mx v, cl (h0 + d0), cl (h1 + d1), cl (h2 + d2), cl (h3 + d3)⟩ := by
    unfold put join least great one plus
    simp only [e0, e1, e2, e3, show ¬ c = 0 by omega, if_false, show ¬ (1 : Int) = 0 by decide]
  have hd : (bucket v = 0 ∧ d0 = 1 ∧ d1 = 0 ∧ d2 = 0 ∧ d3 = 0) ∨ (bucket v = 1 ∧ d0 = 0 ∧ d1 = 1 ∧ d2 = 0 ∧ d3 = 0) ∨ (bucket v = 2 ∧ d0 = 0 ∧ d1 = 0 ∧ d2 = 1 ∧ d3 = 0) ∨ (bucket v = 3 ∧ d0 = 0 ∧ d1 = 0 ∧ d2 = 0 ∧ d3 = 1) := by
    rw [e0, e1, e2, e3]
    unfold at1
    have : bucket v = 0 ∨ bucket v = 1 ∨ bucket v = 2 ∨ bucket v = 3 := by omega
    rcases this with k | k | k | k <;> rw [k] <;> simp
  clear e0 e1 e2 e3
  rw [hp]
  have f0 := cl_up (x := h0 + d0) (by omega)
  have f1 := cl_up (x := h1 + d1) (by omega)
  have f2 := cl_up (x := h2 + d2) (by omega)
  have f3 := cl_up (x := h3 + d3) (by omega)
  have fc := cl_up (x := c + 1) (by omega)
  have hA := all4_is (a := ⟨c, s, mn, mx, h0, h1, h2, h3⟩) hn
  rw [hist_iff]
  have hsum : d0 + d1 + d2 + d3 = 1 := by omega
  have n0 : 0 ≤ cl (h0 + d0) := by clear f1 f2 f3 fc hA; omega
  have n1 : 0 ≤ cl (h1 + d1) := by clear f0 f2 f3 fc hA; omega
  have n2 : 0 ≤ cl (h2 + d2) := by clear f0 f1 f3 fc hA; omega
  have n3 : 0 ≤ cl (h3 + d3) := by clear f0 f1 f2 fc hA; omega
  refine ⟨⟨n0, n1, n2, n3⟩, ?_⟩
  have hB := all4_is (a := ⟨cl (c + 1), plus s v, min mn v, max mx v, cl (h0 + d0), cl (h1 + d1), cl (h2 + d2), cl (h3 + d3)⟩) ⟨n0, n1, n2, n3⟩
  by_cases hh : held4 ⟨cl (c + 1), plus s v, min mn v, max mx v, cl (h0 + d0), cl (h1 + d1), cl (h2 + d2), cl (h3 + d3)⟩ = true
  · exact .inl hh
  · rw [held4_iff] at hh
    rw [held4_iff] at hr
    dsimp only at hA hB hr hh ⊢
    refine .inr ?_
    have g0 : cl (h0 + d0) = h0 + d0 ∧ h0 + d0 < 9223372036854775807 := by
      rcases f0 with ⟨k, e⟩ | ⟨k, e⟩
      · exact ⟨e, by have : ¬ cl (h0 + d0) = 9223372036854775807 := fun h => hh (.inl h); rw [e] at this; clear f1 f2 f3 fc hA hB hd hr; omega⟩
      · exact absurd (.inl e) hh
    have g1 : cl (h1 + d1) = h1 + d1 ∧ h1 + d1 < 9223372036854775807 := by
      rcases f1 with ⟨k, e⟩ | ⟨k, e⟩
      · exact ⟨e, by have : ¬ cl (h1 + d1) = 9223372036854775807 := fun h => hh (.inr (.inl h)); rw [e] at this; clear f0 f2 f3 fc hA hB hd hr; omega⟩
      · exact absurd (.inr (.inl e)) hh
    have g2 : cl (h2 + d2) = h2 + d2 ∧ h2 + d2 < 9223372036854775807 := by
      rcases f2 with ⟨k, e⟩ | ⟨k, e⟩
      · exact ⟨e, by have : ¬ cl (h2 + d2) = 9223372036854775807 := fun h => hh (.inr (.inr (.inl h))); rw [e] at this; clear f0 f1 f3 fc hA hB hd hr; omega⟩
      · exact absurd (.inr (.inr (.inl e))) hh
    have g3 : cl (h3 + d3) = h3 + d3 ∧ h3 + d3 < 9223372036854775807 := by
      rcases f3 with ⟨k, e⟩ | ⟨k, e⟩
      · exact ⟨e, by have : ¬ cl (h3 + d3) = 9223372036854775807 := fun h => hh (.inr (.inr (.inr h))); rw [e] at this; clear f0 f1 f2 fc hA hB hd hr; omega⟩
      · exact absurd (.inr (.inr (.inr e))) hh
    clear f0 f1 f2 f3 n0 n1 n2 n3 hh
    rw [g0.1, g1.1, g2.1, g3.1] at hB ⊢
    replace g0 := g0.2
    replace g1 := g1.2
    replace g2 := g2.2
    replace g3 := g3.2
    have hr' : all4 ⟨c, s, mn, mx, h0, h1, h2, h3⟩ = c ∧ first4 ⟨c, s, mn, mx, h0, h1, h2, h3⟩ = bucket mn ∧ last4 ⟨c, s, mn, mx, h0, h1, h2, h3⟩ = bucket mx := hr.resolve_left (by
      have d0' : 0 ≤ d0 := by clear hA hB; omega
      have d1' : 0 ≤ d1 := by clear hA hB; omega
      have d2' : 0 ≤ d2 := by clear hA hB; omega
      have d3' : 0 ≤ d3 := by clear hA hB; omega
      clear hA hB hd
      rintro (h | h | h | h) <;> omega)
    obtain ⟨r1, r2, r3⟩ := hr'
    clear hr hp h
    refine ⟨?_, ?_, ?_⟩
    · clear hd r2 r3 g0 g1 g2 g3
      omega
    · rw [bucket_min]
      unfold first4 at r2 ⊢
      dsimp only at r2 ⊢
      clear fc hA hB r1 r3 g0 g1 g2 g3 hsum
      rcases hd with ⟨k, rfl, rfl, rfl, rfl⟩ | ⟨k, rfl, rfl, rfl, rfl⟩ | ⟨k, rfl, rfl, rfl, rfl⟩ | ⟨k, rfl, rfl, rfl, rfl⟩ <;> rw [k] <;> (repeat' split) <;> (repeat' split at r2) <;> omega
    · rw [bucket_max]
      unfold last4 at r3 ⊢
      dsimp only at r3 ⊢
      clear fc hA hB r1 r2 g0 g1 g2 g3 hsum
      have hm := bucket_le mx
      rcases hd with ⟨k, rfl, rfl, rfl, rfl⟩ | ⟨k, rfl, rfl, rfl, rfl⟩ | ⟨k, rfl, rfl, rfl, rfl⟩ | ⟨k, rfl, rfl, rfl, rfl⟩ <;> rw [k] <;> (repeat' split) <;> (repeat' split at r3) <;> omega
theorem ok_put {a : AggV} {v : Int} (h : SO.ok a = true) : SO.ok (put a v) = true := by
  have h' : right a = true ∧ 1 ≤ a.count := by simpa [SO] using h
  obtain ⟨h1, hc⟩ := h'
  have hcnt : 1 ≤ (put a v).count := by
    have := cl_up (x := a.count + 1) (by omega)
    show 1 ≤ cl (a.count + 1)
    omega
  have hmn : (put a v).mn = min a.mn v := by unfold put join least one; simp only [show ¬ a.count = 0 by omega, if_false, show ¬ (1 : Int) = 0 by decide]
  have hmx : (put a v).mx = max a.mx v := by unfold put join great one; simp only [show ¬ a.count = 0 by omega, if_false, show ¬ (1 : Int) = 0 by decide]
  unfold right at h1
  rw [if_neg (show ¬ a.count = 0 by omega)] at h1
  simp only [Bool.and_eq_true, decide_eq_true_eq] at h1
  have hh := hist_put (v := v) hc h1.2
  have : right (put a v) = true := by
    unfold right
    rw [if_neg (by omega), hmn, hmx, hh]
    simp only [Bool.and_true, Bool.and_eq_true, decide_eq_true_eq]
    exact ⟨by omega, by omega⟩
  show (right (put a v) && decide (1 ≤ (put a v).count)) = true
  rw [this, decide_eq_true hcnt]; rfl
theorem ok_first (v : Int) : SO.ok (put zero v) = true := by
  have hz : put zero v = of [v] := rfl
  have h := is_right (is_of [v] (by simp)) (by simp)
  have hcnt : (put zero v).count = 1 := rfl
  show (right (put zero v) && decide (1 ≤ (put zero v).count)) = true
  rw [hz, h, ← hz, hcnt]; rfl
theorem so_law : SO.Law i64 where
  start := fun a h => by
    have hr := Sp.rightI_iff.1 (show Sp.rightI a = true from h)
    show decide (0 ≤ Sp.endI (Sp.startI a)) = true
    rw [Sp.startI_right hr]
    refine decide_eq_true ?_
    unfold Sp.endI
    rw [if_pos (by omega)]
    omega
  first := fun v _ => ok_first v
  more := fun _ _ h _ => ok_put h
end Go.Proofs.Ytmgmkdkdpeljmaa

namespace Go.Proofs.Ytmgmkdkdpeljmaa.Sp
open Go.RowKit

theorem rright_any (x : Int) (w : World) : Calls Try.prog 49 #[.int .i64 x] w fun e w' => e = .returned (.bool (rightI x)) ∧ w' = w := by
  unfold rightI
  by_cases h1 : 0 ≤ x
  · by_cases h2 : x ≤ 1099511627776
    · rw [decide_eq_true ⟨h1, h2⟩]
      go_enter Try.func49, Try.ntmps49
      go_wp2
      go_ret
      exact ⟨rfl, rfl⟩
    · rw [decide_eq_false (by omega)]
      go_enter Try.func49, Try.ntmps49
      go_wp2
      go_ret
      exact ⟨rfl, rfl⟩
  · rw [decide_eq_false (by omega)]
    go_enter Try.func49, Try.ntmps49
    go_wp2
    go_ret
    exact ⟨rfl, rfl⟩

theorem rstart_any (x : Int) (w : World) : Calls Try.prog 71 #[.int .i64 x] w fun e w' => e = .returned (.int .i64 (startI x)) ∧ w' = w := by
  by_cases h : 0 ≤ x ∧ x ≤ 1099511627776
  · rw [startI_right h]
    have hr := hide (rightI_iff.2 h)
    have e0 : x - x % 10 = x / 10 * 10 := by omega
    rw [e0]
    have e1 : Int.tdiv x 10 = x / 10 := Int.tdiv_eq_ediv_of_nonneg h.1
    have e2 := Go.IntWalk.i64_in (x / 10) (by omega)
    have e3 := Go.IntWalk.i64_in (x / 10 * 10) (by omega)
    clear e0
    go_enter Try.func71, Try.ntmps71
    go_wp2_with fail
    refine (rright_any _ _).mono ?_
    rintro e w' ⟨rfl, rfl⟩
    rw [unhide hr]
    go_wp2
    go_ret
    exact ⟨rfl, rfl⟩
  · rw [startI_wrong h]
    have hr : Hid (rightI x = false) := hide (by unfold rightI; exact decide_eq_false h)
    clear h
    go_enter Try.func71, Try.ntmps71
    go_wp2_with fail
    refine (rright_any _ _).mono ?_
    rintro e w' ⟨rfl, rfl⟩
    rw [unhide hr]
    go_wp2
    go_ret
    exact ⟨rfl, rfl⟩

theorem rend_any (x : Int) (w : World) : Calls Try.prog 67 #[.int .i64 x] w fun e w' => e = .returned (.int .i64 (endI x)) ∧ w' = w := by
  unfold endI
  by_cases h : 0 ≤ x ∧ x ≤ 1099511627776
  · have hr := hide (rightI_iff.2 h)
    have hs := hide (startI_right h)
    by_cases h10 : x % 10 = 0
    · rw [if_pos ⟨h.1, h.2, h10⟩]
      have e2 := Go.IntWalk.i64_in (x + 10) (by omega)
      clear h
      go_enter Try.func67, Try.ntmps67
      go_wp2_with fail
      refine (rright_any _ _).mono ?_
      rintro e w' ⟨rfl, rfl⟩
      rw [unhide hr]
      go_wp2_with fail
      refine (rstart_any _ _).mono ?_
      rintro e w' ⟨rfl, rfl⟩
      rw [unhide hs, h10, Int.sub_zero]
      go_wp2
      go_ret
      exact ⟨rfl, rfl⟩
    · rw [if_neg (by omega)]
      have e2 : ¬ (x - x % 10 = x) := by omega
      clear h
      go_enter Try.func67, Try.ntmps67
      go_wp2_with fail
      refine (rright_any _ _).mono ?_
      rintro e w' ⟨rfl, rfl⟩
      rw [unhide hr]
      go_wp2_with fail
      refine (rstart_any _ _).mono ?_
      rintro e w' ⟨rfl, rfl⟩
      rw [unhide hs]
      go_wp2
      go_ret
      exact ⟨rfl, rfl⟩
  · rw [if_neg (by omega)]
    have hr : Hid (rightI x = false) := hide (by unfold rightI; exact decide_eq_false h)
    clear h
    go_enter Try.func67, Try.ntmps67
    go_wp2_with fail
    refine (rright_any _ _).mono ?_
    rintro e w' ⟨rfl, rfl⟩
    rw [unhide hr]
    go_wp2
    go_ret
    exact ⟨rfl, rfl⟩

theorem rover_any (s m : Int) (w : World) : Calls Try.prog 50 #[.int .i64 s, .int .i64 m] w fun e w' => e = .returned (.bool (overI s m)) ∧ w' = w := by
  by_cases h : 0 ≤ s ∧ s ≤ 1099511627776 ∧ s % 10 = 0
  · have he : Hid (endI s = s + 10) := hide (by unfold endI; rw [if_pos h])
    have e1 : 0 ≤ s + 10 := by omega
    by_cases hm : 0 ≤ m ∧ m ≤ 1099511627776
    · have hr := hide (rightI_iff.2 hm)
      have e2 := Go.IntWalk.i64_in (s + 15) (by omega)
      by_cases ho : s + 15 ≤ m
      · have e3 := ho
        rw [overI_iff.2 ⟨h, hm, ho⟩]
        clear h hm ho
        go_enter Try.func50, Try.ntmps50
        go_wp2_with fail
        refine (rend_any _ _).mono ?_
        rintro e w' ⟨rfl, rfl⟩
        rw [unhide he]
        go_wp2_with fail
        refine (rright_any _ _).mono ?_
        rintro e w' ⟨rfl, rfl⟩
        rw [unhide hr]
        go_wp2
        go_ret
        exact ⟨rfl, rfl⟩
      · have e3 := ho
        have eo : overI s m = false := by unfold overI; exact decide_eq_false (fun k => ho k.2.2)
        rw [eo]
        clear h hm ho eo
        go_enter Try.func50, Try.ntmps50
        go_wp2_with fail
        refine (rend_any _ _).mono ?_
        rintro e w' ⟨rfl, rfl⟩
        rw [unhide he]
        go_wp2_with fail
        refine (rright_any _ _).mono ?_
        rintro e w' ⟨rfl, rfl⟩
        rw [unhide hr]
        go_wp2
        go_ret
        exact ⟨by simp [e3], rfl⟩
    · have hr : Hid (rightI m = false) := hide (by unfold rightI; exact decide_eq_false hm)
      have eo : overI s m = false := by unfold overI; exact decide_eq_false (fun k => hm k.2.1)
      rw [eo]
      clear h hm eo
      go_enter Try.func50, Try.ntmps50
      go_wp2_with fail
      refine (rend_any _ _).mono ?_
      rintro e w' ⟨rfl, rfl⟩
      rw [unhide he]
      go_wp2_with fail
      refine (rright_any _ _).mono ?_
      rintro e w' ⟨rfl, rfl⟩
      rw [unhide hr]
      go_wp2
      go_ret
      exact ⟨rfl, rfl⟩
  · have he : Hid (endI s = -1) := hide (by unfold endI; rw [if_neg h])
    have eo : overI s m = false := by unfold overI; exact decide_eq_false (fun k => h k.1)
    rw [eo]
    clear h eo
    go_enter Try.func50, Try.ntmps50
    go_wp2_with fail
    refine (rend_any _ _).mono ?_
    rintro e w' ⟨rfl, rfl⟩
    rw [unhide he]
    go_wp2
    go_ret
    exact ⟨rfl, rfl⟩

end Go.Proofs.Ytmgmkdkdpeljmaa.Sp

namespace Go.Proofs.Ytmgmkdkdpeljmaa
open Go.RowKit
theorem results_cell_tmp {P : Program} {fn : Func} {p t : Tmp} {ty : TypeId} (h : fn.results = #[.cell p ty, .tmp t]) (tmps : Array Value) (w : World) (g : Nat) (cs : List Value) (d : TypeDesc)
    (hp : tmps.getD p undef = .pointer (some ⟨g, 0, none⟩)) (hc : w.rangeAt g 0 cs) (hu : P.underlying ty = some d) (hd : d.isRow = true) (hi : (P.info? ty).map (·.size) = some cs.length) :
    (results fn tmps).run P w = .ok (.tuple #[.agg cs.toArray, tmps.getD t undef]) w := by
  have hp' : tmps[p]?.getD undef = .pointer (some ⟨g, 0, none⟩) := by simpa using hp
  simp [results, h, hp', asAddr, run_loadVar_mid w g 0 ty cs d hc hu hd hi]
/-- What Set's variables hold. -/
structure S3 (w : World) (H : Nat) (s : Value) (x : Win AggV) (v : World) : Prop where
  r0 : RowAt v H [s]
  r1 : RowAt v (H + 1) (outV x)
  r2 : RowAt v (H + 2) [.slice none 0 0]
  bel : Below w.heap.size w v
theorem S3.below {w v v' : World} {H : Nat} {s : Value} {x : Win AggV} (h : S3 w H s x v) (hb : Below v.heap.size v v') : S3 w H s x v' :=
  ⟨h.r0.below hb, h.r1.below hb, h.r2.below hb, h.bel.trans (hb.mono h.bel.size)⟩
theorem S3.put {w v : World} {H : Nat} {s : Value} {x : Win AggV} (h : S3 w H s x v) (hH : H = w.heap.size) (o : Value) : ∃ wf, v.setCells (H + 2) 0 [o] = wf ∧ RowAt wf (H + 2) [o] ∧ Below w.heap.size w wf := by
  refine ⟨_, rfl, h.r2.put [o] rfl, ?_⟩
  have m := setCells_moved v (H + 2) 0 [o]
  exact ((Moved.of_below (F := fun j => j = H + 2) h.bel).trans m (fun _ hi => .inl hi)).below (fun i hi => by omega) (Nat.le_refl _)
theorem set_there {l : List (Win AggV)} {x : Win AggV} (h : keyOk x.key = true ∧ SO.isStart x.start = true ∧ SO.ok x.agg = true) (hl : (look l x.key x.start).isSome = true) : setS SO l x = (l, 5) := by
  unfold setS; rw [if_pos h, if_pos hl]
theorem set_full {l : List (Win AggV)} {x : Win AggV} (h : keyOk x.key = true ∧ SO.isStart x.start = true ∧ SO.ok x.agg = true) (hl : look l x.key x.start = none) (h32 : 32 ≤ l.length) : setS SO l x = (l, 6) := by
  unfold setS; rw [if_pos h, hl]; exact if_pos h32
theorem set_new {l : List (Win AggV)} {x : Win AggV} (h : keyOk x.key = true ∧ SO.isStart x.start = true ∧ SO.ok x.agg = true) (hl : look l x.key x.start = none) (h32 : ¬ 32 ≤ l.length) : setS SO l x = (ins x l, 0) := by
  unfold setS; rw [if_pos h, hl]; exact if_neg h32
def gof : Option Addr → Nat
  | some a => a.block
  | none => 0
theorem row_flat {w : World} {B c : Nat} {a : Option Addr} {l : List (Win AggV)} (h : OutK.Row w B a c l) : a = some ⟨gof a, 0, none⟩ ∨ l = [] := by
  rcases h.2 with ⟨_, h0⟩ | ⟨g, cap, cur, hv, _⟩
  · exact .inr (List.length_eq_zero_iff.1 h0)
  · simp only [Value.slice.injEq] at hv
    obtain ⟨rfl, _⟩ := hv
    exact .inl rfl
theorem row_max {w : World} {B c : Nat} {a : Option Addr} {l : List (Win AggV)} (h : OutK.Row w B a c l) : c ≤ maxLen := by
  rcases h.2 with ⟨hv, _⟩ | ⟨g, cap, cur, hv, _, _, _, hm, _⟩
  · simp only [Value.slice.injEq] at hv; rw [hv.2.2]; exact Nat.zero_le _
  · simp only [Value.slice.injEq] at hv; rw [hv.2.2]; exact hm
theorem set_no {l : List (Win AggV)} {x : Win AggV} (h : ¬ (keyOk x.key = true ∧ SO.isStart x.start = true ∧ SO.ok x.agg = true)) : setS SO l x = (l, 1) := if_neg h
set_option maxRecDepth 100000 in
set_option maxHeartbeats 4000000 in
theorem rset_any {w : World} {B : Nat} {a : Option Addr} {c : Nat} {l : List (Win AggV)} (hR : OutK.Row w B a c l) (hB : B ≤ w.heap.size) (hg : Good SO l) (x : Win AggV) (hx : x.agg.In) :
    Calls Try.prog 51 #[.agg #[.slice a l.length c], .agg (outV x).toArray] w fun e w' => ∃ a' c', e = .returned (.tuple #[.agg #[.slice a' (setS SO l x).1.length c'], .int .i64 ((setS SO l x).2 : Int)]) ∧ OutK.Row w' B a' c' (setS SO l x).1 ∧ (∀ j, (Value.slice a' (setS SO l x).1.length c').ownBlock = some j → (Value.slice a l.length c).ownBlock = some j ∨ w.heap.size ≤ j) ∧ Below w.heap.size w w' := by
  obtain ⟨xk, xs, ⟨g0, g1, g2, g3, g4, g5, g6, g7⟩⟩ := x
  obtain ⟨W, hW⟩ : ∃ W, W = ((w.alloc (.cells #[.slice a l.length c] 49)).alloc (.cells (outV (⟨xk, xs, ⟨g0, g1, g2, g3, g4, g5, g6, g7⟩⟩ : Win AggV)).toArray 38)).alloc (.cells #[.slice none 0 0] 49) := ⟨_, rfl⟩
  obtain ⟨H, hH⟩ : ∃ H, H = w.heap.size := ⟨_, rfl⟩
  have T0 : RowAt W H [.slice a l.length c] := by rw [hW, hH]; exact row_old (row_old (row_new _ _ _) _) _
  have T1 : RowAt W (H + 1) (outV (⟨xk, xs, ⟨g0, g1, g2, g3, g4, g5, g6, g7⟩⟩ : Win AggV)) := by rw [hW, hH]; exact row_old (row_new2 _ _ _ _ _) _
  have T2 : RowAt W (H + 2) [.slice none 0 0] := by
    rw [hW, hH]
    have := row_new ((w.alloc (.cells #[.slice a l.length c] 49)).alloc (.cells (outV (⟨xk, xs, ⟨g0, g1, g2, g3, g4, g5, g6, g7⟩⟩ : Win AggV)).toArray 38)) [.slice none 0 0] 49
    rw [show ((w.alloc (.cells #[.slice a l.length c] 49)).alloc (.cells (outV (⟨xk, xs, ⟨g0, g1, g2, g3, g4, g5, g6, g7⟩⟩ : Win AggV)).toArray 38)).heap.size = w.heap.size + 2 by simp] at this
    exact this
  have bW : Below w.heap.size w W := by rw [hW]; exact (((Below.refl _ _).alloc (Nat.le_refl _) _).alloc (by simp) _).alloc (by simp; omega) _
  have BL := hide (⟨T0, T1, T2, bW⟩ : S3 w H (.slice a l.length c) (⟨xk, xs, ⟨g0, g1, g2, g3, g4, g5, g6, g7⟩⟩ : Win AggV) W)
  have c0 : W.cell? ⟨H + 1, 0, none⟩ = some (.string ⟨xk.toArray⟩) := T1.cell 0 (Nat.succ_pos _)
  have c1 : W.cell? ⟨H + 1, 1, none⟩ = some (.int .i64 xs) := T1.cell 1 (Nat.lt_of_sub_pos (Nat.succ_pos _))
  have c2 : Hid (W.rangeAt (H + 1) 2 [.int .i64 g0, .int .i64 g1, .int .i64 g2, .int .i64 g3, .int .i64 g4, .int .i64 g5, .int .i64 g6, .int .i64 g7]) := hide fun j u hu => by
    have := T1.range (2 + j) u (by rw [outV_eq, ← hu, Nat.add_comm 2 j]; rfl)
    rwa [Nat.zero_add] at this
  have outl : (outV (⟨xk, xs, ⟨g0, g1, g2, g3, g4, g5, g6, g7⟩⟩ : Win AggV)).toArray = #[.string ⟨xk.toArray⟩, .int .i64 xs, .int .i64 g0, .int .i64 g1, .int .i64 g2, .int .i64 g3, .int .i64 g4, .int .i64 g5, .int .i64 g6, .int .i64 g7] := rfl
  rw [outl] at hW
  have HW := hide hW
  have HH := hide hH
  have HRW := hide hR
  have HBB := hide hB
  have HG := hide hg
  have CK := hide (fun v => rkey_any xk v)
  have CE := hide (fun v => Sp.rend_any xs v)
  have CR := hide (fun v => ref_right_any ⟨g0, g1, g2, g3, g4, g5, g6, g7⟩ v hx)
  simp only [aggV, cellsA, I] at CR
  clear hW hH hR hB hg bW T0 T1 T2
  simp only [outl]
  by_cases hk : keyOk xk = true
  rotate_left
  · have RS := hide (set_no (l := l) (x := (⟨xk, xs, ⟨g0, g1, g2, g3, g4, g5, g6, g7⟩⟩ : Win AggV)) (fun h => hk h.1))
    rw [Bool.eq_false_iff.2 hk] at CK
    go_enter Try.func51, Try.ntmps51
    go_upto_region 1 with fail
    rw [← unhide HH]
    try change Code.wp _ _ _ _ (((w.alloc (.cells #[.slice a l.length c] 49)).alloc (.cells #[.string ⟨xk.toArray⟩, .int .i64 xs, .int .i64 g0, .int .i64 g1, .int .i64 g2, .int .i64 g3, .int .i64 g4, .int .i64 g5, .int .i64 g6, .int .i64 g7] 38)).alloc (.cells #[.slice none 0 0] 49))
    rw [← unhide HW]
    go_upto_region 2 with fail
    refine (unhide CK _).mono ?_
    rintro e v' ⟨rfl, hw⟩
    rw [hw]
    clear hw v'
    go_upto_region 2 with fail
    have hrg := (unhide BL).r0.range
    have hth := (unhide BL).r2.there
    go_step
    refine wpList_load_mid rfl 49 (.tmp 2) rfl H 0 rfl [.slice a l.length c] _ hrg Try.underlying49 rfl (by kernel_rfl) ?_
    refine wpList_store_mid rfl 49 (.tmp 4) (.tmp 30) rfl (H + 1 + 1) 0 #[.slice a l.length c] rfl rfl hth (by kernel_rfl) (by simp [Value.oneCell']) ?_
    clear hrg hth
    obtain ⟨wf, hwf, hfr, hbf⟩ := (unhide BL).put (unhide HH) (.slice a l.length c)
    change wpList _ _ _ _ _ (World.setCells _ (H + 2) 0 [.slice a l.length c])
    rw [hwf]
    have HFR := hide hfr
    have HBF := hide hbf
    clear hfr hbf hwf
    go_wp2_with fail
    refine bodyPost_ret (v := .tuple #[.agg #[.slice a l.length c], .int .i64 1]) ?_ rfl ?_
    · exact results_cell_tmp Try.results51 _ wf (H + 1 + 1) [.slice a l.length c] _ rfl (unhide HFR).range Try.underlying49 rfl (by kernel_rfl)
    · exact ⟨a, c, by rw [unhide RS]; rfl, by rw [unhide RS]; exact row_below (unhide HRW) (unhide HBF), by rw [unhide RS]; exact fun _ h => .inl h, unhide HBF⟩
  · by_cases he : 0 ≤ Sp.endI xs
    rotate_left
    · have RS := hide (set_no (l := l) (x := (⟨xk, xs, ⟨g0, g1, g2, g3, g4, g5, g6, g7⟩⟩ : Win AggV)) (fun h => he (of_decide_eq_true h.2.1)))
      have he' : Sp.endI xs < 0 := by omega
      go_enter Try.func51, Try.ntmps51
      go_upto_region 1 with fail
      rw [← unhide HH]
      try change Code.wp _ _ _ _ (((w.alloc (.cells #[.slice a l.length c] 49)).alloc (.cells #[.string ⟨xk.toArray⟩, .int .i64 xs, .int .i64 g0, .int .i64 g1, .int .i64 g2, .int .i64 g3, .int .i64 g4, .int .i64 g5, .int .i64 g6, .int .i64 g7] 38)).alloc (.cells #[.slice none 0 0] 49))
      rw [← unhide HW]
      go_upto_region 2 with fail
      refine (unhide CK _).mono ?_
      rintro e v' ⟨rfl, hw⟩
      rw [hw]
      clear hw v'
      go_upto_region 2 with fail
      refine (unhide CE _).mono ?_
      rintro e v' ⟨rfl, hw⟩
      rw [hw]
      clear hw v'
      go_upto_region 2 with fail
      have hrg := (unhide BL).r0.range
      have hth := (unhide BL).r2.there
      go_step
      refine wpList_load_mid rfl 49 (.tmp 2) rfl H 0 rfl [.slice a l.length c] _ hrg Try.underlying49 rfl (by kernel_rfl) ?_
      refine wpList_store_mid rfl 49 (.tmp 4) (.tmp 30) rfl (H + 1 + 1) 0 #[.slice a l.length c] rfl rfl hth (by kernel_rfl) (by simp [Value.oneCell']) ?_
      clear hrg hth
      obtain ⟨wf, hwf, hfr, hbf⟩ := (unhide BL).put (unhide HH) (.slice a l.length c)
      change wpList _ _ _ _ _ (World.setCells _ (H + 2) 0 [.slice a l.length c])
      rw [hwf]
      have HFR := hide hfr
      have HBF := hide hbf
      clear hfr hbf hwf
      go_wp2_with fail
      refine bodyPost_ret (v := .tuple #[.agg #[.slice a l.length c], .int .i64 1]) ?_ rfl ?_
      · exact results_cell_tmp Try.results51 _ wf (H + 1 + 1) [.slice a l.length c] _ rfl (unhide HFR).range Try.underlying49 rfl (by kernel_rfl)
      · exact ⟨a, c, by rw [unhide RS]; rfl, by rw [unhide RS]; exact row_below (unhide HRW) (unhide HBF), by rw [unhide RS]; exact fun _ h => .inl h, unhide HBF⟩
    · by_cases hr : right ⟨g0, g1, g2, g3, g4, g5, g6, g7⟩ = true
      rotate_left
      · have RS := hide (set_no (l := l) (x := (⟨xk, xs, ⟨g0, g1, g2, g3, g4, g5, g6, g7⟩⟩ : Win AggV)) (fun h => hr (by have := h.2.2; simp [SO] at this; exact this.1)))
        have dg : decide (Sp.endI xs < 0) = false := decide_eq_false (by omega)
        rw [Bool.eq_false_iff.2 hr] at CR
        go_enter Try.func51, Try.ntmps51
        go_upto_region 1 with fail
        rw [← unhide HH]
        try change Code.wp _ _ _ _ (((w.alloc (.cells #[.slice a l.length c] 49)).alloc (.cells #[.string ⟨xk.toArray⟩, .int .i64 xs, .int .i64 g0, .int .i64 g1, .int .i64 g2, .int .i64 g3, .int .i64 g4, .int .i64 g5, .int .i64 g6, .int .i64 g7] 38)).alloc (.cells #[.slice none 0 0] 49))
        rw [← unhide HW]
        go_upto_region 2 with fail
        refine (unhide CK _).mono ?_
        rintro e v' ⟨rfl, hw⟩
        rw [hw]
        clear hw v'
        go_upto_region 2 with fail
        refine (unhide CE _).mono ?_
        rintro e v' ⟨rfl, hw⟩
        rw [hw]
        clear hw v'
        go_upto_region 2 with (refine wpList_load_on rfl 34 (.tmp 19) rfl (H + 1) 2 rfl [.int .i64 g0, .int .i64 g1, .int .i64 g2, .int .i64 g3, .int .i64 g4, .int .i64 g5, .int .i64 g6, .int .i64 g7] _ (unhide c2) Try.underlying34 rfl (by kernel_rfl) ?_)
        refine (unhide CR _).mono ?_
        rintro e W2 ⟨rfl, hb⟩
        have SB := hide ((unhide BL).below hb)
        have c3 : W2.cell? ⟨H + 1, 2, none⟩ = some (.int .i64 g0) := (unhide SB).r1.cell 2 (Nat.lt_of_sub_pos (Nat.succ_pos _))
        clear hb
        go_upto_region 2 with fail
        have hrg := (unhide SB).r0.range
        have hth := (unhide SB).r2.there
        go_step
        refine wpList_load_mid rfl 49 (.tmp 2) rfl H 0 rfl [.slice a l.length c] _ hrg Try.underlying49 rfl (by kernel_rfl) ?_
        refine wpList_store_mid rfl 49 (.tmp 4) (.tmp 30) rfl (H + 1 + 1) 0 #[.slice a l.length c] rfl rfl hth (by kernel_rfl) (by simp [Value.oneCell']) ?_
        clear hrg hth
        obtain ⟨wf, hwf, hfr, hbf⟩ := (unhide SB).put (unhide HH) (.slice a l.length c)
        change wpList _ _ _ _ _ (World.setCells _ (H + 2) 0 [.slice a l.length c])
        rw [hwf]
        have HFR := hide hfr
        have HBF := hide hbf
        clear hfr hbf hwf
        go_wp2_with fail
        refine bodyPost_ret (v := .tuple #[.agg #[.slice a l.length c], .int .i64 1]) ?_ rfl ?_
        · exact results_cell_tmp Try.results51 _ wf (H + 1 + 1) [.slice a l.length c] _ rfl (unhide HFR).range Try.underlying49 rfl (by kernel_rfl)
        · exact ⟨a, c, by rw [unhide RS]; rfl, by rw [unhide RS]; exact row_below (unhide HRW) (unhide HBF), by rw [unhide RS]; exact fun _ h => .inl h, unhide HBF⟩
      · by_cases hc : g0 = 0
        · have RS := hide (set_no (l := l) (x := (⟨xk, xs, ⟨g0, g1, g2, g3, g4, g5, g6, g7⟩⟩ : Win AggV)) (fun h => by have := h.2.2; simp [SO] at this; omega))
          have dg : decide (Sp.endI xs < 0) = false := decide_eq_false (by omega)
          subst hc
          rw [hr] at CR
          go_enter Try.func51, Try.ntmps51
          go_upto_region 1 with fail
          rw [← unhide HH]
          try change Code.wp _ _ _ _ (((w.alloc (.cells #[.slice a l.length c] 49)).alloc (.cells #[.string ⟨xk.toArray⟩, .int .i64 xs, .int .i64 0, .int .i64 g1, .int .i64 g2, .int .i64 g3, .int .i64 g4, .int .i64 g5, .int .i64 g6, .int .i64 g7] 38)).alloc (.cells #[.slice none 0 0] 49))
          rw [← unhide HW]
          go_upto_region 2 with fail
          refine (unhide CK _).mono ?_
          rintro e v' ⟨rfl, hw⟩
          rw [hw]
          clear hw v'
          go_upto_region 2 with fail
          refine (unhide CE _).mono ?_
          rintro e v' ⟨rfl, hw⟩
          rw [hw]
          clear hw v'
          go_upto_region 2 with (refine wpList_load_on rfl 34 (.tmp 19) rfl (H + 1) 2 rfl [.int .i64 0, .int .i64 g1, .int .i64 g2, .int .i64 g3, .int .i64 g4, .int .i64 g5, .int .i64 g6, .int .i64 g7] _ (unhide c2) Try.underlying34 rfl (by kernel_rfl) ?_)
          refine (unhide CR _).mono ?_
          rintro e W2 ⟨rfl, hb⟩
          have SB := hide ((unhide BL).below hb)
          have c3 : W2.cell? ⟨H + 1, 2, none⟩ = some (.int .i64 0) := (unhide SB).r1.cell 2 (Nat.lt_of_sub_pos (Nat.succ_pos _))
          clear hb
          go_upto_region 2 with fail
          have hrg := (unhide SB).r0.range
          have hth := (unhide SB).r2.there
          go_step
          refine wpList_load_mid rfl 49 (.tmp 2) rfl H 0 rfl [.slice a l.length c] _ hrg Try.underlying49 rfl (by kernel_rfl) ?_
          refine wpList_store_mid rfl 49 (.tmp 4) (.tmp 30) rfl (H + 1 + 1) 0 #[.slice a l.length c] rfl rfl hth (by kernel_rfl) (by simp [Value.oneCell']) ?_
          clear hrg hth
          obtain ⟨wf, hwf, hfr, hbf⟩ := (unhide SB).put (unhide HH) (.slice a l.length c)
          change wpList _ _ _ _ _ (World.setCells _ (H + 2) 0 [.slice a l.length c])
          rw [hwf]
          have HFR := hide hfr
          have HBF := hide hbf
          clear hfr hbf hwf
          go_wp2_with fail
          refine bodyPost_ret (v := .tuple #[.agg #[.slice a l.length c], .int .i64 1]) ?_ rfl ?_
          · exact results_cell_tmp Try.results51 _ wf (H + 1 + 1) [.slice a l.length c] _ rfl (unhide HFR).range Try.underlying49 rfl (by kernel_rfl)
          · exact ⟨a, c, by rw [unhide RS]; rfl, by rw [unhide RS]; exact row_below (unhide HRW) (unhide HBF), by rw [unhide RS]; exact fun _ h => .inl h, unhide HBF⟩
        · have hok : SO.ok ⟨g0, g1, g2, g3, g4, g5, g6, g7⟩ = true := by
            have h1 : 0 < g0 := by
              have := hr
              unfold right at this
              rw [if_neg hc] at this
              simp only [Bool.and_eq_true, decide_eq_true_eq] at this
              exact this.1.1
            show (right ⟨g0, g1, g2, g3, g4, g5, g6, g7⟩ && decide (1 ≤ g0)) = true
            rw [hr, decide_eq_true (by omega)]; rfl
          have hlo := look_open (w := (⟨xk, xs, ⟨g0, g1, g2, g3, g4, g5, g6, g7⟩⟩ : Win AggV)) (unhide HG).rise
          cases hop : opens (⟨xk, xs, ⟨g0, g1, g2, g3, g4, g5, g6, g7⟩⟩ : Win AggV) l with
          | true =>
            rw [hop] at hlo
            have hlk : (look l xk xs).isSome = true := hlo
            clear hlo
            have dg : decide (Sp.endI xs < 0) = false := decide_eq_false (by omega)
            rw [hr] at CR
            go_enter Try.func51, Try.ntmps51
            go_upto_region 1 with fail
            rw [← unhide HH]
            try change Code.wp _ _ _ _ (((w.alloc (.cells #[.slice a l.length c] 49)).alloc (.cells #[.string ⟨xk.toArray⟩, .int .i64 xs, .int .i64 g0, .int .i64 g1, .int .i64 g2, .int .i64 g3, .int .i64 g4, .int .i64 g5, .int .i64 g6, .int .i64 g7] 38)).alloc (.cells #[.slice none 0 0] 49))
            rw [← unhide HW]
            go_upto_region 2 with fail
            refine (unhide CK _).mono ?_
            rintro e v' ⟨rfl, hw⟩
            rw [hw]
            clear hw v'
            go_upto_region 2 with fail
            refine (unhide CE _).mono ?_
            rintro e v' ⟨rfl, hw⟩
            rw [hw]
            clear hw v'
            go_upto_region 2 with (refine wpList_load_on rfl 34 (.tmp 19) rfl (H + 1) 2 rfl [.int .i64 g0, .int .i64 g1, .int .i64 g2, .int .i64 g3, .int .i64 g4, .int .i64 g5, .int .i64 g6, .int .i64 g7] _ (unhide c2) Try.underlying34 rfl (by kernel_rfl) ?_)
            refine (unhide CR _).mono ?_
            rintro e W2 ⟨rfl, hb⟩
            have SB := hide ((unhide BL).below hb)
            have c3 : W2.cell? ⟨H + 1, 2, none⟩ = some (.int .i64 g0) := (unhide SB).r1.cell 2 (Nat.lt_of_sub_pos (Nat.succ_pos _))
            clear hb
            go_upto_region 3 with fail
            have FD := find_any l (⟨xk, xs, ⟨g0, g1, g2, g3, g4, g5, g6, g7⟩⟩ : Win AggV) a c W2 (row_lies (row_below (unhide HRW) (unhide SB).bel)) (row_cap (unhide HRW)) (row_max (unhide HRW)) (fun y hy => by have := (unhide HG).all y hy; simp [keyOk] at this; omega) (by have := hk; simp [keyOk] at this; show xk.length ≤ _; omega) (gof a) 0 (row_flat (unhide HRW))
            simp only [outV_eq] at FD
            have HFD := hide FD
            clear FD
            have RG := hide (unhide SB).r0.range
            have RX := hide (unhide SB).r1.range
            go_upto_region 4 with (first | (refine wpList_load_on rfl 49 (.tmp 2) rfl H 0 rfl [.slice a l.length c] _ (unhide RG) Try.underlying49 rfl (by kernel_rfl) ?_) | (refine wpList_load_on rfl 38 (.tmp 3) rfl (H + 1) 0 rfl [.string ⟨xk.toArray⟩, .int .i64 xs, .int .i64 g0, .int .i64 g1, .int .i64 g2, .int .i64 g3, .int .i64 g4, .int .i64 g5, .int .i64 g6, .int .i64 g7] _ (unhide RX) Try.underlying38 rfl (by kernel_rfl) ?_))
            refine (unhide HFD).mono ?_
            rintro e W3 ⟨rfl, hb⟩
            have SC := hide ((unhide SB).below hb)
            clear hb RG RX HFD SB
            rw [hop]
            have RS := hide (set_there ⟨hk, decide_eq_true he, hok⟩ hlk : setS SO l (⟨xk, xs, ⟨g0, g1, g2, g3, g4, g5, g6, g7⟩⟩ : Win AggV) = (l, 5))
            go_upto_region 5 with fail
            have hrg := (unhide SC).r0.range
            have hth := (unhide SC).r2.there
            go_step
            refine wpList_load_mid rfl 49 (.tmp 2) rfl H 0 rfl [.slice a l.length c] _ hrg Try.underlying49 rfl (by kernel_rfl) ?_
            refine wpList_store_mid rfl 49 (.tmp 4) (.tmp 38) rfl (H + 1 + 1) 0 #[.slice a l.length c] rfl rfl hth (by kernel_rfl) (by simp [Value.oneCell']) ?_
            clear hrg hth
            obtain ⟨wf, hwf, hfr, hbf⟩ := (unhide SC).put (unhide HH) (.slice a l.length c)
            change wpList _ _ _ _ _ (World.setCells _ (H + 2) 0 [.slice a l.length c])
            rw [hwf]
            have HFR := hide hfr
            have HBF := hide hbf
            clear hfr hbf hwf
            go_wp2_with fail
            refine bodyPost_ret (v := .tuple #[.agg #[.slice a l.length c], .int .i64 5]) ?_ rfl ?_
            · exact results_cell_tmp Try.results51 _ wf (H + 1 + 1) [.slice a l.length c] _ rfl (unhide HFR).range Try.underlying49 rfl (by kernel_rfl)
            · exact ⟨a, c, by rw [unhide RS]; rfl, by rw [unhide RS]; exact row_below (unhide HRW) (unhide HBF), by rw [unhide RS]; exact fun _ h => .inl h, unhide HBF⟩
          | false =>
            rw [hop] at hlo
            have hlk : look l xk xs = none := Option.isNone_iff_eq_none.1 (by rw [← Option.not_isSome, show (look l xk xs).isSome = false from hlo]; rfl)
            clear hlo
            by_cases h32 : (32 : Int) ≤ (l.length : Int)
            · have dg : decide (Sp.endI xs < 0) = false := decide_eq_false (by omega)
              rw [hr] at CR
              go_enter Try.func51, Try.ntmps51
              go_upto_region 1 with fail
              rw [← unhide HH]
              try change Code.wp _ _ _ _ (((w.alloc (.cells #[.slice a l.length c] 49)).alloc (.cells #[.string ⟨xk.toArray⟩, .int .i64 xs, .int .i64 g0, .int .i64 g1, .int .i64 g2, .int .i64 g3, .int .i64 g4, .int .i64 g5, .int .i64 g6, .int .i64 g7] 38)).alloc (.cells #[.slice none 0 0] 49))
              rw [← unhide HW]
              go_upto_region 2 with fail
              refine (unhide CK _).mono ?_
              rintro e v' ⟨rfl, hw⟩
              rw [hw]
              clear hw v'
              go_upto_region 2 with fail
              refine (unhide CE _).mono ?_
              rintro e v' ⟨rfl, hw⟩
              rw [hw]
              clear hw v'
              go_upto_region 2 with (refine wpList_load_on rfl 34 (.tmp 19) rfl (H + 1) 2 rfl [.int .i64 g0, .int .i64 g1, .int .i64 g2, .int .i64 g3, .int .i64 g4, .int .i64 g5, .int .i64 g6, .int .i64 g7] _ (unhide c2) Try.underlying34 rfl (by kernel_rfl) ?_)
              refine (unhide CR _).mono ?_
              rintro e W2 ⟨rfl, hb⟩
              have SB := hide ((unhide BL).below hb)
              have c3 : W2.cell? ⟨H + 1, 2, none⟩ = some (.int .i64 g0) := (unhide SB).r1.cell 2 (Nat.lt_of_sub_pos (Nat.succ_pos _))
              clear hb
              go_upto_region 3 with fail
              have FD := find_any l (⟨xk, xs, ⟨g0, g1, g2, g3, g4, g5, g6, g7⟩⟩ : Win AggV) a c W2 (row_lies (row_below (unhide HRW) (unhide SB).bel)) (row_cap (unhide HRW)) (row_max (unhide HRW)) (fun y hy => by have := (unhide HG).all y hy; simp [keyOk] at this; omega) (by have := hk; simp [keyOk] at this; show xk.length ≤ _; omega) (gof a) 0 (row_flat (unhide HRW))
              simp only [outV_eq] at FD
              have HFD := hide FD
              clear FD
              have RG := hide (unhide SB).r0.range
              have RX := hide (unhide SB).r1.range
              go_upto_region 4 with (first | (refine wpList_load_on rfl 49 (.tmp 2) rfl H 0 rfl [.slice a l.length c] _ (unhide RG) Try.underlying49 rfl (by kernel_rfl) ?_) | (refine wpList_load_on rfl 38 (.tmp 3) rfl (H + 1) 0 rfl [.string ⟨xk.toArray⟩, .int .i64 xs, .int .i64 g0, .int .i64 g1, .int .i64 g2, .int .i64 g3, .int .i64 g4, .int .i64 g5, .int .i64 g6, .int .i64 g7] _ (unhide RX) Try.underlying38 rfl (by kernel_rfl) ?_))
              refine (unhide HFD).mono ?_
              rintro e W3 ⟨rfl, hb⟩
              have SC := hide ((unhide SB).below hb)
              clear hb RG RX HFD SB
              rw [hop]
              have RS := hide (set_full ⟨hk, decide_eq_true he, hok⟩ hlk (by omega) : setS SO l (⟨xk, xs, ⟨g0, g1, g2, g3, g4, g5, g6, g7⟩⟩ : Win AggV) = (l, 6))
              have k0 : W3.cell? ⟨H, 0, none⟩ = some (.slice a l.length c) := (unhide SC).r0.cell 0 (Nat.succ_pos _)
              go_upto_region 7 with fail
              have hrg := (unhide SC).r0.range
              have hth := (unhide SC).r2.there
              go_step
              refine wpList_load_mid rfl 49 (.tmp 2) rfl H 0 rfl [.slice a l.length c] _ hrg Try.underlying49 rfl (by kernel_rfl) ?_
              refine wpList_store_mid rfl 49 (.tmp 4) (.tmp 43) rfl (H + 1 + 1) 0 #[.slice a l.length c] rfl rfl hth (by kernel_rfl) (by simp [Value.oneCell']) ?_
              clear hrg hth
              obtain ⟨wf, hwf, hfr, hbf⟩ := (unhide SC).put (unhide HH) (.slice a l.length c)
              change wpList _ _ _ _ _ (World.setCells _ (H + 2) 0 [.slice a l.length c])
              rw [hwf]
              have HFR := hide hfr
              have HBF := hide hbf
              clear hfr hbf hwf
              go_wp2_with fail
              refine bodyPost_ret (v := .tuple #[.agg #[.slice a l.length c], .int .i64 6]) ?_ rfl ?_
              · exact results_cell_tmp Try.results51 _ wf (H + 1 + 1) [.slice a l.length c] _ rfl (unhide HFR).range Try.underlying49 rfl (by kernel_rfl)
              · exact ⟨a, c, by rw [unhide RS]; rfl, by rw [unhide RS]; exact row_below (unhide HRW) (unhide HBF), by rw [unhide RS]; exact fun _ h => .inl h, unhide HBF⟩
            · have dg : decide (Sp.endI xs < 0) = false := decide_eq_false (by omega)
              rw [hr] at CR
              go_enter Try.func51, Try.ntmps51
              go_upto_region 1 with fail
              rw [← unhide HH]
              try change Code.wp _ _ _ _ (((w.alloc (.cells #[.slice a l.length c] 49)).alloc (.cells #[.string ⟨xk.toArray⟩, .int .i64 xs, .int .i64 g0, .int .i64 g1, .int .i64 g2, .int .i64 g3, .int .i64 g4, .int .i64 g5, .int .i64 g6, .int .i64 g7] 38)).alloc (.cells #[.slice none 0 0] 49))
              rw [← unhide HW]
              go_upto_region 2 with fail
              refine (unhide CK _).mono ?_
              rintro e v' ⟨rfl, hw⟩
              rw [hw]
              clear hw v'
              go_upto_region 2 with fail
              refine (unhide CE _).mono ?_
              rintro e v' ⟨rfl, hw⟩
              rw [hw]
              clear hw v'
              go_upto_region 2 with (refine wpList_load_on rfl 34 (.tmp 19) rfl (H + 1) 2 rfl [.int .i64 g0, .int .i64 g1, .int .i64 g2, .int .i64 g3, .int .i64 g4, .int .i64 g5, .int .i64 g6, .int .i64 g7] _ (unhide c2) Try.underlying34 rfl (by kernel_rfl) ?_)
              refine (unhide CR _).mono ?_
              rintro e W2 ⟨rfl, hb⟩
              have SB := hide ((unhide BL).below hb)
              have c3 : W2.cell? ⟨H + 1, 2, none⟩ = some (.int .i64 g0) := (unhide SB).r1.cell 2 (Nat.lt_of_sub_pos (Nat.succ_pos _))
              clear hb
              go_upto_region 3 with fail
              have FD := find_any l (⟨xk, xs, ⟨g0, g1, g2, g3, g4, g5, g6, g7⟩⟩ : Win AggV) a c W2 (row_lies (row_below (unhide HRW) (unhide SB).bel)) (row_cap (unhide HRW)) (row_max (unhide HRW)) (fun y hy => by have := (unhide HG).all y hy; simp [keyOk] at this; omega) (by have := hk; simp [keyOk] at this; show xk.length ≤ _; omega) (gof a) 0 (row_flat (unhide HRW))
              simp only [outV_eq] at FD
              have HFD := hide FD
              clear FD
              have RG := hide (unhide SB).r0.range
              have RX := hide (unhide SB).r1.range
              go_upto_region 4 with (first | (refine wpList_load_on rfl 49 (.tmp 2) rfl H 0 rfl [.slice a l.length c] _ (unhide RG) Try.underlying49 rfl (by kernel_rfl) ?_) | (refine wpList_load_on rfl 38 (.tmp 3) rfl (H + 1) 0 rfl [.string ⟨xk.toArray⟩, .int .i64 xs, .int .i64 g0, .int .i64 g1, .int .i64 g2, .int .i64 g3, .int .i64 g4, .int .i64 g5, .int .i64 g6, .int .i64 g7] _ (unhide RX) Try.underlying38 rfl (by kernel_rfl) ?_))
              refine (unhide HFD).mono ?_
              rintro e W3 ⟨rfl, hb⟩
              have SC := hide ((unhide SB).below hb)
              clear hb RG RX HFD SB
              rw [hop]
              have RS := hide (set_new ⟨hk, decide_eq_true he, hok⟩ hlk (by omega) : setS SO l (⟨xk, xs, ⟨g0, g1, g2, g3, g4, g5, g6, g7⟩⟩ : Win AggV) = (ins (⟨xk, xs, ⟨g0, g1, g2, g3, g4, g5, g6, g7⟩⟩ : Win AggV) l, 0))
              have k0 : W3.cell? ⟨H, 0, none⟩ = some (.slice a l.length c) := (unhide SC).r0.cell 0 (Nat.succ_pos _)
              have WT := with_any (row_mono (row_below (unhide HRW) (unhide SC).bel) (Nat.zero_le _)) (Nat.le_trans (unhide HG).most (by omega)) (pos (⟨xk, xs, ⟨g0, g1, g2, g3, g4, g5, g6, g7⟩⟩ : Win AggV) l) (pos_le _ l) (⟨xk, xs, ⟨g0, g1, g2, g3, g4, g5, g6, g7⟩⟩ : Win AggV) false (fun h => by cases h)
              rw [show putAt l (pos (⟨xk, xs, ⟨g0, g1, g2, g3, g4, g5, g6, g7⟩⟩ : Win AggV) l) (⟨xk, xs, ⟨g0, g1, g2, g3, g4, g5, g6, g7⟩⟩ : Win AggV) false = ins (⟨xk, xs, ⟨g0, g1, g2, g3, g4, g5, g6, g7⟩⟩ : Win AggV) l by rw [ins_pos, hop]; rfl] at WT
              simp only [outV_eq] at WT
              have HWT := hide WT
              clear WT
              go_upto_region 8 with fail
              have RG := hide (unhide SC).r0.range
              have RX := hide (unhide SC).r1.range
              go_wp2_with (first | (refine wpList_load_on rfl 49 (.tmp 2) rfl H 0 rfl [.slice a l.length c] _ (unhide RG) Try.underlying49 rfl (by kernel_rfl) ?_) | (refine wpList_load_on rfl 38 (.tmp 3) rfl (H + 1) 0 rfl [.string ⟨xk.toArray⟩, .int .i64 xs, .int .i64 g0, .int .i64 g1, .int .i64 g2, .int .i64 g3, .int .i64 g4, .int .i64 g5, .int .i64 g6, .int .i64 g7] _ (unhide RX) Try.underlying38 rfl (by kernel_rfl) ?_))
              refine (unhide HWT).mono ?_
              rintro e W4 ⟨a', c', rfl, hrow, hb⟩
              have SD := (unhide SC).below hb
              obtain ⟨wf, hwf, hfr, hbf⟩ := SD.put (unhide HH) (.slice a' (ins (⟨xk, xs, ⟨g0, g1, g2, g3, g4, g5, g6, g7⟩⟩ : Win AggV) l).length c')
              have hmv : Moved (fun j => j = H + 2) W4 wf := by rw [← hwf]; exact setCells_moved W4 (H + 2) 0 _
              have HNEW : Hid (∀ j, _ = some j → (Value.slice a l.length c).ownBlock = some j ∨ w.heap.size ≤ j) := hide (fun j hj => .inr (Nat.le_trans (unhide SC).bel.size (row_lt hrow j hj).1))
              have HROW := hide (row_mono (row_moved hrow hmv (fun i hi k hk => by have := (row_lt hrow k hk).1; have := (unhide SC).r2.lt; omega)) (Nat.le_trans (unhide HBB) (unhide SC).bel.size))
              have TH := hide SD.r2.there
              have HFR := hide hfr
              have HBF := hide hbf
              have HWF := hide hwf
              clear hfr hbf hmv hwf hrow hb SD HWT RG RX
              go_wp2_with (first | (refine wpList_store_mid rfl 49 (.tmp 4) (.tmp 47) rfl (H + 1 + 1) 0 #[.slice a' (ins (⟨xk, xs, ⟨g0, g1, g2, g3, g4, g5, g6, g7⟩⟩ : Win AggV) l).length c'] rfl rfl (unhide TH) (by kernel_rfl) (by simp [Value.oneCell']) ?_; change wpList _ _ _ _ _ (World.setCells _ (H + 2) 0 [.slice a' (ins (⟨xk, xs, ⟨g0, g1, g2, g3, g4, g5, g6, g7⟩⟩ : Win AggV) l).length c']); rw [unhide HWF]))
              refine bodyPost_ret (v := .tuple #[.agg #[.slice a' (ins (⟨xk, xs, ⟨g0, g1, g2, g3, g4, g5, g6, g7⟩⟩ : Win AggV) l).length c'], .int .i64 0]) ?_ rfl ?_
              · exact results_cell_tmp Try.results51 _ wf (H + 1 + 1) [.slice a' (ins (⟨xk, xs, ⟨g0, g1, g2, g3, g4, g5, g6, g7⟩⟩ : Win AggV) l).length c'] _ rfl (unhide HFR).range Try.underlying49 rfl (by kernel_rfl)
              · exact ⟨a', c', by rw [unhide RS]; rfl, by rw [unhide RS]; exact unhide HROW, by rw [unhide RS]; exact unhide HNEW, unhide HBF⟩
end Go.Proofs.Ytmgmkdkdpeljmaa

namespace Go.Proofs.Ytmgmkdkdpeljmaa
open Go.RowKit

set_option maxHeartbeats 1000000 in
set_option maxRecDepth 100000 in
theorem rp_c0_0 (ac aS amn amx a0 a1 a2 a3 v : Int) (w : World) (hb : Hid (bucket v = 0)) (hA : Hid (AggV.In ⟨ac, aS, amn, amx, a0, a1, a2, a3⟩)) (hv : Hid (i64 v)) (hc : ac = 0) :
    Calls Try.prog 72 #[aggV ⟨ac, aS, amn, amx, a0, a1, a2, a3⟩, .int .i64 v] w fun e w' => e = .returned (aggV ⟨plus ac 1, plus aS v, v, v, plus a0 1, a1, a2, a3⟩) ∧ Below w.heap.size w w' := by
  subst hc
  simp only [aggV, cellsA, I]
  have i1 : Hid (i64 1) := hide (by unfold i64; omega)
  go_enter Try.func72, Try.ntmps72
  go_wp2_with fail
  refine (ref_plus_any _ _ _ (unhide hA).count (unhide i1)).mono ?_
  rintro e w1 ⟨rfl, rfl⟩
  go_wp2_with fail
  refine (ref_plus_any _ _ _ (unhide hA).sum (unhide hv)).mono ?_
  rintro e w1 ⟨rfl, rfl⟩
  go_wp2_with fail
  refine (ref_bucket_any _ _).mono ?_
  rintro e w1 ⟨rfl, rfl⟩
  rw [unhide hb]
  go_wp2_with fail
  refine (ref_plus_any _ _ _ (unhide hA).h0 (unhide i1)).mono ?_
  rintro e w1 ⟨rfl, rfl⟩
  go_wp2_with fail
  refine bodyPost_ret (by simp [results, Try.results72, go_sem]; rfl) rfl ?_
  exact ⟨rfl, ((Below.refl _ _).alloc (Nat.le_refl _) _).alloc (by simp) _⟩
set_option maxHeartbeats 1000000 in
set_option maxRecDepth 100000 in
theorem rp_c0_1 (ac aS amn amx a0 a1 a2 a3 v : Int) (w : World) (hb : Hid (bucket v = 1)) (hA : Hid (AggV.In ⟨ac, aS, amn, amx, a0, a1, a2, a3⟩)) (hv : Hid (i64 v)) (hc : ac = 0) :
    Calls Try.prog 72 #[aggV ⟨ac, aS, amn, amx, a0, a1, a2, a3⟩, .int .i64 v] w fun e w' => e = .returned (aggV ⟨plus ac 1, plus aS v, v, v, a0, plus a1 1, a2, a3⟩) ∧ Below w.heap.size w w' := by
  subst hc
  simp only [aggV, cellsA, I]
  have i1 : Hid (i64 1) := hide (by unfold i64; omega)
  go_enter Try.func72, Try.ntmps72
  go_wp2_with fail
  refine (ref_plus_any _ _ _ (unhide hA).count (unhide i1)).mono ?_
  rintro e w1 ⟨rfl, rfl⟩
  go_wp2_with fail
  refine (ref_plus_any _ _ _ (unhide hA).sum (unhide hv)).mono ?_
  rintro e w1 ⟨rfl, rfl⟩
  go_wp2_with fail
  refine (ref_bucket_any _ _).mono ?_
  rintro e w1 ⟨rfl, rfl⟩
  rw [unhide hb]
  go_wp2_with fail
  refine (ref_plus_any _ _ _ (unhide hA).h1 (unhide i1)).mono ?_
  rintro e w1 ⟨rfl, rfl⟩
  go_wp2_with fail
  refine bodyPost_ret (by simp [results, Try.results72, go_sem]; rfl) rfl ?_
  exact ⟨rfl, ((Below.refl _ _).alloc (Nat.le_refl _) _).alloc (by simp) _⟩
set_option maxHeartbeats 1000000 in
set_option maxRecDepth 100000 in
theorem rp_c0_2 (ac aS amn amx a0 a1 a2 a3 v : Int) (w : World) (hb : Hid (bucket v = 2)) (hA : Hid (AggV.In ⟨ac, aS, amn, amx, a0, a1, a2, a3⟩)) (hv : Hid (i64 v)) (hc : ac = 0) :
    Calls Try.prog 72 #[aggV ⟨ac, aS, amn, amx, a0, a1, a2, a3⟩, .int .i64 v] w fun e w' => e = .returned (aggV ⟨plus ac 1, plus aS v, v, v, a0, a1, plus a2 1, a3⟩) ∧ Below w.heap.size w w' := by
  subst hc
  simp only [aggV, cellsA, I]
  have i1 : Hid (i64 1) := hide (by unfold i64; omega)
  go_enter Try.func72, Try.ntmps72
  go_wp2_with fail
  refine (ref_plus_any _ _ _ (unhide hA).count (unhide i1)).mono ?_
  rintro e w1 ⟨rfl, rfl⟩
  go_wp2_with fail
  refine (ref_plus_any _ _ _ (unhide hA).sum (unhide hv)).mono ?_
  rintro e w1 ⟨rfl, rfl⟩
  go_wp2_with fail
  refine (ref_bucket_any _ _).mono ?_
  rintro e w1 ⟨rfl, rfl⟩
  rw [unhide hb]
  go_wp2_with fail
  refine (ref_plus_any _ _ _ (unhide hA).h2 (unhide i1)).mono ?_
  rintro e w1 ⟨rfl, rfl⟩
  go_wp2_with fail
  refine bodyPost_ret (by simp [results, Try.results72, go_sem]; rfl) rfl ?_
  exact ⟨rfl, ((Below.refl _ _).alloc (Nat.le_refl _) _).alloc (by simp) _⟩
set_option maxHeartbeats 1000000 in
set_option maxRecDepth 100000 in
theorem rp_c0_3 (ac aS amn amx a0 a1 a2 a3 v : Int) (w : World) (hb : Hid (bucket v = 3)) (hA : Hid (AggV.In ⟨ac, aS, amn, amx, a0, a1, a2, a3⟩)) (hv : Hid (i64 v)) (hc : ac = 0) :
    Calls Try.prog 72 #[aggV ⟨ac, aS, amn, amx, a0, a1, a2, a3⟩, .int .i64 v] w fun e w' => e = .returned (aggV ⟨plus ac 1, plus aS v, v, v, a0, a1, a2, plus a3 1⟩) ∧ Below w.heap.size w w' := by
  subst hc
  simp only [aggV, cellsA, I]
  have i1 : Hid (i64 1) := hide (by unfold i64; omega)
  go_enter Try.func72, Try.ntmps72
  go_wp2_with fail
  refine (ref_plus_any _ _ _ (unhide hA).count (unhide i1)).mono ?_
  rintro e w1 ⟨rfl, rfl⟩
  go_wp2_with fail
  refine (ref_plus_any _ _ _ (unhide hA).sum (unhide hv)).mono ?_
  rintro e w1 ⟨rfl, rfl⟩
  go_wp2_with fail
  refine (ref_bucket_any _ _).mono ?_
  rintro e w1 ⟨rfl, rfl⟩
  rw [unhide hb]
  go_wp2_with fail
  refine (ref_plus_any _ _ _ (unhide hA).h3 (unhide i1)).mono ?_
  rintro e w1 ⟨rfl, rfl⟩
  go_wp2_with fail
  refine bodyPost_ret (by simp [results, Try.results72, go_sem]; rfl) rfl ?_
  exact ⟨rfl, ((Below.refl _ _).alloc (Nat.le_refl _) _).alloc (by simp) _⟩
set_option maxHeartbeats 1000000 in
set_option maxRecDepth 100000 in
theorem rp_cn00_0 (ac aS amn amx a0 a1 a2 a3 v : Int) (w : World) (hb : Hid (bucket v = 0)) (hA : Hid (AggV.In ⟨ac, aS, amn, amx, a0, a1, a2, a3⟩)) (hv : Hid (i64 v)) (hc : ¬ ac = 0) (hm : ¬ v < amn) (hx : ¬ amx < v) :
    Calls Try.prog 72 #[aggV ⟨ac, aS, amn, amx, a0, a1, a2, a3⟩, .int .i64 v] w fun e w' => e = .returned (aggV ⟨plus ac 1, plus aS v, amn, amx, plus a0 1, a1, a2, a3⟩) ∧ Below w.heap.size w w' := by
  simp only [aggV, cellsA, I]
  have i1 : Hid (i64 1) := hide (by unfold i64; omega)
  go_enter Try.func72, Try.ntmps72
  go_wp2_with fail
  refine (ref_plus_any _ _ _ (unhide hA).count (unhide i1)).mono ?_
  rintro e w1 ⟨rfl, rfl⟩
  go_wp2_with fail
  refine (ref_plus_any _ _ _ (unhide hA).sum (unhide hv)).mono ?_
  rintro e w1 ⟨rfl, rfl⟩
  go_wp2_with fail
  refine (ref_bucket_any _ _).mono ?_
  rintro e w1 ⟨rfl, rfl⟩
  rw [unhide hb]
  go_wp2_with fail
  refine (ref_plus_any _ _ _ (unhide hA).h0 (unhide i1)).mono ?_
  rintro e w1 ⟨rfl, rfl⟩
  go_wp2_with fail
  refine bodyPost_ret (by simp [results, Try.results72, go_sem]; rfl) rfl ?_
  exact ⟨rfl, ((Below.refl _ _).alloc (Nat.le_refl _) _).alloc (by simp) _⟩
set_option maxHeartbeats 1000000 in
set_option maxRecDepth 100000 in
theorem rp_cn00_1 (ac aS amn amx a0 a1 a2 a3 v : Int) (w : World) (hb : Hid (bucket v = 1)) (hA : Hid (AggV.In ⟨ac, aS, amn, amx, a0, a1, a2, a3⟩)) (hv : Hid (i64 v)) (hc : ¬ ac = 0) (hm : ¬ v < amn) (hx : ¬ amx < v) :
    Calls Try.prog 72 #[aggV ⟨ac, aS, amn, amx, a0, a1, a2, a3⟩, .int .i64 v] w fun e w' => e = .returned (aggV ⟨plus ac 1, plus aS v, amn, amx, a0, plus a1 1, a2, a3⟩) ∧ Below w.heap.size w w' := by
  simp only [aggV, cellsA, I]
  have i1 : Hid (i64 1) := hide (by unfold i64; omega)
  go_enter Try.func72, Try.ntmps72
  go_wp2_with fail
  refine (ref_plus_any _ _ _ (unhide hA).count (unhide i1)).mono ?_
  rintro e w1 ⟨rfl, rfl⟩
  go_wp2_with fail
  refine (ref_plus_any _ _ _ (unhide hA).sum (unhide hv)).mono ?_
  rintro e w1 ⟨rfl, rfl⟩
  go_wp2_with fail
  refine (ref_bucket_any _ _).mono ?_
  rintro e w1 ⟨rfl, rfl⟩
  rw [unhide hb]
  go_wp2_with fail
  refine (ref_plus_any _ _ _ (unhide hA).h1 (unhide i1)).mono ?_
  rintro e w1 ⟨rfl, rfl⟩
  go_wp2_with fail
  refine bodyPost_ret (by simp [results, Try.results72, go_sem]; rfl) rfl ?_
  exact ⟨rfl, ((Below.refl _ _).alloc (Nat.le_refl _) _).alloc (by simp) _⟩
set_option maxHeartbeats 1000000 in
set_option maxRecDepth 100000 in
theorem rp_cn00_2 (ac aS amn amx a0 a1 a2 a3 v : Int) (w : World) (hb : Hid (bucket v = 2)) (hA : Hid (AggV.In ⟨ac, aS, amn, amx, a0, a1, a2, a3⟩)) (hv : Hid (i64 v)) (hc : ¬ ac = 0) (hm : ¬ v < amn) (hx : ¬ amx < v) :
    Calls Try.prog 72 #[aggV ⟨ac, aS, amn, amx, a0, a1, a2, a3⟩, .int .i64 v] w fun e w' => e = .returned (aggV ⟨plus ac 1, plus aS v, amn, amx, a0, a1, plus a2 1, a3⟩) ∧ Below w.heap.size w w' := by
  simp only [aggV, cellsA, I]
  have i1 : Hid (i64 1) := hide (by unfold i64; omega)
  go_enter Try.func72, Try.ntmps72
  go_wp2_with fail
  refine (ref_plus_any _ _ _ (unhide hA).count (unhide i1)).mono ?_
  rintro e w1 ⟨rfl, rfl⟩
  go_wp2_with fail
  refine (ref_plus_any _ _ _ (unhide hA).sum (unhide hv)).mono ?_
  rintro e w1 ⟨rfl, rfl⟩
  go_wp2_with fail
  refine (ref_bucket_any _ _).mono ?_
  rintro e w1 ⟨rfl, rfl⟩
  rw [unhide hb]
  go_wp2_with fail
  refine (ref_plus_any _ _ _ (unhide hA).h2 (unhide i1)).mono ?_
  rintro e w1 ⟨rfl, rfl⟩
  go_wp2_with fail
  refine bodyPost_ret (by simp [results, Try.results72, go_sem]; rfl) rfl ?_
  exact ⟨rfl, ((Below.refl _ _).alloc (Nat.le_refl _) _).alloc (by simp) _⟩
set_option maxHeartbeats 1000000 in
set_option maxRecDepth 100000 in
theorem rp_cn00_3 (ac aS amn amx a0 a1 a2 a3 v : Int) (w : World) (hb : Hid (bucket v = 3)) (hA : Hid (AggV.In ⟨ac, aS, amn, amx, a0, a1, a2, a3⟩)) (hv : Hid (i64 v)) (hc : ¬ ac = 0) (hm : ¬ v < amn) (hx : ¬ amx < v) :
    Calls Try.prog 72 #[aggV ⟨ac, aS, amn, amx, a0, a1, a2, a3⟩, .int .i64 v] w fun e w' => e = .returned (aggV ⟨plus ac 1, plus aS v, amn, amx, a0, a1, a2, plus a3 1⟩) ∧ Below w.heap.size w w' := by
  simp only [aggV, cellsA, I]
  have i1 : Hid (i64 1) := hide (by unfold i64; omega)
  go_enter Try.func72, Try.ntmps72
  go_wp2_with fail
  refine (ref_plus_any _ _ _ (unhide hA).count (unhide i1)).mono ?_
  rintro e w1 ⟨rfl, rfl⟩
  go_wp2_with fail
  refine (ref_plus_any _ _ _ (unhide hA).sum (unhide hv)).mono ?_
  rintro e w1 ⟨rfl, rfl⟩
  go_wp2_with fail
  refine (ref_bucket_any _ _).mono ?_
  rintro e w1 ⟨rfl, rfl⟩
  rw [unhide hb]
  go_wp2_with fail
  refine (ref_plus_any _ _ _ (unhide hA).h3 (unhide i1)).mono ?_
  rintro e w1 ⟨rfl, rfl⟩
  go_wp2_with fail
  refine bodyPost_ret (by simp [results, Try.results72, go_sem]; rfl) rfl ?_
  exact ⟨rfl, ((Below.refl _ _).alloc (Nat.le_refl _) _).alloc (by simp) _⟩
set_option maxHeartbeats 1000000 in
set_option maxRecDepth 100000 in
theorem rp_cn01_0 (ac aS amn amx a0 a1 a2 a3 v : Int) (w : World) (hb : Hid (bucket v = 0)) (hA : Hid (AggV.In ⟨ac, aS, amn, amx, a0, a1, a2, a3⟩)) (hv : Hid (i64 v)) (hc : ¬ ac = 0) (hm : ¬ v < amn) (hx : amx < v) :
    Calls Try.prog 72 #[aggV ⟨ac, aS, amn, amx, a0, a1, a2, a3⟩, .int .i64 v] w fun e w' => e = .returned (aggV ⟨plus ac 1, plus aS v, amn, v, plus a0 1, a1, a2, a3⟩) ∧ Below w.heap.size w w' := by
  simp only [aggV, cellsA, I]
  have i1 : Hid (i64 1) := hide (by unfold i64; omega)
  go_enter Try.func72, Try.ntmps72
  go_wp2_with fail
  refine (ref_plus_any _ _ _ (unhide hA).count (unhide i1)).mono ?_
  rintro e w1 ⟨rfl, rfl⟩
  go_wp2_with fail
  refine (ref_plus_any _ _ _ (unhide hA).sum (unhide hv)).mono ?_
  rintro e w1 ⟨rfl, rfl⟩
  go_wp2_with fail
  refine (ref_bucket_any _ _).mono ?_
  rintro e w1 ⟨rfl, rfl⟩
  rw [unhide hb]
  go_wp2_with fail
  refine (ref_plus_any _ _ _ (unhide hA).h0 (unhide i1)).mono ?_
  rintro e w1 ⟨rfl, rfl⟩
  go_wp2_with fail
  refine bodyPost_ret (by simp [results, Try.results72, go_sem]; rfl) rfl ?_
  exact ⟨rfl, ((Below.refl _ _).alloc (Nat.le_refl _) _).alloc (by simp) _⟩
set_option maxHeartbeats 1000000 in
set_option maxRecDepth 100000 in
theorem rp_cn01_1 (ac aS amn amx a0 a1 a2 a3 v : Int) (w : World) (hb : Hid (bucket v = 1)) (hA : Hid (AggV.In ⟨ac, aS, amn, amx, a0, a1, a2, a3⟩)) (hv : Hid (i64 v)) (hc : ¬ ac = 0) (hm : ¬ v < amn) (hx : amx < v) :
    Calls Try.prog 72 #[aggV ⟨ac, aS, amn, amx, a0, a1, a2, a3⟩, .int .i64 v] w fun e w' => e = .returned (aggV ⟨plus ac 1, plus aS v, amn, v, a0, plus a1 1, a2, a3⟩) ∧ Below w.heap.size w w' := by
  simp only [aggV, cellsA, I]
  have i1 : Hid (i64 1) := hide (by unfold i64; omega)
  go_enter Try.func72, Try.ntmps72
  go_wp2_with fail
  refine (ref_plus_any _ _ _ (unhide hA).count (unhide i1)).mono ?_
  rintro e w1 ⟨rfl, rfl⟩
  go_wp2_with fail
  refine (ref_plus_any _ _ _ (unhide hA).sum (unhide hv)).mono ?_
  rintro e w1 ⟨rfl, rfl⟩
  go_wp2_with fail
  refine (ref_bucket_any _ _).mono ?_
  rintro e w1 ⟨rfl, rfl⟩
  rw [unhide hb]
  go_wp2_with fail
  refine (ref_plus_any _ _ _ (unhide hA).h1 (unhide i1)).mono ?_
  rintro e w1 ⟨rfl, rfl⟩
  go_wp2_with fail
  refine bodyPost_ret (by simp [results, Try.results72, go_sem]; rfl) rfl ?_
  exact ⟨rfl, ((Below.refl _ _).alloc (Nat.le_refl _) _).alloc (by simp) _⟩
set_option maxHeartbeats 1000000 in
set_option maxRecDepth 100000 in
theorem rp_cn01_2 (ac aS amn amx a0 a1 a2 a3 v : Int) (w : World) (hb : Hid (bucket v = 2)) (hA : Hid (AggV.In ⟨ac, aS, amn, amx, a0, a1, a2, a3⟩)) (hv : Hid (i64 v)) (hc : ¬ ac = 0) (hm : ¬ v < amn) (hx : amx < v) :
    Calls Try.prog 72 #[aggV ⟨ac, aS, amn, amx, a0, a1, a2, a3⟩, .int .i64 v] w fun e w' => e = .returned (aggV ⟨plus ac 1, plus aS v, amn, v, a0, a1, plus a2 1, a3⟩) ∧ Below w.heap.size w w' := by
  simp only [aggV, cellsA, I]
  have i1 : Hid (i64 1) := hide (by unfold i64; omega)
  go_enter Try.func72, Try.ntmps72
  go_wp2_with fail
  refine (ref_plus_any _ _ _ (unhide hA).count (unhide i1)).mono ?_
  rintro e w1 ⟨rfl, rfl⟩
  go_wp2_with fail
  refine (ref_plus_any _ _ _ (unhide hA).sum (unhide hv)).mono ?_
  rintro e w1 ⟨rfl, rfl⟩
  go_wp2_with fail
  refine (ref_bucket_any _ _).mono ?_
  rintro e w1 ⟨rfl, rfl⟩
  rw [unhide hb]
  go_wp2_with fail
  refine (ref_plus_any _ _ _ (unhide hA).h2 (unhide i1)).mono ?_
  rintro e w1 ⟨rfl, rfl⟩
  go_wp2_with fail
  refine bodyPost_ret (by simp [results, Try.results72, go_sem]; rfl) rfl ?_
  exact ⟨rfl, ((Below.refl _ _).alloc (Nat.le_refl _) _).alloc (by simp) _⟩
set_option maxHeartbeats 1000000 in
set_option maxRecDepth 100000 in
theorem rp_cn01_3 (ac aS amn amx a0 a1 a2 a3 v : Int) (w : World) (hb : Hid (bucket v = 3)) (hA : Hid (AggV.In ⟨ac, aS, amn, amx, a0, a1, a2, a3⟩)) (hv : Hid (i64 v)) (hc : ¬ ac = 0) (hm : ¬ v < amn) (hx : amx < v) :
    Calls Try.prog 72 #[aggV ⟨ac, aS, amn, amx, a0, a1, a2, a3⟩, .int .i64 v] w fun e w' => e = .returned (aggV ⟨plus ac 1, plus aS v, amn, v, a0, a1, a2, plus a3 1⟩) ∧ Below w.heap.size w w' := by
  simp only [aggV, cellsA, I]
  have i1 : Hid (i64 1) := hide (by unfold i64; omega)
  go_enter Try.func72, Try.ntmps72
  go_wp2_with fail
  refine (ref_plus_any _ _ _ (unhide hA).count (unhide i1)).mono ?_
  rintro e w1 ⟨rfl, rfl⟩
  go_wp2_with fail
  refine (ref_plus_any _ _ _ (unhide hA).sum (unhide hv)).mono ?_
  rintro e w1 ⟨rfl, rfl⟩
  go_wp2_with fail
  refine (ref_bucket_any _ _).mono ?_
  rintro e w1 ⟨rfl, rfl⟩
  rw [unhide hb]
  go_wp2_with fail
  refine (ref_plus_any _ _ _ (unhide hA).h3 (unhide i1)).mono ?_
  rintro e w1 ⟨rfl, rfl⟩
  go_wp2_with fail
  refine bodyPost_ret (by simp [results, Try.results72, go_sem]; rfl) rfl ?_
  exact ⟨rfl, ((Below.refl _ _).alloc (Nat.le_refl _) _).alloc (by simp) _⟩
set_option maxHeartbeats 1000000 in
set_option maxRecDepth 100000 in
theorem rp_cn10_0 (ac aS amn amx a0 a1 a2 a3 v : Int) (w : World) (hb : Hid (bucket v = 0)) (hA : Hid (AggV.In ⟨ac, aS, amn, amx, a0, a1, a2, a3⟩)) (hv : Hid (i64 v)) (hc : ¬ ac = 0) (hm : v < amn) (hx : ¬ amx < v) :
    Calls Try.prog 72 #[aggV ⟨ac, aS, amn, amx, a0, a1, a2, a3⟩, .int .i64 v] w fun e w' => e = .returned (aggV ⟨plus ac 1, plus aS v, v, amx, plus a0 1, a1, a2, a3⟩) ∧ Below w.heap.size w w' := by
  simp only [aggV, cellsA, I]
  have i1 : Hid (i64 1) := hide (by unfold i64; omega)
  go_enter Try.func72, Try.ntmps72
  go_wp2_with fail
  refine (ref_plus_any _ _ _ (unhide hA).count (unhide i1)).mono ?_
  rintro e w1 ⟨rfl, rfl⟩
  go_wp2_with fail
  refine (ref_plus_any _ _ _ (unhide hA).sum (unhide hv)).mono ?_
  rintro e w1 ⟨rfl, rfl⟩
  go_wp2_with fail
  refine (ref_bucket_any _ _).mono ?_
  rintro e w1 ⟨rfl, rfl⟩
  rw [unhide hb]
  go_wp2_with fail
  refine (ref_plus_any _ _ _ (unhide hA).h0 (unhide i1)).mono ?_
  rintro e w1 ⟨rfl, rfl⟩
  go_wp2_with fail
  refine bodyPost_ret (by simp [results, Try.results72, go_sem]; rfl) rfl ?_
  exact ⟨rfl, ((Below.refl _ _).alloc (Nat.le_refl _) _).alloc (by simp) _⟩
set_option maxHeartbeats 1000000 in
set_option maxRecDepth 100000 in
theorem rp_cn10_1 (ac aS amn amx a0 a1 a2 a3 v : Int) (w : World) (hb : Hid (bucket v = 1)) (hA : Hid (AggV.In ⟨ac, aS, amn, amx, a0, a1, a2, a3⟩)) (hv : Hid (i64 v)) (hc : ¬ ac = 0) (hm : v < amn) (hx : ¬ amx < v) :
    Calls Try.prog 72 #[aggV ⟨ac, aS, amn, amx, a0, a1, a2, a3⟩, .int .i64 v] w fun e w' => e = .returned (aggV ⟨plus ac 1, plus aS v, v, amx, a0, plus a1 1, a2, a3⟩) ∧ Below w.heap.size w w' := by
  simp only [aggV, cellsA, I]
  have i1 : Hid (i64 1) := hide (by unfold i64; omega)
  go_enter Try.func72, Try.ntmps72
  go_wp2_with fail
  refine (ref_plus_any _ _ _ (unhide hA).count (unhide i1)).mono ?_
  rintro e w1 ⟨rfl, rfl⟩
  go_wp2_with fail
  refine (ref_plus_any _ _ _ (unhide hA).sum (unhide hv)).mono ?_
  rintro e w1 ⟨rfl, rfl⟩
  go_wp2_with fail
  refine (ref_bucket_any _ _).mono ?_
  rintro e w1 ⟨rfl, rfl⟩
  rw [unhide hb]
  go_wp2_with fail
  refine (ref_plus_any _ _ _ (unhide hA).h1 (unhide i1)).mono ?_
  rintro e w1 ⟨rfl, rfl⟩
  go_wp2_with fail
  refine bodyPost_ret (by simp [results, Try.results72, go_sem]; rfl) rfl ?_
  exact ⟨rfl, ((Below.refl _ _).alloc (Nat.le_refl _) _).alloc (by simp) _⟩
set_option maxHeartbeats 1000000 in
set_option maxRecDepth 100000 in
theorem rp_cn10_2 (ac aS amn amx a0 a1 a2 a3 v : Int) (w : World) (hb : Hid (bucket v = 2)) (hA : Hid (AggV.In ⟨ac, aS, amn, amx, a0, a1, a2, a3⟩)) (hv : Hid (i64 v)) (hc : ¬ ac = 0) (hm : v < amn) (hx : ¬ amx < v) :
    Calls Try.prog 72 #[aggV ⟨ac, aS, amn, amx, a0, a1, a2, a3⟩, .int .i64 v] w fun e w' => e = .returned (aggV ⟨plus ac 1, plus aS v, v, amx, a0, a1, plus a2 1, a3⟩) ∧ Below w.heap.size w w' := by
  simp only [aggV, cellsA, I]
  have i1 : Hid (i64 1) := hide (by unfold i64; omega)
  go_enter Try.func72, Try.ntmps72
  go_wp2_with fail
  refine (ref_plus_any _ _ _ (unhide hA).count (unhide i1)).mono ?_
  rintro e w1 ⟨rfl, rfl⟩
  go_wp2_with fail
  refine (ref_plus_any _ _ _ (unhide hA).sum (unhide hv)).mono ?_
  rintro e w1 ⟨rfl, rfl⟩
  go_wp2_with fail
  refine (ref_bucket_any _ _).mono ?_
  rintro e w1 ⟨rfl, rfl⟩
  rw [unhide hb]
  go_wp2_with fail
  refine (ref_plus_any _ _ _ (unhide hA).h2 (unhide i1)).mono ?_
  rintro e w1 ⟨rfl, rfl⟩
  go_wp2_with fail
  refine bodyPost_ret (by simp [results, Try.results72, go_sem]; rfl) rfl ?_
  exact ⟨rfl, ((Below.refl _ _).alloc (Nat.le_refl _) _).alloc (by simp) _⟩
set_option maxHeartbeats 1000000 in
set_option maxRecDepth 100000 in
theorem rp_cn10_3 (ac aS amn amx a0 a1 a2 a3 v : Int) (w : World) (hb : Hid (bucket v = 3)) (hA : Hid (AggV.In ⟨ac, aS, amn, amx, a0, a1, a2, a3⟩)) (hv : Hid (i64 v)) (hc : ¬ ac = 0) (hm : v < amn) (hx : ¬ amx < v) :
    Calls Try.prog 72 #[aggV ⟨ac, aS, amn, amx, a0, a1, a2, a3⟩, .int .i64 v] w fun e w' => e = .returned (aggV ⟨plus ac 1, plus aS v, v, amx, a0, a1, a2, plus a3 1⟩) ∧ Below w.heap.size w w' := by
  simp only [aggV, cellsA, I]
  have i1 : Hid (i64 1) := hide (by unfold i64; omega)
  go_enter Try.func72, Try.ntmps72
  go_wp2_with fail
  refine (ref_plus_any _ _ _ (unhide hA).count (unhide i1)).mono ?_
  rintro e w1 ⟨rfl, rfl⟩
  go_wp2_with fail
  refine (ref_plus_any _ _ _ (unhide hA).sum (unhide hv)).mono ?_
  rintro e w1 ⟨rfl, rfl⟩
  go_wp2_with fail
  refine (ref_bucket_any _ _).mono ?_
  rintro e w1 ⟨rfl, rfl⟩
  rw [unhide hb]
  go_wp2_with fail
  refine (ref_plus_any _ _ _ (unhide hA).h3 (unhide i1)).mono ?_
  rintro e w1 ⟨rfl, rfl⟩
  go_wp2_with fail
  refine bodyPost_ret (by simp [results, Try.results72, go_sem]; rfl) rfl ?_
  exact ⟨rfl, ((Below.refl _ _).alloc (Nat.le_refl _) _).alloc (by simp) _⟩
set_option maxHeartbeats 1000000 in
set_option maxRecDepth 100000 in
theorem rp_cn11_0 (ac aS amn amx a0 a1 a2 a3 v : Int) (w : World) (hb : Hid (bucket v = 0)) (hA : Hid (AggV.In ⟨ac, aS, amn, amx, a0, a1, a2, a3⟩)) (hv : Hid (i64 v)) (hc : ¬ ac = 0) (hm : v < amn) (hx : amx < v) :
    Calls Try.prog 72 #[aggV ⟨ac, aS, amn, amx, a0, a1, a2, a3⟩, .int .i64 v] w fun e w' => e = .returned (aggV ⟨plus ac 1, plus aS v, v, v, plus a0 1, a1, a2, a3⟩) ∧ Below w.heap.size w w' := by
  simp only [aggV, cellsA, I]
  have i1 : Hid (i64 1) := hide (by unfold i64; omega)
  go_enter Try.func72, Try.ntmps72
  go_wp2_with fail
  refine (ref_plus_any _ _ _ (unhide hA).count (unhide i1)).mono ?_
  rintro e w1 ⟨rfl, rfl⟩
  go_wp2_with fail
  refine (ref_plus_any _ _ _ (unhide hA).sum (unhide hv)).mono ?_
  rintro e w1 ⟨rfl, rfl⟩
  go_wp2_with fail
  refine (ref_bucket_any _ _).mono ?_
  rintro e w1 ⟨rfl, rfl⟩
  rw [unhide hb]
  go_wp2_with fail
  refine (ref_plus_any _ _ _ (unhide hA).h0 (unhide i1)).mono ?_
  rintro e w1 ⟨rfl, rfl⟩
  go_wp2_with fail
  refine bodyPost_ret (by simp [results, Try.results72, go_sem]; rfl) rfl ?_
  exact ⟨rfl, ((Below.refl _ _).alloc (Nat.le_refl _) _).alloc (by simp) _⟩
set_option maxHeartbeats 1000000 in
set_option maxRecDepth 100000 in
theorem rp_cn11_1 (ac aS amn amx a0 a1 a2 a3 v : Int) (w : World) (hb : Hid (bucket v = 1)) (hA : Hid (AggV.In ⟨ac, aS, amn, amx, a0, a1, a2, a3⟩)) (hv : Hid (i64 v)) (hc : ¬ ac = 0) (hm : v < amn) (hx : amx < v) :
    Calls Try.prog 72 #[aggV ⟨ac, aS, amn, amx, a0, a1, a2, a3⟩, .int .i64 v] w fun e w' => e = .returned (aggV ⟨plus ac 1, plus aS v, v, v, a0, plus a1 1, a2, a3⟩) ∧ Below w.heap.size w w' := by
  simp only [aggV, cellsA, I]
  have i1 : Hid (i64 1) := hide (by unfold i64; omega)
  go_enter Try.func72, Try.ntmps72
  go_wp2_with fail
  refine (ref_plus_any _ _ _ (unhide hA).count (unhide i1)).mono ?_
  rintro e w1 ⟨rfl, rfl⟩
  go_wp2_with fail
  refine (ref_plus_any _ _ _ (unhide hA).sum (unhide hv)).mono ?_
  rintro e w1 ⟨rfl, rfl⟩
  go_wp2_with fail
  refine (ref_bucket_any _ _).mono ?_
  rintro e w1 ⟨rfl, rfl⟩
  rw [unhide hb]
  go_wp2_with fail
  refine (ref_plus_any _ _ _ (unhide hA).h1 (unhide i1)).mono ?_
  rintro e w1 ⟨rfl, rfl⟩
  go_wp2_with fail
  refine bodyPost_ret (by simp [results, Try.results72, go_sem]; rfl) rfl ?_
  exact ⟨rfl, ((Below.refl _ _).alloc (Nat.le_refl _) _).alloc (by simp) _⟩
set_option maxHeartbeats 1000000 in
set_option maxRecDepth 100000 in
theorem rp_cn11_2 (ac aS amn amx a0 a1 a2 a3 v : Int) (w : World) (hb : Hid (bucket v = 2)) (hA : Hid (AggV.In ⟨ac, aS, amn, amx, a0, a1, a2, a3⟩)) (hv : Hid (i64 v)) (hc : ¬ ac = 0) (hm : v < amn) (hx : amx < v) :
    Calls Try.prog 72 #[aggV ⟨ac, aS, amn, amx, a0, a1, a2, a3⟩, .int .i64 v] w fun e w' => e = .returned (aggV ⟨plus ac 1, plus aS v, v, v, a0, a1, plus a2 1, a3⟩) ∧ Below w.heap.size w w' := by
  simp only [aggV, cellsA, I]
  have i1 : Hid (i64 1) := hide (by unfold i64; omega)
  go_enter Try.func72, Try.ntmps72
  go_wp2_with fail
  refine (ref_plus_any _ _ _ (unhide hA).count (unhide i1)).mono ?_
  rintro e w1 ⟨rfl, rfl⟩
  go_wp2_with fail
  refine (ref_plus_any _ _ _ (unhide hA).sum (unhide hv)).mono ?_
  rintro e w1 ⟨rfl, rfl⟩
  go_wp2_with fail
  refine (ref_bucket_any _ _).mono ?_
  rintro e w1 ⟨rfl, rfl⟩
  rw [unhide hb]
  go_wp2_with fail
  refine (ref_plus_any _ _ _ (unhide hA).h2 (unhide i1)).mono ?_
  rintro e w1 ⟨rfl, rfl⟩
  go_wp2_with fail
  refine bodyPost_ret (by simp [results, Try.results72, go_sem]; rfl) rfl ?_
  exact ⟨rfl, ((Below.refl _ _).alloc (Nat.le_refl _) _).alloc (by simp) _⟩
set_option maxHeartbeats 1000000 in
set_option maxRecDepth 100000 in
theorem rp_cn11_3 (ac aS amn amx a0 a1 a2 a3 v : Int) (w : World) (hb : Hid (bucket v = 3)) (hA : Hid (AggV.In ⟨ac, aS, amn, amx, a0, a1, a2, a3⟩)) (hv : Hid (i64 v)) (hc : ¬ ac = 0) (hm : v < amn) (hx : amx < v) :
    Calls Try.prog 72 #[aggV ⟨ac, aS, amn, amx, a0, a1, a2, a3⟩, .int .i64 v] w fun e w' => e = .returned (aggV ⟨plus ac 1, plus aS v, v, v, a0, a1, a2, plus a3 1⟩) ∧ Below w.heap.size w w' := by
  simp only [aggV, cellsA, I]
  have i1 : Hid (i64 1) := hide (by unfold i64; omega)
  go_enter Try.func72, Try.ntmps72
  go_wp2_with fail
  refine (ref_plus_any _ _ _ (unhide hA).count (unhide i1)).mono ?_
  rintro e w1 ⟨rfl, rfl⟩
  go_wp2_with fail
  refine (ref_plus_any _ _ _ (unhide hA).sum (unhide hv)).mono ?_
  rintro e w1 ⟨rfl, rfl⟩
  go_wp2_with fail
  refine (ref_bucket_any _ _).mono ?_
  rintro e w1 ⟨rfl, rfl⟩
  rw [unhide hb]
  go_wp2_with fail
  refine (ref_plus_any _ _ _ (unhide hA).h3 (unhide i1)).mono ?_
  rintro e w1 ⟨rfl, rfl⟩
  go_wp2_with fail
  refine bodyPost_ret (by simp [results, Try.results72, go_sem]; rfl) rfl ?_
  exact ⟨rfl, ((Below.refl _ _).alloc (Nat.le_refl _) _).alloc (by simp) _⟩
theorem put_form (ac aS amn amx a0 a1 a2 a3 v : Int) (hA : AggV.In ⟨ac, aS, amn, amx, a0, a1, a2, a3⟩) : put ⟨ac, aS, amn, amx, a0, a1, a2, a3⟩ v = ⟨plus ac 1, plus aS v, if ac = 0 ∨ v < amn then v else amn, if ac = 0 ∨ amx < v then v else amx, if bucket v = 0 then plus a0 1 else a0, if bucket v = 1 then plus a1 1 else a1, if bucket v = 2 then plus a2 1 else a2, if bucket v = 3 then plus a3 1 else a3⟩ := by
  have h0 := plus_zero hA.h0; have h1 := plus_zero hA.h1; have h2 := plus_zero hA.h2; have h3 := plus_zero hA.h3
  simp only at h0 h1 h2 h3
  have hm : least ⟨ac, aS, amn, amx, a0, a1, a2, a3⟩ (one v) = if ac = 0 ∨ v < amn then v else amn := by
    unfold least one; simp only
    by_cases h : ac = 0
    · simp [h]
    · simp only [h, if_false, false_or]; rw [if_neg (by omega)]; split <;> omega
  have hx : great ⟨ac, aS, amn, amx, a0, a1, a2, a3⟩ (one v) = if ac = 0 ∨ amx < v then v else amx := by
    unfold great one; simp only
    by_cases h : ac = 0
    · simp [h]
    · simp only [h, if_false, false_or]; rw [if_neg (by omega)]; split <;> omega
  unfold put join
  rw [hm, hx]
  simp only [one, at1]
  congr 1
  · split <;> simp [*]
  · split <;> simp [*]
  · split <;> simp [*]
  · split <;> simp [*]
set_option maxRecDepth 100000 in
theorem ref_put_any (a : AggV) (v : Int) (w : World) (ha : a.In) (hv : i64 v) :
    Calls Try.prog 72 #[aggV a, .int .i64 v] w fun e w' => e = .returned (aggV (put a v)) ∧ Below w.heap.size w w' := by
  obtain ⟨ac, aS, amn, amx, a0, a1, a2, a3⟩ := a
  rw [put_form ac aS amn amx a0 a1 a2 a3 v ha]
  have hb : bucket v = 0 ∨ bucket v = 1 ∨ bucket v = 2 ∨ bucket v = 3 := by have := bucket_le v; omega
  have HA := hide ha
  have HV := hide hv
  by_cases hc : ac = 0
  · rcases hb with hb | hb | hb | hb
    · simpa [hc, hb] using rp_c0_0 ac aS amn amx a0 a1 a2 a3 v w (hide hb) HA HV hc
    · simpa [hc, hb] using rp_c0_1 ac aS amn amx a0 a1 a2 a3 v w (hide hb) HA HV hc
    · simpa [hc, hb] using rp_c0_2 ac aS amn amx a0 a1 a2 a3 v w (hide hb) HA HV hc
    · simpa [hc, hb] using rp_c0_3 ac aS amn amx a0 a1 a2 a3 v w (hide hb) HA HV hc
  · by_cases hm : v < amn
    · by_cases hx : amx < v
      · rcases hb with hb | hb | hb | hb
        · simpa [hc, hm, hx, hb] using rp_cn11_0 ac aS amn amx a0 a1 a2 a3 v w (hide hb) HA HV hc hm hx
        · simpa [hc, hm, hx, hb] using rp_cn11_1 ac aS amn amx a0 a1 a2 a3 v w (hide hb) HA HV hc hm hx
        · simpa [hc, hm, hx, hb] using rp_cn11_2 ac aS amn amx a0 a1 a2 a3 v w (hide hb) HA HV hc hm hx
        · simpa [hc, hm, hx, hb] using rp_cn11_3 ac aS amn amx a0 a1 a2 a3 v w (hide hb) HA HV hc hm hx
      · rcases hb with hb | hb | hb | hb
        · simpa [hc, hm, hx, hb] using rp_cn10_0 ac aS amn amx a0 a1 a2 a3 v w (hide hb) HA HV hc hm hx
        · simpa [hc, hm, hx, hb] using rp_cn10_1 ac aS amn amx a0 a1 a2 a3 v w (hide hb) HA HV hc hm hx
        · simpa [hc, hm, hx, hb] using rp_cn10_2 ac aS amn amx a0 a1 a2 a3 v w (hide hb) HA HV hc hm hx
        · simpa [hc, hm, hx, hb] using rp_cn10_3 ac aS amn amx a0 a1 a2 a3 v w (hide hb) HA HV hc hm hx
    · by_cases hx : amx < v
      · rcases hb with hb | hb | hb | hb
        · simpa [hc, hm, hx, hb] using rp_cn01_0 ac aS amn amx a0 a1 a2 a3 v w (hide hb) HA HV hc hm hx
        · simpa [hc, hm, hx, hb] using rp_cn01_1 ac aS amn amx a0 a1 a2 a3 v w (hide hb) HA HV hc hm hx
        · simpa [hc, hm, hx, hb] using rp_cn01_2 ac aS amn amx a0 a1 a2 a3 v w (hide hb) HA HV hc hm hx
        · simpa [hc, hm, hx, hb] using rp_cn01_3 ac aS amn amx a0 a1 a2 a3 v w (hide hb) HA HV hc hm hx
      · rcases hb with hb | hb | hb | hb
        · simpa [hc, hm, hx, hb] using rp_cn00_0 ac aS amn amx a0 a1 a2 a3 v w (hide hb) HA HV hc hm hx
        · simpa [hc, hm, hx, hb] using rp_cn00_1 ac aS amn amx a0 a1 a2 a3 v w (hide hb) HA HV hc hm hx
        · simpa [hc, hm, hx, hb] using rp_cn00_2 ac aS amn amx a0 a1 a2 a3 v w (hide hb) HA HV hc hm hx
        · simpa [hc, hm, hx, hb] using rp_cn00_3 ac aS amn amx a0 a1 a2 a3 v w (hide hb) HA HV hc hm hx
end Go.Proofs.Ytmgmkdkdpeljmaa

namespace Go.Proofs.Ytmgmkdkdpeljmaa
open Go.RowKit
theorem RowAt.part {w : World} {B : Nat} {p q : Value} {old vs : List Value} (h : RowAt w B (p :: q :: old)) (hl : old.length = vs.length) : RowAt (w.setCells B 2 vs) B (p :: q :: vs) := by
  refine ⟨Nat.lt_of_lt_of_le h.lt (setCells_moved w B 2 vs).size, fun i hi => ?_, fun i hi => ?_⟩
  · match i with
    | 0 => exact (World.cell?_setCells_out B vs 2 w ⟨B, 0, none⟩ (fun _ _ => .inl (by show 0 < 2; omega))).trans (h.cell 0 (Nat.succ_pos _))
    | 1 => exact (World.cell?_setCells_out B vs 2 w ⟨B, 1, none⟩ (fun _ _ => .inl (by show 1 < 2; omega))).trans (h.cell 1 (Nat.succ_lt_succ (Nat.succ_pos _)))
    | j + 2 =>
      have hj : j < vs.length := by simpa using hi
      have ht : w.there B 2 vs.length := fun i hi => by
        have h1 : i + 2 < (p :: q :: old).length := by simp; omega
        have := h.cell (i + 2) h1
        rw [Nat.add_comm 2 i]
        exact ⟨by rw [this]; rfl, h.free (i + 2) h1⟩
      have := World.rangeAt_setCells_same w B 2 vs ht j _ (List.getElem?_eq_getElem hj)
      rw [Nat.add_comm 2 j] at this
      rw [this]
      simp [List.getD_eq_getElem?_getD, hj]
  · rw [World.frozen?_setCells]
    exact h.free i (by simp at hi ⊢; omega)
theorem ahead_key {x y z : Win AggV} (h1 : y.key = x.key) (h2 : y.start = x.start) : ahead z y = ahead z x ∧ ahead y z = ahead x z := by unfold ahead; rw [h1, h2]; exact ⟨rfl, rfl⟩
theorem pos_key {x y : Win AggV} (h1 : y.key = x.key) (h2 : y.start = x.start) : ∀ {l : List (Win AggV)}, pos y l = pos x l
  | [] => rfl
  | z :: l => by rw [pos, pos, (ahead_key h1 h2).1, pos_key h1 h2]
theorem opens_key {x y : Win AggV} (h1 : y.key = x.key) (h2 : y.start = x.start) : ∀ {l : List (Win AggV)}, opens y l = opens x l
  | [] => rfl
  | z :: l => by rw [opens, opens, (ahead_key h1 h2).1, (ahead_key h1 h2).2, opens_key h1 h2]
/-- What Put's variables hold. -/
structure S4 (w : World) (H : Nat) (s : Value) (cs : List Value) (v : World) : Prop where
  r0 : RowAt v H [s]
  r1 : RowAt v (H + 1) [.slice none 0 0]
  r2 : RowAt v (H + 1 + 1) cs
  bel : Below w.heap.size w v
theorem S4.below {w v v' : World} {H : Nat} {s : Value} {cs : List Value} (h : S4 w H s cs v) (hb : Below v.heap.size v v') : S4 w H s cs v' :=
  ⟨h.r0.below hb, h.r1.below hb, h.r2.below hb, h.bel.trans (hb.mono h.bel.size)⟩
structure S20 (w : World) (H : Nat) (s : Value) (v : World) : Prop where
  r0 : RowAt v H [s]
  r1 : RowAt v (H + 1) [.slice none 0 0]
  bel : Below w.heap.size w v
theorem S20.put {w v : World} {H : Nat} {s : Value} (h : S20 w H s v) (hH : H = w.heap.size) (o : Value) : ∃ wf, v.setCells (H + 1) 0 [o] = wf ∧ RowAt wf (H + 1) [o] ∧ Below w.heap.size w wf := by
  refine ⟨_, rfl, h.r1.put [o] rfl, ?_⟩
  have m := setCells_moved v (H + 1) 0 [o]
  exact ((Moved.of_below (F := fun j => j = H + 1) h.bel).trans m (fun _ hi => .inl hi)).below (fun i hi => by omega) (Nat.le_refl _)
theorem there_part {w : World} {B : Nat} {p q : Value} {old : List Value} (h : RowAt w B (p :: q :: old)) : w.there B 2 old.length := fun i hi => by
  have h1 : i + 2 < (p :: q :: old).length := by simp; omega
  have := h.cell (i + 2) h1
  rw [Nat.add_comm 2 i]
  exact ⟨by rw [this]; rfl, h.free (i + 2) h1⟩
theorem S4.part {w v : World} {H : Nat} {s p q : Value} {old : List Value} (h : S4 w H s (p :: q :: old) v) (hH : H = w.heap.size) (vs : List Value) (hl : old.length = vs.length) : ∃ wf, v.setCells (H + 1 + 1) 2 vs = wf ∧ S4 w H s (p :: q :: vs) wf := by
  have m := setCells_moved v (H + 1 + 1) 2 vs
  exact ⟨_, rfl, h.r0.keep m (by omega), h.r1.keep m (by omega), h.r2.part hl, ((Moved.of_below (F := fun j => j = H + 1 + 1) h.bel).trans m (fun _ hi => .inl hi)).below (fun i hi => by omega) (Nat.le_refl _)⟩
theorem S4.low {w v : World} {H : Nat} {s : Value} {cs : List Value} (h : S4 w H s cs v) : S20 w H s v := ⟨h.r0, h.r1, h.bel⟩
set_option maxRecDepth 100000 in
set_option maxHeartbeats 4000000 in
theorem rput_any {w : World} {B : Nat} {a : Option Addr} {c : Nat} {l : List (Win AggV)} (hR : OutK.Row w B a c l) (hB : B ≤ w.heap.size) (hg : Good SO l) (hm : ∀ x ∈ l, x.agg.In) (k : List UInt8) (at_ n : Int) (hn : i64 n) :
    Calls Try.prog 55 #[.agg #[.slice a l.length c], .string ⟨k.toArray⟩, .int .i64 at_, .int .i64 n] w fun e w' => ∃ a' c', e = .returned (.tuple #[.agg #[.slice a' (putS SO l k at_ n).1.length c'], .int .i64 ((putS SO l k at_ n).2 : Int)]) ∧ OutK.Row w' B a' c' (putS SO l k at_ n).1 ∧ (∀ j, (Value.slice a' (putS SO l k at_ n).1.length c').ownBlock = some j → (Value.slice a l.length c).ownBlock = some j ∨ w.heap.size ≤ j) ∧ Below w.heap.size w w' := by
  obtain ⟨W, hW⟩ : ∃ W, W = (w.alloc (.cells #[.slice a l.length c] 49)).alloc (.cells #[.slice none 0 0] 49) := ⟨_, rfl⟩
  obtain ⟨H, hH⟩ : ∃ H, H = w.heap.size := ⟨_, rfl⟩
  have T0 : RowAt W H [.slice a l.length c] := by rw [hW, hH]; exact row_old (row_new _ _ _) _
  have T1 : RowAt W (H + 1) [.slice none 0 0] := by rw [hW, hH]; exact row_new2 _ _ _ _ _
  have bW : Below w.heap.size w W := by rw [hW]; exact ((Below.refl _ _).alloc (Nat.le_refl _) _).alloc (by simp) _
  have BL := hide (⟨T0, T1, bW⟩ : S20 w H (.slice a l.length c) W)
  have HSZ : Hid (W.heap.size = H + 1 + 1) := hide (by rw [hW, hH]; simp)
  have HW := hide hW
  have HH := hide hH
  have HRW := hide hR
  have HBB := hide hB
  have HG := hide hg
  have HIN := hide hm
  have CK := hide (fun v => rkey_any k v)
  have CR := hide (fun v => Sp.rright_any at_ v)
  have CS := hide (fun v => Sp.rstart_any at_ v)
  clear hW hH hR hB hg hm bW T0 T1
  by_cases hk : keyOk k = true
  rotate_left
  · have RS := hide (put_no (O := SO) (l := l) (k := k) (a := at_) (v := n) (fun h => hk h.1))
    rw [Bool.eq_false_iff.2 hk] at CK
    go_enter Try.func55, Try.ntmps55
    go_upto_region 1 with fail
    rw [← unhide HH]
    try change Code.wp _ _ _ _ ((w.alloc (.cells #[.slice a l.length c] 49)).alloc (.cells #[.slice none 0 0] 49))
    rw [← unhide HW]
    go_upto_region 2 with fail
    refine (unhide CK _).mono ?_
    rintro e v' ⟨rfl, hw⟩
    rw [hw]
    clear hw v'
    go_upto_region 2 with fail
    have hrg := (unhide BL).r0.range
    have hth := (unhide BL).r1.there
    go_step
    refine wpList_load_mid rfl 49 (.tmp 4) rfl H 0 rfl [.slice a l.length c] _ hrg Try.underlying49 rfl (by kernel_rfl) ?_
    refine wpList_store_mid rfl 49 (.tmp 8) (.tmp 21) rfl (H + 1) 0 #[.slice a l.length c] rfl rfl hth (by kernel_rfl) (by simp [Value.oneCell']) ?_
    clear hrg hth
    obtain ⟨wf, hwf, hfr, hbf⟩ := (unhide BL).put (unhide HH) (.slice a l.length c)
    change wpList _ _ _ _ _ (World.setCells _ (H + 1) 0 [.slice a l.length c])
    rw [hwf]
    have HFR := hide hfr
    have HBF := hide hbf
    clear hfr hbf hwf
    go_wp2_with fail
    refine bodyPost_ret (v := .tuple #[.agg #[.slice a l.length c], .int .i64 1]) ?_ rfl ?_
    · exact results_cell_tmp Try.results55 _ wf (H + 1) [.slice a l.length c] _ rfl (unhide HFR).range Try.underlying49 rfl (by kernel_rfl)
    · exact ⟨a, c, by rw [unhide RS]; rfl, by rw [unhide RS]; exact row_below (unhide HRW) (unhide HBF), by rw [unhide RS]; exact fun _ h => .inl h, unhide HBF⟩
  · by_cases hr : Sp.rightI at_ = true
    rotate_left
    · have RS := hide (put_no (O := SO) (l := l) (k := k) (a := at_) (v := n) (fun h => hr h.2))
      rw [hk] at CK
      rw [Bool.eq_false_iff.2 hr] at CR
      go_enter Try.func55, Try.ntmps55
      go_upto_region 1 with fail
      rw [← unhide HH]
      try change Code.wp _ _ _ _ ((w.alloc (.cells #[.slice a l.length c] 49)).alloc (.cells #[.slice none 0 0] 49))
      rw [← unhide HW]
      go_upto_region 2 with fail
      refine (unhide CK _).mono ?_
      rintro e v' ⟨rfl, hw⟩
      rw [hw]
      clear hw v'
      go_upto_region 2 with fail
      refine (unhide CR _).mono ?_
      rintro e v' ⟨rfl, hw⟩
      rw [hw]
      clear hw v'
      go_upto_region 2 with fail
      have hrg := (unhide BL).r0.range
      have hth := (unhide BL).r1.there
      go_step
      refine wpList_load_mid rfl 49 (.tmp 4) rfl H 0 rfl [.slice a l.length c] _ hrg Try.underlying49 rfl (by kernel_rfl) ?_
      refine wpList_store_mid rfl 49 (.tmp 8) (.tmp 21) rfl (H + 1) 0 #[.slice a l.length c] rfl rfl hth (by kernel_rfl) (by simp [Value.oneCell']) ?_
      clear hrg hth
      obtain ⟨wf, hwf, hfr, hbf⟩ := (unhide BL).put (unhide HH) (.slice a l.length c)
      change wpList _ _ _ _ _ (World.setCells _ (H + 1) 0 [.slice a l.length c])
      rw [hwf]
      have HFR := hide hfr
      have HBF := hide hbf
      clear hfr hbf hwf
      go_wp2_with fail
      refine bodyPost_ret (v := .tuple #[.agg #[.slice a l.length c], .int .i64 1]) ?_ rfl ?_
      · exact results_cell_tmp Try.results55 _ wf (H + 1) [.slice a l.length c] _ rfl (unhide HFR).range Try.underlying49 rfl (by kernel_rfl)
      · exact ⟨a, c, by rw [unhide RS]; rfl, by rw [unhide RS]; exact row_below (unhide HRW) (unhide HBF), by rw [unhide RS]; exact fun _ h => .inl h, unhide HBF⟩
    · rw [hk] at CK
      rw [hr] at CR
      go_enter Try.func55, Try.ntmps55
      go_upto_region 1 with fail
      rw [← unhide HH]
      try change Code.wp _ _ _ _ ((w.alloc (.cells #[.slice a l.length c] 49)).alloc (.cells #[.slice none 0 0] 49))
      rw [← unhide HW]
      go_upto_region 2 with fail
      refine (unhide CK _).mono ?_
      rintro e v' ⟨rfl, hw⟩
      rw [hw]
      clear hw v'
      go_upto_region 2 with fail
      refine (unhide CR _).mono ?_
      rintro e v' ⟨rfl, hw⟩
      rw [hw]
      clear hw v'
      go_upto_region 3 with fail
      go_upto_region 4 with fail
      refine (unhide CS _).mono ?_
      rintro e v' ⟨rfl, hw⟩
      rw [hw]
      clear hw v'
      obtain ⟨W1, hu, hrow, hmf, hth⟩ := keep_row W 38 [.string ⟨#[]⟩, .int .i64 0, .int .i64 0, .int .i64 0, .int .i64 0, .int .i64 0, .int .i64 0, .int .i64 0, .int .i64 0, .int .i64 0] [.string ⟨k.toArray⟩, .int .i64 (Sp.startI at_), .int .i64 0, .int .i64 0, .int .i64 0, .int .i64 0, .int .i64 0, .int .i64 0, .int .i64 0, .int .i64 0] rfl
      have hH2 : W.heap.size = H + 1 + 1 := unhide HSZ
      rw [hH2] at hu hrow hth
      have U := hide hu
      have T := hide hth
      have SB := hide (⟨(unhide BL).r0.keep hmf id, (unhide BL).r1.keep hmf id, hrow, (unhide BL).bel.trans ((hmf.below (fun _ f => f.elim) (Nat.le_refl _)).mono (unhide BL).bel.size)⟩ : S4 w H (.slice a l.length c) [.string ⟨k.toArray⟩, .int .i64 (Sp.startI at_), .int .i64 0, .int .i64 0, .int .i64 0, .int .i64 0, .int .i64 0, .int .i64 0, .int .i64 0, .int .i64 0] W1)
      clear hu hrow hmf hth
      go_upto_region 4 with (refine wpList_store_mid rfl 38 (.tmp 10) (.tmp 25) (by simp [go_sem]) (H + 1 + 1) 0 #[.string ⟨k.toArray⟩, .int .i64 (Sp.startI at_), .int .i64 0, .int .i64 0, .int .i64 0, .int .i64 0, .int .i64 0, .int .i64 0, .int .i64 0, .int .i64 0] rfl rfl (unhide T) (by kernel_rfl) (by simp [Value.oneCell']) ?_; change wpList _ _ _ _ _ (World.setCells _ (H + 1 + 1) 0 [.string ⟨k.toArray⟩, .int .i64 (Sp.startI at_), .int .i64 0, .int .i64 0, .int .i64 0, .int .i64 0, .int .i64 0, .int .i64 0, .int .i64 0, .int .i64 0]); rw [unhide U])
      clear hH2 T U
      have FD := find_any l (⟨k, Sp.startI at_, zero⟩ : Win AggV) a c W1 (row_lies (row_below (unhide HRW) (unhide SB).bel)) (row_cap (unhide HRW)) (row_max (unhide HRW)) (fun y hy => by have := (unhide HG).all y hy; simp [keyOk] at this; omega) (by have := hk; simp [keyOk] at this; show k.length ≤ _; omega) (gof a) 0 (row_flat (unhide HRW))
      simp only [outV_eq] at FD
      have HFD := hide FD
      have RG := hide (unhide SB).r0.range
      have RX := hide (unhide SB).r2.range
      have HLO := hide (look_pos (w := (⟨k, Sp.startI at_, zero⟩ : Win AggV)) (unhide HG).rise)
      have HOP := hide (look_open (w := (⟨k, Sp.startI at_, zero⟩ : Win AggV)) (unhide HG).rise)
      have HINS := hide (fun z : AggV => (by rw [ins_pos, pos_key (x := (⟨k, Sp.startI at_, zero⟩ : Win AggV)) (y := ⟨k, Sp.startI at_, z⟩) rfl rfl, opens_key (x := (⟨k, Sp.startI at_, zero⟩ : Win AggV)) (y := ⟨k, Sp.startI at_, z⟩) rfl rfl]; rfl : putAt l (pos (⟨k, Sp.startI at_, zero⟩ : Win AggV) l) ⟨k, Sp.startI at_, z⟩ (opens (⟨k, Sp.startI at_, zero⟩ : Win AggV) l) = ins ⟨k, Sp.startI at_, z⟩ l))
      have HPOS := hide (pos_le (⟨k, Sp.startI at_, zero⟩ : Win AggV) l)
      clear FD
      generalize pos (⟨k, Sp.startI at_, zero⟩ : Win AggV) l = i at *
      obtain ⟨op, hop⟩ : ∃ op, op = opens (⟨k, Sp.startI at_, zero⟩ : Win AggV) l := ⟨_, rfl⟩
      rw [← hop] at HFD HLO HOP HINS
      clear hop
      go_upto_region 5 with (first | (refine wpList_load_on rfl 49 (.tmp 4) rfl H 0 rfl [.slice a l.length c] _ (unhide RG) Try.underlying49 rfl (by kernel_rfl) ?_) | (refine wpList_load_on rfl 38 (.tmp 10) rfl (H + 1 + 1) 0 rfl [.string ⟨k.toArray⟩, .int .i64 (Sp.startI at_), .int .i64 0, .int .i64 0, .int .i64 0, .int .i64 0, .int .i64 0, .int .i64 0, .int .i64 0, .int .i64 0] _ (unhide RX) Try.underlying38 rfl (by kernel_rfl) ?_))
      refine (unhide HFD).mono ?_
      rintro e W2 ⟨rfl, hb⟩
      have SC := hide ((unhide SB).below hb)
      have k0 : W2.cell? ⟨H, 0, none⟩ = some (.slice a l.length c) := (unhide SC).r0.cell 0 (Nat.succ_pos _)
      clear hb RG RX HFD SB
      have hml := (unhide HG).most
      cases op with
      | false =>
        have hlk : look l k (Sp.startI at_) = none := by have := unhide HLO; simpa using this
        by_cases h32 : (32 : Int) ≤ (l.length : Int)
        · have SL := hide (unhide SC).low
          have RS := hide (put_full (O := SO) (v := n) ⟨hk, hr⟩ (show look l k (SO.start at_) = none from hlk) (by omega))
          go_upto_region 6 with fail
          have hrg := (unhide SL).r0.range
          have hth := (unhide SL).r1.there
          go_step
          refine wpList_load_mid rfl 49 (.tmp 4) rfl H 0 rfl [.slice a l.length c] _ hrg Try.underlying49 rfl (by kernel_rfl) ?_
          refine wpList_store_mid rfl 49 (.tmp 8) (.tmp 40) rfl (H + 1) 0 #[.slice a l.length c] rfl rfl hth (by kernel_rfl) (by simp [Value.oneCell']) ?_
          clear hrg hth
          obtain ⟨wf, hwf, hfr, hbf⟩ := (unhide SL).put (unhide HH) (.slice a l.length c)
          change wpList _ _ _ _ _ (World.setCells _ (H + 1) 0 [.slice a l.length c])
          rw [hwf]
          have HFR := hide hfr
          have HBF := hide hbf
          clear hfr hbf hwf
          go_wp2_with fail
          refine bodyPost_ret (v := .tuple #[.agg #[.slice a l.length c], .int .i64 6]) ?_ rfl ?_
          · exact results_cell_tmp Try.results55 _ wf (H + 1) [.slice a l.length c] _ rfl (unhide HFR).range Try.underlying49 rfl (by kernel_rfl)
          · exact ⟨a, c, by rw [unhide RS]; rfl, by rw [unhide RS]; exact row_below (unhide HRW) (unhide HBF), by rw [unhide RS]; exact fun _ h => .inl h, unhide HBF⟩
        · have RS := hide (put_new (O := SO) (v := n) ⟨hk, hr⟩ (show look l k (SO.start at_) = none from hlk) (by omega))
          go_upto_region 9 with fail
          have RZ := hide (fun j u hu => by
            have := (unhide SC).r2.range (2 + j) u (by rw [← hu, Nat.add_comm 2 j]; rfl)
            rwa [Nat.zero_add] at this : W2.rangeAt (H + 1 + 1) 2 (cellsA zero))
          go_upto_region 10 with (refine wpList_load_on rfl 34 (.tmp 49) rfl (H + 1 + 1) 2 rfl (cellsA zero) _ (unhide RZ) Try.underlying34 rfl (by kernel_rfl) ?_)
          refine (ref_put_any zero n W2 zero_in hn).mono ?_
          rintro e W4 ⟨rfl, hb⟩
          have SW := hide ((unhide SC).below hb)
          clear hb RZ
          obtain ⟨W5, hw5, s5⟩ := (unhide SW).part (unhide HH) (cellsA (put zero n)) rfl
          have H5 := hide hw5
          have S5 := hide s5
          have T5 := hide (there_part (unhide SW).r2)
          clear hw5 s5
          go_upto_region 10 with (refine wpList_store_mid rfl 34 (.tmp 53) (.tmp 52) rfl (H + 1 + 1) 2 (cellsA (put zero n)).toArray rfl rfl (unhide T5) (by kernel_rfl) (by simp [Value.oneCell', cellsA, I]) ?_; change wpList _ _ _ _ _ (World.setCells _ (H + 1 + 1) 2 (cellsA (put zero n))); rw [unhide H5])
          have WT := with_any (row_mono (row_below (unhide HRW) (unhide S5).bel) (Nat.zero_le _)) (Nat.le_trans (unhide HG).most (by omega)) i (unhide HPOS) (⟨k, Sp.startI at_, (put zero n)⟩ : Win AggV) false (fun h => by cases h)
          rw [unhide HINS (put zero n)] at WT
          have HWT := hide WT
          clear WT
          have RG := hide (unhide S5).r0.range
          have RX := hide (unhide S5).r2.range
          go_wp2_with (first | (refine wpList_load_on rfl 49 (.tmp 4) rfl H 0 rfl [.slice a l.length c] _ (unhide RG) Try.underlying49 rfl (by kernel_rfl) ?_) | (refine wpList_load_on rfl 38 (.tmp 10) rfl (H + 1 + 1) 0 rfl (.string ⟨k.toArray⟩ :: .int .i64 (Sp.startI at_) :: cellsA (put zero n)) _ (unhide RX) Try.underlying38 rfl (by kernel_rfl) ?_))
          refine (unhide HWT).mono ?_
          rintro e W6 ⟨a', c', rfl, hrow, hb⟩
          have SD := ((unhide S5).below hb).low
          obtain ⟨wf, hwf, hfr, hbf⟩ := SD.put (unhide HH) (.slice a' (ins (⟨k, Sp.startI at_, (put zero n)⟩ : Win AggV) l).length c')
          have hmv : Moved (fun j => j = H + 1) W6 wf := by rw [← hwf]; exact setCells_moved W6 (H + 1) 0 _
          have HNEW : Hid (∀ j, _ = some j → (Value.slice a l.length c).ownBlock = some j ∨ w.heap.size ≤ j) := hide (fun j hj => .inr (Nat.le_trans (unhide S5).bel.size (row_lt hrow j hj).1))
          have HROW := hide (row_mono (row_moved hrow hmv (fun i hi k hk => by have := (row_lt hrow k hk).1; have := (unhide S5).r1.lt; omega)) (Nat.le_trans (unhide HBB) (unhide S5).bel.size))
          have TH := hide SD.r1.there
          have HFR := hide hfr
          have HBF := hide hbf
          have HWF := hide hwf
          clear hfr hbf hmv hwf hrow hb SD HWT RG RX
          go_wp2_with (first | (refine wpList_store_mid rfl 49 (.tmp 8) (.tmp 58) rfl (H + 1) 0 #[.slice a' (ins (⟨k, Sp.startI at_, (put zero n)⟩ : Win AggV) l).length c'] rfl rfl (unhide TH) (by kernel_rfl) (by simp [Value.oneCell']) ?_; change wpList _ _ _ _ _ (World.setCells _ (H + 1) 0 [.slice a' (ins (⟨k, Sp.startI at_, (put zero n)⟩ : Win AggV) l).length c']); rw [unhide HWF]))
          refine bodyPost_ret (v := .tuple #[.agg #[.slice a' (ins (⟨k, Sp.startI at_, (put zero n)⟩ : Win AggV) l).length c'], .int .i64 0]) ?_ rfl ?_
          · exact results_cell_tmp Try.results55 _ wf (H + 1) [.slice a' (ins (⟨k, Sp.startI at_, (put zero n)⟩ : Win AggV) l).length c'] _ rfl (unhide HFR).range Try.underlying49 rfl (by kernel_rfl)
          · exact ⟨a', c', by rw [unhide RS]; rfl, by rw [unhide RS]; exact unhide HROW, by rw [unhide RS]; exact unhide HNEW, unhide HBF⟩
      | true =>
        obtain ⟨y, hy⟩ : ∃ y, l[i]? = some y := by
          cases h : l[i]? with
          | some y => exact ⟨y, rfl⟩
          | none => have h1 := unhide HLO; have h2 := unhide HOP; rw [h] at h1; rw [h1] at h2; cases h2
        have hlk : look l k (Sp.startI at_) = some y.agg := by have h1 := unhide HLO; rw [hy] at h1; exact h1
        have hil : i < l.length := (List.getElem?_eq_some_iff.1 hy).1
        have HZI := hide ((unhide HIN) y (List.mem_of_getElem? hy))
        have RS := hide (put_open (O := SO) (v := n) ⟨hk, hr⟩ (show look l k (SO.start at_) = some y.agg from hlk))
        obtain ⟨g, rfl⟩ : ∃ g, a = some ⟨g, 0, none⟩ := by
          rcases row_flat (unhide HRW) with h | h
          · exact ⟨_, h⟩
          · rw [h] at hil; cases hil
        have RA : Hid (W2.rangeAt g (i * 10 + 2) (cellsA y.agg)) := hide fun j u hu => by
          have h1 := lies_at outK_law (row_lies (row_below (unhide HRW) (unhide SC).bel)) hy
          have := h1 (2 + j) u (by rw [← hu, Nat.add_comm 2 j]; rfl)
          rw [Nat.zero_add] at this
          rw [show i * 10 + 2 + j = i * 10 + (2 + j) by omega]; exact this
        have g1 : (i : Int) < (l.length : Int) := by omega
        have hi0 : (0 : Int) ≤ (i : Int) := by omega
        clear hlk hy
        generalize y.agg = ya at *
        obtain ⟨W3, hw3, s3⟩ := (unhide SC).part (unhide HH) (cellsA ya) rfl
        have H3 := hide hw3
        have S3' := hide s3
        have T3 := hide (there_part (unhide SC).r2)
        clear hw3 s3
        go_upto_region 8 with fail
        go_upto_region 9 with (first | (refine wpList_load_on rfl 34 (.tmp 46) rfl g (i * 10 + 2) rfl (cellsA ya) _ (unhide RA) Try.underlying34 rfl (by kernel_rfl) ?_) | (refine wpList_store_mid rfl 34 (.tmp 48) (.tmp 47) rfl (H + 1 + 1) 2 (cellsA ya).toArray rfl rfl (unhide T3) (by kernel_rfl) (by simp [Value.oneCell', cellsA, I]) ?_; change wpList _ _ _ _ _ (World.setCells _ (H + 1 + 1) 2 (cellsA ya)); rw [unhide H3]))
        have RZ := hide (fun j u hu => by
          have := (unhide S3').r2.range (2 + j) u (by rw [← hu, Nat.add_comm 2 j]; rfl)
          rwa [Nat.zero_add] at this : W3.rangeAt (H + 1 + 1) 2 (cellsA ya))
        go_upto_region 10 with (refine wpList_load_on rfl 34 (.tmp 49) rfl (H + 1 + 1) 2 rfl (cellsA ya) _ (unhide RZ) Try.underlying34 rfl (by kernel_rfl) ?_)
        refine (ref_put_any ya n W3 (unhide HZI) hn).mono ?_
        rintro e W4 ⟨rfl, hb⟩
        have SW := hide ((unhide S3').below hb)
        clear hb RZ
        obtain ⟨W5, hw5, s5⟩ := (unhide SW).part (unhide HH) (cellsA (put ya n)) rfl
        have H5 := hide hw5
        have S5 := hide s5
        have T5 := hide (there_part (unhide SW).r2)
        clear hw5 s5
        go_upto_region 10 with (refine wpList_store_mid rfl 34 (.tmp 53) (.tmp 52) rfl (H + 1 + 1) 2 (cellsA (put ya n)).toArray rfl rfl (unhide T5) (by kernel_rfl) (by simp [Value.oneCell', cellsA, I]) ?_; change wpList _ _ _ _ _ (World.setCells _ (H + 1 + 1) 2 (cellsA (put ya n))); rw [unhide H5])
        have WT := with_any (row_mono (row_below (unhide HRW) (unhide S5).bel) (Nat.zero_le _)) (Nat.le_trans (unhide HG).most (by omega)) i (unhide HPOS) (⟨k, Sp.startI at_, (put ya n)⟩ : Win AggV) true (fun _ => hil)
        rw [unhide HINS (put ya n)] at WT
        have HWT := hide WT
        clear WT
        have RG := hide (unhide S5).r0.range
        have RX := hide (unhide S5).r2.range
        go_wp2_with (first | (refine wpList_load_on rfl 49 (.tmp 4) rfl H 0 rfl [.slice (some ⟨g, 0, none⟩) l.length c] _ (unhide RG) Try.underlying49 rfl (by kernel_rfl) ?_) | (refine wpList_load_on rfl 38 (.tmp 10) rfl (H + 1 + 1) 0 rfl (.string ⟨k.toArray⟩ :: .int .i64 (Sp.startI at_) :: cellsA (put ya n)) _ (unhide RX) Try.underlying38 rfl (by kernel_rfl) ?_))
        refine (unhide HWT).mono ?_
        rintro e W6 ⟨a', c', rfl, hrow, hb⟩
        have SD := ((unhide S5).below hb).low
        obtain ⟨wf, hwf, hfr, hbf⟩ := SD.put (unhide HH) (.slice a' (ins (⟨k, Sp.startI at_, (put ya n)⟩ : Win AggV) l).length c')
        have hmv : Moved (fun j => j = H + 1) W6 wf := by rw [← hwf]; exact setCells_moved W6 (H + 1) 0 _
        have HNEW : Hid (∀ j, _ = some j → (Value.slice (some ⟨g, 0, none⟩) l.length c).ownBlock = some j ∨ w.heap.size ≤ j) := hide (fun j hj => .inr (Nat.le_trans (unhide S5).bel.size (row_lt hrow j hj).1))
        have HROW := hide (row_mono (row_moved hrow hmv (fun i hi k hk => by have := (row_lt hrow k hk).1; have := (unhide S5).r1.lt; omega)) (Nat.le_trans (unhide HBB) (unhide S5).bel.size))
        have TH := hide SD.r1.there
        have HFR := hide hfr
        have HBF := hide hbf
        have HWF := hide hwf
        clear hfr hbf hmv hwf hrow hb SD HWT RG RX
        go_wp2_with (first | (refine wpList_store_mid rfl 49 (.tmp 8) (.tmp 58) rfl (H + 1) 0 #[.slice a' (ins (⟨k, Sp.startI at_, (put ya n)⟩ : Win AggV) l).length c'] rfl rfl (unhide TH) (by kernel_rfl) (by simp [Value.oneCell']) ?_; change wpList _ _ _ _ _ (World.setCells _ (H + 1) 0 [.slice a' (ins (⟨k, Sp.startI at_, (put ya n)⟩ : Win AggV) l).length c']); rw [unhide HWF]))
        refine bodyPost_ret (v := .tuple #[.agg #[.slice a' (ins (⟨k, Sp.startI at_, (put ya n)⟩ : Win AggV) l).length c'], .int .i64 0]) ?_ rfl ?_
        · exact results_cell_tmp Try.results55 _ wf (H + 1) [.slice a' (ins (⟨k, Sp.startI at_, (put ya n)⟩ : Win AggV) l).length c'] _ rfl (unhide HFR).range Try.underlying49 rfl (by kernel_rfl)
        · exact ⟨a', c', by rw [unhide RS]; rfl, by rw [unhide RS]; exact unhide HROW, by rw [unhide RS]; exact unhide HNEW, unhide HBF⟩
end Go.Proofs.Ytmgmkdkdpeljmaa

namespace Go.Proofs.Ytmgmkdkdpeljmaa
open Go.RowKit
variable {β : Type} {K : RowK β} {P : Program}
theorem append_block (hK : K.Law P) {w : World} {base : Nat} {a : Option Addr} {c : Nat} {l : List β} (h : K.Row w base a c l) (x : Addr) (cb : Nat) (m : List β) (hm : K.Lies w (some x) m) (hb : l.length + m.length ≤ 1000000000000) (ty : TypeId) {v' : Value} {w' : World}
    (hr : (Builtin.append_ #[K.t, K.t] ty #[.slice a l.length c, .slice (some x) m.length cb]).run P w = .ok v' w') : v'.ownBlock = (Value.slice a l.length c).ownBlock ∨ v'.ownBlock = some w.heap.size := by
  obtain ⟨i0, hi, hz0, hz1, hz2⟩ := hK.info
  have h1 : K.by_ * (l.length + m.length) ≤ 128 * 1000000000000 := Nat.mul_le_mul hK.small hb
  have hcl : (K.cells m).length = m.length * i0.size := by rw [hz1]; exact cells_length hK m
  have hbb : (l.length + m.length) * i0.bytes ≤ 140737488355328 := by rw [hz2, Nat.mul_comm]; omega
  rcases h.2 with ⟨hv, h0⟩ | ⟨g, cap, cur, hv, hbg, hg, hnc, hcm, hcs, htake⟩
  · have hl : l = [] := List.length_eq_zero_iff.1 h0
    subst hl
    simp only [Value.slice.injEq] at hv
    obtain ⟨rfl, _, rfl⟩ := hv
    by_cases hm0 : m.length = 0
    · have hml : m = [] := List.length_eq_zero_iff.1 hm0
      subst hml
      have hs' : Src P i0.size K.t (.slice (some x) ([] : List β).length cb) 0 [] w := Src.ofSlice w hK.und x 0 cb [] (by simp) (fun j u hu => by simp at hu) (fun u hu => by cases hu)
      have e := run_append_nothing (P := P) w K.t K.t ty K.e i0 hK.und hi none 0 0 (Nat.le_refl _) _ hs'
      rw [show ([] : List β).length = 0 from rfl] at hr e
      rw [e] at hr
      cases hr
      exact .inl rfl
    · have e := run_append_nil (P := P) w K.t ty K.e i0 K.z hK.und hi hz0 x m.length cb (K.cells m) hcl (hm.2 x rfl) (by omega) (by omega) (by simp at hbb; omega)
      rw [show ([] : List β).length = 0 from rfl] at hr
      rw [e] at hr
      cases hr
      exact .inr rfl
  · simp only [Value.slice.injEq] at hv
    obtain ⟨rfl, _, rfl⟩ := hv
    by_cases hroom : l.length + m.length ≤ c
    · have e := run_append_room (P := P) w K.t ty K.e i0 hK.und hi g l.length c cur hg x m.length cb (K.cells m) hcl (hm.2 x rfl) (cells_one hK m) hroom (by rw [hcl, hz1, hcs, ← Nat.add_mul]; exact Nat.mul_le_mul_right _ hroom)
      rw [e] at hr
      cases hr
      exact .inl rfl
    · have hlc : (K.cells l).length = l.length * i0.size := by rw [hz1]; exact cells_length hK l
      have holds : ∀ j u, (K.cells l)[j]? = some u → w.cell? ((⟨g, 0, none⟩ : Addr).add j) = some u := h.cells (g := g) rfl
      have e := run_append_grow (P := P) w K.t ty K.e i0 K.z hK.und hi hz0 ⟨g, 0, none⟩ l.length c (K.cells l) hlc holds x m.length cb (K.cells m) hcl (hm.2 x rfl) (by omega) (by omega) (growslice_fits (by omega) hbb)
      rw [e] at hr
      cases hr
      exact .inr rfl
/-- What an append comes to, and in which block the row lies then. -/
theorem grow_at (hK : K.Law P) {w : World} {base : Nat} {a : Option Addr} {c : Nat} {l : List β} (h : K.Row w base a c l) (x : Addr) (cb : Nat) (m : List β) (hm : K.Lies w (some x) m) (hb : l.length + m.length ≤ 1000000000000) (hbase : base ≤ w.heap.size) :
    ∀ ty, ∃ a' c' w', (Builtin.append_ #[K.t, K.t] ty #[.slice a l.length c, .slice (some x) m.length cb]).run P w = .ok (.slice a' (l ++ m).length c') w' ∧
      K.Row w' base a' c' (l ++ m) ∧ w.grownBy w' (Value.slice a l.length c).ownBlock ∧
      ((Value.slice a' (l ++ m).length c').ownBlock = (Value.slice a l.length c).ownBlock ∨ (Value.slice a' (l ++ m).length c').ownBlock = some w.heap.size) := fun ty => by
  obtain ⟨a', c', w', h1, h2, h3⟩ := grow_app hK h (some x) cb m hm hb hbase ty
  exact ⟨a', c', w', h1, h2, h3, append_block hK h x cb m hm hb ty h1⟩
end Go.Proofs.Ytmgmkdkdpeljmaa

namespace Go.Proofs.Ytmgmkdkdpeljmaa
open Go.RowKit
/-- What is left behind the first j of a row. -/
def restT (m : Int) (l : List (Win AggV)) (j : Nat) : List (Win AggV) := (l.take j).filter (fun a => !Sp.overI a.start m)
theorem restT_end (m : Int) (l : List (Win AggV)) : restT m l l.length = (takeS SO l m).1 := by simp [restT, takeS, SO]
theorem restT_len (m : Int) (l : List (Win AggV)) (j : Nat) : (restT m l j).length ≤ l.length := by
  unfold restT
  have h1 := List.length_filter_le (fun a : Win AggV => !Sp.overI a.start m) (l.take j)
  have h2 : (l.take j).length ≤ l.length := by rw [List.length_take]; omega
  omega
theorem restT_no {m : Int} {l : List (Win AggV)} {j : Nat} {x : Win AggV} (hx : l[j]? = some x) (h : Sp.overI x.start m = false) : restT m l (j + 1) = restT m l j ++ [x] := by
  obtain ⟨hj, rfl⟩ := List.getElem?_eq_some_iff.1 hx
  unfold restT
  rw [List.take_succ_eq_append_getElem hj, List.filter_append]
  simp [h]
theorem restT_yes {m : Int} {l : List (Win AggV)} {j : Nat} {x : Win AggV} (hx : l[j]? = some x) (h : Sp.overI x.start m = true) : restT m l (j + 1) = restT m l j := by
  obtain ⟨hj, rfl⟩ := List.getElem?_eq_some_iff.1 hx
  unfold restT
  rw [List.take_succ_eq_append_getElem hj, List.filter_append]
  simp [h]
/-- What Take's variables hold: the store, the answer's room, the rest; the rows of both, of unlike blocks. -/
structure TkS (w : World) (H : Nat) (s : Value) (ao : Option Addr) (co : Nat) (ov : List (Win AggV)) (ar : Option Addr) (cr : Nat) (re : List (Win AggV)) (v : World) : Prop where
  r0 : RowAt v H [s]
  r1 : RowAt v (H + 1) [.slice none 0 0]
  r2 : RowAt v (H + 2) [.slice ar re.length cr]
  rov : OutK.Row v (H + 3) ao co ov
  rre : OutK.Row v (H + 3) ar cr re
  ap : ∀ k, (Value.slice ao ov.length co).ownBlock = some k → (Value.slice ar re.length cr).ownBlock = some k → False
  bel : Below w.heap.size w v
theorem TkS.over {w v : World} {H : Nat} {s : Value} {ao ar : Option Addr} {co cr : Nat} {ov re : List (Win AggV)} (h : TkS w H s ao co ov ar cr re v) (hH : H = w.heap.size) (hl : ov.length ≤ 1000) (x : Win AggV) :
    ∃ a' c' v', (Builtin.append_ #[28, 28] 28 #[.slice ao ov.length co, .slice (some ⟨v.heap.size, 0, none⟩) 1 1]).run Try.prog (v.alloc (.cells (outV x).toArray 38)) = .ok (.slice a' (ov ++ [x]).length c') v' ∧ TkS w H s a' c' (ov ++ [x]) ar cr re v' := by
  have hsz : H + 3 ≤ v.heap.size := h.r2.lt
  have rV := h.rov.alloc (.cells (outV x).toArray 38)
  have rR := h.rre.alloc (.cells (outV x).toArray 38)
  obtain ⟨a', c', v', h1, h2, h3, h4⟩ := grow_at outK_law rV ⟨v.heap.size, 0, none⟩ 1 [x] (lies_new v x) (by simp; omega) (by simp; omega) 28
  have mm : Moved (fun i => (Value.slice ao ov.length co).ownBlock = some i) (v.alloc (.cells (outV x).toArray 38)) v' := (Moved.refl _ _).grown h3 (fun k e => .inl e)
  have hlow : ∀ i, (Value.slice ao ov.length co).ownBlock = some i → H + 3 ≤ i := fun i e => (row_lt h.rov i e).1
  refine ⟨a', c', v', h1, (row_old h.r0 _).keep mm (fun e => by have := hlow _ e; omega), (row_old h.r1 _).keep mm (fun e => by have := hlow _ e; omega), (row_old h.r2 _).keep mm (fun e => by have := hlow _ e; omega), h2, row_moved rR mm (fun i hi k hk e => h.ap k (e ▸ hi) hk), fun k e1 e2 => ?_, ?_⟩
  · rcases h4 with h4 | h4
    · exact h.ap k (h4 ▸ e1) e2
    · rw [h4] at e1
      cases e1
      exact absurd (row_lt h.rre _ e2).2 (by simp)
  · exact (((Moved.of_below (F := fun i => H + 3 ≤ i) h.bel).alloc _).trans mm (fun i hi => .inl (hlow i hi))).below (fun i hi => by omega) (Nat.le_refl _)
theorem TkS.rest {w v : World} {H : Nat} {s : Value} {ao ar : Option Addr} {co cr : Nat} {ov re : List (Win AggV)} (h : TkS w H s ao co ov ar cr re v) (hH : H = w.heap.size) (hl : re.length ≤ 1000) (x : Win AggV) :
    ∃ a' c' v', (Builtin.append_ #[28, 28] 28 #[.slice ar re.length cr, .slice (some ⟨v.heap.size, 0, none⟩) 1 1]).run Try.prog (v.drew.alloc (.cells (outV x).toArray 38)) = .ok (.slice a' (re ++ [x]).length c') v' ∧ Moved (fun i => H + 3 ≤ i) v v' ∧ TkS w H s ao co ov a' c' (re ++ [x]) (v'.setCell ⟨H + 2, 0, none⟩ (.slice a' (re ++ [x]).length c')) := by
  have hsz : H + 3 ≤ v.heap.size := h.r2.lt
  have hO : OutK.Row v.drew (H + 3) ao co ov := h.rov
  have hE : OutK.Row v.drew (H + 3) ar cr re := h.rre
  have rV := hE.alloc (.cells (outV x).toArray 38)
  have rR := hO.alloc (.cells (outV x).toArray 38)
  obtain ⟨a', c', v', h1, h2, h3, h4⟩ := grow_at outK_law rV ⟨v.heap.size, 0, none⟩ 1 [x] (lies_new v.drew x) (by simp; omega) (by show H + 3 ≤ (v.drew.alloc _).heap.size; simp; omega) 28
  have mm : Moved (fun i => (Value.slice ar re.length cr).ownBlock = some i) (v.drew.alloc (.cells (outV x).toArray 38)) v' := (Moved.refl _ _).grown h3 (fun k e => .inl e)
  have hlow : ∀ i, (Value.slice ar re.length cr).ownBlock = some i → H + 3 ≤ i := fun i e => (row_lt h.rre i e).1
  have m1 : Moved (fun i => H + 3 ≤ i) v v' := (((Moved.refl (fun i => H + 3 ≤ i) v).drew).alloc _).trans mm (fun i hi => .inl (hlow i hi))
  have m2 := moved_set v' (H + 2) 0 (.slice a' (re ++ [x]).length c')
  have row2 := (h.r2.keep m1 (by omega)).set 0 (Nat.succ_pos _) (.slice a' (re ++ [x]).length c')
  have rO := row_moved rR mm (fun i hi k hk e => h.ap k hk (e ▸ hi))
  refine ⟨a', c', v', h1, m1, (h.r0.keep m1 (by omega)).keep m2 (by omega), (h.r1.keep m1 (by omega)).keep m2 (by omega), row2, row_moved rO m2 (fun i hi k hk => by have := (row_lt rO k hk).1; omega), row_moved h2 m2 (fun i hi k hk => by have := (row_lt h2 k hk).1; omega), fun k e1 e2 => ?_, ?_⟩
  · rcases h4 with h4 | h4
    · exact h.ap k e1 (h4 ▸ e2)
    · rw [h4] at e2
      cases e2
      exact absurd (row_lt h.rov _ e1).2 (by simp)
  · exact (((Moved.of_below (F := fun i => H + 2 ≤ i) h.bel).trans m1 (fun i hi => .inl (by omega))).trans m2 (fun i hi => .inl (by omega))).below (fun i hi => by omega) (Nat.le_refl _)
set_option maxRecDepth 100000 in
set_option maxHeartbeats 4000000 in
theorem rtake_any {w : World} {a : Option Addr} {c : Nat} {l : List (Win AggV)} {B : Nat} (hR : OutK.Row w B a c l) (hl : l.length ≤ 1000) (m : Int) :
    Calls Try.prog 56 #[.agg #[.slice a l.length c], .int .i64 m] w fun e w' => ∃ a1 c1 a2 c2, e = .returned (.tuple #[.agg #[.slice a1 (takeS SO l m).1.length c1], .slice a2 (takeS SO l m).2.length c2]) ∧ OutK.Row w' w.heap.size a1 c1 (takeS SO l m).1 ∧ OutK.Row w' w.heap.size a2 c2 (takeS SO l m).2 ∧ Below w.heap.size w w' := by
  obtain ⟨W, hW⟩ : ∃ W, W = ((w.alloc (.cells #[.slice a l.length c] 49)).alloc (.cells #[.slice none 0 0] 49)).alloc (.cells #[.slice none 0 0] 49) := ⟨_, rfl⟩
  obtain ⟨H, hH⟩ : ∃ H, H = w.heap.size := ⟨_, rfl⟩
  have T0 : RowAt W H [.slice a l.length c] := by rw [hW, hH]; exact row_old (row_old (row_new _ _ _) _) _
  have T1 : RowAt W (H + 1) [.slice none 0 0] := by rw [hW, hH]; exact row_old (row_new2 _ _ _ _ _) _
  have T2 : RowAt W (H + 2) [.slice none 0 0] := by
    rw [hW, hH]
    have := row_new ((w.alloc (.cells #[.slice a l.length c] 49)).alloc (.cells #[.slice none 0 0] 49)) [.slice none 0 0] 49
    rw [show ((w.alloc (.cells #[.slice a l.length c] 49)).alloc (.cells #[.slice none 0 0] 49)).heap.size = w.heap.size + 2 by simp] at this
    exact this
  have bW : Below w.heap.size w W := by rw [hW]; exact (((Below.refl _ _).alloc (Nat.le_refl _) _).alloc (by simp) _).alloc (by simp; omega) _
  have START := hide (⟨T0, T1, T2, row_none _ _, row_none _ _, fun k e => (by cases e), bW⟩ : TkS w H (.slice a l.length c) none 0 (overT m l 0) none 0 (restT m l 0) W)
  have HW := hide hW
  have HH := hide hH
  have HR := hide hR
  clear T0 T1 T2 bW hW hH hR
  go_enter Try.func56, Try.ntmps56
  go_upto_region 2 with fail
  rw [← unhide HH]
  try change Code.wp _ _ _ _ (((w.alloc (.cells #[.slice a l.length c] 49)).alloc (.cells #[.slice none 0 0] 49)).alloc (.cells #[.slice none 0 0] 49))
  rw [← unhide HW]
  go_wp2_with fail
  go_loopw [7, 8] (fun ov i wr => ∃ (j : Nat) (ao : Option Addr) (co : Nat) (ar : Option Addr) (cr : Nat), i = .int .i64 (j : Int) ∧ j ≤ l.length ∧ ov = .slice ao (overT m l j).length co ∧ TkS w H (.slice a l.length c) ao co (overT m l j) ar cr (restT m l j) wr) (fun _ i _ => l.length - (intOf i).toNat)
  case atStart => exact ⟨0, none, 0, none, 0, rfl, Nat.zero_le _, rfl, unhide START⟩
  case round =>
    obtain ⟨j, ao, co, ar, cr, rfl, hj, rfl, hs⟩ := hrel
    have HS := hide hs
    clear hs START
    by_cases h1 : j < l.length
    · have g1 : (j : Int) < (l.length : Int) := by omega
      have hj0 : (0 : Int) ≤ (j : Int) := by omega
      have hwj : IntKind.i64.wrap ((j : Int) + 1) = (j : Int) + 1 := Go.IntWalk.i64_in _ (by omega)
      obtain ⟨x, hx⟩ : ∃ x, l[j]? = some x := ⟨_, List.getElem?_eq_getElem h1⟩
      obtain ⟨g, rfl⟩ : ∃ g, a = some ⟨g, 0, none⟩ := by
        rcases row_flat (unhide HR) with h | h
        · exact ⟨_, h⟩
        · rw [h] at h1; simp at h1
      have hgw : g < w.heap.size := (row_lt (unhide HR) g rfl).2
      have LIE : Hid (∀ u, Below w.heap.size w u → u.rangeAt g (j * 10) (outV x)) := hide fun u hu => by
        have := lies_at outK_law (row_lies (row_below (unhide HR) hu)) hx
        rw [Nat.zero_add] at this; exact this
      have HX := hide hx
      have HGW := hide hgw
      have HOV := hide (fun v => Sp.rover_any x.start m v)
      clear hx hgw
      obtain ⟨xk, xs, ⟨g0, g1', g2, g3, g4, g5, g6, g7⟩⟩ := x
      have RX : Hid (wr.rangeAt g (j * 10) [.string ⟨xk.toArray⟩, .int .i64 xs, .int .i64 g0, .int .i64 g1', .int .i64 g2, .int .i64 g3, .int .i64 g4, .int .i64 g5, .int .i64 g6, .int .i64 g7]) := hide (unhide LIE wr (unhide HS).bel)
      have c1 : wr.cell? ⟨g, j * 10 + 1, none⟩ = some (.int .i64 xs) := unhide RX 1 _ rfl
      have c0 : wr.cell? ⟨H, 0, none⟩ = some (.slice (some ⟨g, 0, none⟩) l.length c) := (unhide HS).r0.cell 0 (Nat.succ_pos _)
      dsimp only at HOV
      go_upto_region 7 with fail
      refine (unhide HOV _).mono ?_
      rintro e v' ⟨rfl, hw⟩
      rw [hw]
      clear hw v' HOV
      by_cases ho : Sp.overI xs m = true
      · rw [ho]
        have e1 := overT_yes (unhide HX) ho
        have HE2 := hide (restT_yes (unhide HX) ho)
        obtain ⟨a', c', v', hap, hn⟩ := (unhide HS).over (unhide HH) (Nat.le_trans (overT_len m l j) hl) (⟨xk, xs, ⟨g0, g1', g2, g3, g4, g5, g6, g7⟩⟩ : Win AggV)
        rw [← e1] at hap hn
        rw [← unhide HE2] at hn
        have HAP : Hid ((Builtin.append_ #[28, 28] 28 #[.slice ao (overT m l j).length co, .slice (some ⟨wr.heap.size, 0, none⟩) 1 1]).run Try.prog (wr.alloc (.cells #[.string ⟨xk.toArray⟩, .int .i64 xs, .int .i64 g0, .int .i64 g1', .int .i64 g2, .int .i64 g3, .int .i64 g4, .int .i64 g5, .int .i64 g6, .int .i64 g7] 38)) = .ok (.slice a' (overT m l (j + 1)).length c') v') := hide hap
        have HN := hide hn
        clear hap hn e1 HE2 c1
        go_wp2_with (first | (refine wpList_load_on rfl 38 (.tmp 28) rfl g (j * 10) rfl [.string ⟨xk.toArray⟩, .int .i64 xs, .int .i64 g0, .int .i64 g1', .int .i64 g2, .int .i64 g3, .int .i64 g4, .int .i64 g5, .int .i64 g6, .int .i64 g7] _ (unhide RX) Try.underlying38 rfl (by kernel_rfl) ?_) | (at_builtin; refine wpList_app rfl _ _ 28 28 28 rfl rfl rfl rfl (unhide HAP) ?_))
        exact ⟨⟨j + 1, a', c', ar, cr, rfl, by omega, rfl, unhide HN⟩, by simp [intOf]; omega⟩
      · replace ho := Bool.eq_false_iff.2 ho
        rw [ho]
        have e1 := restT_no (unhide HX) ho
        have HE2 := hide (overT_no (unhide HX) ho)
        obtain ⟨a', c', v', hap, hmv, hn⟩ := (unhide HS).rest (unhide HH) (Nat.le_trans (restT_len m l j) hl) (⟨xk, xs, ⟨g0, g1', g2, g3, g4, g5, g6, g7⟩⟩ : Win AggV)
        rw [← e1] at hap hn
        obtain ⟨n', hn'⟩ : ∃ n', n' = (restT m l (j + 1)).length := ⟨_, rfl⟩
        rw [← hn'] at hap hn
        have HAP : (Builtin.append_ #[28, 28] 28 #[.slice ar (restT m l j).length cr, .slice (some ⟨wr.heap.size, 0, none⟩) 1 1]).run Try.prog (wr.drew.alloc (.cells #[.string ⟨xk.toArray⟩, .int .i64 xs, .int .i64 g0, .int .i64 g1', .int .i64 g2, .int .i64 g3, .int .i64 g4, .int .i64 g5, .int .i64 g6, .int .i64 g7] 38)) = .ok (.slice a' n' c') v' := hap
        have HN : Hid (TkS w H (.slice (some ⟨g, 0, none⟩) l.length c) ao co (overT m l (j + 1)) a' c' (restT m l (j + 1)) (v'.setCell ⟨H + 1 + 1, 0, none⟩ (.slice a' n' c')) ∧ (overT m l (j + 1)).length = (overT m l j).length) := hide ⟨by rw [unhide HE2]; exact hn, by rw [unhide HE2]⟩
        obtain ⟨CL, hCL⟩ : ∃ CL : World → Prop, CL = fun v => Moved (fun i => H + 3 ≤ i) wr v := ⟨_, rfl⟩
        have un : ∀ v, CL v → Moved (fun i => H + 3 ≤ i) wr v := fun v k => by rw [hCL] at k; exact k
        have base : CL wr.drew := by rw [hCL]; exact (Moved.refl _ _).drew
        have CL0 : CL (wr.drew.alloc (.cells #[.string ⟨xk.toArray⟩, .int .i64 xs, .int .i64 g0, .int .i64 g1', .int .i64 g2, .int .i64 g3, .int .i64 g4, .int .i64 g5, .int .i64 g6, .int .i64 g7] 38)) := by rw [hCL]; exact (Moved.refl _ _).drew.alloc _
        have CL1 : CL v' := by rw [hCL]; exact hmv
        have hgH : g < H := by rw [unhide HH]; exact unhide HGW
        have q0 : ∀ q : SW CL, q.w.cell? ⟨H, 0, none⟩ = some (.slice (some ⟨g, 0, none⟩) l.length c) := fun q => ((unhide HS).r0.keep (un _ q.ok) (by omega)).cell 0 (Nat.succ_pos _)
        have q2 : ∀ q : SW CL, q.w.cell? ⟨H + 1 + 1, 0, none⟩ = some (.slice ar (restT m l j).length cr) := fun q => ((unhide HS).r2.keep (un _ q.ok) (by omega)).cell 0 (Nat.succ_pos _)
        have RQ : Hid (∀ q : SW CL, q.w.rangeAt g (j * 10) [.string ⟨xk.toArray⟩, .int .i64 xs, .int .i64 g0, .int .i64 g1', .int .i64 g2, .int .i64 g3, .int .i64 g4, .int .i64 g5, .int .i64 g6, .int .i64 g7]) := hide fun q k u hu => ((un _ q.ok).cell (p := ⟨g, j * 10 + k, none⟩) (World.block_lt_of_cell? _ _ (unhide RX k u hu)) (by show ¬ H + 3 ≤ g; omega)).trans (unhide RX k u hu)
        have wsn := (unhide HS).r2.keep (un _ CL1) (by omega)
        have f1 : v'.frozen? ⟨H + 1 + 1, 0, none⟩ = false := wsn.free 0 (Nat.succ_pos _)
        have k1 : v'.cell? ⟨H + 1 + 1, 0, none⟩ = some (.slice ar (restT m l j).length cr) := wsn.cell 0 (Nat.succ_pos _)
        clear hap hn hn' e1 HE2 c1 c0 hCL un hmv wsn hgH
        go_upto_region 8 with fail
        refine wp_region_chain (S := CL) [true, true, true, true, true, true, true, false, false, false, false] [false, false, false, false, false, false, false, true, true, true, true] (by kernel_rfl) (by kernel_rfl) (by kernel_rfl) base ?_
        apply Exists.intro
        apply And.intro
        · intro q
          have n0 : Nonempty (SK CL q.w) := ⟨⟨q, rfl⟩⟩
          simp only [pickM]
          repeat (go_big_quiet_step (fail))
          refine wpQuiet_load_onx rfl 38 (.tmp 37) rfl g (j * 10) rfl [.string ⟨xk.toArray⟩, .int .i64 xs, .int .i64 g0, .int .i64 g1', .int .i64 g2, .int .i64 g3, .int .i64 g4, .int .i64 g5, .int .i64 g6, .int .i64 g7] _ (by rintro u ⟨q1, rfl⟩; exact unhide RQ q1.s) Try.underlying38 rfl (by kernel_rfl) ?_
          go_simp
          exact wpQuiet_nil rfl
        · simp only [pickZ]
          refine chain_step (.slice (some ⟨wr.heap.size, 0, none⟩) 1 1) (wr.drew.alloc (.cells #[.string ⟨xk.toArray⟩, .int .i64 xs, .int .i64 g0, .int .i64 g1', .int .i64 g2, .int .i64 g3, .int .i64 g4, .int .i64 g5, .int .i64 g6, .int .i64 g7] 38)) rfl (by simp [go_sem]) CL0 ?_
          go_simp
          refine chain_step (.slice a' n' c') v' rfl (exec_append (.tmp 33) (.tmp 39) 28 28 28 rfl rfl rfl rfl HAP) CL1 ?_
          go_simp
          refine chain_step (.pointer (some ⟨H + 1 + 1, 0, none⟩)) v' rfl (by simp [go_sem]) CL1 ?_
          go_simp
          refine chain_last (v'.setCell ⟨H + 1 + 1, 0, none⟩ (.slice a' n' c')) (by kernel_rfl) rfl (by simp [go_sem, f1, k1, Result.andThen]) ?_
          clear q0 q2 f1 k1 CL0 CL1 base HAP
          go_simp
          go_wp2_with fail
          exact ⟨⟨j + 1, ao, co, a', c', rfl, by omega, by rw [(unhide HN).2], (unhide HN).1⟩, by simp [intOf]; omega⟩
    · have g1 : ¬ (j : Int) < (l.length : Int) := by omega
      have hje : j = l.length := by omega
      have E1 := hide (overT_end m l)
      have E2 := hide (restT_end m l)
      subst hje
      rw [unhide E1, unhide E2] at HS
      have HLE : Hid ((overT m l l.length).length = (takeS SO l m).2.length) := hide (by rw [unhide E1])
      clear E1 E2
      generalize (overT m l l.length).length = no at HLE ⊢
      obtain ⟨wf, hwf, hro, hmo⟩ : ∃ wf, wr.setCells (H + 1) 0 [.slice ar (takeS SO l m).1.length cr] = wf ∧ RowAt wf (H + 1) [.slice ar (takeS SO l m).1.length cr] ∧ Moved (fun i => i = H + 1) wr wf := ⟨_, rfl, (unhide HS).r1.put _ rfl, setCells_moved _ _ _ _⟩
      have HWF := hide hwf
      have HRO := hide hro.range
      have HMO := hide hmo
      have c0 : wr.cell? ⟨H, 0, none⟩ = some (.slice a l.length c) := (unhide HS).r0.cell 0 (Nat.succ_pos _)
      have RG := hide (unhide HS).r2.range
      have TH := hide (unhide HS).r1.there
      clear hwf hro hmo
      go_wp2_with (first | (refine wpList_load_on rfl 49 (.tmp 6) rfl (H + 1 + 1) 0 rfl [.slice ar (takeS SO l m).1.length cr] _ (unhide RG) Try.underlying49 rfl (by kernel_rfl) ?_) | (refine wpList_store_mid rfl 49 (.tmp 4) (.tmp 42) rfl (H + 1) 0 #[.slice ar (takeS SO l m).1.length cr] rfl rfl (unhide TH) (by kernel_rfl) (by simp [Value.oneCell']) ?_; change wpList _ _ _ _ _ (World.setCells _ (H + 1) 0 [.slice ar (takeS SO l m).1.length cr]); rw [unhide HWF]))
      refine bodyPost_ret (v := .tuple #[.agg #[.slice ar (takeS SO l m).1.length cr], .slice ao no co]) ?_ rfl ?_
      · exact results_cell_tmp Try.results56 _ wf (H + 1) [.slice ar (takeS SO l m).1.length cr] _ rfl (unhide HRO) Try.underlying49 rfl (by kernel_rfl)
      · have hH := unhide HH
        exact ⟨ar, cr, ao, co, by rw [unhide HLE], row_mono (row_moved (unhide HS).rre (unhide HMO) (fun i hi k hk => by have := (row_lt (unhide HS).rre k hk).1; omega)) (by omega), row_mono (row_moved (unhide HS).rov (unhide HMO) (fun i hi k hk => by have := (row_lt (unhide HS).rov k hk).1; omega)) (by omega), ((Moved.of_below (F := fun i => i = H + 1) (unhide HS).bel).trans (unhide HMO) (fun i hi => .inl hi)).below (fun i hi => by omega) (Nat.le_refl _)⟩
end Go.Proofs.Ytmgmkdkdpeljmaa

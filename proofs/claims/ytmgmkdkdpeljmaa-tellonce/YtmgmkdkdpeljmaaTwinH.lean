/- Two stores side by side: a twin, a store set anew window by window, a row that is written over. No conditions. -/
import Derived.Test.YtmgmkdkdpeljmaaPlays
import Derived.Test.YtmgmkdkdpeljmaaSameW
import Derived.Test.YtmgmkdkdpeljmaaLaw
namespace Go.Proofs.Ytmgmkdkdpeljmaa
open Go.RowKit
theorem Here.all2 {w0 v : World} {p : Nat} {l : List (Win AggV)} {R : List Held} (h : Here w0 v p l R) (hl : l.length ≤ 1000) :
    Calls Try.prog 14 #[.pointer (some ⟨p, 0, none⟩)] v fun e v' => ∃ a c, e = .returned (.slice a l.length c) ∧ Here w0 v' p l ((a, c, l) :: R) ∧ Below v.heap.size v v' := by
  obtain ⟨F, h⟩ := h
  exact (all_any h.st hl).mono fun e v' ⟨a, c, h1, h2, h3⟩ => ⟨a, c, h1, ⟨F, h.take (h.below h3).st (fun _ f => f) (Moved.of_below h3) h2⟩, h3⟩
theorem Here.twin {w0 v : World} {p : Nat} {l : List (Win AggV)} {R : List Held} (h : Here w0 v p l R) :
    Calls Try.prog 13 #[.pointer (some ⟨p, 0, none⟩)] v fun e v' => ∃ q, e = .returned (.pointer (some ⟨q, 0, none⟩)) ∧ Here v v' q l [] ∧ Below v.heap.size v v' := by
  obtain ⟨F, h⟩ := h
  exact (twin_any h.st).mono fun e v' ⟨q, F', h1, h2, h3, h4⟩ => ⟨q, h1, ⟨F', h2, h3, h4, fun r hr => by cases hr⟩, h4⟩
theorem same_self {w : World} {a b : Option Addr} {c d : Nat} {l : List (Win AggV)} (hl : Lay w a l) (hm : Lay w b l) :
    Calls Try.prog 18 #[.slice a l.length c, .slice b l.length d] w fun e w' => e = .returned (.bool true) ∧ Below w.heap.size w w' :=
  (same_any hl hm).mono fun e w' ⟨h1, h2⟩ => ⟨by rw [h1, show decide (l = l) = true from decide_eq_true rfl], h2.below (fun _ f => f.elim) (Nat.le_refl _)⟩
theorem good_drop {l : List (Win AggV)} (h : Good SO l) (n : Nat) : Good SO (l.drop n) :=
  ⟨h.rise.sublist (List.drop_sublist n l), Nat.le_trans (by rw [List.length_drop]; omega) h.most, fun a ha => h.all a (List.mem_of_mem_drop ha)⟩
theorem good_plays {w : World} {a : Option Addr} {len cap : Nat} {z : List ActZ} (h : IsActs w a len cap z) : Good SO (playS SO [] z) := play_good so_law good_nil (fun p hp => (h.ok p hp).n)
theorem Here.setNext {w0 v : World} {p : Nat} {l : List (Win AggV)} {j : Nat} {x : Win AggV} (hx : l[j]? = some x) (hg : Good SO l) (hm : Mild l) (hf : Fine l) (h : Here w0 v p (l.drop (j + 1)) []) :
    Calls Try.prog 37 #[.pointer (some ⟨p, 0, none⟩), .agg (outV x).toArray] v fun e v' => e = .returned (.int .i64 0) ∧ Here w0 v' p (l.drop j) [] := by
  obtain ⟨hj, rfl⟩ := List.getElem?_eq_some_iff.1 hx
  have hmem : l[j] ∈ l := List.getElem_mem hj
  have := h.set (good_drop hg (j + 1)).most l[j] (hm.ins_ _ hmem) (hf.oks _ hmem)
  rw [set_next (by rw [← List.drop_eq_getElem_cons hj]; exact good_drop hg j), ← List.drop_eq_getElem_cons hj] at this
  exact this
theorem row_at {w : World} {B g c : Nat} {l : List (Win AggV)} (h : OutK.Row w B (some ⟨g, 0, none⟩) c l) : RowAt w g (OutK.cells l) := by
  refine ⟨(row_lt h g rfl).2, fun i hi => ?_, fun i _ => ?_⟩
  · have := (row_lies h).2 _ rfl i _ (List.getElem?_eq_getElem hi)
    rw [Addr.add_mid, Nat.zero_add] at this
    rw [this, List.getD_eq_getElem?_getD, List.getElem?_eq_getElem hi]; rfl
  · rcases h.2 with ⟨hv, _⟩ | ⟨g', cap, cur, hv, _, hg, _⟩
    · simp at hv
    · simp only [Value.slice.injEq, Option.some.injEq, Addr.mk.injEq] at hv
      obtain ⟨⟨rfl, _⟩, _⟩ := hv
      simp [World.frozen?, hg]
end Go.Proofs.Ytmgmkdkdpeljmaa

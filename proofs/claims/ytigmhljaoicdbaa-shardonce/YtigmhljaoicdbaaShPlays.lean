/- The statements' plays: items done to a state one behind the other, and what was told. Conditions: there are at most 1000 items; a state has at most 32 windows. -/
import Derived.Test.YtigmhljaoicdbaaGShIns
namespace Go.Proofs.Ytigmhljaoicdbaa
open Go.RowKit
theorem outs_len {S : StV} (hS : GoodS S) (x : ItemV) : (outsS S x).length ≤ 32 := by
  unfold outsS
  split
  · unfold doL
    split
    · exact Nat.zero_le _
    · split
      · exact (mild_markL hS.mild _).2
      · exact Nat.zero_le _
  · exact Nat.zero_le _
theorem told_len {S : StV} (hS : GoodS S) : ∀ {l : List ItemV}, (∀ x ∈ l, i64 x.n) → (toldS S l).length ≤ 32 * l.length
  | [], _ => Nat.zero_le _
  | x :: l, h => by
    have h1 := outs_len hS x
    have h2 := told_len (goodS_app hS (h x List.mem_cons_self)) (l := l) fun y hy => h y (List.mem_cons_of_mem _ hy)
    show (outsS S x ++ toldS (appS S x) l).length ≤ _
    rw [List.length_append, List.length_cons]
    omega
/-- The last row is appended to the one behind it. -/
theorem HR.cat {w0 v : World} {R : List Sn.Held} {a b : Option Addr} {c cb : Nat} {x y : List (Win AggV)} (h : Sn.HR w0 v (hOuts b cb y :: hOuts a c x :: R)) (hl : x.length + y.length ≤ 1000000000000) (ty : TypeId) :
    ∃ a' c' v', (Builtin.append_ #[28, 28] ty #[.slice a x.length c, .slice b y.length cb]).run Try.prog v = .ok (.slice a' (x.length + y.length) c') v' ∧ Sn.HR w0 v' (hOuts a' c' (x ++ y) :: hOuts b cb y :: R) := by
  have ry : OutK.Row v 0 b cb y := h.ok _ List.mem_cons_self
  have rx : OutK.Row v 0 a c x := h.ok _ (List.mem_cons_of_mem _ List.mem_cons_self)
  have hs : Sn.HR w0 v (hOuts a c x :: hOuts b cb y :: R) := h.swap
  obtain ⟨a', c', v', h1, h2, h3⟩ := grow_app outK_law rx b cb y (row_lies ry) hl (Nat.zero_le _) ty
  have hown : ∀ k, (Value.slice a' (x ++ y).length c').ownBlock = some k → (Value.slice a x.length c).ownBlock = some k ∨ v.heap.size ≤ k := fun k hk => by
    cases b with
    | none =>
      have hy : y = [] := (row_lies ry).1 rfl
      subst hy
      obtain ⟨i0, hi, _⟩ := outK_law.info
      have e := run_append_nothing (P := Try.prog) v OutK.t OutK.t ty OutK.e i0 outK_law.und hi a x.length c (row_cap rx) _ (Src.ofNil v outK_law.und cb)
      have h1' : (Builtin.append_ #[OutK.t, OutK.t] ty #[.slice a x.length c, .slice none ([] : List (Win AggV)).length cb]).run Try.prog v = .ok (.slice a' (x ++ []).length c') v' := h1
      rw [show ([] : List (Win AggV)).length = 0 from rfl] at h1'
      rw [e] at h1'
      rw [List.append_nil] at h1' hk
      cases h1'
      exact .inl hk
    | some z =>
      rcases append_block outK_law rx z cb y (row_lies ry) hl ty h1 with e | e
      · exact .inl (e ▸ hk)
      · rw [e] at hk; cases hk; exact .inr (Nat.le_refl _)
  have mm : Moved (fun k => (Value.slice a x.length c).ownBlock = some k) v v' := (Moved.refl _ _).grown h3 (fun k e => .inl e)
  exact ⟨a', c', v', by rw [← List.length_append]; exact h1, hs.turn (r := hOuts a c x) (r' := hOuts a' c' (x ++ y)) mm h2 hown⟩
end Go.Proofs.Ytigmhljaoicdbaa

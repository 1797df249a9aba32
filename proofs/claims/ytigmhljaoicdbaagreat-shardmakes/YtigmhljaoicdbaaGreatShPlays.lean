/- The statements' plays: items done to a state one behind the other, and what was told. Conditions: there are at most 1000 items; a state has at most 32 windows. -/
import Derived.Test.YtigmhljaoicdbaaGreatGShIns
namespace Go.Proofs.YtigmhljaoicdbaaGreat
open Go.RowKit
theorem outs_len {S : StV} (hS : GoodS S) (x : ItemV) : (outsS S x).length ≤ 32 := by
  unfold outsS
  split
  · unfold doL
    split
    · exact Nat.zero_le _
    · split
      · exact (mild_markL hS.mild _).2
      · exact Nat.zero_le _
  · exact Nat.zero_le _
theorem told_len {S : StV} (hS : GoodS S) : ∀ {l : List ItemV}, (∀ x ∈ l, i64 x.n) → (toldS S l).length ≤ 32 * l.length
  | [], _ => Nat.zero_le _
  | x :: l, h => by
    have h1 := outs_len hS x
    have h2 := told_len (goodS_app hS (h x List.mem_cons_self)) (l := l) fun y hy => h y (List.mem_cons_of_mem _ hy)
    show (outsS S x ++ toldS (appS S x) l).length ≤ _
    rw [List.length_append, List.length_cons]
    omega
/-- The last row is appended to the one behind it. -/
theorem HR.cat {w0 v : World} {R : List Sn.Held} {a b : Option Addr} {c cb : Nat} {x y : List (Win AggV)} (h : Sn.HR w0 v (hOuts b cb y :: hOuts a c x :: R)) (hl : x.length + y.length ≤ 1000000000000) (ty : TypeId) :
    ∃ a' c' v', (Builtin.append_ #[27, 27] ty #[.slice a x.length c, .slice b y.length cb]).run Tryz.prog v = .ok (.slice a' (x.length + y.length) c') v' ∧ Sn.HR w0 v' (hOuts a' c' (x ++ y) :: hOuts b cb y :: R) := by
  have ry : OutK.Row v 0 b cb y := h.ok _ List.mem_cons_self
  have rx : OutK.Row v 0 a c x := h.ok _ (List.mem_cons_of_mem _ List.mem_cons_self)
  have hs : Sn.HR w0 v (hOuts a c x :: hOuts b cb y :: R) := h.swap
  obtain ⟨a', c', v', h1, h2, h3⟩ := grow_app outK_law rx b cb y (row_lies ry) hl (Nat.zero_le _) ty
  have hown : ∀ k, (Value.slice a' (x ++ y).length c').ownBlock = some k → (Value.slice a x.length c).ownBlock = some k ∨ v.heap.size ≤ k := fun k hk => by
    cases b with
    | none =>
      have hy : y = [] := (row_lies ry).1 rfl
      subst hy
      obtain ⟨i0, hi, _⟩ := outK_law.info
      have e := run_append_nothing (P := Tryz.prog) v OutK.t OutK.t ty OutK.e i0 outK_law.und hi a x.length c (row_cap rx) _ (Src.ofNil v outK_law.und cb)
      have h1' : (Builtin.append_ #[OutK.t, OutK.t] ty #[.slice a x.length c, .slice none ([] : List (Win AggV)).length cb]).run Tryz.prog v = .ok (.slice a' (x ++ []).length c') v' := h1
      rw [show ([] : List (Win AggV)).length = 0 from rfl] at h1'
      rw [e] at h1'
      rw [List.append_nil] at h1' hk
      cases h1'
      exact .inl hk
    | some z =>
      rcases append_block outK_law rx z cb y (row_lies ry) hl ty h1 with e | e
      · exact .inl (e ▸ hk)
      · rw [e] at hk; cases hk; exact .inr (Nat.le_refl _)
  have mm : Moved (fun k => (Value.slice a x.length c).ownBlock = some k) v v' := (Moved.refl _ _).grown h3 (fun k e => .inl e)
  exact ⟨a', c', v', by rw [← List.length_append]; exact h1, hs.turn (r := hOuts a c x) (r' := hOuts a' c' (x ++ y)) mm h2 hown⟩
set_option maxRecDepth 100000 in
set_option maxHeartbeats 2000000 in
theorem plays_any {w0 v : World} {p : Nat} {F : Nat → Prop} {S : StV} {R : List Sn.Held} (h : Sn.HR w0 v (hState p F S :: R)) (hS : GoodS S) {a : Option Addr} {cap : Nat} {z : List ItemV} (hz : ItemK.At w0 a z) (hi : ∀ x ∈ z, x.In) (hm : z.length ≤ 1000) :
    Calls Tryz.prog 25 #[.pointer (some ⟨p, 0, none⟩), .slice a z.length cap] v fun e v' => ∃ b c F', e = .returned (.slice b (toldS S z).length c) ∧ Sn.HR w0 v' (hOuts b c (toldS S z) :: hState p F' (runS S z) :: R) := by
  have H0 := hide (Sn.HR.none OutK h)
  have HZ := hide hz
  have HS := hide hS
  have HI := hide hi
  have HM := hide hm
  clear h hz hS hi hm
  go_enter Tryz.func25, Tryz.ntmps25
  go_wp2_with fail
  go_loopw [5, 6] (fun lv i wr => ∃ (k : Nat) (F' : Nat → Prop) (b : Option Addr) (c : Nat), i = .int .i64 (k : Int) ∧ k ≤ z.length ∧ lv = .slice b (toldS S (z.take k)).length c ∧ Sn.HR w0 wr (hOuts b c (toldS S (z.take k)) :: hState p F' (runS S (z.take k)) :: R)) (fun _ i _ => z.length - (intOf i).toNat)
  case atStart => exact ⟨0, F, none, 0, rfl, Nat.zero_le _, by rw [List.take_zero]; rfl, by rw [List.take_zero]; exact unhide H0⟩
  case round =>
    obtain ⟨k, F', b, c, rfl, hk, rfl, hr⟩ := hrel
    clear H0
    have HRR := hide hr
    clear hr
    by_cases hlt : k < z.length
    · have g0 : (0 : Int) ≤ (k : Int) := by omega
      have g1 : (k : Int) < (z.length : Int) := by omega
      have hwk : IntKind.i64.wrap ((k : Int) + 1) = (k : Int) + 1 := Go.IntWalk.i64_in _ (by have := unhide HM; omega)
      obtain ⟨x, hx⟩ : ∃ x, z[k]? = some x := ⟨_, List.getElem?_eq_getElem hlt⟩
      have hIn := unhide HI x (List.mem_of_getElem? hx)
      have hAt : ItemK.At wr a z := (unhide HZ).below (Nat.le_refl _) (unhide HRR).bel
      obtain ⟨g, o, rfl, hg, hrg⟩ := hAt.cell itemK_law hx
      have GS : Hid (GoodS (runS S (z.take k))) := hide (goodS_run (unhide HS) fun y hy => (unhide HI y (List.mem_of_mem_take hy)).n)
      have CA := hide (hs_apply ((unhide HRR).swap) (unhide GS) x hIn.n hIn.kind)
      have hsn : runS S (z.take (k + 1)) = appS (runS S (z.take k)) x := by rw [Sn.take_snoc hx, playS_snoc]
      have htn : toldS S (z.take (k + 1)) = toldS S (z.take k) ++ outsS (runS S (z.take k)) x := by rw [Sn.take_snoc hx, toldS_snoc]
      have hln : (toldS S (z.take k)).length + (outsS (runS S (z.take k)) x).length ≤ 1000000000000 := by
        have h1 := told_len (unhide HS) (l := z.take k) fun y hy => (unhide HI y (List.mem_of_mem_take hy)).n
        have h2 := outs_len (unhide GS) x
        have h3 : (z.take k).length ≤ 1000 := Nat.le_trans (by rw [List.length_take]; omega) (unhide HM)
        omega
      have RG : Hid (wr.rangeAt g (o + k * 8) (itemC x)) := hide hrg
      have NEXT : Hid (∀ v1 a1 c1 F1, Sn.HR w0 v1 (hOuts a1 c1 (outsS (runS S (z.take k)) x) :: hState p F1 (appS (runS S (z.take k)) x) :: hOuts b c (toldS S (z.take k)) :: R) → ∃ b' c' v2, (Builtin.append_ #[27, 27] 27 #[.slice b (toldS S (z.take k)).length c, .slice a1 (outsS (runS S (z.take k)) x).length c1]).run Tryz.prog v1 = .ok (.slice b' ((toldS S (z.take k)).length + (outsS (runS S (z.take k)) x).length) c') v2 ∧ Sn.HR w0 v2 (hOuts b' c' (toldS S (z.take (k + 1))) :: hState p F1 (runS S (z.take (k + 1))) :: R)) := hide fun v1 a1 c1 F1 h => by
        have h' : Sn.HR w0 v1 (hOuts a1 c1 (outsS (runS S (z.take k)) x) :: hOuts b c (toldS S (z.take k)) :: hState p F1 (appS (runS S (z.take k)) x) :: R) := h.perm ((List.Perm.swap _ _ _).cons _)
        obtain ⟨b', c', v2, e1, e2⟩ := HR.cat h' hln 27
        rw [← htn, ← hsn] at e2
        exact ⟨b', c', v2, e1, e2.sub (List.Sublist.cons_cons _ (List.Sublist.cons _ (List.Sublist.refl _)))⟩
      have LEN : Hid ((toldS S (z.take k)).length + (outsS (runS S (z.take k)) x).length = (toldS S (z.take (k + 1))).length) := hide (by rw [htn, List.length_append])
      clear hx hAt hg hrg hsn htn hln hIn
      go_wp2_with (refine Sn.wpList_load_on rfl 42 (.tmp 20) rfl g (o + k * 8) rfl (itemC x) _ (unhide RG) Tryz.underlying42 rfl (by kernel_rfl) ?_)
      refine (unhide CA).mono ?_
      rintro e v1 ⟨a1, c1, F1, rfl, h1⟩
      obtain ⟨b', c', v2, e1, e2⟩ := unhide NEXT v1 a1 c1 F1 h1
      have HAP := hide e1
      have REL := hide e2
      clear CA NEXT h1 e1 e2 RG
      generalize (toldS S (z.take k)).length = n0 at *
      generalize (outsS (runS S (z.take k)) x).length = n1 at *
      go_wp2_with (at_builtin; refine Sn.wpList_app rfl _ _ 27 27 27 rfl rfl rfl rfl (unhide HAP) ?_)
      exact ⟨⟨k + 1, F1, b', c', rfl, by omega, by rw [unhide LEN], unhide REL⟩, by simp [intOf]; omega⟩
    · have hke : k = z.length := by omega
      rw [hke, List.take_length] at HRR ⊢
      go_wp2_with fail
      go_ret
      exact ⟨b, c, F', rfl, unhide HRR⟩
end Go.Proofs.YtigmhljaoicdbaaGreat

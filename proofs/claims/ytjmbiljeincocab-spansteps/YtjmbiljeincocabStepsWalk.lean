/- SpanSteps' walk: the windows that are over since a mark, told in two steps, are those told at once. -/
import Derived.Test.YtjmbiljeincocabApp
import Derived.Test.YtjmbiljeincocabStepsMath
namespace Go.Proofs.Ytjmbiljeincocab
open Go.RowKit Go.Shelf

attribute [local go_sem] Oper.semAt_some run_fnil

theorem pre_step {L pre : List Int} {x : Int} (h : pre <+: L) (hl : pre.length < L.length) : pre ++ [x] <+: L ↔ x = L.getD pre.length 0 := by
  obtain ⟨r, rfl⟩ := h
  cases r with
  | nil => simp at hl
  | cons y r => rw [List.prefix_append_right_inj]; simp
theorem pre_full {L pre : List Int} {x : Int} (hl : ¬ pre.length < L.length) : ¬ pre ++ [x] <+: L := fun h => by
  have := h.length_le; simp at this; omega
theorem St.rowed {w0 W : World} {bs : List (Nat × TypeId × Value)} {Ds : List Nat} {v : Value} {l : List Int} (h : St w0 bs [] Ds W) (hr : W.ownsRow w0.heap.size 2 1 v l.length (intCells l)) : St w0 bs [(v, l)] Ds W :=
  ⟨h.box, fun r hx => by obtain rfl := List.mem_singleton.1 hx; exact hr, h.mark, h.ge, h.mge, h.below⟩
/-- The boxes of the second and the third way. -/
def BX (h g bm bs : Nat) (m s : Int) (v : Value) (n : Nat) : List (Nat × TypeId × Value) := [(g, 3, .int .i64 n), (h + 1, 25, v), (h, 4, .bool false), (bm, 2, .int .i64 m), (bs, 2, .int .i64 s)]

set_option maxRecDepth 100000 in
set_option maxHeartbeats 4000000 in
theorem steps_main (f p q P Q M T : Int) (w : World) (hf : 0 ≤ f ∧ f ≤ 1099511627776) (hT : 0 ≤ T ∧ T ≤ 1099511627776) (hP : Int.tmod p 2000 = P) (hQ : Int.tmod q 2000 = Q) (bP : 0 ≤ P ∧ P < 2000) (bQ : 0 ≤ Q ∧ Q < 2000) (hM : f + P = M) (hT' : M + Q = T) :
    CallsIn Fence.wide 11 Try.prog 3 #[.int .i64 f, .int .u16 p, .int .u16 q] w fun e W' => e = .returned (.bool true) ∧ Below w.heap.size w W' := by
  have hSp := steps_eq hf (show 0 ≤ M ∧ M ≤ 1099511627776 by omega) hT (by omega) (by omega) (by omega)
  have r1 := hide (rightI_iff.2 hf)
  have r2 := hide (rightI_iff.2 hT)
  have e1 := Go.IntWalk.u16_in P (by omega)
  have e2 := Go.IntWalk.u16_in Q (by omega)
  have e3 := Go.IntWalk.i64_in P (by omega)
  have e4 := Go.IntWalk.i64_in Q (by omega)
  have e5 := Go.IntWalk.i64_in M (by omega)
  have e6 := Go.IntWalk.i64_in T (by omega)
  have HSp := hide hSp
  clear hSp hf hT bP bQ
  refine callsIn_of_wp_marks Try.func3 rfl trivial ?_ rfl
  simp only [Try.ntmps3, List.size_toArray, List.length_cons, List.length_nil, Nat.reduceAdd, Nat.reduceSub, Array.replicate_succ, Array.replicate_zero, List.push_toArray, List.append_toArray, List.nil_append, List.cons_append]
  gi_wp2
  refine ⟨trivial, (callsIn_wide.2 (right_any _ _)).mono ?_⟩
  rintro e w' ⟨rfl, hw⟩; replace hw := hw.symm; subst hw
  rw [unhide r1]
  gi_wp2
  refine ⟨trivial, (callsIn_wide.2 (right_any _ _)).mono ?_⟩
  rintro e w' ⟨rfl, hw⟩; replace hw := hw.symm; subst hw
  rw [unhide r2]
  gi_wp2
  refine ⟨trivial, (callsIn_wide.2 (starts_any _ _ _)).mono ?_⟩
  rintro e w2 ⟨rfl, rfl⟩
  gi_wp2
  refine ⟨trivial, (callsIn_wide.2 (starts_any _ _ _)).mono ?_⟩
  rintro e w2 ⟨rfl, rfl⟩
  gi_wp2
  clear r1 r2 e1 e2 e3 e4 e5 e6 hP hQ hM hT'
  obtain ⟨W0, hW0⟩ : ∃ W0, ((((((w.alloc (Obj.cells #[Value.bool false] 4)).alloc (Obj.cells #[Value.slice none 0 0] 25)).alloc (Obj.cells #[Value.int IntKind.i64 T] 2)).alloc (Obj.cells #[Value.int IntKind.i64 f] 2)).alloc (Obj.cells #[Value.int IntKind.i64 T] 2)).alloc (Obj.cells #[Value.int IntKind.i64 f] 2)) = W0 := ⟨_, rfl⟩
  have hsz : W0.heap.size = w.heap.size + 6 := by rw [← hW0]; simp
  have S0' := ((((((St.start w).add (.bool false) 4).add (.slice none 0 0) 25).add (.int .i64 T) 2).add (.int .i64 f) 2).add (.int .i64 T) 2).add (.int .i64 f) 2
  simp only [World.size_alloc] at S0'
  rw [hW0] at S0' ⊢
  clear hW0
  obtain ⟨h, hh⟩ : ∃ h, w.heap.size = h := ⟨_, rfl⟩
  simp only [hh] at S0' hsz ⊢
  have A0 : Acc w (h + 1) (h + 6) [(h, 4, .bool false), (h + 1 + 1 + 1 + 1, 2, .int .i64 T), (h + 1 + 1 + 1 + 1 + 1, 2, .int .i64 f)] [] [] W0 := ⟨_, S0'.perm (by simp), owns_none _ _⟩
  clear S0'
  have hb1 : ∀ y ∈ ([(h, 4, .bool false), (h + 1 + 1 + 1 + 1, 2, .int .i64 T), (h + 1 + 1 + 1 + 1 + 1, 2, .int .i64 f)] : List (Nat × TypeId × Value)), y.1 ≠ h + 1 ∧ y.1 < h + 6 := by
    intro y hy
    simp at hy
    rcases hy with rfl | rfl | rfl <;> simp <;> omega
  obtain ⟨v0, hv0, _⟩ := A0.ex
  have b4 := hv0.box (h + 1 + 1 + 1 + 1, 2, .int .i64 T) (by simp)
  have b5 := hv0.box (h + 1 + 1 + 1 + 1 + 1, 2, .int .i64 f) (by simp)
  clear hv0
  refine wpIn_rangeFunc_ownF rfl (by omega) (gf := 11) (lb := #[.pointer (some ⟨h + 1 + 1 + 1 + 1 + 1, 0, none⟩), .pointer (some ⟨h + 1 + 1 + 1 + 1, 0, none⟩)]) rfl trivial (enters_of Try.func11 (by kernel_rfl) rfl)
    (starts_stops _ _ T f W0 b4 b5) Kb.trans (fun W l o o' _ h1 h2 _ => Kb.putObj W l o o' h1 h2) (Below.refl _ _) (fun _ => rfl)
    (fun pre W => Acc w (h + 1) (h + 6) [(h, 4, .bool false), (h + 1 + 1 + 1 + 1, 2, .int .i64 T), (h + 1 + 1 + 1 + 1 + 1, 2, .int .i64 f)] [] pre W)
    (fun _ _ _ => False)
    (Acc.own (by omega) (by simp))
    (fun _ => ownFrom_pure _ _)
    A0
    _ (fun l x W K hK => by gi_wp2; exact hK) ?body ?done ?stop
  case body =>
    rintro l pre x W hA hlen
    obtain ⟨v1, hv1, _⟩ := hA.ex
    have hlt := (hv1.box (h + 1 + 1 + 1 + 1 + 1, 2, .int .i64 f) (by simp)).lt
    obtain ⟨v, g, cap, w3, k1, k2, k3, hr, hK, hKb, hA'⟩ := hA.step x (by omega) (by omega) hlt hb1
    have HR := hide hr
    have HK := hide hK
    have HKb := hide (hKb (h + 1 + 1 + 1 + 1, 2, .int .i64 T) (by simp))
    have HA := hide hA'
    clear hr hK hKb hA' hA hv1 hlt A0 b4 b5 hb1
    gi_wp2_with (gi_at_builtin; refine wpListIn_app rfl _ _ 25 25 rfl rfl rfl (unhide HR) ?_)
    exact ⟨unhide HK, unhide HKb, unhide HA⟩
  case stop =>
    rintro D c pre W _ _ k _
    exact k.elim
  case done =>
    rintro D1 ys W hD rfl hA hK0
    obtain ⟨v, hS, hR⟩ := hA.ex
    obtain ⟨A, cap, rfl, _⟩ := ints_of_owns hR
    have S1 := hide (((hS.give hK0 (by omega)).perm (bs' := [(h + 1, 25, .slice A (startsL T f).length cap), (h, 4, .bool false)]) (by simp)).rowed (owns_le hR (by omega)))
    have hDl := (Array.getElem?_eq_some_iff.1 hK0).1
    clear hA hS hR hK0 A0 b4 b5 hb1
    rw [unhide HSp] at S1
    obtain ⟨L1, hL1⟩ : ∃ L1, startsL M f = L1 := ⟨_, rfl⟩
    obtain ⟨L2, hL2⟩ : ∃ L2, startsL T M = L2 := ⟨_, rfl⟩
    rw [hL1, hL2] at S1
    have n1 : L1.length ≤ 1000 := by rw [← hL1]; exact startsL_len _ _
    have n2 : L2.length ≤ 1000 := by rw [← hL2]; exact startsL_len _ _
    obtain ⟨L, hL⟩ : ∃ L, L1 ++ L2 = L := ⟨_, rfl⟩
    rw [hL] at S1
    have p1 : L1 <+: L := by rw [← hL]; exact List.prefix_append _ _
    clear HSp
    gi_wp2
    refine ⟨trivial, (callsIn_wide.2 (starts_any _ _ _)).mono ?_⟩
    rintro e w2 ⟨rfl, rfl⟩
    gi_wp2
    refine ⟨trivial, (callsIn_wide.2 (starts_any _ _ _)).mono ?_⟩
    rintro e w2 ⟨rfl, rfl⟩
    gi_wp2
    obtain ⟨W2, hW2⟩ : ∃ W2, (((((W.alloc (Obj.cells #[Value.int IntKind.i64 0] 3)).alloc (Obj.cells #[Value.int IntKind.i64 M] 2)).alloc (Obj.cells #[Value.int IntKind.i64 f] 2)).alloc (Obj.cells #[Value.int IntKind.i64 M] 2)).alloc (Obj.cells #[Value.int IntKind.i64 f] 2)) = W2 := ⟨_, rfl⟩
    have hsz2 : W2.heap.size = W.heap.size + 5 := by rw [← hW2]; simp
    have S' := (((((unhide S1).add (.int .i64 0) 3).add (.int .i64 M) 2).add (.int .i64 f) 2).add (.int .i64 M) 2).add (.int .i64 f) 2
    simp only [World.size_alloc] at S'
    rw [hW2] at S'
    have S'' := S'
    rw [hW2]
    clear hW2 S' S1
    obtain ⟨g, hg⟩ : ∃ g, g = W.heap.size := ⟨_, rfl⟩
    rw [← hg] at S'' hsz2 hDl ⊢
    obtain ⟨bm, hbm⟩ : ∃ b, b = g + 1 + 1 + 1 := ⟨_, rfl⟩
    obtain ⟨bs, hbs⟩ : ∃ b, b = g + 1 + 1 + 1 + 1 := ⟨_, rfl⟩
    rw [← hbs, ← hbm]
    have S : St w (BX h g bm bs M f (.slice A L.length cap) 0) [(.slice A L.length cap, L)] [D1] W2 := S''.perm (by rw [hbm, hbs]; simp [BX])
    clear S'' hg
    refine wpIn_rangeFunc_ownF rfl (by omega) (gf := 11) (lb := #[.pointer (some ⟨bs, 0, none⟩), .pointer (some ⟨bm, 0, none⟩)]) rfl trivial (enters_of Try.func11 (by kernel_rfl) rfl)
      (starts_stops bm bs M f W2 (S.box (bm, 2, .int .i64 M) (by simp [BX])) (S.box (bs, 2, .int .i64 f) (by simp [BX]))) Kb.trans (fun W l o o' _ h1 h2 _ => Kb.putObj W l o o' h1 h2) (Below.refl _ _) (fun _ => rfl)
      (fun pre W => pre <+: L ∧ St w (BX h g bm bs M f (.slice A L.length cap) pre.length) [(.slice A L.length cap, L)] [D1] W)
      (fun c pre _ => c = .ret ∧ ¬ pre <+: L)
      (OwnFrom.and (ownFrom_pure _ _) (St.own _ _ (by omega) (by simp; omega)))
      (fun _ => ownFrom_pure _ _)
      ⟨List.nil_prefix, S⟩
      _ (fun l x W K hK => by gi_wp2; exact hK) ?body ?done ?stop
    case body =>
      clear S
      have nb : ¬ bm = g ∧ ¬ bs = g := by omega
      clear hbm hbs
      rintro l pre x W ⟨hT, hS⟩ hlen
      have hEW : pre.length < 5000 := by omega
      have ew1 : IntKind.i64.wrap ((pre.length : Int) + 1) = (pre.length : Int) + 1 := Go.IntWalk.i64_in _ (by omega)
      have c9 := hS.box (g, 3, .int .i64 pre.length) (by simp [BX])
      have c6 := hS.box (h, 4, .bool false) (by simp [BX])
      have c7 := hS.box (h + 1, 25, .slice A L.length cap) (by simp [BX])
      have k9 := c9.cell
      have k7 := c7.cell
      have f9 := c9.frozen
      have f6 := c6.frozen
      have k6 := c6.cell
      clear c9 c6 c7
      by_cases hlt : pre.length < L.length
      · obtain ⟨A', cap', e, hI⟩ := ints_of_owns (hS.row _ List.mem_cons_self)
        cases e
        obtain ⟨y, rfl, hc⟩ := hI pre.length hlt
        have hT2 := pre_step (x := x) hT hlt
        have hl1 : ¬ (L.length : Int) ≤ (pre.length : Int) := by omega
        have hl2 : (0 : Int) ≤ (pre.length : Int) := by omega
        have hl3 : (pre.length : Int) < (L.length : Int) := by omega
        have HS := hide hS
        have HT2 := hide hT2
        clear hS hT hT2 hlt hI
        generalize hv : L.getD pre.length 0 = v at *
        by_cases hx : v = x
        · have HT3 := hide ((unhide HT2).2 hx.symm)
          clear HT2
          subst hx
          gi_wp2
          refine ⟨KeepsOthers.setCell _ _ _, (Kb.refl _ W).set (by omega) _, ?_, ?_⟩
          · exact unhide HT3
          · rw [List.length_append, List.length_singleton]
            exact (unhide HS).set (by simp; omega) (by decide) _
        · gi_wp2
          exact ⟨KeepsOthers.setCell _ _ _, rfl, fun hh => hx ((unhide HT2).1 (hh)).symm⟩
      · have hl1 : (L.length : Int) ≤ (pre.length : Int) := by omega
        have HF := hide (pre_full (L := L) (x := x) hlt)
        have HS := hide hS
        clear hS hT hlt
        gi_wp2
        exact ⟨KeepsOthers.setCell _ _ _, rfl, fun hh => unhide HF (hh)⟩
    case stop =>
      rintro D c pre W _ hpre ⟨_, hn⟩ _
      rw [hL1] at hpre
      exact (hn (hpre.trans p1)).elim
    case done =>
      rintro D2 ys W3 hD2 rfl ⟨_, hS⟩ hK
      rw [hL1] at hS
      have S1 := hide (hS.give hK (by omega))
      have hDl2 := (Array.getElem?_eq_some_iff.1 hK).1
      clear hS hK S
      gi_wp2
      refine ⟨trivial, (callsIn_wide.2 (starts_any _ _ _)).mono ?_⟩
      rintro e w2 ⟨rfl, rfl⟩
      gi_wp2
      refine ⟨trivial, (callsIn_wide.2 (starts_any _ _ _)).mono ?_⟩
      rintro e w2 ⟨rfl, rfl⟩
      gi_wp2
      obtain ⟨W4, hW4⟩ : ∃ W4, ((((W3.alloc (Obj.cells #[Value.int IntKind.i64 T] 2)).alloc (Obj.cells #[Value.int IntKind.i64 M] 2)).alloc (Obj.cells #[Value.int IntKind.i64 T] 2)).alloc (Obj.cells #[Value.int IntKind.i64 M] 2)) = W4 := ⟨_, rfl⟩
      have hsz4 : W4.heap.size = W3.heap.size + 4 := by rw [← hW4]; simp
      have S' := ((((unhide S1).add (.int .i64 T) 2).add (.int .i64 M) 2).add (.int .i64 T) 2).add (.int .i64 M) 2
      simp only [World.size_alloc] at S'
      rw [hW4] at S'
      have S'' := S'
      rw [hW4]
      clear hW4 S' S1
      obtain ⟨g3, hg3⟩ : ∃ g, g = W3.heap.size := ⟨_, rfl⟩
      rw [← hg3] at S'' hsz4 hDl2 ⊢
      have hgg : g < g3 := by omega
      clear hbm hbs
      obtain ⟨bm, hbm⟩ : ∃ b, b = g3 + 1 + 1 := ⟨_, rfl⟩
      obtain ⟨bs, hbs⟩ : ∃ b, b = g3 + 1 + 1 + 1 := ⟨_, rfl⟩
      rw [← hbs, ← hbm]
      have S : St w (BX h g bm bs T M (.slice A L.length cap) L1.length) [(.slice A L.length cap, L)] [D2, D1] W4 := S''.perm (by rw [hbm, hbs]; simp [BX])
      clear S'' hg3
      refine wpIn_rangeFunc_ownF rfl (by omega) (gf := 11) (lb := #[.pointer (some ⟨bs, 0, none⟩), .pointer (some ⟨bm, 0, none⟩)]) rfl trivial (enters_of Try.func11 (by kernel_rfl) rfl)
        (starts_stops bm bs T M W4 (S.box (bm, 2, .int .i64 T) (by simp [BX])) (S.box (bs, 2, .int .i64 M) (by simp [BX]))) Kb.trans (fun W l o o' _ h1 h2 _ => Kb.putObj W l o o' h1 h2) (Below.refl _ _) (fun _ => rfl)
        (fun pre W => L1 ++ pre <+: L ∧ St w (BX h g bm bs T M (.slice A L.length cap) (L1 ++ pre).length) [(.slice A L.length cap, L)] [D2, D1] W)
        (fun c pre _ => c = .ret ∧ ¬ L1 ++ pre <+: L)
        (OwnFrom.and (ownFrom_pure _ _) (St.own _ _ (by omega) (by simp; omega)))
        (fun _ => ownFrom_pure _ _)
        ⟨by rw [List.append_nil]; exact p1, by rw [List.append_nil]; exact S⟩
        _ (fun l x W K hK => by gi_wp2; exact hK) ?body ?done ?stop
      case body =>
        clear S
        have nb : ¬ bm = g ∧ ¬ bs = g := by omega
        clear hbm hbs
        rintro l pre x W ⟨hT, hS⟩ hlen
        obtain ⟨N, hN⟩ : ∃ N, (L1 ++ pre).length = N := ⟨_, rfl⟩
        rw [hN] at hS
        have hEW : N < 5000 := by rw [← hN, List.length_append]; omega
        have ew1 : IntKind.i64.wrap ((N : Int) + 1) = (N : Int) + 1 := Go.IntWalk.i64_in _ (by omega)
        have c9 := hS.box (g, 3, .int .i64 N) (by simp [BX])
        have c6 := hS.box (h, 4, .bool false) (by simp [BX])
        have c7 := hS.box (h + 1, 25, .slice A L.length cap) (by simp [BX])
        have k9 := c9.cell
        have k7 := c7.cell
        have f9 := c9.frozen
        have f6 := c6.frozen
        have k6 := c6.cell
        clear c9 c6 c7
        by_cases hlt : N < L.length
        · obtain ⟨A', cap', e, hI⟩ := ints_of_owns (hS.row _ List.mem_cons_self)
          cases e
          obtain ⟨y, rfl, hc⟩ := hI N hlt
          have hT2 := pre_step (x := x) hT (by rw [hN]; exact hlt)
          rw [hN] at hT2
          have hl1 : ¬ (L.length : Int) ≤ (N : Int) := by omega
          have hl2 : (0 : Int) ≤ (N : Int) := by omega
          have hl3 : (N : Int) < (L.length : Int) := by omega
          have HS := hide hS
          have HT2 := hide hT2
          clear hS hT hT2 hlt hI
          generalize hv : L.getD N 0 = v at *
          by_cases hx : v = x
          · have HT3 := hide ((unhide HT2).2 hx.symm)
            clear HT2
            subst hx
            gi_wp2
            refine ⟨KeepsOthers.setCell _ _ _, (Kb.refl _ W).set (by omega) _, ?_, ?_⟩
            · show L1 ++ (pre ++ [v]) <+: L
              rw [← List.append_assoc]
              exact unhide HT3
            · show St w (BX h g bm bs T M (.slice (some y) L.length cap) (L1.length + (pre ++ [v]).length)) _ _ _
              rw [show L1.length + (pre ++ [v]).length = N + 1 by rw [← hN, List.length_append, List.length_append]; simp; omega]
              exact (unhide HS).set (by simp; omega) (by decide) _
          · gi_wp2
            exact ⟨KeepsOthers.setCell _ _ _, rfl, fun hh => hx ((unhide HT2).1 (by rw [List.append_assoc]; exact hh)).symm⟩
        · have hl1 : (L.length : Int) ≤ (N : Int) := by omega
          have HF := hide (pre_full (L := L) (x := x) (by rw [hN]; exact hlt))
          have HS := hide hS
          clear hS hT hlt
          gi_wp2
          exact ⟨KeepsOthers.setCell _ _ _, rfl, fun hh => unhide HF (by rw [List.append_assoc]; exact hh)⟩
      case stop =>
        rintro D c pre W _ hpre ⟨_, hn⟩ _
        rw [hL2] at hpre
        refine (hn ?_).elim
        rw [← hL]
        exact (List.prefix_append_right_inj L1).2 hpre
      case done =>
        rintro D3 ys W5 hD3 rfl ⟨_, hS⟩ hK
        rw [hL2, hL] at hS
        have c9 := hS.box (g, 3, .int .i64 L.length) (by simp [BX])
        have c7 := hS.box (h + 1, 25, .slice A L.length cap) (by simp [BX])
        have k9 := c9.cell
        have k7 := c7.cell
        have S6 := hide (hS.give hK (by omega))
        clear hS c9 c7 hK S
        gi_wp2
        refine ⟨trivial, (callsIn_wide.2 (wakes_any _)).mono ?_⟩
        rintro e W7 ⟨rfl, hb⟩
        have S7 := (unhide S6).call hb
        have c6 := S7.box (h, 4, .bool false) (by simp [BX])
        have k6 := c6.cell
        have f6 := c6.frozen
        have S8 := hide ((S7.perm (bs' := [(h, 4, .bool false)]) (by simp [BX])).set (by simp) (by decide) (.bool true))
        clear S7 c6 hb S6
        gi_wp2
        have T1 := unhide S8
        have T2 := T1.take (show D3 ∉ [D2, D1] by simp; omega)
        have T3 := T2.take (show D2 ∉ [D1] by simp; omega)
        have T4 := T3.take (show D1 ∉ [] by simp)
        refine ⟨by simp, .inl ⟨_, _, rfl, run_takeDeferred (T1.mark D3 List.mem_cons_self), ?_⟩⟩
        refine ⟨by simp, .inl ⟨_, _, rfl, run_takeDeferred (T2.mark D2 List.mem_cons_self), ?_⟩⟩
        refine ⟨by simp, .inl ⟨_, _, rfl, run_takeDeferred (T3.mark D1 List.mem_cons_self), ?_⟩⟩
        have hc := (T4.box (h, 4, .bool true) List.mem_cons_self).cell
        refine ⟨.bool true, ?_, rfl, T4.below⟩
        simp [results, Try.f3, go_sem, hc]

set_option maxRecDepth 100000 in
set_option maxHeartbeats 2000000 in
theorem steps_in (f p q : Int) (w : World) (hp : 0 ≤ p ∧ p ≤ 65535) (hq : 0 ≤ q ∧ q ≤ 65535) : CallsIn Fence.wide 11 Try.prog 3 #[.int .i64 f, .int .u16 p, .int .u16 q] w fun e W' => e = .returned (.bool true) ∧ Below w.heap.size w W' := by
  obtain ⟨P, hP⟩ : ∃ P, Int.tmod p 2000 = P := ⟨_, rfl⟩
  obtain ⟨Q, hQ⟩ : ∃ Q, Int.tmod q 2000 = Q := ⟨_, rfl⟩
  have bP : 0 ≤ P ∧ P < 2000 := by rw [← hP, Int.tmod_eq_emod_of_nonneg hp.1]; omega
  have bQ : 0 ≤ Q ∧ Q < 2000 := by rw [← hQ, Int.tmod_eq_emod_of_nonneg hq.1]; omega
  have e1 := Go.IntWalk.u16_in P (by omega)
  have e2 := Go.IntWalk.u16_in Q (by omega)
  have e3 := Go.IntWalk.i64_in P (by omega)
  have e4 := Go.IntWalk.i64_in Q (by omega)
  by_cases hf : 0 ≤ f ∧ f ≤ 1099511627776
  · by_cases hT : 0 ≤ f + P + Q ∧ f + P + Q ≤ 1099511627776
    · exact steps_main f p q P Q (f + P) (f + P + Q) w hf hT hP hQ bP bQ rfl rfl
    · have e5 := Go.IntWalk.i64_in (f + P) (by omega)
      have e6 := Go.IntWalk.i64_in (f + P + Q) (by omega)
      have r1 := hide (rightI_iff.2 hf)
      have r2 : Hid (rightI (f + P + Q) = false) := hide (by unfold rightI; exact decide_eq_false hT)
      clear hf hT hp hq bP bQ
      refine callsIn_of_wp_marks Try.func3 rfl trivial ?_ rfl
      simp only [Try.ntmps3, List.size_toArray, List.length_cons, List.length_nil, Nat.reduceAdd, Nat.reduceSub, Array.replicate_succ, Array.replicate_zero, List.push_toArray, List.append_toArray, List.nil_append, List.cons_append]
      gi_wp2
      refine ⟨trivial, (callsIn_wide.2 (right_any _ _)).mono ?_⟩
      rintro e w' ⟨rfl, hw⟩; replace hw := hw.symm; subst hw
      rw [unhide r1]
      gi_wp2
      refine ⟨trivial, (callsIn_wide.2 (right_any _ _)).mono ?_⟩
      rintro e w' ⟨rfl, hw⟩; replace hw := hw.symm; subst hw
      rw [unhide r2]
      gi_wp2
      refine ⟨trivial, (callsIn_wide.2 (wakes_any _)).mono ?_⟩
      rintro e w' ⟨rfl, hB⟩
      have S1 := ((St.start w).add (.bool false) 4).call hB
      have c6 := S1.box (w.heap.size, 4, .bool false) (by simp)
      have k6 := c6.cell
      have f6 := c6.frozen
      have S2 := hide (S1.set (by simp) (by decide) (.bool true))
      clear S1 c6 hB
      gi_wp2
      have hc := ((unhide S2).box (w.heap.size, 4, .bool true) List.mem_cons_self).cell
      exact ⟨.bool true, by simp [results, Try.f3, go_sem, hc], rfl, (unhide S2).below⟩
  · have r1 : Hid (rightI f = false) := hide (by unfold rightI; exact decide_eq_false hf)
    clear hf hp hq bP bQ
    refine callsIn_of_wp_marks Try.func3 rfl trivial ?_ rfl
    simp only [Try.ntmps3, List.size_toArray, List.length_cons, List.length_nil, Nat.reduceAdd, Nat.reduceSub, Array.replicate_succ, Array.replicate_zero, List.push_toArray, List.append_toArray, List.nil_append, List.cons_append]
    gi_wp2
    refine ⟨trivial, (callsIn_wide.2 (right_any _ _)).mono ?_⟩
    rintro e w' ⟨rfl, hw⟩; replace hw := hw.symm; subst hw
    rw [unhide r1]
    gi_wp2
    refine ⟨trivial, ?_⟩
    gi_wp2
    refine ⟨trivial, (callsIn_wide.2 (wakes_any _)).mono ?_⟩
    rintro e w' ⟨rfl, hB⟩
    have S1 := ((St.start w).add (.bool false) 4).call hB
    have c6 := S1.box (w.heap.size, 4, .bool false) (by simp)
    have k6 := c6.cell
    have f6 := c6.frozen
    have S2 := hide (S1.set (by simp) (by decide) (.bool true))
    clear S1 c6 hB
    gi_wp2
    have hc := ((unhide S2).box (w.heap.size, 4, .bool true) List.mem_cons_self).cell
    exact ⟨.bool true, by simp [results, Try.f3, go_sem, hc], rfl, (unhide S2).below⟩

theorem stepslaw_any (f p q : Int) (w : World) (_ : i64 f) (hp : 0 ≤ p ∧ p ≤ 65535) (hq : 0 ≤ q ∧ q ≤ 65535) : Calls Try.prog 3 #[.int .i64 f, .int .u16 p, .int .u16 q] w fun e W' => e = .returned (.bool true) ∧ Below w.heap.size w W' := callsIn_wide.1 (steps_in f p q w hp hq)

end Go.Proofs.Ytjmbiljeincocab

/- SpanStarts' walk: the program's way of windows, left early and gone over again, is the document's row. -/
import Derived.Test.YtjmbiljeincocaaSt
namespace Go.Proofs.Ytjmbiljeincocaa
open Go.RowKit Go.Shelf

attribute [local go_sem] Oper.semAt_some run_fnil

theorem pre_step {L pre : List Int} {x : Int} (h : pre <+: L) (hl : pre.length < L.length) : pre ++ [x] <+: L ↔ x = L.getD pre.length 0 := by
  obtain ⟨r, rfl⟩ := h
  cases r with
  | nil => simp at hl
  | cons y r => rw [List.prefix_append_right_inj]; simp
theorem pre_full {L pre : List Int} {x : Int} (hl : ¬ pre.length < L.length) : ¬ pre ++ [x] <+: L := fun h => by
  have := h.length_le; simp at this; omega

theorem inBlock_both {K : Act → World → Prop} {Q : Exit → Act → World → Prop} {id : Nat} {a : Act} {W : World} (h : Exit.inBlock id (Exit.then K Q) .normal a W) : ∀ e, (e = .normal ∨ e = .exit id) → Exit.inBlock id (Exit.then K Q) e a W := by
  rintro _ (rfl | rfl)
  · exact h
  · show (if id = id then _ else _)
    rw [if_pos rfl]
    exact h

/-- The boxes of SpanStarts: n; want, mark, since (of the function that is ranged over); the answer; steps. -/
def BS (h g : Nat) (m s k : Int) (v : Value) (b : Bool) (n : Nat) : List (Nat × TypeId × Value) :=
  [(g + 1 + 1 + 1, 3, .int .i64 n), (g + 1 + 1, 2, .int .i64 s), (g + 1, 2, .int .i64 m), (g, 26, v), (h + 1, 4, .bool b), (h, 3, .int .i64 k)]

set_option maxRecDepth 100000 in
set_option maxHeartbeats 2000000 in
theorem starts_in (m s k : Int) (w : World) : CallsIn Fence.wide 11 Try.prog 4 #[.int .i64 m, .int .i64 s, .int .i64 k] w fun e W' => e = .returned (.bool true) ∧ Below w.heap.size w W' := by
  refine callsIn_of_wp_marks Try.func4 rfl trivial ?_ rfl
  simp only [Try.ntmps4, List.size_toArray, List.length_cons, List.length_nil, Nat.reduceAdd, Nat.reduceSub, Array.replicate_succ, Array.replicate_zero, List.push_toArray, List.append_toArray, List.nil_append, List.cons_append]
  gi_wp2
  refine ⟨trivial, (callsIn_wide.2 (rstarts_any _ _ _)).mono ?_⟩
  rintro e w1 ⟨v, rfl, O1, B1⟩
  obtain ⟨A, cap, rfl, I1⟩ := ints_of_owns O1
  have S1 := hide ((((St.start w).add (.int .i64 k) 3).add (.bool false) 4).more B1 O1)
  have hG0 := B1.size
  rw [World.size_alloc, World.size_alloc] at hG0
  clear B1 O1 I1
  generalize hL : startsL m s = L at *
  gi_wp2
  refine ⟨trivial, (callsIn_wide.2 (starts_any _ _ _)).mono ?_⟩
  rintro e w2 ⟨rfl, rfl⟩
  gi_wp2
  have S2 := (((unhide S1).add (.slice A L.length cap) 26).add (.int .i64 m) 2).add (.int .i64 s) 2 |>.add (.int .i64 0) 3
  simp only [World.size_alloc] at S2
  obtain ⟨W0, hW0⟩ : ∃ W0, ((((w1.alloc (Obj.cells #[Value.slice A L.length cap] 26)).alloc (Obj.cells #[Value.int IntKind.i64 m] 2)).alloc (Obj.cells #[Value.int IntKind.i64 s] 2)).alloc (Obj.cells #[Value.int IntKind.i64 0] 3)) = W0 := ⟨_, rfl⟩
  have hsz : W0.heap.size = w1.heap.size + 4 := by rw [← hW0]; simp
  rw [hW0] at S2 ⊢
  clear hW0 S1
  generalize hh : w.heap.size = h at *
  generalize w1.heap.size = g at *
  have S0 : St w (BS h g m s k (.slice A L.length cap) false 0) [(.slice A L.length cap, L)] [] W0 := S2
  clear S2
  refine wpIn_mono (Q := fun e a W => ∃ D n, (e = .normal ∨ e = .exit 0) ∧ a = { tmps := #[.int .i64 m, .int .i64 s, .int .i64 k, undef, undef, .pointer (some ⟨h, 0, none⟩), .pointer (some ⟨h + 1, 0, none⟩), .pointer (some ⟨g, 0, none⟩), .func (.func 22) #[] #[.pointer (some ⟨g + 1 + 1, 0, none⟩), .pointer (some ⟨g + 1, 0, none⟩)], .pointer (some ⟨g + 1 + 1 + 1, 0, none⟩), undef, undef, .int .i64 m, .int .i64 s, .slice A L.length cap, .int .i64 m, .int .i64 s, .func (.func 22) #[] #[.pointer (some ⟨g + 1 + 1, 0, none⟩), .pointer (some ⟨g + 1, 0, none⟩)], .func (.func 22) #[] #[.pointer (some ⟨g + 1 + 1, 0, none⟩), .pointer (some ⟨g + 1, 0, none⟩)], .bool false, .func (.func 22) #[] #[.pointer (some ⟨g + 1 + 1, 0, none⟩), .pointer (some ⟨g + 1, 0, none⟩)], undef, undef, undef, undef, undef, undef, undef, undef, undef, undef, undef, undef, undef, undef, undef, undef, undef, undef, undef, undef, undef, undef, undef, undef, undef, undef, undef, undef, undef, undef, undef, undef, undef, undef, undef, undef, undef, undef, undef, undef, undef], defers := [{ target := .collected D, args := #[] }] } ∧ W0.heap.size ≤ D ∧ St w (BS h g m s k (.slice A L.length cap) false n) [(.slice A L.length cap, L)] [D] W) ?loop ?after
  case loop =>
    refine wpIn_rangeFunc_ownF rfl (by omega) (gf := 22) (lb := #[.pointer (some ⟨g + 1 + 1, 0, none⟩), .pointer (some ⟨g + 1, 0, none⟩)]) rfl trivial (enters_of Try.func22 (by kernel_rfl) rfl)
      (starts_stops _ _ m s W0 (S0.box (g + 1, 2, .int .i64 m) (by simp [BS])) (S0.box (g + 1 + 1, 2, .int .i64 s) (by simp [BS]))) Kb.trans (fun W l o o' _ h1 h2 _ => Kb.putObj W l o o' h1 h2) (Below.refl _ _) (fun _ => rfl)
      (fun pre W => pre <+: L ∧ St w (BS h g m s k (.slice A L.length cap) false pre.length) [(.slice A L.length cap, L)] [] W)
      (fun c pre W => (c = .ret ∧ ¬ pre <+: L) ∨ (c = .exit 0 ∧ ∃ n, St w (BS h g m s k (.slice A L.length cap) false n) [(.slice A L.length cap, L)] [] W))
      (OwnFrom.and (ownFrom_pure _ _) (St.own _ _ (by omega) (by simp)))
      (fun c => fun pre X Y row hs hg hr => hs.imp id (fun ⟨e, n, hn⟩ => ⟨e, n, St.own (β := Unit) (Ds := []) (fun _ => BS h g m s k (.slice A L.length cap) false n) (fun _ => [(.slice A L.length cap, L)]) (by omega) (by simp) () X Y row hn hg hr⟩))
      ⟨List.nil_prefix, S0⟩
      (fun x => { tmps := #[.int .i64 m, .int .i64 s, .int .i64 k, undef, undef, .pointer (some ⟨h, 0, none⟩), .pointer (some ⟨h + 1, 0, none⟩), .pointer (some ⟨g, 0, none⟩), .func (.func 22) #[] #[.pointer (some ⟨g + 1 + 1, 0, none⟩), .pointer (some ⟨g + 1, 0, none⟩)], .pointer (some ⟨g + 1 + 1 + 1, 0, none⟩), .int .i64 x, undef, .int .i64 m, .int .i64 s, .slice A L.length cap, .int .i64 m, .int .i64 s, .func (.func 22) #[] #[.pointer (some ⟨g + 1 + 1, 0, none⟩), .pointer (some ⟨g + 1, 0, none⟩)], .func (.func 22) #[] #[.pointer (some ⟨g + 1 + 1, 0, none⟩), .pointer (some ⟨g + 1, 0, none⟩)], .bool false, .func (.func 22) #[] #[.pointer (some ⟨g + 1 + 1, 0, none⟩), .pointer (some ⟨g + 1, 0, none⟩)], .int .i64 x, undef, undef, undef, undef, undef, undef, undef, undef, undef, undef, undef, undef, undef, undef, undef, undef, undef, undef, undef, undef, undef, undef, undef, undef, undef, undef, undef, undef, undef, undef, undef, undef, undef, undef, undef, undef, undef, undef, undef, undef], defers := [] }) ?assign ?body ?done ?stop
    case assign =>
      intro l x W K hK
      gi_wp2
      exact hK
    case body =>
      rintro l pre x W ⟨hT, hS⟩ hlen
      have ew1 := one_w hlen
      have c9 := hS.box (g + 1 + 1 + 1, 3, .int .i64 pre.length) (by simp [BS])
      have c5 := hS.box (h, 3, .int .i64 k) (by simp [BS])
      have c6 := hS.box (h + 1, 4, .bool false) (by simp [BS])
      have c7 := hS.box (g, 26, .slice A L.length cap) (by simp [BS])
      have k9 := c9.cell
      have k5 := c5.cell
      have k7 := c7.cell
      have f9 := c9.frozen
      have f6 := c6.frozen
      have k6 := c6.cell
      clear c9 c5 c6 c7
      by_cases hk : (pre.length : Int) = k
      · have HS := hide hS
        have HT := hide hT
        clear hS hT
        subst hk
        gi_wp2
        exact ⟨KeepsOthers.refl _, .inr ⟨rfl, _, unhide HS⟩⟩
      by_cases hlt : pre.length < L.length
      · obtain ⟨A', cap', e, hI⟩ := ints_of_owns (hS.row _ List.mem_cons_self)
        cases e
        obtain ⟨y, rfl, hc⟩ := hI pre.length hlt
        have hT2 := pre_step (x := x) hT hlt
        have hl1 : ¬ (L.length : Int) ≤ (pre.length : Int) := by omega
        have hl2 : (0 : Int) ≤ (pre.length : Int) := by omega
        have hl3 : (pre.length : Int) < (L.length : Int) := by omega
        have HS := hide hS
        have HT := hide hT
        have HT2 := hide hT2
        have HL := hide hlt
        clear hS hT hT2 hlt hI
        generalize hv : L.getD pre.length 0 = v at *
        by_cases hx : x = v
        · subst hx
          have HT3 := hide ((unhide HT2).2 rfl)
          clear HT2
          gi_wp2
          refine ⟨KeepsOthers.setCell _ _ _, (Kb.refl _ W).set (by omega) _, unhide HT3, ?_⟩
          rw [List.length_append, List.length_singleton]
          exact (unhide HS).set (by simp; omega) (by decide) _
        · gi_wp2
          exact ⟨KeepsOthers.setCell _ _ _, .inl ⟨rfl, fun hh => hx ((unhide HT2).1 hh)⟩⟩
      · have hl1 : (L.length : Int) ≤ (pre.length : Int) := by omega
        have HF := hide (pre_full (x := x) hlt)
        have HS := hide hS
        clear hS hT hlt
        gi_wp2
        exact ⟨KeepsOthers.setCell _ _ _, .inl ⟨rfl, unhide HF⟩⟩
    case done =>
      rintro D ys W hD rfl ⟨_, hS⟩ hK
      exact ⟨D, _, .inl rfl, rfl, hD, hS.give hK (by omega)⟩
    case stop =>
      rintro D c pre W hD hpre (⟨rfl, hn⟩ | ⟨rfl, n, hS⟩) hK
      · exact (hn (hL ▸ hpre)).elim
      · exact wpIn_exit ⟨D, n, .inr rfl, rfl, hD, hS.give hK (by omega)⟩
  case after =>
    rintro e a W ⟨D, n, he, rfl, hD, hS⟩
    refine inBlock_both ?_ _ he
    have c9 := hS.box (g + 1 + 1 + 1, 3, .int .i64 n) (by simp [BS])
    have k9 := c9.cell
    have f9 := c9.frozen
    have S3 := hide (hS.set (by simp; omega) (by decide) (.int .i64 ((0 : Nat) : Int)))
    have hDl := hS.lt D List.mem_cons_self
    clear hS S0 c9
    gi_wp2
    obtain ⟨W5, hW5⟩ : ∃ W5, W.setCell ⟨g + 1 + 1 + 1, 0, none⟩ (.int .i64 0) = W5 := ⟨_, rfl⟩
    have S5 : St w (BS h g m s k (.slice A L.length cap) false 0) [(.slice A L.length cap, L)] [D] W5 := by rw [← hW5]; exact unhide S3
    have hsz5 : W5.heap.size = W.heap.size := by rw [← hW5]; exact World.size_setCell _ _ _
    rw [hW5]
    clear hW5 S3 k9 f9
    have hD5 : D < W5.heap.size := by omega
    have hgD : g + 1 + 1 + 1 < D := by omega
    clear hsz5
    refine wpIn_rangeFunc_ownF rfl (by omega) (gf := 22) (lb := #[.pointer (some ⟨g + 1 + 1, 0, none⟩), .pointer (some ⟨g + 1, 0, none⟩)]) rfl trivial (enters_of Try.func22 (by kernel_rfl) rfl)
      (starts_stops _ _ m s W5 (S5.box (g + 1, 2, .int .i64 m) (by simp [BS])) (S5.box (g + 1 + 1, 2, .int .i64 s) (by simp [BS]))) Kb.trans (fun W l o o' _ h1 h2 _ => Kb.putObj W l o o' h1 h2) (Below.refl _ _) (fun _ => rfl)
      (fun pre W => pre <+: L ∧ St w (BS h g m s k (.slice A L.length cap) false pre.length) [(.slice A L.length cap, L)] [D] W)
      (fun c pre _ => c = .ret ∧ ¬ pre <+: L)
      (OwnFrom.and (ownFrom_pure _ _) (St.own _ _ (by omega) (by simp; omega)))
      (fun _ => ownFrom_pure _ _)
      ⟨List.nil_prefix, S5⟩
      (fun x => { tmps := #[.int .i64 m, .int .i64 s, .int .i64 k, undef, undef, .pointer (some ⟨h, 0, none⟩), .pointer (some ⟨h + 1, 0, none⟩), .pointer (some ⟨g, 0, none⟩), .func (.func 22) #[] #[.pointer (some ⟨g + 1 + 1, 0, none⟩), .pointer (some ⟨g + 1, 0, none⟩)], .pointer (some ⟨g + 1 + 1 + 1, 0, none⟩), undef, .int .i64 x, .int .i64 m, .int .i64 s, .slice A L.length cap, .int .i64 m, .int .i64 s, .func (.func 22) #[] #[.pointer (some ⟨g + 1 + 1, 0, none⟩), .pointer (some ⟨g + 1, 0, none⟩)], .func (.func 22) #[] #[.pointer (some ⟨g + 1 + 1, 0, none⟩), .pointer (some ⟨g + 1, 0, none⟩)], .bool false, .func (.func 22) #[] #[.pointer (some ⟨g + 1 + 1, 0, none⟩), .pointer (some ⟨g + 1, 0, none⟩)], undef, undef, undef, undef, undef, undef, undef, undef, undef, undef, undef, undef, undef, undef, undef, undef, undef, undef, .func (.func 22) #[] #[.pointer (some ⟨g + 1 + 1, 0, none⟩), .pointer (some ⟨g + 1, 0, none⟩)], .int .i64 x, undef, undef, undef, undef, undef, undef, undef, undef, undef, undef, undef, undef, undef, undef, undef, undef, undef, undef, undef, undef, undef], defers := [] }) ?assign ?body ?done ?stop
    case assign =>
      intro l x W K hK
      gi_wp2
      exact hK
    case body =>
      rintro l pre x W ⟨hT, hS⟩ hlen
      have ew1 := one_w hlen
      have c9 := hS.box (g + 1 + 1 + 1, 3, .int .i64 pre.length) (by simp [BS])
      have c5 := hS.box (h, 3, .int .i64 k) (by simp [BS])
      have c6 := hS.box (h + 1, 4, .bool false) (by simp [BS])
      have c7 := hS.box (g, 26, .slice A L.length cap) (by simp [BS])
      have k9 := c9.cell
      have k5 := c5.cell
      have k7 := c7.cell
      have f9 := c9.frozen
      have f6 := c6.frozen
      have k6 := c6.cell
      clear c9 c5 c6 c7
      by_cases hlt : pre.length < L.length
      · obtain ⟨A', cap', e, hI⟩ := ints_of_owns (hS.row _ List.mem_cons_self)
        cases e
        obtain ⟨y, rfl, hc⟩ := hI pre.length hlt
        have hT2 := pre_step (x := x) hT hlt
        have hl1 : ¬ (L.length : Int) ≤ (pre.length : Int) := by omega
        have hl2 : (0 : Int) ≤ (pre.length : Int) := by omega
        have hl3 : (pre.length : Int) < (L.length : Int) := by omega
        have HS := hide hS
        have HT := hide hT
        have HT2 := hide hT2
        have HL := hide hlt
        clear hS hT hT2 hlt hI
        generalize hv : L.getD pre.length 0 = v at *
        by_cases hx : x = v
        · subst hx
          have HT3 := hide ((unhide HT2).2 rfl)
          clear HT2
          gi_wp2
          refine ⟨KeepsOthers.setCell _ _ _, (Kb.refl _ W).set (by omega) _, unhide HT3, ?_⟩
          rw [List.length_append, List.length_singleton]
          exact (unhide HS).set (by simp; omega) (by decide) _
        · gi_wp2
          exact ⟨KeepsOthers.setCell _ _ _, ⟨rfl, fun hh => hx ((unhide HT2).1 hh)⟩⟩
      · have hl1 : (L.length : Int) ≤ (pre.length : Int) := by omega
        have HF := hide (pre_full (x := x) hlt)
        have HS := hide hS
        clear hS hT hlt
        gi_wp2
        exact ⟨KeepsOthers.setCell _ _ _, ⟨rfl, unhide HF⟩⟩
    case done =>
      rintro D2 ys W hD2 rfl ⟨_, hS⟩ hK
      rw [hL] at hS
      have c9 := hS.box (g + 1 + 1 + 1, 3, .int .i64 L.length) (by simp [BS])
      have c7 := hS.box (g, 26, .slice A L.length cap) (by simp [BS])
      have k9 := c9.cell
      have k7 := c7.cell
      have S6 := hide (hS.give hK (by omega))
      clear hS c9 c7 hK S5
      gi_wp2
      refine ⟨trivial, (callsIn_wide.2 (wakes_any _)).mono ?_⟩
      rintro e W7 ⟨rfl, hb⟩
      have S7 := (unhide S6).call hb
      have c6 := S7.box (h + 1, 4, .bool false) (by simp [BS])
      have k6 := c6.cell
      have f6 := c6.frozen
      have S8 := hide ((S7.perm (bs' := [(h + 1, 4, .bool false)]) (by simp [BS])).set (by simp) (by decide) (.bool true))
      clear S7 c6 hb S6
      gi_wp2
      have T1 := unhide S8
      have hne : D2 ∉ [D] := by simp; omega
      have T2 := T1.take hne
      have T3 := T2.take (by simp)
      refine ⟨by simp, .inl ⟨_, _, rfl, run_takeDeferred (T1.mark D2 List.mem_cons_self), ?_⟩⟩
      refine ⟨by simp, .inl ⟨_, _, rfl, run_takeDeferred (T2.mark D List.mem_cons_self), ?_⟩⟩
      have hc := (T3.box (h + 1, 4, .bool true) List.mem_cons_self).cell
      refine ⟨.bool true, ?_, rfl, T3.below⟩
      simp [results, Try.f4, go_sem, hc]
    case stop =>
      rintro D c pre W _ hpre ⟨_, hn⟩ _
      exact (hn (hL ▸ hpre)).elim

theorem startslaw_any (m s k : Int) (w : World) (_ : i64 m) (_ : i64 s) (_ : i64 k) : Calls Try.prog 4 #[.int .i64 m, .int .i64 s, .int .i64 k] w fun e W' => e = .returned (.bool true) ∧ Below w.heap.size w W' := callsIn_wide.1 (starts_in m s k w)
end Go.Proofs.Ytjmbiljeincocaa

/- SpanSince's walk: a moment's window is among those that are over since a mark just if it is over now and was not then. -/
import Derived.Test.YtjmbiljeincocaaQuiet
namespace Go.Proofs.Ytjmbiljeincocaa
open Go.RowKit Go.Shelf

attribute [local go_sem] Oper.semAt_some run_fnil

theorem mem_upL {m s : Int} (hs : s % 10 = 0) : ∀ (k : Nat) (x : Int), 0 ≤ x → x % 10 = 0 → (s ∈ upL m k x ↔ x ≤ s ∧ isOver s m ∧ (s - x) / 10 < k)
  | 0, x, h0, h1 => by simp [upL]; omega
  | k + 1, x, h0, h1 => by
    rw [upL]
    split
    · rename_i ho
      rw [List.mem_cons, mem_upL hs k (x + 10) (by omega) (by omega)]
      constructor
      · rintro (rfl | ⟨a, b, c⟩)
        · exact ⟨by omega, ho, by omega⟩
        · exact ⟨by omega, b, by omega⟩
      · rintro ⟨a, b, c⟩
        by_cases e : s = x
        · exact .inl e
        · exact .inr ⟨by omega, b, by omega⟩
    · rename_i ho
      constructor
      · intro h; cases h
      · rintro ⟨a, b, c⟩
        exact (ho (by unfold isOver at b ⊢; omega)).elim
/-- A window is among those that are over since a mark just if it is over now and was not then. -/
theorem since_mem {m s a : Int} (hm : 0 ≤ m ∧ m ≤ 1099511627776) (hs : 0 ≤ s ∧ s ≤ 1099511627776) (hd : m - s ≤ 5000) (ha : 0 ≤ a ∧ a ≤ 1099511627776) :
    (startsL m s).any (fun x => x == startI a) = (lateI a m && !lateI a s) := by
  have e : startI a = a - a % 10 := startI_right ha
  have hf := firstI_right hs
  have h1 : (startsL m s).any (fun x => x == startI a) = true ↔ startI a ∈ startsL m s := by simp
  have h2 : (lateI a m && !lateI a s) = true ↔ isOver (startI a) m ∧ ¬ isOver (startI a) s := by simp [lateI, overI]
  rw [Bool.eq_iff_iff, h1, h2]
  unfold startsL
  rw [if_pos hs, mem_upL (by omega) 1000 (firstI s) hf.1 hf.2.2]
  have hfi : firstI s = max (s - 5) 0 - max (s - 5) 0 % 10 := by unfold firstI; exact startI_right (by omega)
  unfold isOver
  omega
theorem any_snoc (pre : List Int) (x c : Int) : (pre ++ [x]).any (fun y => y == c) = (pre.any (fun y => y == c) || x == c) := by simp

def BN (h : Nat) (m s A : Int) (b : Bool) : List (Nat × TypeId × Value) :=
  [(h + 1, 4, .bool b), (h, 2, .int .i64 A), (h + 1 + 1 + 1 + 1, 2, .int .i64 m), (h + 1 + 1 + 1 + 1 + 1, 2, .int .i64 s)]
theorem bn_ne (h : Nat) (m s A : Int) : ∀ x ∈ ([(h, 2, .int .i64 A), (h + 1 + 1 + 1 + 1, 2, .int .i64 m), (h + 1 + 1 + 1 + 1 + 1, 2, .int .i64 s)] : List (Nat × TypeId × Value)), x.1 ≠ h + 1 := by
  intro x hx
  simp at hx
  rcases hx with rfl | rfl | rfl <;> simp <;> omega

set_option maxRecDepth 100000 in
set_option maxHeartbeats 2000000 in
theorem since_main (m s e d A : Int) (w : World) (hm : 0 ≤ m ∧ m ≤ 1099511627776) (hs : 0 ≤ s ∧ s ≤ 1099511627776) (hb : ¬ m < s) (hd : ¬ 5000 < m - s) (hr : Int.tmod e 6000 = d) (hA : (d < 0 → A = m + d) ∧ (¬ d < 0 → A = m - d)) (hA0 : ¬ A < 0) :
    CallsIn Fence.wide 11 Try.prog 6 #[.int .i64 m, .int .i64 s, .int .i64 e] w fun e W' => e = .returned (.bool true) ∧ Below w.heap.size w W' := by
  have d1 : d < 6000 := by rw [← hr]; exact Int.tmod_lt_of_pos _ (by omega)
  have d2 : -6000 < d := by rw [← hr]; exact Int.lt_tmod_of_pos _ (by omega)
  have r1 := hide (rightI_iff.2 hm)
  have r2 := hide (rightI_iff.2 hs)
  have HM := hide hm
  have HS := hide hs
  have e1 := Go.IntWalk.i64_in (m - s) (by omega)
  have e2 := Go.IntWalk.i64_in d (by omega)
  have HA : Hid (0 ≤ A ∧ A ≤ 1099511627776) := hide (by
    by_cases h0 : d < 0
    · have := hA.1 h0; omega
    · have := hA.2 h0; omega)
  have HQ := hide (since_mem hm hs (by omega) (unhide HA))
  by_cases h0 : d < 0
  · have e3 := Go.IntWalk.i64_in (-d) (by omega)
    have e4 : m - -d = A := by have := hA.1 h0; omega
    have e5 := Go.IntWalk.i64_in A (by have := unhide HA; omega)
    clear hm hs hA
    refine callsIn_of_wp_marks Try.func6 rfl trivial ?_ rfl
    simp only [Try.ntmps6, List.size_toArray, List.length_cons, List.length_nil, Nat.reduceAdd, Nat.reduceSub, Array.replicate_succ, Array.replicate_zero, List.push_toArray, List.append_toArray, List.nil_append, List.cons_append]
    gi_wp2
    refine ⟨trivial, (callsIn_wide.2 (right_any _ _)).mono ?_⟩
    rintro e w' ⟨rfl, hw⟩; replace hw := hw.symm; subst hw
    rw [unhide r1]
    gi_wp2
    refine ⟨trivial, (callsIn_wide.2 (right_any _ _)).mono ?_⟩
    rintro e w' ⟨rfl, hw⟩; replace hw := hw.symm; subst hw
    rw [unhide r2]
    gi_wp2
    refine ⟨trivial, (callsIn_wide.2 (starts_any _ _ _)).mono ?_⟩
    rintro e w2 ⟨rfl, rfl⟩
    gi_wp2
    refine ⟨trivial, (callsIn_wide.2 (starts_any _ _ _)).mono ?_⟩
    rintro e w2 ⟨rfl, rfl⟩
    gi_wp2
    obtain ⟨W0, hW0⟩ : ∃ W0, ((((((w.alloc (Obj.cells #[Value.int IntKind.i64 A] 2)).alloc (Obj.cells #[Value.bool false] 4)).alloc (Obj.cells #[Value.int IntKind.i64 m] 2)).alloc (Obj.cells #[Value.int IntKind.i64 s] 2)).alloc (Obj.cells #[Value.int IntKind.i64 m] 2)).alloc (Obj.cells #[Value.int IntKind.i64 s] 2)) = W0 := ⟨_, rfl⟩
    have hsz : W0.heap.size = w.heap.size + 6 := by rw [← hW0]; simp
    have S0' := ((((((St.start w).add (.int .i64 A) 2).add (.bool false) 4).add (.int .i64 m) 2).add (.int .i64 s) 2).add (.int .i64 m) 2).add (.int .i64 s) 2
    simp only [World.size_alloc] at S0'
    rw [hW0] at S0' ⊢
    clear hW0
    obtain ⟨h, hh⟩ : ∃ h, w.heap.size = h := ⟨_, rfl⟩
    simp only [hh] at S0' hsz ⊢
    have S0 : St w (BN h m s A false) [] [] W0 := S0'.perm (by simp [BN])
    clear S0'
    generalize hC : startI A = c at *
    refine wpIn_rangeFunc_ownF rfl (by omega) (gf := 22) (lb := #[.pointer (some ⟨h + 1 + 1 + 1 + 1 + 1, 0, none⟩), .pointer (some ⟨h + 1 + 1 + 1 + 1, 0, none⟩)]) rfl trivial (enters_of Try.func22 (by kernel_rfl) rfl)
      (starts_stops _ _ m s W0 (S0.box (h + 1 + 1 + 1 + 1, 2, .int .i64 m) (by simp [BN])) (S0.box (h + 1 + 1 + 1 + 1 + 1, 2, .int .i64 s) (by simp [BN]))) Kb.trans (fun W l o o' _ h1 h2 _ => Kb.putObj W l o o' h1 h2) (Below.refl _ _) (fun _ => rfl)
      (fun pre W => St w (BN h m s A (pre.any (fun y => y == c))) [] [] W)
      (fun _ _ _ => False)
      (St.own _ _ (by omega) (by simp))
      (fun _ => ownFrom_pure _ _)
      S0
      _ (fun l x W K hK => by gi_wp2; exact hK) ?body ?done ?stop
    case body =>
      rintro l pre x W hS hlen
      have c9 := hS.box (h + 1, 4, .bool (pre.any (fun y => y == c))) (by simp [BN])
      have c8 := hS.box (h, 2, .int .i64 A) (by simp [BN])
      have k9 := c9.cell
      have k8 := c8.cell
      have f9 := c9.frozen
      have HSn := hide (any_snoc pre x c)
      have SS := hide hS
      clear c9 c8 hS S0
      generalize pre.any (fun y => y == c) = b at *
      cases b
      · gi_wp2
        refine ⟨trivial, (CallsIn.inRound l (callsIn_wide.2 (start_any _ _))).mono ?_⟩
        rintro e w' ⟨rfl, hw⟩; replace hw := hw.symm; subst hw
        rw [hC]
        gi_wp2
        refine ⟨KeepsOthers.setCell _ _ _, (Kb.refl _ W).set (by omega) _, ?_⟩
        show St w (BN h m s A ((pre ++ [x]).any (fun y => y == c))) [] [] _
        rw [unhide HSn]
        exact (unhide SS).set (bn_ne h m s A) (by decide) _
      · gi_wp2
        refine ⟨trivial, ?_⟩
        gi_wp2
        refine ⟨KeepsOthers.setCell _ _ _, (Kb.refl _ W).set (by omega) _, ?_⟩
        show St w (BN h m s A ((pre ++ [x]).any (fun y => y == c))) [] [] _
        rw [unhide HSn]
        exact (unhide SS).set (bn_ne h m s A) (by decide) _
    case done =>
      rintro D1 ys W hD rfl hS hK
      have Q := unhide HQ
      rw [Q] at hS
      clear Q S0
      have S1 := hide (hS.give hK (by omega))
      have hH := hS.box
      clear hS hK
      refine ‹∀ (a : Act) (w : World), Code.wpIn Fence.wide 11 Try.prog _ _ a w → _› _ _ ?_
      refine wpIn_seq_k (fun K hK => ?_)
      refine wpIn_wide.2 ?_
      obtain ⟨SC, hSC⟩ : ∃ SC : World → Prop, SC = St w (BN h m s A (lateI A m && !lateI A s)) [] [D1] := ⟨_, rfl⟩
      have i1 : ∀ V, SC V → St w (BN h m s A (lateI A m && !lateI A s)) [] [D1] V := fun V k => by rw [hSC] at k; exact k
      have i2 : ∀ V, St w (BN h m s A (lateI A m && !lateI A s)) [] [D1] V → SC V := fun V k => by rw [hSC]; exact k
      clear hSC
      have st : SC W.drew := i2 _ (unhide S1).drew
      have q9 : ∀ p : SW SC, p.w.cell? ⟨h + 1, 0, none⟩ = some (.bool (lateI A m && !lateI A s)) := fun p => ((i1 _ p.ok).box (h + 1, 4, .bool (lateI A m && !lateI A s)) (by simp [BN])).cell
      have q8 : ∀ p : SW SC, p.w.cell? ⟨h, 0, none⟩ = some (.int .i64 A) := fun p => ((i1 _ p.ok).box (h, 2, .int .i64 A) (by simp [BN])).cell
      have c17 := hide (show ∀ (a b : Int) (p : SW SC), Calls Try.prog 17 #[.int .i64 a, .int .i64 b] p.w fun e w'' => e = .returned (.bool (lateI a b)) ∧ ∃ q : SW SC, w'' = q.w from fun a b p => (late_any a b p.w).mono fun e w'' ⟨he, hw⟩ => ⟨he, p, hw⟩)
      have c19 := hide (show ∀ (p : SW SC), Calls Try.prog 19 #[] p.w fun e w'' => e = .returned (.bool true) ∧ ∃ q : SW SC, w'' = q.w from fun p => (wakes_any p.w).mono fun e w'' ⟨he, hb⟩ => ⟨he, ⟨w'', i2 _ ((i1 _ p.ok).call hb)⟩, rfl⟩)
      have ne : Nonempty (SW SC) := ⟨⟨_, st⟩⟩
      have I1 := hide i1
      clear S1 hH i1 i2
      have c17a := hide (unhide c17 A m)
      have c17b := hide (unhide c17 A s)
      clear c17
      generalize lateI A m = x1 at *
      generalize lateI A s = x2 at *
      dsimp only
      refine wp_region_sw (St := SC) (by kernel_rfl) (by kernel_rfl) st ?_
      cases x1
      · repeat (go_big_quiet_step (first | (go_at_call 17; exact unhide c17a _) | (go_at_call 19; exact unhide c19 _)))
        refine wpQuiet_nil ?_
        rintro W6 ⟨⟨W6', ok⟩, rfl⟩
        refine hK _ _ ?_
        gi_wp2
        have T1 := unhide I1 _ ok
        refine ⟨by simp, .inl ⟨_, _, rfl, run_takeDeferred (T1.mark D1 List.mem_cons_self), ?_⟩⟩
        exact ⟨.bool true, by simp [results, Try.f6, go_sem], rfl, (T1.take (by simp)).below⟩
      · repeat (go_big_quiet_step (first | (go_at_call 17; exact unhide c17a _) | (go_at_call 17; exact unhide c17b _) | (go_at_call 19; exact unhide c19 _)))
        all_goals cases x2
        all_goals (repeat (go_big_quiet_step (first | (go_at_call 19; exact unhide c19 _))))
        all_goals refine wpQuiet_nil ?_
        all_goals rintro W6 ⟨⟨W6', ok⟩, rfl⟩
        all_goals refine hK _ _ ?_
        all_goals gi_wp2
        all_goals have T1 := unhide I1 _ ok
        all_goals refine ⟨by simp, .inl ⟨_, _, rfl, run_takeDeferred (T1.mark D1 List.mem_cons_self), ?_⟩⟩
        all_goals exact ⟨.bool true, by simp [results, Try.f6, go_sem], rfl, (T1.take (by simp)).below⟩
    case stop =>
      rintro D c pre W _ _ h _
      exact h.elim
  · have e4 : m - d = A := by have := hA.2 h0; omega
    have e5 := Go.IntWalk.i64_in A (by have := unhide HA; omega)
    clear hm hs hA
    refine callsIn_of_wp_marks Try.func6 rfl trivial ?_ rfl
    simp only [Try.ntmps6, List.size_toArray, List.length_cons, List.length_nil, Nat.reduceAdd, Nat.reduceSub, Array.replicate_succ, Array.replicate_zero, List.push_toArray, List.append_toArray, List.nil_append, List.cons_append]
    gi_wp2
    refine ⟨trivial, (callsIn_wide.2 (right_any _ _)).mono ?_⟩
    rintro e w' ⟨rfl, hw⟩; replace hw := hw.symm; subst hw
    rw [unhide r1]
    gi_wp2
    refine ⟨trivial, (callsIn_wide.2 (right_any _ _)).mono ?_⟩
    rintro e w' ⟨rfl, hw⟩; replace hw := hw.symm; subst hw
    rw [unhide r2]
    gi_wp2
    refine ⟨trivial, (callsIn_wide.2 (starts_any _ _ _)).mono ?_⟩
    rintro e w2 ⟨rfl, rfl⟩
    gi_wp2
    refine ⟨trivial, (callsIn_wide.2 (starts_any _ _ _)).mono ?_⟩
    rintro e w2 ⟨rfl, rfl⟩
    gi_wp2
    obtain ⟨W0, hW0⟩ : ∃ W0, ((((((w.alloc (Obj.cells #[Value.int IntKind.i64 A] 2)).alloc (Obj.cells #[Value.bool false] 4)).alloc (Obj.cells #[Value.int IntKind.i64 m] 2)).alloc (Obj.cells #[Value.int IntKind.i64 s] 2)).alloc (Obj.cells #[Value.int IntKind.i64 m] 2)).alloc (Obj.cells #[Value.int IntKind.i64 s] 2)) = W0 := ⟨_, rfl⟩
    have hsz : W0.heap.size = w.heap.size + 6 := by rw [← hW0]; simp
    have S0' := ((((((St.start w).add (.int .i64 A) 2).add (.bool false) 4).add (.int .i64 m) 2).add (.int .i64 s) 2).add (.int .i64 m) 2).add (.int .i64 s) 2
    simp only [World.size_alloc] at S0'
    rw [hW0] at S0' ⊢
    clear hW0
    obtain ⟨h, hh⟩ : ∃ h, w.heap.size = h := ⟨_, rfl⟩
    simp only [hh] at S0' hsz ⊢
    have S0 : St w (BN h m s A false) [] [] W0 := S0'.perm (by simp [BN])
    clear S0'
    generalize hC : startI A = c at *
    refine wpIn_rangeFunc_ownF rfl (by omega) (gf := 22) (lb := #[.pointer (some ⟨h + 1 + 1 + 1 + 1 + 1, 0, none⟩), .pointer (some ⟨h + 1 + 1 + 1 + 1, 0, none⟩)]) rfl trivial (enters_of Try.func22 (by kernel_rfl) rfl)
      (starts_stops _ _ m s W0 (S0.box (h + 1 + 1 + 1 + 1, 2, .int .i64 m) (by simp [BN])) (S0.box (h + 1 + 1 + 1 + 1 + 1, 2, .int .i64 s) (by simp [BN]))) Kb.trans (fun W l o o' _ h1 h2 _ => Kb.putObj W l o o' h1 h2) (Below.refl _ _) (fun _ => rfl)
      (fun pre W => St w (BN h m s A (pre.any (fun y => y == c))) [] [] W)
      (fun _ _ _ => False)
      (St.own _ _ (by omega) (by simp))
      (fun _ => ownFrom_pure _ _)
      S0
      _ (fun l x W K hK => by gi_wp2; exact hK) ?body ?done ?stop
    case body =>
      rintro l pre x W hS hlen
      have c9 := hS.box (h + 1, 4, .bool (pre.any (fun y => y == c))) (by simp [BN])
      have c8 := hS.box (h, 2, .int .i64 A) (by simp [BN])
      have k9 := c9.cell
      have k8 := c8.cell
      have f9 := c9.frozen
      have HSn := hide (any_snoc pre x c)
      have SS := hide hS
      clear c9 c8 hS S0
      generalize pre.any (fun y => y == c) = b at *
      cases b
      · gi_wp2
        refine ⟨trivial, (CallsIn.inRound l (callsIn_wide.2 (start_any _ _))).mono ?_⟩
        rintro e w' ⟨rfl, hw⟩; replace hw := hw.symm; subst hw
        rw [hC]
        gi_wp2
        refine ⟨KeepsOthers.setCell _ _ _, (Kb.refl _ W).set (by omega) _, ?_⟩
        show St w (BN h m s A ((pre ++ [x]).any (fun y => y == c))) [] [] _
        rw [unhide HSn]
        exact (unhide SS).set (bn_ne h m s A) (by decide) _
      · gi_wp2
        refine ⟨trivial, ?_⟩
        gi_wp2
        refine ⟨KeepsOthers.setCell _ _ _, (Kb.refl _ W).set (by omega) _, ?_⟩
        show St w (BN h m s A ((pre ++ [x]).any (fun y => y == c))) [] [] _
        rw [unhide HSn]
        exact (unhide SS).set (bn_ne h m s A) (by decide) _
    case done =>
      rintro D1 ys W hD rfl hS hK
      have Q := unhide HQ
      rw [Q] at hS
      clear Q S0
      have S1 := hide (hS.give hK (by omega))
      have hH := hS.box
      clear hS hK
      refine ‹∀ (a : Act) (w : World), Code.wpIn Fence.wide 11 Try.prog _ _ a w → _› _ _ ?_
      refine wpIn_seq_k (fun K hK => ?_)
      refine wpIn_wide.2 ?_
      obtain ⟨SC, hSC⟩ : ∃ SC : World → Prop, SC = St w (BN h m s A (lateI A m && !lateI A s)) [] [D1] := ⟨_, rfl⟩
      have i1 : ∀ V, SC V → St w (BN h m s A (lateI A m && !lateI A s)) [] [D1] V := fun V k => by rw [hSC] at k; exact k
      have i2 : ∀ V, St w (BN h m s A (lateI A m && !lateI A s)) [] [D1] V → SC V := fun V k => by rw [hSC]; exact k
      clear hSC
      have st : SC W.drew := i2 _ (unhide S1).drew
      have q9 : ∀ p : SW SC, p.w.cell? ⟨h + 1, 0, none⟩ = some (.bool (lateI A m && !lateI A s)) := fun p => ((i1 _ p.ok).box (h + 1, 4, .bool (lateI A m && !lateI A s)) (by simp [BN])).cell
      have q8 : ∀ p : SW SC, p.w.cell? ⟨h, 0, none⟩ = some (.int .i64 A) := fun p => ((i1 _ p.ok).box (h, 2, .int .i64 A) (by simp [BN])).cell
      have c17 := hide (show ∀ (a b : Int) (p : SW SC), Calls Try.prog 17 #[.int .i64 a, .int .i64 b] p.w fun e w'' => e = .returned (.bool (lateI a b)) ∧ ∃ q : SW SC, w'' = q.w from fun a b p => (late_any a b p.w).mono fun e w'' ⟨he, hw⟩ => ⟨he, p, hw⟩)
      have c19 := hide (show ∀ (p : SW SC), Calls Try.prog 19 #[] p.w fun e w'' => e = .returned (.bool true) ∧ ∃ q : SW SC, w'' = q.w from fun p => (wakes_any p.w).mono fun e w'' ⟨he, hb⟩ => ⟨he, ⟨w'', i2 _ ((i1 _ p.ok).call hb)⟩, rfl⟩)
      have ne : Nonempty (SW SC) := ⟨⟨_, st⟩⟩
      have I1 := hide i1
      clear S1 hH i1 i2
      have c17a := hide (unhide c17 A m)
      have c17b := hide (unhide c17 A s)
      clear c17
      generalize lateI A m = x1 at *
      generalize lateI A s = x2 at *
      dsimp only
      refine wp_region_sw (St := SC) (by kernel_rfl) (by kernel_rfl) st ?_
      cases x1
      · repeat (go_big_quiet_step (first | (go_at_call 17; exact unhide c17a _) | (go_at_call 19; exact unhide c19 _)))
        refine wpQuiet_nil ?_
        rintro W6 ⟨⟨W6', ok⟩, rfl⟩
        refine hK _ _ ?_
        gi_wp2
        have T1 := unhide I1 _ ok
        refine ⟨by simp, .inl ⟨_, _, rfl, run_takeDeferred (T1.mark D1 List.mem_cons_self), ?_⟩⟩
        exact ⟨.bool true, by simp [results, Try.f6, go_sem], rfl, (T1.take (by simp)).below⟩
      · repeat (go_big_quiet_step (first | (go_at_call 17; exact unhide c17a _) | (go_at_call 17; exact unhide c17b _) | (go_at_call 19; exact unhide c19 _)))
        all_goals cases x2
        all_goals (repeat (go_big_quiet_step (first | (go_at_call 19; exact unhide c19 _))))
        all_goals refine wpQuiet_nil ?_
        all_goals rintro W6 ⟨⟨W6', ok⟩, rfl⟩
        all_goals refine hK _ _ ?_
        all_goals gi_wp2
        all_goals have T1 := unhide I1 _ ok
        all_goals refine ⟨by simp, .inl ⟨_, _, rfl, run_takeDeferred (T1.mark D1 List.mem_cons_self), ?_⟩⟩
        all_goals exact ⟨.bool true, by simp [results, Try.f6, go_sem], rfl, (T1.take (by simp)).below⟩
    case stop =>
      rintro D c pre W _ _ h _
      exact h.elim

set_option maxRecDepth 100000 in
set_option maxHeartbeats 2000000 in
theorem since_in (m s e : Int) (w : World) : CallsIn Fence.wide 11 Try.prog 6 #[.int .i64 m, .int .i64 s, .int .i64 e] w fun e W' => e = .returned (.bool true) ∧ Below w.heap.size w W' := by
  by_cases hm : 0 ≤ m ∧ m ≤ 1099511627776
  · by_cases hs : 0 ≤ s ∧ s ≤ 1099511627776
    · have r1 := hide (rightI_iff.2 hm)
      have r2 := hide (rightI_iff.2 hs)
      have e1 := Go.IntWalk.i64_in (m - s) (by omega)
      by_cases hb : m < s
      · clear hm hs
        refine callsIn_of_wp_marks Try.func6 rfl trivial ?_ rfl
        simp only [Try.ntmps6, List.size_toArray, List.length_cons, List.length_nil, Nat.reduceAdd, Nat.reduceSub, Array.replicate_succ, Array.replicate_zero, List.push_toArray, List.append_toArray, List.nil_append, List.cons_append]
        gi_wp2
        refine ⟨trivial, (callsIn_wide.2 (right_any _ _)).mono ?_⟩
        rintro e w' ⟨rfl, hw⟩; replace hw := hw.symm; subst hw
        rw [unhide r1]
        gi_wp2
        refine ⟨trivial, (callsIn_wide.2 (right_any _ _)).mono ?_⟩
        rintro e w' ⟨rfl, hw⟩; replace hw := hw.symm; subst hw
        rw [unhide r2]
        gi_wp2
        refine ⟨trivial, (callsIn_wide.2 (wakes_any _)).mono ?_⟩
        rintro e w' ⟨rfl, hB⟩
        gi_wp2
        exact ⟨.bool true, by simp [results, Try.f6, go_sem], rfl, hB⟩
      · by_cases hd : 5000 < m - s
        · clear hm hs
          refine callsIn_of_wp_marks Try.func6 rfl trivial ?_ rfl
          simp only [Try.ntmps6, List.size_toArray, List.length_cons, List.length_nil, Nat.reduceAdd, Nat.reduceSub, Array.replicate_succ, Array.replicate_zero, List.push_toArray, List.append_toArray, List.nil_append, List.cons_append]
          gi_wp2
          refine ⟨trivial, (callsIn_wide.2 (right_any _ _)).mono ?_⟩
          rintro e w' ⟨rfl, hw⟩; replace hw := hw.symm; subst hw
          rw [unhide r1]
          gi_wp2
          refine ⟨trivial, (callsIn_wide.2 (right_any _ _)).mono ?_⟩
          rintro e w' ⟨rfl, hw⟩; replace hw := hw.symm; subst hw
          rw [unhide r2]
          gi_wp2
          refine ⟨trivial, (callsIn_wide.2 (wakes_any _)).mono ?_⟩
          rintro e w' ⟨rfl, hB⟩
          gi_wp2
          exact ⟨.bool true, by simp [results, Try.f6, go_sem], rfl, hB⟩
        · obtain ⟨d, hr⟩ : ∃ d, Int.tmod e 6000 = d := ⟨_, rfl⟩
          have d1 : d < 6000 := by rw [← hr]; exact Int.tmod_lt_of_pos _ (by omega)
          have d2 : -6000 < d := by rw [← hr]; exact Int.lt_tmod_of_pos _ (by omega)
          have e2 := Go.IntWalk.i64_in d (by omega)
          by_cases h0 : d < 0
          · by_cases hA0 : m + d < 0
            · have e3 := Go.IntWalk.i64_in (-d) (by omega)
              have e4 : m - -d = m + d := by omega
              have e5 := Go.IntWalk.i64_in (m + d) (by omega)
              have hsz : w.heap.size ≤ (w.alloc (.cells #[.int .i64 (m + d)] 2)).heap.size := by simp
              have HZ := hide (((Below.refl _ w).alloc (Nat.le_refl _) (.cells #[.int .i64 (m + d)] 2)))
              clear hm hs
              refine callsIn_of_wp_marks Try.func6 rfl trivial ?_ rfl
              simp only [Try.ntmps6, List.size_toArray, List.length_cons, List.length_nil, Nat.reduceAdd, Nat.reduceSub, Array.replicate_succ, Array.replicate_zero, List.push_toArray, List.append_toArray, List.nil_append, List.cons_append]
              gi_wp2
              refine ⟨trivial, (callsIn_wide.2 (right_any _ _)).mono ?_⟩
              rintro e w' ⟨rfl, hw⟩; replace hw := hw.symm; subst hw
              rw [unhide r1]
              gi_wp2
              refine ⟨trivial, (callsIn_wide.2 (right_any _ _)).mono ?_⟩
              rintro e w' ⟨rfl, hw⟩; replace hw := hw.symm; subst hw
              rw [unhide r2]
              gi_wp2
              refine ⟨trivial, (callsIn_wide.2 (wakes_any _)).mono ?_⟩
              rintro e w' ⟨rfl, hB⟩
              gi_wp2
              exact ⟨.bool true, by simp [results, Try.f6, go_sem], rfl, (unhide HZ).trans (hB.mono hsz)⟩
            · exact since_main m s e d (m + d) w hm hs hb hd hr ⟨fun _ => rfl, fun h => (h h0).elim⟩ hA0
          · by_cases hA0 : m - d < 0
            · have e5 := Go.IntWalk.i64_in (m - d) (by omega)
              have hsz : w.heap.size ≤ (w.alloc (.cells #[.int .i64 (m - d)] 2)).heap.size := by simp
              have HZ := hide (((Below.refl _ w).alloc (Nat.le_refl _) (.cells #[.int .i64 (m - d)] 2)))
              clear hm hs
              refine callsIn_of_wp_marks Try.func6 rfl trivial ?_ rfl
              simp only [Try.ntmps6, List.size_toArray, List.length_cons, List.length_nil, Nat.reduceAdd, Nat.reduceSub, Array.replicate_succ, Array.replicate_zero, List.push_toArray, List.append_toArray, List.nil_append, List.cons_append]
              gi_wp2
              refine ⟨trivial, (callsIn_wide.2 (right_any _ _)).mono ?_⟩
              rintro e w' ⟨rfl, hw⟩; replace hw := hw.symm; subst hw
              rw [unhide r1]
              gi_wp2
              refine ⟨trivial, (callsIn_wide.2 (right_any _ _)).mono ?_⟩
              rintro e w' ⟨rfl, hw⟩; replace hw := hw.symm; subst hw
              rw [unhide r2]
              gi_wp2
              refine ⟨trivial, (callsIn_wide.2 (wakes_any _)).mono ?_⟩
              rintro e w' ⟨rfl, hB⟩
              gi_wp2
              exact ⟨.bool true, by simp [results, Try.f6, go_sem], rfl, (unhide HZ).trans (hB.mono hsz)⟩
            · exact since_main m s e d (m - d) w hm hs hb hd hr ⟨fun h => (h0 h).elim, fun _ => rfl⟩ hA0
    · have r1 := hide (rightI_iff.2 hm)
      have r2 : Hid (rightI s = false) := hide (by unfold rightI; exact decide_eq_false hs)
      clear hm hs
      refine callsIn_of_wp_marks Try.func6 rfl trivial ?_ rfl
      simp only [Try.ntmps6, List.size_toArray, List.length_cons, List.length_nil, Nat.reduceAdd, Nat.reduceSub, Array.replicate_succ, Array.replicate_zero, List.push_toArray, List.append_toArray, List.nil_append, List.cons_append]
      gi_wp2
      refine ⟨trivial, (callsIn_wide.2 (right_any _ _)).mono ?_⟩
      rintro e w' ⟨rfl, hw⟩; replace hw := hw.symm; subst hw
      rw [unhide r1]
      gi_wp2
      refine ⟨trivial, (callsIn_wide.2 (right_any _ _)).mono ?_⟩
      rintro e w' ⟨rfl, hw⟩; replace hw := hw.symm; subst hw
      rw [unhide r2]
      gi_wp2
      refine ⟨trivial, (callsIn_wide.2 (wakes_any _)).mono ?_⟩
      rintro e w' ⟨rfl, hB⟩
      gi_wp2
      exact ⟨.bool true, by simp [results, Try.f6, go_sem], rfl, hB⟩
  · have r1 : Hid (rightI m = false) := hide (by unfold rightI; exact decide_eq_false hm)
    clear hm
    refine callsIn_of_wp_marks Try.func6 rfl trivial ?_ rfl
    simp only [Try.ntmps6, List.size_toArray, List.length_cons, List.length_nil, Nat.reduceAdd, Nat.reduceSub, Array.replicate_succ, Array.replicate_zero, List.push_toArray, List.append_toArray, List.nil_append, List.cons_append]
    gi_wp2
    refine ⟨trivial, (callsIn_wide.2 (right_any _ _)).mono ?_⟩
    rintro e w' ⟨rfl, hw⟩; replace hw := hw.symm; subst hw
    rw [unhide r1]
    gi_wp2
    refine ⟨trivial, ?_⟩
    gi_wp2
    refine ⟨trivial, (callsIn_wide.2 (wakes_any _)).mono ?_⟩
    rintro e w' ⟨rfl, hB⟩
    gi_wp2
    exact ⟨.bool true, by simp [results, Try.f6, go_sem], rfl, hB⟩

theorem sincelaw_any (m s e : Int) (w : World) (_ : i64 m) (_ : i64 s) (_ : i64 e) : Calls Try.prog 6 #[.int .i64 m, .int .i64 s, .int .i64 e] w fun e W' => e = .returned (.bool true) ∧ Below w.heap.size w W' := callsIn_wide.1 (since_in m s e w)
end Go.Proofs.Ytjmbiljeincocaa

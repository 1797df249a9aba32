/- What a link's channel does: a mark goes in if it fits, and comes out. No conditions. -/
import Derived.Test.YtceepejndomfaaaNet
import Derived.Conc.LoneSelect
namespace Go.Proofs.Ytceepejndomfaaa
open Go.RowKit Go.Conc

theorem isPlace_any (n : Int) (w : World) : Calls Try.prog 21 #[.int .i64 n] w fun e w' => e = .returned (.bool (decide (0 ≤ n ∧ n < 9))) ∧ w' = w := by
  by_cases h0 : 0 ≤ n
  · by_cases h1 : n < 9
    · have e : decide (0 ≤ n ∧ n < 9) = true := decide_eq_true ⟨h0, h1⟩
      rw [e]
      go_enter Try.func21, Try.ntmps21
      go_wp2
      go_ret
      exact ⟨rfl, rfl⟩
    · have e : decide (0 ≤ n ∧ n < 9) = false := decide_eq_false (by omega)
      rw [e]
      go_enter Try.func21, Try.ntmps21
      go_wp2
      go_ret
      exact ⟨rfl, rfl⟩
  · have e : decide (0 ≤ n ∧ n < 9) = false := decide_eq_false (by omega)
    rw [e]
    go_enter Try.func21, Try.ntmps21
    go_wp2
    go_ret
    exact ⟨rfl, rfl⟩

theorem isPlace_yes (n : Int) (w : World) (h : 0 ≤ n ∧ n < 9) : Calls Try.prog 21 #[.int .i64 n] w fun e w' => e = .returned (.bool true) ∧ w' = w := by
  have := isPlace_any n w
  rwa [decide_eq_true h] at this
theorem isPlace_no (n : Int) (w : World) (h : ¬ (0 ≤ n ∧ n < 9)) : Calls Try.prog 21 #[.int .i64 n] w fun e w' => e = .returned (.bool false) ∧ w' = w := by
  have := isPlace_any n w
  rwa [decide_eq_false h] at this
theorem zero63 (w : World) : (zeroValue 63).run Try.prog w = .ok (.agg #[]) w := by
  have h : (Try.prog.info? 63).map (fun i => (i.zero, i.size, i.bytes)) = some (some (.agg #[]), 0, 0) := by kernel_rfl
  obtain ⟨i0, hi, hz0, hz1, hz2⟩ := info_parts h
  simp [zeroValue, typeInfo, hi, hz0]
theorem mk64 (w : World) : (Instr.makeChan 47 (.int .i64 64)).run Try.prog w = .ok (.chan (some w.heap.size)) (w.alloc (.chan 64 #[] false 0 0 false)) := by
  have h : (Try.prog.info? 63).map (fun i => (i.zero, i.size, i.bytes)) = some (some (.agg #[]), 0, 0) := by kernel_rfl
  obtain ⟨i0, hi, hz0, hz1, hz2⟩ := info_parts h
  simpa using run_makeChan (P := Try.prog) (w := w) Try.underlying47 hi .i64 64 (by omega) (by rw [hz2]; omega)

set_option maxHeartbeats 1000000 in
theorem leave_any {w : World} {p : Nat} {ch : Nat → Option Nat} {n : Nat → Nat} (h : RoomAt w p ch n) (f t : Nat) (hf : f < 9) (ht : t < 9) (h1 : 0 < n (f * 9 + t)) :
    Calls Try.prog 25 #[.pointer (some ⟨p, 0, none⟩), .int .i64 (f : Int), .int .i64 (t : Int)] w fun e w' => e = .returned (.tuple #[]) ∧ RoomAt w' p ch (down n (f * 9 + t)) ∧ Moved (fun k => ch (f * 9 + t) = some k) w w' := by
  have hi : f * 9 + t < 81 := by omega
  have hc := h.cell (f * 9 + t) hi
  obtain ⟨k, hk⟩ : ∃ k, ch (f * 9 + t) = some k := by
    cases e : ch (f * 9 + t) with
    | none => have := h.none_ _ hi e; omega
    | some k => exact ⟨k, rfl⟩
  obtain ⟨buf, s, r, hheap, hsz⟩ := h.chan _ k hi hk
  rw [hk, show 1 + (f * 9 + t) = 1 + f * 9 + t by omega] at hc
  have H := hide h
  have Hheap := hide hheap
  have Hk := hide hk
  clear h hheap hk
  refine calls_of_wpN Try.func25 rfl ?_
  simp only [Try.ntmps25, List.size_toArray, List.length_cons, List.length_nil, Nat.reduceAdd, Nat.reduceSub, Array.replicate_succ,
     Array.replicate_zero, List.push_toArray, List.append_toArray, List.nil_append, List.cons_append]
  refine wpN_seq_k fun K hK => ?_
  have HK := hide hK
  clear hK
  go_wp2
  refine unhide HK _ _ ?_
  clear HK K
  refine wpN_seq_comm (.tuple #[goInt 0, .bool true, buf.getD 0 undef]) (w.setChan k 64 (buf.extract 1 buf.size) false s (r + 1) false) (fun b hb kk cs => ?_) fun K hK => ?_
  · exact step_lone_select_recv_buf (z := .agg #[]) (stepG_comm (cases := #[rcase k (.agg #[])]) (blocking := false) (shape := .select) (w' := w) rfl rfl hb (by simp [go_sem, execOp, rcase, Act.eval])) (unhide Hheap) (by omega)
  · have HK := hide hK
    clear hK
    simp only [Act.put, goInt]
    go_wp2
    refine unhide HK _ _ ?_
    clear HK K
    go_wp2
    go_end0
    refine ⟨rfl, (unhide H).mark hi (unhide Hk) _ (fun j hj => by simp [down, hj]) ?_ _ _, ?_⟩
    · simp [down]; omega
    · exact (Moved.refl (fun k => ch (f * 9 + t) = some k) w).setChan (.inl (unhide Hk)) _ _ _ _ _ _

theorem equalIn47 (w : World) (d : Nat) (a b : Option Nat) : (Op.equalIn (d + 1) 47 (.chan a) (.chan b)).run Try.prog w = .ok (a == b) w := by simp [Op.equalIn, run_underlying Try.underlying47]
theorem eql47 (w : World) (a b : Option Nat) : (binOp .eql 47 (.chan a) (.chan b)).run Try.prog w = .ok (.bool (a == b)) w := by
  simp only [binOp]
  simp [Op.equal, Op.maxDepth, equalIn47 w 9999 a b]
/-- What enter does: a mark goes in, or there is no room. -/
def Enters (w : World) (p : Nat) (ch : Nat → Option Nat) (n : Nat → Nat) (i : Nat) (e : Ending) (w' : World) : Prop :=
  (n i < 64 ∧ e = .returned (.bool true) ∧ w'.cell? ⟨p, 0, none⟩ = w.cell? ⟨p, 0, none⟩ ∧ w'.frozen? ⟨p, 0, none⟩ = w.frozen? ⟨p, 0, none⟩ ∧ Moved (rfoot p ch) w w' ∧
    ∃ ch', RoomAt w' p ch' (up n i) ∧ ∀ j k, j < 81 → ch' j = some k → ch j = some k ∨ w.heap.size ≤ k) ∨
  (64 ≤ n i ∧ e = .returned (.bool false) ∧ w' = w)

set_option maxHeartbeats 1000000 in
theorem enter_some {w : World} {p : Nat} {ch : Nat → Option Nat} {n : Nat → Nat} (h : RoomAt w p ch n) (f t : Nat) (hf : f < 9) (ht : t < 9) (k : Nat) (hk : ch (f * 9 + t) = some k) :
    Calls Try.prog 22 #[.pointer (some ⟨p, 0, none⟩), .int .i64 (f : Int), .int .i64 (t : Int)] w (Enters w p ch n (f * 9 + t)) := by
  have hi : f * 9 + t < 81 := by omega
  have hc := h.cell (f * 9 + t) hi
  obtain ⟨buf, s, r, hheap, hsz⟩ := h.chan _ k hi hk
  rw [hk, show 1 + (f * 9 + t) = 1 + f * 9 + t by omega] at hc
  have q47 : ∀ (w : World), (binOp .eql 47 (.chan (some k)) (.chan none)).run Try.prog w = .ok (.bool false) w := fun w => eql47 w _ _
  have H := hide h
  have Hheap := hide hheap
  have Hk := hide hk
  clear h hheap hk
  refine calls_of_wpN Try.func22 rfl ?_
  simp only [Try.ntmps22, List.size_toArray, List.length_cons, List.length_nil, Nat.reduceAdd, Nat.reduceSub, Array.replicate_succ,
     Array.replicate_zero, List.push_toArray, List.append_toArray, List.nil_append, List.cons_append]
  refine wpN_seq_k fun K hK => ?_
  have HK := hide hK
  clear hK
  go_wp2
  refine unhide HK _ _ ?_
  clear HK K
  refine wpN_seq_k fun K hK => ?_
  have HK := hide hK
  clear hK
  go_wp2
  refine unhide HK _ _ ?_
  clear HK K
  refine wpN_seq_k fun K hK => ?_
  have HK := hide hK
  clear hK
  go_wp2
  refine unhide HK _ _ ?_
  clear HK K
  by_cases hroom : n (f * 9 + t) < 64
  · refine wpN_seq_comm (.tuple #[goInt 0, .bool false]) (w.setChan k 64 (buf.push (.agg #[])) false (s + 1) r false) (fun b hb kk cs => ?_) fun K hK => ?_
    · exact step_lone_select_send_room (v := .agg #[]) (z' := .agg #[]) (stepG_comm (cases := #[scase k (.agg #[]) (.agg #[])]) (blocking := false) (shape := .select) (w' := w) rfl rfl hb (by simp [go_sem, execOp, scase, Act.eval])) (unhide Hheap) (by omega)
    · have HK := hide hK
      clear hK
      simp only [Act.put, goInt]
      go_wp2
      refine unhide HK _ _ ?_
      clear HK K
      go_wp2
      go_ret
      have hkp : k ≠ p := cell_no_chan ((unhide H).cell 0 (by omega)) (unhide Hheap)
      have hp : p < w.heap.size := (unhide H).lt p (.inl rfl)
      have m : Moved (fun j => j = k) w (w.setChan k 64 (buf.push (.agg #[])) false (s + 1) r false) := (Moved.refl (fun j => j = k) w).setChan (.inl rfl) _ _ _ _ _ _
      refine .inl ⟨hroom, rfl, m.cell (p := ⟨p, 0, none⟩) hp (Ne.symm hkp), m.frozen (p := ⟨p, 0, none⟩) hp (Ne.symm hkp), m.mono fun j e => .inl (.inr ⟨_, hi, e ▸ unhide Hk⟩), ch, (unhide H).mark hi (unhide Hk) _ (fun j hj => by simp [up, hj]) ?_ _ _, fun j k _ e => .inl e⟩
      simp [up]; omega
  · refine wpN_seq_comm (.tuple #[goInt (-1), .bool false]) w (fun b hb kk cs => ?_) fun K hK => ?_
    · exact step_lone_select_send_full (v := .agg #[]) (z' := .agg #[]) (stepG_comm (cases := #[scase k (.agg #[]) (.agg #[])]) (blocking := false) (shape := .select) (w' := w) rfl rfl hb (by simp [go_sem, execOp, scase, Act.eval])) (unhide Hheap) (by omega)
    · have HK := hide hK
      clear hK
      simp only [Act.put, goInt]
      go_wp2
      refine unhide HK _ _ ?_
      clear HK K
      go_wp2
      go_ret
      exact .inr ⟨by omega, rfl, rfl⟩

set_option maxHeartbeats 1000000 in
theorem enter_none {w : World} {p : Nat} {ch : Nat → Option Nat} {n : Nat → Nat} (h : RoomAt w p ch n) (f t : Nat) (hf : f < 9) (ht : t < 9) (hk : ch (f * 9 + t) = none) :
    Calls Try.prog 22 #[.pointer (some ⟨p, 0, none⟩), .int .i64 (f : Int), .int .i64 (t : Int)] w (Enters w p ch n (f * 9 + t)) := by
  have hi : f * 9 + t < 81 := by omega
  have hc := h.cell (f * 9 + t) hi
  have hfz := h.free (f * 9 + t) hi
  have hp : p < w.heap.size := h.lt p (.inl rfl)
  rw [hk, show 1 + (f * 9 + t) = 1 + f * 9 + t by omega] at hc
  rw [show 1 + (f * 9 + t) = 1 + f * 9 + t by omega] at hfz
  have q47 : ∀ (w : World), (binOp .eql 47 (.chan none) (.chan none)).run Try.prog w = .ok (.bool true) w := fun w => eql47 w _ _
  have hmc := mk64
  obtain ⟨w1, hw1⟩ : ∃ w1, w1 = ((w.setCell ⟨p, 1 + f * 9 + t, none⟩ (.chan (some w.heap.size))).alloc (.chan 64 #[] false 0 0 false)).drew := ⟨_, rfl⟩
  have ew : w1 = ((w.alloc (.chan 64 #[] false 0 0 false)).setCell ⟨p, 1 + (f * 9 + t), none⟩ (.chan (some w.heap.size))).drew := by
    rw [hw1, World.setCell_alloc_past (hn := hp), show 1 + (f * 9 + t) = 1 + f * 9 + t by omega]
  have hR : RoomAt w1 p (fun j => if j = f * 9 + t then some w.heap.size else ch j) n := by
    rw [ew]
    exact (h.make hi hk).keep (Moved.refl (fun _ => False) _).drew fun _ f => f.elim
  have hM : Moved (fun j => j = p) w w1 := by
    rw [ew]
    exact (((Moved.refl (fun j => j = p) w).alloc _).setCell (p := ⟨p, 1 + (f * 9 + t), none⟩) (.inl rfl) _).drew
  have hcell0 : w1.cell? ⟨p, 0, none⟩ = w.cell? ⟨p, 0, none⟩ := by
    rw [ew]
    show ((w.alloc (.chan 64 #[] false 0 0 false)).setCell ⟨p, 1 + (f * 9 + t), none⟩ (.chan (some w.heap.size))).cell? ⟨p, 0, none⟩ = _
    rw [World.cell?_setCell_other (h := fun he => by have := congrArg Addr.off he; simp at this), World.cell?_alloc_lt _ _ ⟨p, 0, none⟩ hp]
  have hfroz0 : w1.frozen? ⟨p, 0, none⟩ = w.frozen? ⟨p, 0, none⟩ := by
    rw [ew]
    show ((w.alloc (.chan 64 #[] false 0 0 false)).setCell ⟨p, 1 + (f * 9 + t), none⟩ (.chan (some w.heap.size))).frozen? ⟨p, 0, none⟩ = _
    rw [World.frozen?_setCell, World.frozen?_alloc_old _ _ ⟨p, 0, none⟩ (Nat.ne_of_lt hp)]
  have hsz : w.heap.size < w1.heap.size := by rw [hw1]; simp
  have hc1 : w1.cell? ⟨p, 1 + f * 9 + t, none⟩ = some (.chan (some w.heap.size)) := by
    have := hR.cell _ hi
    rwa [if_pos rfl, show 1 + (f * 9 + t) = 1 + f * 9 + t by omega] at this
  have hrest := fun (Q : Prop) (hq : Q) => hq
  obtain ⟨buf, s, r, hheap, hbs⟩ := hR.chan _ w.heap.size hi (if_pos rfl)
  have hn0 := h.none_ _ hi hk
  have HR := hide hR
  have HM := hide hM
  have HW := hide hw1
  have Hheap := hide hheap
  have H0 := hide (And.intro hcell0 hfroz0)
  clear hR hM hw1 ew hheap hcell0 hfroz0 hrest
  have H := hide h
  have Hk := hide hk
  clear h hk
  refine calls_of_wpN Try.func22 rfl ?_
  simp only [Try.ntmps22, List.size_toArray, List.length_cons, List.length_nil, Nat.reduceAdd, Nat.reduceSub, Array.replicate_succ,
     Array.replicate_zero, List.push_toArray, List.append_toArray, List.nil_append, List.cons_append]
  refine wpN_seq_k fun K hK => ?_
  have HK := hide hK
  clear hK
  go_wp2
  refine unhide HK _ _ ?_
  clear HK K
  refine wpN_seq_k fun K hK => ?_
  have HK := hide hK
  clear hK
  go_wp2
  go_region
  rw [← unhide HW]
  refine unhide HK _ _ ?_
  clear HK K hc hfz
  refine wpN_seq_k fun K hK => ?_
  have HK := hide hK
  clear hK
  go_wp2
  refine unhide HK _ _ ?_
  clear HK K
  refine wpN_seq_comm (.tuple #[goInt 0, .bool false]) (w1.setChan w.heap.size 64 (buf.push (.agg #[])) false (s + 1) r false) (fun b hb kk cs => ?_) fun K hK => ?_
  · exact step_lone_select_send_room (v := .agg #[]) (z' := .agg #[]) (stepG_comm (cases := #[scase w.heap.size (.agg #[]) (.agg #[])]) (blocking := false) (shape := .select) (w' := w1) rfl rfl hb (by simp [go_sem, execOp, scase, Act.eval])) (unhide Hheap) (by omega)
  · have HK := hide hK
    clear hK
    simp only [Act.put, goInt]
    go_wp2
    refine unhide HK _ _ ?_
    clear HK K
    go_wp2
    go_ret
    have hkp : w.heap.size ≠ p := by omega
    have m : Moved (fun j => j = w.heap.size) w1 (w1.setChan w.heap.size 64 (buf.push (.agg #[])) false (s + 1) r false) := (Moved.refl (fun j => j = w.heap.size) w1).setChan (.inl rfl) _ _ _ _ _ _
    have hp1 : p < w1.heap.size := by omega
    refine .inl ⟨by omega, rfl, (m.cell (p := ⟨p, 0, none⟩) hp1 (Ne.symm hkp)).trans (unhide H0).1, (m.frozen (p := ⟨p, 0, none⟩) hp1 (Ne.symm hkp)).trans (unhide H0).2, ?_, _, (unhide HR).mark hi (if_pos rfl) _ (fun j hj => by simp [up, hj]) ?_ _ _, fun j k hj e => ?_⟩
    · exact ((unhide HM).mono fun j e => .inl (.inl e)).trans m fun j e => .inr (by omega)
    · simp [up]; omega
    · by_cases hj' : j = f * 9 + t
      · simp only [hj', if_true, Option.some.injEq] at e; exact .inr (by omega)
      · simp only [hj', if_false] at e; exact .inl e
theorem enter_any {w : World} {p : Nat} {ch : Nat → Option Nat} {n : Nat → Nat} (h : RoomAt w p ch n) (f t : Nat) (hf : f < 9) (ht : t < 9) :
    Calls Try.prog 22 #[.pointer (some ⟨p, 0, none⟩), .int .i64 (f : Int), .int .i64 (t : Int)] w (Enters w p ch n (f * 9 + t)) := by
  cases e : ch (f * 9 + t) with
  | none => exact enter_none h f t hf ht e
  | some k => exact enter_some h f t hf ht k e
end Go.Proofs.Ytceepejndomfaaa

/- MsgSame's walk: whether two messages are the same is the document's. No conditions. -/
import Derived.Test.YtkbmbcmcnpeabaaAwake
import Derived.Test.YtkbmbcmcnpeabaaMsgIn
import Derived.Test.YtkbmbcmcnpeabaaGreat
import Derived.Test.YtkbmbcmcnpeabaaRefSame
import Derived.BigQuiet
namespace Go.Proofs.Ytkbmbcmcnpeabaa
open Pk Go.RowKit

/-- A world of which St holds. -/
structure SW (St : World → Prop) where
  w : World
  ok : St w
/-- A region that draws its order, whose operations yield one value each in every world of which St holds, and whose calls leave such a world. -/
theorem wp_region_sw {P : Program} {St : World → Prop} {id : Nat} {Q : Exit → Act → World → Prop} {a : Act} {w : World} {l : List Oper} (hm : P.follows .mixedOrders = true) (hB : Region.lexB .any l.toArray = true) (hS : St w.drew)
    (h : wpQuiet P l.toArray (fun w' => ∃ p : SW St, w' = p.w) (fun a' => ∀ w', (∃ p : SW St, w' = p.w) → Q .normal a' w') l a) : (Code.region id l.toArray true).wp P Q a w :=
  wp_region_quiet (C := fun w' => ∃ p : SW St, w' = p.w) hm hB ⟨⟨_, hS⟩, rfl⟩ (by simpa using h)
/-- A load of a whole struct in such a region. -/
theorem wpQuiet_load_on {P : Program} {ops : Array Oper} {C : World → Prop} {Q : Act → Prop} {rest : List Oper} {op : Oper} {a : Act} (hw : Region.wanted op (yielded ops a.tmps) = true) (ty : TypeId) (x : Operand) (ho : op.op = .load ty x)
    (b o : Nat) (hx : a.eval x = .pointer (some ⟨b, o, none⟩)) (cs : List Value) (d : TypeDesc) (hc : ∀ w, C w → w.rangeAt b o cs)
    (hu : P.underlying ty = some d) (hd : d.isRow = true) (hi : (P.info? ty).map (·.size) = some cs.length)
    (h : wpQuiet P ops C Q rest (a.put op.dst (.agg cs.toArray))) : wpQuiet P ops C Q (op :: rest) a := by
  unfold wpQuiet
  rw [if_pos hw]
  refine ⟨_, fun w hw' => ?_, h⟩
  unfold Oper.quietAt execOp
  simp only [ho, hx, Instr.loadAt, Instr.sureAddr, Sem.run_bind, Sem.run_pure, Result.andThen_ok, run_loadVar_mid w b o ty cs d (hc w hw') hu hd hi]
  exact ⟨rfl, rfl⟩
set_option maxHeartbeats 8000000 in
set_option maxRecDepth 100000 in
theorem same_law (ma mb : MsgV) (a1 a2 b1 b2 : Option Addr) (c1 c2 d1 d2 : Nat) (w : World) (fa : Fit ma) (fb : Fit mb) (ia1 : Ints w a1 ma.owner) (ia2 : Ints w a2 ma.set) (ib1 : Ints w b1 mb.owner) (ib2 : Ints w b2 mb.set) :
    Calls Try.prog 4 #[.agg (msgCells ma a1 c1 a2 c2).toArray, .agg (msgCells mb b1 d1 b2 d2).toArray] w fun e w' => e = .returned (.bool true) ∧ Below w.heap.size w w' := by
  obtain ⟨A, hA⟩ : ∃ A, A = w.heap.size := ⟨_, rfl⟩
  obtain ⟨W, hW⟩ : ∃ W, W = (w.alloc (.cells (msgCells ma a1 c1 a2 c2).toArray 32)).alloc (.cells (msgCells mb b1 d1 b2 d2).toArray 32) := ⟨_, rfl⟩
  have mW : Moved (fun _ => False) w W := by rw [hW]; exact ((Moved.refl _ _).alloc _).alloc _
  have RA : Hid (RowAt W A (msgCells ma a1 c1 a2 c2)) := hide (by rw [hW, hA]; exact row_old (row_new _ _ _) _)
  have RB : Hid (RowAt W (A + 1) (msgCells mb b1 d1 b2 d2)) := hide (by rw [hW, hA]; exact row_new2 _ _ _ _ _)
  have JA := hide (And.intro (ia1.keep mW fun _ _ => id) (ia2.keep mW fun _ _ => id))
  have JB := hide (And.intro (ib1.keep mW fun _ _ => id) (ib2.keep mW fun _ _ => id))
  have HW := hide hW
  have HA := hide hA
  have HF := hide (And.intro fa fb)
  have fin : ∀ w', Moved (fun _ => False) W w' → Below w.heap.size w w' := fun w' h => (mW.trans h fun _ f => f.elim).below (fun _ f => f.elim) (Nat.le_refl _)
  have FIN := hide fin
  clear mW hW hA ia1 ia2 ib1 ib2 fa fb fin
  go_enter Try.func4, Try.ntmps4
  go_upto_region 1 with fail
  rw [← unhide HA, ← unhide HW]
  go_wp2_with fail
  refine (awake_any W).mono ?_
  rintro e w1 ⟨rfl, hm⟩
  have MV := hide hm
  clear hm
  go_wp2_with (first | (refine wpList_load_on rfl 32 (.tmp 2) rfl A 0 rfl (msgCells ma a1 c1 a2 c2) _ ((unhide RA).keep (unhide MV) id).range Try.underlying32 rfl (by kernel_rfl) ?_) | (refine wpList_load_on rfl 32 (.tmp 3) rfl (A + 1) 0 rfl (msgCells mb b1 d1 b2 d2) _ ((unhide RB).keep (unhide MV) id).range Try.underlying32 rfl (by kernel_rfl) ?_))
  refine (great_any ma a1 a2 c1 c2 w1).mono ?_
  rintro e w2 ⟨rfl, hm⟩
  replace MV := hide ((unhide MV).trans hm fun _ f => f.elim)
  clear hm
  cases hga : great ma
  rotate_left
  · go_wp2_with fail
    go_ret
    exact ⟨rfl, unhide FIN _ (unhide MV)⟩
  clear hga
  go_wp2_with (first | (refine wpList_load_on rfl 32 (.tmp 2) rfl A 0 rfl (msgCells ma a1 c1 a2 c2) _ ((unhide RA).keep (unhide MV) id).range Try.underlying32 rfl (by kernel_rfl) ?_) | (refine wpList_load_on rfl 32 (.tmp 3) rfl (A + 1) 0 rfl (msgCells mb b1 d1 b2 d2) _ ((unhide RB).keep (unhide MV) id).range Try.underlying32 rfl (by kernel_rfl) ?_))
  refine (great_any mb b1 b2 d1 d2 w2).mono ?_
  rintro e w3 ⟨rfl, hm⟩
  replace MV := hide ((unhide MV).trans hm fun _ f => f.elim)
  clear hm
  cases hgb : great mb
  rotate_left
  · go_wp2_with fail
    go_ret
    exact ⟨rfl, unhide FIN _ (unhide MV)⟩
  clear hgb
  obtain ⟨St, hst⟩ : ∃ St : World → Prop, St = fun w' => Moved (fun _ => False) W w' := ⟨_, rfl⟩
  have st : St w3.drew := by rw [hst]; exact (unhide MV).drew
  have QA : Hid (∀ w', (∃ p : SW St, w' = p.w) → w'.rangeAt A 0 (msgCells ma a1 c1 a2 c2)) := hide (by rintro w' ⟨⟨v, h⟩, rfl⟩; rw [hst] at h; exact ((unhide RA).keep h id).range)
  have QB : Hid (∀ w', (∃ p : SW St, w' = p.w) → w'.rangeAt (A + 1) 0 (msgCells mb b1 d1 b2 d2)) := hide (by rintro w' ⟨⟨v, h⟩, rfl⟩; rw [hst] at h; exact ((unhide RB).keep h id).range)
  obtain ⟨q, hq⟩ : ∃ q, sameMsg ma mb = q := ⟨_, rfl⟩
  have s1 := hide (show ∀ p : SW St, Calls Try.prog 9 #[.agg (msgCells ma a1 c1 a2 c2).toArray, .agg (msgCells mb b1 d1 b2 d2).toArray] p.w fun e w'' => e = .returned (.bool q) ∧ ∃ r : SW St, w'' = r.w from fun ⟨w', h⟩ => by
    rw [hst] at h
    have := same_any ma mb a1 a2 b1 b2 c1 c2 d1 d2 w' ((unhide JA).1.keep h fun _ _ => id) ((unhide JA).2.keep h fun _ _ => id) ((unhide JB).1.keep h fun _ _ => id) ((unhide JB).2.keep h fun _ _ => id) (unhide HF).1.owner (unhide HF).1.set
    rw [hq] at this
    exact this.mono fun e w'' ⟨he, m⟩ => ⟨he, ⟨w'', by rw [hst]; exact h.trans m fun _ f => f.elim⟩, rfl⟩)
  have s2 := hide (show ∀ p : SW St, Calls Try.prog 12 #[.agg (msgCells ma a1 c1 a2 c2).toArray, .agg (msgCells mb b1 d1 b2 d2).toArray] p.w fun e w'' => e = .returned (.bool q) ∧ ∃ r : SW St, w'' = r.w from fun ⟨w', h⟩ => by
    rw [hst] at h
    have := refsame_any ma mb a1 a2 b1 b2 c1 c2 d1 d2 w' ((unhide JA).1.keep h fun _ _ => id) ((unhide JA).2.keep h fun _ _ => id) ((unhide JB).1.keep h fun _ _ => id) ((unhide JB).2.keep h fun _ _ => id) (unhide HF).1.owner (unhide HF).1.set (unhide HF).2.owner (unhide HF).2.set
    rw [hq] at this
    exact this.mono fun e w'' ⟨he, m⟩ => ⟨he, ⟨w'', by rw [hst]; exact h.trans m fun _ f => f.elim⟩, rfl⟩)
  have s3 := hide (show ∀ p : SW St, Calls Try.prog 9 #[.agg (msgCells ma a1 c1 a2 c2).toArray, .agg (msgCells ma a1 c1 a2 c2).toArray] p.w fun e w'' => e = .returned (.bool true) ∧ ∃ r : SW St, w'' = r.w from fun ⟨w', h⟩ => by
    rw [hst] at h
    have := same_any ma ma a1 a2 a1 a2 c1 c2 c1 c2 w' ((unhide JA).1.keep h fun _ _ => id) ((unhide JA).2.keep h fun _ _ => id) ((unhide JA).1.keep h fun _ _ => id) ((unhide JA).2.keep h fun _ _ => id) (unhide HF).1.owner (unhide HF).1.set
    rw [(sameMsg_iff ma ma).2 rfl] at this
    exact this.mono fun e w'' ⟨he, m⟩ => ⟨he, ⟨w'', by rw [hst]; exact h.trans m fun _ f => f.elim⟩, rfl⟩)
  have Hst := hide hst
  have hqq : (q == q) = true := by simp
  clear hst hq
  go_upto_region 5 with fail
  have ne : Nonempty (SW St) := ⟨⟨_, st⟩⟩
  refine wp_region_sw (St := St) (by kernel_rfl) (by kernel_rfl) st ?_
  refine wpQuiet_load_on rfl 32 (.tmp 2) rfl A 0 rfl (msgCells ma a1 c1 a2 c2) _ (unhide QA) Try.underlying32 rfl (by kernel_rfl) ?_
  refine wpQuiet_load_on rfl 32 (.tmp 3) rfl (A + 1) 0 rfl (msgCells mb b1 d1 b2 d2) _ (unhide QB) Try.underlying32 rfl (by kernel_rfl) ?_
  go_simp
  go_big_quiet_step (first | (go_at_call 9; exact unhide s1 _))
  refine wpQuiet_load_on rfl 32 (.tmp 2) rfl A 0 rfl (msgCells ma a1 c1 a2 c2) _ (unhide QA) Try.underlying32 rfl (by kernel_rfl) ?_
  refine wpQuiet_load_on rfl 32 (.tmp 3) rfl (A + 1) 0 rfl (msgCells mb b1 d1 b2 d2) _ (unhide QB) Try.underlying32 rfl (by kernel_rfl) ?_
  go_simp
  go_big_quiet_step (first | (go_at_call 12; exact unhide s2 _))
  go_big_quiet_step (fail)
  go_big_quiet_step (fail)
  refine wpQuiet_load_on rfl 32 (.tmp 2) rfl A 0 rfl (msgCells ma a1 c1 a2 c2) _ (unhide QA) Try.underlying32 rfl (by kernel_rfl) ?_
  refine wpQuiet_load_on rfl 32 (.tmp 2) rfl A 0 rfl (msgCells ma a1 c1 a2 c2) _ (unhide QA) Try.underlying32 rfl (by kernel_rfl) ?_
  go_simp
  go_big_quiet_step (first | (go_at_call 9; exact unhide s3 _))
  repeat (go_big_quiet_step (fail))
  refine wpQuiet_nil ?_
  rintro ⟨w9, st9⟩
  dsimp only
  have MF := hide (show Moved (fun _ => False) W w9 by rw [unhide Hst] at st9; exact st9)
  clear st9
  go_wp2_with fail
  go_ret
  exact ⟨rfl, unhide FIN _ (unhide MF)⟩
theorem same_said (ma : MsgV) (a1 a2 : Option Addr) (c1 c2 : Nat) (mb : MsgV) (b1 b2 : Option Addr) (d1 d2 : Nat) (w : World) (fa : Fit ma) (ia1 : Ints w a1 ma.owner) (ia2 : Ints w a2 ma.set) (fb : Fit mb) (ib1 : Ints w b1 mb.owner) (ib2 : Ints w b2 mb.set) :
    Calls Try.prog 4 #[.agg (msgCells ma a1 c1 a2 c2).toArray, .agg (msgCells mb b1 d1 b2 d2).toArray] w fun e w' => e = .returned (.bool true) ∧ Below w.heap.size w w' := same_law ma mb a1 a2 b1 b2 c1 c2 d1 d2 w fa fb ia1 ia2 ib1 ib2
end Go.Proofs.Ytkbmbcmcnpeabaa

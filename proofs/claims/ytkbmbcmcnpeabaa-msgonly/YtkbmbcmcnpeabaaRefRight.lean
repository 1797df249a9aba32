/- The document's own Right: whether a message is. Condition: it is one that Go's types can hold, its lists lie in memory. -/
import Derived.Test.YtkbmbcmcnpeabaaRefOnlyB
import Derived.Test.YtkbmbcmcnpeabaaRefSame
import Derived.Test.YtkbmbcmcnpeabaaRefChk
import Derived.Test.YtkbmbcmcnpeabaaFieldsW
import Derived.Test.YtkbmbcmcnpeabaaByt
import Derived.BigQuiet
namespace Go.Proofs.Ytkbmbcmcnpeabaa
open Pk Go.RowKit

/-- A world of which St holds. -/
structure SW (St : World → Prop) where
  w : World
  ok : St w
/-- A region that draws its order, whose operations yield one value each in every world of which St holds, and whose calls leave such a world. -/
theorem wp_region_sw {P : Program} {St : World → Prop} {id : Nat} {Q : Exit → Act → World → Prop} {a : Act} {w : World} {l : List Oper} (hm : P.follows .mixedOrders = true) (hB : Region.lexB .any l.toArray = true) (hS : St w.drew)
    (h : wpQuiet P l.toArray (fun w' => ∃ p : SW St, w' = p.w) (fun a' => ∀ w', (∃ p : SW St, w' = p.w) → Q .normal a' w') l a) : (Code.region id l.toArray true).wp P Q a w :=
  wp_region_quiet (C := fun w' => ∃ p : SW St, w' = p.w) hm hB ⟨⟨_, hS⟩, rfl⟩ (by simpa using h)
/-- A load of a whole struct in such a region. -/
theorem wpQuiet_load_on {P : Program} {ops : Array Oper} {C : World → Prop} {Q : Act → Prop} {rest : List Oper} {op : Oper} {a : Act} (hw : Region.wanted op (yielded ops a.tmps) = true) (ty : TypeId) (x : Operand) (ho : op.op = .load ty x)
    (b o : Nat) (hx : a.eval x = .pointer (some ⟨b, o, none⟩)) (cs : List Value) (d : TypeDesc) (hc : ∀ w, C w → w.rangeAt b o cs)
    (hu : P.underlying ty = some d) (hd : d.isRow = true) (hi : (P.info? ty).map (·.size) = some cs.length)
    (h : wpQuiet P ops C Q rest (a.put op.dst (.agg cs.toArray))) : wpQuiet P ops C Q (op :: rest) a := by
  unfold wpQuiet
  rw [if_pos hw]
  refine ⟨_, fun w hw' => ?_, h⟩
  unfold Oper.quietAt execOp
  simp only [ho, hx, Instr.loadAt, Instr.sureAddr, Sem.run_bind, Sem.run_pure, Result.andThen_ok, run_loadVar_mid w b o ty cs d (hc w hw') hu hd hi]
  exact ⟨rfl, rfl⟩
theorem only_len {m : MsgV} (hf : Fit m) : (only m).owner.length ≤ maxLen ∧ (only m).set.length ≤ maxLen := by
  have z : ([] : List Int).length ≤ maxLen := Nat.zero_le _
  unfold only
  split
  all_goals exact ⟨by first | exact hf.owner | exact z, by first | exact hf.set | exact z⟩
theorem in_iff (x : Int) : (decide (0 ≤ x ∧ x ≤ 2147483647) = true) ↔ In x := by
  rw [decide_eq_true_eq]; rfl
set_option maxHeartbeats 16000000 in
set_option maxRecDepth 100000 in
theorem refright_any (m : MsgV) (a1 a2 : Option Addr) (c1 c2 : Nat) (w : World) (hf : Fit m) (hI1 : Ints w a1 m.owner) (hI2 : Ints w a2 m.set) :
    Calls Try.prog 14 #[.agg (msgCells m a1 c1 a2 c2).toArray] w fun e w' => Moved (fun _ => False) w w' ∧ ((Right m ∧ e = .returned (.int .i64 0)) ∨ (¬ Right m ∧ e = .returned (.int .i64 (errOf m)))) := by
  obtain ⟨A, hA⟩ : ∃ A, A = w.heap.size := ⟨_, rfl⟩
  obtain ⟨W, hW⟩ : ∃ W, W = w.alloc (.cells (msgCells m a1 c1 a2 c2).toArray 32) := ⟨_, rfl⟩
  have mW : Moved (fun _ => False) w W := by rw [hW]; exact (Moved.refl _ _).alloc _
  have RA : Hid (RowAt W A (msgCells m a1 c1 a2 c2)) := hide (by rw [hW, hA]; exact row_new _ _ _)
  have JA := hide (And.intro (hI1.keep mW fun _ _ => id) (hI2.keep mW fun _ _ => id))
  have HW := hide hW
  have HA := hide hA
  have HM := hide mW
  have HF := hide hf
  have k0 : W.cell? ⟨A, 0, none⟩ = some (.int .u8 (m.kind.toNat : Int)) := (unhide RA).cell 0 (show 0 < 22 by decide)
  clear hW hA mW hI1 hI2 hf
  by_cases hk : 1 ≤ m.kind.toNat ∧ m.kind.toNat ≤ 14
  rotate_left
  · have he : errOf m = 10 := if_neg hk
    have hn : ¬ Right m := fun h => hk h.kind
    rw [he]
    have HN := hide hn
    clear hn he
    by_cases h1 : (m.kind.toNat : Int) < 1
    · go_enter Try.func14, Try.ntmps14
      go_upto_region 1 with fail
      rw [← unhide HA, ← unhide HW]
      go_wp2_with fail
      go_ret
      exact ⟨unhide HM, .inr ⟨unhide HN, rfl⟩⟩
    · have h2 : (14 : Int) < (m.kind.toNat : Int) := by omega
      go_enter Try.func14, Try.ntmps14
      go_upto_region 1 with fail
      rw [← unhide HA, ← unhide HW]
      go_wp2_with fail
      go_ret
      exact ⟨unhide HM, .inr ⟨unhide HN, rfl⟩⟩
  have he : errOf m = 1 := if_pos hk
  have g1 : ¬ (m.kind.toNat : Int) < 1 := by omega
  have g2 : ¬ (14 : Int) < (m.kind.toNat : Int) := by omega
  have HK := hide hk
  rw [he]
  clear he hk
  obtain ⟨St, hst⟩ : ∃ St : World → Prop, St = fun w' => Moved (fun _ => False) W w' := ⟨_, rfl⟩
  have st : St W.drew := by rw [hst]; exact (Moved.refl _ _).drew
  have un : ∀ v, St v → Moved (fun _ => False) W v := fun v h => by rw [hst] at h; exact h
  have re : ∀ v v', St v → Moved (fun _ => False) v v' → St v' := fun v v' h h' => by rw [hst] at h ⊢; exact h.trans h' fun _ f => f.elim
  have QR : Hid (∀ w', (∃ p : SW St, w' = p.w) → w'.rangeAt A 0 (msgCells m a1 c1 a2 c2)) := hide (by rintro w' ⟨⟨v, h⟩, rfl⟩; exact ((unhide RA).keep (un _ h) id).range)
  have QJ : Hid (∀ w', (∃ p : SW St, w' = p.w) → w'.rangeAt A 9 (itemCells m.item)) := hide (by rintro w' ⟨⟨v, h⟩, rfl⟩; exact range8 ((unhide RA).keep (un _ h) id))
  have sO := hide (show ∀ p : SW St, Calls Try.prog 13 #[.agg (msgCells m a1 c1 a2 c2).toArray] p.w fun e w'' => e = .returned (.agg (msgCells (only m) (owA m a1) (owC m c1) (seA m a2) (seC m c2)).toArray) ∧ ∃ r : SW St, w'' = r.w from fun ⟨v, h⟩ =>
    (refonly_det m a1 a2 c1 c2 v (unhide HK)).mono fun e w'' ⟨he, hm⟩ => ⟨he, ⟨w'', re v w'' h hm⟩, rfl⟩)
  obtain ⟨q, hq⟩ : ∃ q, sameMsg m (only m) = q := ⟨_, rfl⟩
  have sS := hide (show ∀ p : SW St, Calls Try.prog 12 #[.agg (msgCells m a1 c1 a2 c2).toArray, .agg (msgCells (only m) (owA m a1) (owC m c1) (seA m a2) (seC m c2)).toArray] p.w fun e w'' => e = .returned (.bool q) ∧ ∃ r : SW St, w'' = r.w from fun ⟨v, h⟩ => by
    have jj := det_ints m (unhide HK) ((unhide JA).1.keep (un v h) fun _ _ => id) ((unhide JA).2.keep (un v h) fun _ _ => id)
    have := refsame_any m (only m) a1 a2 (owA m a1) (seA m a2) c1 c2 (owC m c1) (seC m c2) v ((unhide JA).1.keep (un v h) fun _ _ => id) ((unhide JA).2.keep (un v h) fun _ _ => id) jj.1 jj.2 (unhide HF).owner (unhide HF).set (only_len (unhide HF)).1 (only_len (unhide HF)).2
    rw [hq] at this
    exact this.mono fun e w'' ⟨he, hm⟩ => ⟨he, ⟨w'', re v w'' h hm⟩, rfl⟩)
  have HQ := hide hq
  clear hq
  have sI := hide (show ∀ (n : Int) (p : SW St), Calls Try.prog 26 #[.int .i64 n, .int .i64 2147483647] p.w fun e w'' => e = .returned (.bool (decide (0 ≤ n ∧ n ≤ 2147483647))) ∧ ∃ r : SW St, w'' = r.w from fun n ⟨v, h⟩ =>
    (refin_in n 2147483647 v).mono fun e w'' ⟨he, hm⟩ => ⟨he, ⟨v, h⟩, hm⟩)
  have k1 : ∀ p : SW St, p.w.cell? ⟨A, 1, none⟩ = some (.int .i64 m.move) := fun ⟨v, h⟩ => ((unhide RA).keep (un v h) id).cell 1 (show 1 < 22 by decide)
  have k2 : ∀ p : SW St, p.w.cell? ⟨A, 2, none⟩ = some (.int .i64 m.part) := fun ⟨v, h⟩ => ((unhide RA).keep (un v h) id).cell 2 (show 2 < 22 by decide)
  have k3 : ∀ p : SW St, p.w.cell? ⟨A, 3, none⟩ = some (.int .i64 m.to_) := fun ⟨v, h⟩ => ((unhide RA).keep (un v h) id).cell 3 (show 3 < 22 by decide)
  have k4 : ∀ p : SW St, p.w.cell? ⟨A, 4, none⟩ = some (.int .i64 m.n) := fun ⟨v, h⟩ => ((unhide RA).keep (un v h) id).cell 4 (show 4 < 22 by decide)
  have k5 : ∀ p : SW St, p.w.cell? ⟨A, 5, none⟩ = some (.int .i64 m.count) := fun ⟨v, h⟩ => ((unhide RA).keep (un v h) id).cell 5 (show 5 < 22 by decide)
  have k6 : ∀ p : SW St, p.w.cell? ⟨A, 6, none⟩ = some (.int .i64 m.code) := fun ⟨v, h⟩ => ((unhide RA).keep (un v h) id).cell 6 (show 6 < 22 by decide)
  have k17 : ∀ p : SW St, p.w.cell? ⟨A, 17, none⟩ = some (.int .i64 m.epoch) := fun ⟨v, h⟩ => ((unhide RA).keep (un v h) id).cell 17 (show 17 < 22 by decide)
  have k18 : ∀ p : SW St, p.w.cell? ⟨A, 18, none⟩ = some (.int .i64 m.nodes) := fun ⟨v, h⟩ => ((unhide RA).keep (un v h) id).cell 18 (show 18 < 22 by decide)
  have k19 : ∀ p : SW St, p.w.cell? ⟨A, 19, none⟩ = some (.slice a1 m.owner.length c1) := fun ⟨v, h⟩ => ((unhide RA).keep (un v h) id).cell 19 (show 19 < 22 by decide)
  have k20 : ∀ p : SW St, p.w.cell? ⟨A, 20, none⟩ = some (.slice a2 m.set.length c2) := fun ⟨v, h⟩ => ((unhide RA).keep (un v h) id).cell 20 (show 20 < 22 by decide)
  have k21 : ∀ p : SW St, p.w.cell? ⟨A, 21, none⟩ = some (.string ⟨m.data.toArray⟩) := fun ⟨v, h⟩ => ((unhide RA).keep (un v h) id).cell 21 (show 21 < 22 by decide)
  have hsz : (⟨m.data.toArray⟩ : ByteArray).size = m.data.length := by simp [ByteArray.size]
  have tell : ∀ {p : Prop} {e : Ending} (b : Bool), (b = true ↔ p) → Tells p e → e = .returned (.bool b) := fun {p e} b hb ⟨b', he, hb'⟩ => by
    rw [he]; congr 2
    cases b <;> cases b' <;> simp_all
  obtain ⟨q7, h7⟩ : ∃ q : Bool, q = true ↔ (In m.item.src ∧ In m.item.seq ∧ In m.item.low ∧ In m.item.part ∧ m.item.key.length ≤ 255) := by
    by_cases h : (In m.item.src ∧ In m.item.seq ∧ In m.item.low ∧ In m.item.part ∧ m.item.key.length ≤ 255)
    · exact ⟨true, ⟨fun _ => h, fun _ => rfl⟩⟩
    · exact ⟨false, ⟨(fun e => by cases e), fun e => absurd e h⟩⟩
  obtain ⟨q10, h10⟩ : ∃ q : Bool, q = true ↔ ((∀ i, i < m.owner.length → In (m.owner.getD i 0)) ∧ m.owner.length ≤ 64) := by
    by_cases h : ((∀ i, i < m.owner.length → In (m.owner.getD i 0)) ∧ m.owner.length ≤ 64)
    · exact ⟨true, ⟨fun _ => h, fun _ => rfl⟩⟩
    · exact ⟨false, ⟨(fun e => by cases e), fun e => absurd e h⟩⟩
  obtain ⟨q11, h11⟩ : ∃ q : Bool, q = true ↔ ((∀ i, i < m.set.length → In (m.set.getD i 0)) ∧ m.set.length ≤ 1024) := by
    by_cases h : ((∀ i, i < m.set.length → In (m.set.getD i 0)) ∧ m.set.length ≤ 1024)
    · exact ⟨true, ⟨fun _ => h, fun _ => rfl⟩⟩
    · exact ⟨false, ⟨(fun e => by cases e), fun e => absurd e h⟩⟩
  have sT := hide (show ∀ p : SW St, Calls Try.prog 27 #[.agg (itemCells m.item).toArray] p.w fun e w'' => e = .returned (.bool q7) ∧ ∃ r : SW St, w'' = r.w from fun ⟨v, h⟩ =>
    (items_any m.item (unhide HF).key v).mono fun e w'' ⟨he, hm⟩ => ⟨tell q7 h7 he, ⟨w'', re v w'' h (Moved.of_below (F := fun _ => False) hm)⟩, rfl⟩)
  have sL1 := hide (show ∀ p : SW St, Calls Try.prog 28 #[.slice a1 m.owner.length c1, .int .i64 64] p.w fun e w'' => e = .returned (.bool q10) ∧ ∃ r : SW St, w'' = r.w from fun ⟨v, h⟩ =>
    (lists_any a1 m.owner c1 64 v ((unhide JA).1.keep (un v h) fun _ _ => id) (unhide HF).owner).mono fun e w'' ⟨he, hm⟩ => ⟨tell q10 h10 he, ⟨v, h⟩, hm⟩)
  have sL2 := hide (show ∀ p : SW St, Calls Try.prog 28 #[.slice a2 m.set.length c2, .int .i64 1024] p.w fun e w'' => e = .returned (.bool q11) ∧ ∃ r : SW St, w'' = r.w from fun ⟨v, h⟩ =>
    (lists_any a2 m.set c2 1024 v ((unhide JA).2.keep (un v h) fun _ _ => id) (unhide HF).set).mono fun e w'' ⟨he, hm⟩ => ⟨tell q11 h11 he, ⟨v, h⟩, hm⟩)
  have H7 := hide (And.intro h7 (And.intro h10 h11))
  have Hst := hide hst
  have hdl : Hid ((⟨m.data.toArray⟩ : ByteArray).size = m.data.length) := hide hsz
  obtain ⟨q12, h12⟩ : ∃ q : Bool, decide (((⟨m.data.toArray⟩ : ByteArray).size : Int) ≤ 1024) = q := ⟨_, rfl⟩
  have H12 := hide h12
  clear hst un re h7 h10 h11 tell hsz
  generalize (⟨m.data.toArray⟩ : ByteArray) = sd at *
  go_enter Try.func14, Try.ntmps14
  go_upto_region 1 with fail
  rw [← unhide HA, ← unhide HW]
  go_upto_region 3 with fail
  have ne : Nonempty (SW St) := ⟨⟨_, st⟩⟩
  refine wp_region_sw (St := St) (by kernel_rfl) (by kernel_rfl) st ?_
  refine wpQuiet_load_on rfl 32 (.tmp 1) rfl A 0 rfl (msgCells m a1 c1 a2 c2) _ (unhide QR) Try.underlying32 rfl (by kernel_rfl) ?_
  refine wpQuiet_load_on rfl 32 (.tmp 1) rfl A 0 rfl (msgCells m a1 c1 a2 c2) _ (unhide QR) Try.underlying32 rfl (by kernel_rfl) ?_
  go_simp
  go_big_quiet_step (first | (go_at_call 13; exact unhide sO _))
  go_big_quiet_step (first | (go_at_call 12; exact unhide sS _))
  clear k0 g1 g2
  cases q
  · have HN := hide (show ¬ Right m from fun h => by have := unhide HQ; rw [h.only, (sameMsg_iff m m).2 rfl] at this; cases this)
    repeat (go_big_quiet_step (fail))
    refine wpQuiet_nil ?_
    rintro ⟨w9, st9⟩
    dsimp only
    have MF := hide (show Moved (fun _ => False) W w9 by rw [unhide Hst] at st9; exact st9)
    clear st9
    go_wp2_with fail
    go_ret
    exact ⟨(unhide HM).trans (unhide MF) fun _ f => f.elim, .inr ⟨unhide HN, rfl⟩⟩
  have P0 := hide ((sameMsg_iff m (only m)).1 (unhide HQ)).symm
  go_big_quiet_step (fail)
  go_big_quiet_step (fail)
  go_big_quiet_step (fail)
  go_big_quiet_step (first | (go_at_call 26; exact unhide sI _ _))
  cases hd : decide (0 ≤ m.move ∧ m.move ≤ 2147483647)
  · have HN := hide (show ¬ Right m from fun h => by rw [(in_iff m.move).2 h.ok.move] at hd; cases hd)
    clear hd
    repeat (go_big_quiet_step (fail))
    refine wpQuiet_nil ?_
    rintro ⟨w9, st9⟩
    dsimp only
    have MF := hide (show Moved (fun _ => False) W w9 by rw [unhide Hst] at st9; exact st9)
    clear st9
    go_wp2_with fail
    go_ret
    exact ⟨(unhide HM).trans (unhide MF) fun _ f => f.elim, .inr ⟨unhide HN, rfl⟩⟩
  have P1 := hide ((in_iff m.move).1 hd)
  clear hd
  go_big_quiet_step (fail)
  go_big_quiet_step (fail)
  go_big_quiet_step (fail)
  go_big_quiet_step (fail)
  go_big_quiet_step (first | (go_at_call 26; exact unhide sI _ _))
  cases hd : decide (0 ≤ m.part ∧ m.part ≤ 2147483647)
  · have HN := hide (show ¬ Right m from fun h => by rw [(in_iff m.part).2 h.ok.part] at hd; cases hd)
    clear hd
    repeat (go_big_quiet_step (fail))
    refine wpQuiet_nil ?_
    rintro ⟨w9, st9⟩
    dsimp only
    have MF := hide (show Moved (fun _ => False) W w9 by rw [unhide Hst] at st9; exact st9)
    clear st9
    go_wp2_with fail
    go_ret
    exact ⟨(unhide HM).trans (unhide MF) fun _ f => f.elim, .inr ⟨unhide HN, rfl⟩⟩
  have P2 := hide ((in_iff m.part).1 hd)
  clear hd
  go_big_quiet_step (fail)
  go_big_quiet_step (fail)
  go_big_quiet_step (fail)
  go_big_quiet_step (fail)
  go_big_quiet_step (first | (go_at_call 26; exact unhide sI _ _))
  cases hd : decide (0 ≤ m.to_ ∧ m.to_ ≤ 2147483647)
  · have HN := hide (show ¬ Right m from fun h => by rw [(in_iff m.to_).2 h.ok.to_] at hd; cases hd)
    clear hd
    repeat (go_big_quiet_step (fail))
    refine wpQuiet_nil ?_
    rintro ⟨w9, st9⟩
    dsimp only
    have MF := hide (show Moved (fun _ => False) W w9 by rw [unhide Hst] at st9; exact st9)
    clear st9
    go_wp2_with fail
    go_ret
    exact ⟨(unhide HM).trans (unhide MF) fun _ f => f.elim, .inr ⟨unhide HN, rfl⟩⟩
  have P3 := hide ((in_iff m.to_).1 hd)
  clear hd
  go_big_quiet_step (fail)
  go_big_quiet_step (fail)
  go_big_quiet_step (fail)
  go_big_quiet_step (fail)
  go_big_quiet_step (first | (go_at_call 26; exact unhide sI _ _))
  cases hd : decide (0 ≤ m.n ∧ m.n ≤ 2147483647)
  · have HN := hide (show ¬ Right m from fun h => by rw [(in_iff m.n).2 h.ok.n] at hd; cases hd)
    clear hd
    repeat (go_big_quiet_step (fail))
    refine wpQuiet_nil ?_
    rintro ⟨w9, st9⟩
    dsimp only
    have MF := hide (show Moved (fun _ => False) W w9 by rw [unhide Hst] at st9; exact st9)
    clear st9
    go_wp2_with fail
    go_ret
    exact ⟨(unhide HM).trans (unhide MF) fun _ f => f.elim, .inr ⟨unhide HN, rfl⟩⟩
  have P4 := hide ((in_iff m.n).1 hd)
  clear hd
  go_big_quiet_step (fail)
  go_big_quiet_step (fail)
  go_big_quiet_step (fail)
  go_big_quiet_step (fail)
  go_big_quiet_step (first | (go_at_call 26; exact unhide sI _ _))
  cases hd : decide (0 ≤ m.count ∧ m.count ≤ 2147483647)
  · have HN := hide (show ¬ Right m from fun h => by rw [(in_iff m.count).2 h.ok.count] at hd; cases hd)
    clear hd
    repeat (go_big_quiet_step (fail))
    refine wpQuiet_nil ?_
    rintro ⟨w9, st9⟩
    dsimp only
    have MF := hide (show Moved (fun _ => False) W w9 by rw [unhide Hst] at st9; exact st9)
    clear st9
    go_wp2_with fail
    go_ret
    exact ⟨(unhide HM).trans (unhide MF) fun _ f => f.elim, .inr ⟨unhide HN, rfl⟩⟩
  have P5 := hide ((in_iff m.count).1 hd)
  clear hd
  go_big_quiet_step (fail)
  go_big_quiet_step (fail)
  go_big_quiet_step (fail)
  go_big_quiet_step (fail)
  go_big_quiet_step (first | (go_at_call 26; exact unhide sI _ _))
  cases hd : decide (0 ≤ m.code ∧ m.code ≤ 2147483647)
  · have HN := hide (show ¬ Right m from fun h => by rw [(in_iff m.code).2 h.ok.code] at hd; cases hd)
    clear hd
    repeat (go_big_quiet_step (fail))
    refine wpQuiet_nil ?_
    rintro ⟨w9, st9⟩
    dsimp only
    have MF := hide (show Moved (fun _ => False) W w9 by rw [unhide Hst] at st9; exact st9)
    clear st9
    go_wp2_with fail
    go_ret
    exact ⟨(unhide HM).trans (unhide MF) fun _ f => f.elim, .inr ⟨unhide HN, rfl⟩⟩
  have P6 := hide ((in_iff m.code).1 hd)
  clear hd
  go_big_quiet_step (fail)
  go_big_quiet_step (fail)
  go_big_quiet_step (fail)
  refine wpQuiet_load_on rfl 27 (.tmp 47) rfl A 9 rfl (itemCells m.item) _ (unhide QJ) Try.underlying27 rfl (by kernel_rfl) ?_
  go_simp
  go_big_quiet_step (first | (go_at_call 27; exact unhide sT _))
  cases q7
  · have HN := hide (show ¬ Right m from fun h => by have := (unhide H7).1.2 ⟨h.ok.item.src, h.ok.item.seq, h.ok.item.low, h.ok.item.part, h.ok.item.key⟩; cases this)
    repeat (go_big_quiet_step (fail))
    refine wpQuiet_nil ?_
    rintro ⟨w9, st9⟩
    dsimp only
    have MF := hide (show Moved (fun _ => False) W w9 by rw [unhide Hst] at st9; exact st9)
    clear st9
    go_wp2_with fail
    go_ret
    exact ⟨(unhide HM).trans (unhide MF) fun _ f => f.elim, .inr ⟨unhide HN, rfl⟩⟩
  have P7 := hide ((unhide H7).1.1 rfl)
  go_big_quiet_step (fail)
  go_big_quiet_step (fail)
  go_big_quiet_step (fail)
  go_big_quiet_step (fail)
  go_big_quiet_step (fail)
  go_big_quiet_step (first | (go_at_call 26; exact unhide sI _ _))
  cases hd : decide (0 ≤ m.epoch ∧ m.epoch ≤ 2147483647)
  · have HN := hide (show ¬ Right m from fun h => by rw [(in_iff m.epoch).2 h.ok.epoch] at hd; cases hd)
    clear hd
    repeat (go_big_quiet_step (fail))
    refine wpQuiet_nil ?_
    rintro ⟨w9, st9⟩
    dsimp only
    have MF := hide (show Moved (fun _ => False) W w9 by rw [unhide Hst] at st9; exact st9)
    clear st9
    go_wp2_with fail
    go_ret
    exact ⟨(unhide HM).trans (unhide MF) fun _ f => f.elim, .inr ⟨unhide HN, rfl⟩⟩
  have P8 := hide ((in_iff m.epoch).1 hd)
  clear hd
  go_big_quiet_step (fail)
  go_big_quiet_step (fail)
  go_big_quiet_step (fail)
  go_big_quiet_step (fail)
  go_big_quiet_step (fail)
  go_big_quiet_step (first | (go_at_call 26; exact unhide sI _ _))
  cases hd : decide (0 ≤ m.nodes ∧ m.nodes ≤ 2147483647)
  · have HN := hide (show ¬ Right m from fun h => by rw [(in_iff m.nodes).2 h.ok.nodes] at hd; cases hd)
    clear hd
    repeat (go_big_quiet_step (fail))
    refine wpQuiet_nil ?_
    rintro ⟨w9, st9⟩
    dsimp only
    have MF := hide (show Moved (fun _ => False) W w9 by rw [unhide Hst] at st9; exact st9)
    clear st9
    go_wp2_with fail
    go_ret
    exact ⟨(unhide HM).trans (unhide MF) fun _ f => f.elim, .inr ⟨unhide HN, rfl⟩⟩
  have P9 := hide ((in_iff m.nodes).1 hd)
  clear hd
  go_big_quiet_step (fail)
  go_big_quiet_step (fail)
  go_big_quiet_step (fail)
  go_big_quiet_step (fail)
  go_big_quiet_step (fail)
  go_big_quiet_step (first | (go_at_call 28; exact unhide sL1 _))
  cases q10
  · have HN := hide (show ¬ Right m from fun h => by have := (unhide H7).2.1.2 ⟨fun i hi => h.ok.owner.2 _ (by rw [List.getD_eq_getElem?_getD, List.getElem?_eq_getElem hi]; exact List.getElem_mem hi), h.ok.owner.1⟩; cases this)
    repeat (go_big_quiet_step (fail))
    refine wpQuiet_nil ?_
    rintro ⟨w9, st9⟩
    dsimp only
    have MF := hide (show Moved (fun _ => False) W w9 by rw [unhide Hst] at st9; exact st9)
    clear st9
    go_wp2_with fail
    go_ret
    exact ⟨(unhide HM).trans (unhide MF) fun _ f => f.elim, .inr ⟨unhide HN, rfl⟩⟩
  have P10 := hide ((unhide H7).2.1.1 rfl)
  go_big_quiet_step (fail)
  go_big_quiet_step (fail)
  go_big_quiet_step (fail)
  go_big_quiet_step (fail)
  go_big_quiet_step (first | (go_at_call 28; exact unhide sL2 _))
  cases q11
  · have HN := hide (show ¬ Right m from fun h => by have := (unhide H7).2.2.2 ⟨fun i hi => h.ok.set.2 _ (by rw [List.getD_eq_getElem?_getD, List.getElem?_eq_getElem hi]; exact List.getElem_mem hi), h.ok.set.1⟩; cases this)
    repeat (go_big_quiet_step (fail))
    refine wpQuiet_nil ?_
    rintro ⟨w9, st9⟩
    dsimp only
    have MF := hide (show Moved (fun _ => False) W w9 by rw [unhide Hst] at st9; exact st9)
    clear st9
    go_wp2_with fail
    go_ret
    exact ⟨(unhide HM).trans (unhide MF) fun _ f => f.elim, .inr ⟨unhide HN, rfl⟩⟩
  have P11 := hide ((unhide H7).2.2.1 rfl)
  go_big_quiet_step (fail)
  cases q12
  · have HN := hide (show ¬ Right m from fun h => by have := h.ok.data; have h1 := unhide hdl; have h2 := unhide H12; rw [decide_eq_false_iff_not] at h2; omega)
    repeat (go_big_quiet_step (fail))
    refine wpQuiet_nil ?_
    rintro ⟨w9, st9⟩
    dsimp only
    have MF := hide (show Moved (fun _ => False) W w9 by rw [unhide Hst] at st9; exact st9)
    clear st9
    go_wp2_with fail
    go_ret
    exact ⟨(unhide HM).trans (unhide MF) fun _ f => f.elim, .inr ⟨unhide HN, rfl⟩⟩
  have hd : m.data.length ≤ 1024 := by have h1 := unhide hdl; have h2 := unhide H12; rw [decide_eq_true_eq] at h2; omega
  have hmem : ∀ (l : List Int), (∀ i, i < l.length → In (l.getD i 0)) → ∀ x ∈ l, In x := fun l h x hx => by
    obtain ⟨i, hi, rfl⟩ := List.getElem_of_mem hx
    have := h i hi
    rwa [List.getD_eq_getElem?_getD, List.getElem?_eq_getElem hi] at this
  have HR := hide (show Right m from ⟨unhide HK, unhide P0, ⟨unhide P1, unhide P2, unhide P3, unhide P4, unhide P5, unhide P6, (unhide HF).digest, (unhide HF).at_, ⟨(unhide P7).1, (unhide P7).2.1, (unhide P7).2.2.1, (unhide P7).2.2.2.1, (unhide P7).2.2.2.2, (unhide HF).iat, (unhide HF).iN⟩, unhide P8, unhide P9, ⟨(unhide P10).2, hmem _ (unhide P10).1⟩, ⟨(unhide P11).2, hmem _ (unhide P11).1⟩, hd⟩⟩)
  clear hd hmem
  repeat (go_big_quiet_step (fail))
  refine wpQuiet_nil ?_
  rintro ⟨w9, st9⟩
  dsimp only
  have MF := hide (show Moved (fun _ => False) W w9 by rw [unhide Hst] at st9; exact st9)
  clear st9
  go_wp2_with fail
  go_ret
  exact ⟨(unhide HM).trans (unhide MF) fun _ f => f.elim, .inl ⟨unhide HR, rfl⟩⟩
end Go.Proofs.Ytkbmbcmcnpeabaa

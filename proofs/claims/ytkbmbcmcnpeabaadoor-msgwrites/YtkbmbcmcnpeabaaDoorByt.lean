/- The program's Bytes: its closure, entered with a message and a writer in memory. Condition: the message is one that Go's types can hold. -/
import Derived.Test.YtkbmbcmcnpeabaaDoorFieldsW
import Derived.Test.YtkbmbcmcnpeabaaDoorSameC
import Derived.Test.YtkbmbcmcnpeabaaDoorAttB
namespace Go.Proofs.YtkbmbcmcnpeabaaDoor
open Pk Go.RowKit

/-- The error of a message that is not right. -/
def errOf (m : MsgV) : Int := if 1 ≤ m.kind.toNat ∧ m.kind.toNat ≤ 14 then 1 else 10
theorem zero_cells : msgCells MsgV.zero none 0 none 0 = [.int .u8 0, .int .i64 0, .int .i64 0, .int .i64 0, .int .i64 0, .int .i64 0, .int .i64 0, .int .u64 0, .int .i64 0, .int .i64 0, .int .i64 0, .int .i64 0, .int .u8 0, .string ⟨#[]⟩, .int .i64 0, .int .i64 0, .int .i64 0, .int .i64 0, .int .i64 0, .slice none 0 0, .slice none 0 0, .string ⟨#[]⟩] := rfl
theorem ints_none (w : World) (a : Option Addr) : Ints w a [] := fun i hi => by simp at hi
theorem rest_len (m : MsgV) (hf : Fit m) : (rest m).owner.length ≤ maxLen ∧ (rest m).set.length ≤ maxLen := by
  have z : ([] : List Int).length ≤ maxLen := Nat.zero_le _
  unfold rest
  split
  all_goals exact ⟨by first | exact hf.owner | exact z, by first | exact hf.set | exact z⟩

set_option maxHeartbeats 4000000 in
set_option maxRecDepth 100000 in
theorem bytes1_any {w : World} {p B : Nat} (m : MsgV) (a1 a2 : Option Addr) (c1 c2 : Nat) (hf : Fit m) (h : WSt w w p B (msgCells m a1 c1 a2 c2) []) (hI1 : IntsF w p B a1 m.owner) (hI2 : IntsF w p B a2 m.set) :
    Calls Tryd.prog 20 #[.pointer (some ⟨B, 0, none⟩), .pointer (some ⟨p, 0, none⟩)] w fun e w' => Moved (fun i => i = p ∨ i = B) w w' ∧ ((e = .returned (.tuple #[]) ∧ Right m ∧ ∃ a c, OutAt w' p a c (msgBytes m) ∧ ∀ x, a = some x → w.heap.size ≤ x.block) ∨ (e = .panicked (refused (errOf m)) ∧ ¬ Right m)) := by
  obtain ⟨hc0, hz0, _⟩ := h.cell (i := 0) (v := .int .u8 (m.kind.toNat : Int)) rfl
  have H := hide h
  have HF := hide hf
  have HI1 := hide hI1
  have HI2 := hide hI2
  clear h hf hI1 hI2
  go_enter Tryd.func20, Tryd.ntmps20
  go_wp2_with fail
  refine (woctet_any (unhide H) 0 m.kind rfl (by simp)).mono ?_
  rintro e w1 ⟨rfl, hs⟩
  have hs' : WSt w w1 p B (msgCells { m with kind := 0 } a1 c1 a2 c2) [m.kind] := hs
  have HS1 := hide hs'
  clear hs hs' hc0 hz0 H
  go_wp2_with fail
  by_cases hk : 1 ≤ m.kind.toNat ∧ m.kind.toNat ≤ 14
  · have he : errOf m = 1 := if_pos hk
    have HE := hide he
    have HK := hide hk
    clear he hk
    refine (fields_w m a1 a2 c1 c2 (unhide HF) (unhide HK) (unhide HS1) (unhide HI1) (unhide HI2) (by simp)).mono ?_
    rintro e w2 (⟨rfl, ok, b1, d1, b2, d2, hs2, hj1, hj2⟩ | ⟨rfl, no, hm⟩)
    · have hrg := hs2.row.range
      have HS2 := hide hs2
      have HOK := hide ok
      have HJ1 := hide (hj1.keep hs2.moved)
      have HJ2 := hide (hj2.keep hs2.moved)
      clear hs2 ok hj1 hj2
      go_upto_region 3 with fail
      go_step
      refine wpList_load_mid rfl 29 (.tmp 0) rfl B 0 rfl (msgCells (rest m) b1 d1 b2 d2) _ hrg Tryd.underlying29 rfl (by kernel_rfl) ?_
      clear hrg
      go_wp2_with fail
      refine (same_any (rest m) MsgV.zero b1 b2 none none d1 d2 0 0 w2 (unhide HJ1) (unhide HJ2) (ints_none _ _) (ints_none _ _) (rest_len m (unhide HF)).1 (rest_len m (unhide HF)).2).mono ?_
      rintro e w3 ⟨rfl, hm3⟩
      have hiff := sameMsg_iff (rest m) MsgV.zero
      generalize sameMsg (rest m) MsgV.zero = b at *
      have HM3 := hide hm3
      have HIF := hide hiff
      clear hm3 hiff
      cases b
      · go_wp2_with fail
        refine (giveUp_any 1 _).mono ?_
        rintro e w4 ⟨rfl, rfl⟩
        go_wp2_with fail
        refine ⟨rfl, (unhide HS2).moved.trans (unhide HM3) fun _ f => f.elim, .inr ⟨by rw [unhide HE], fun hr => ?_⟩⟩
        have := (unhide HIF).2 ((right_iff (unhide HF) (unhide HK)).1 hr).2
        cases this
      · go_wp2_with fail
        go_end0
        have hs3 := (unhide HS2).same (unhide HM3)
        obtain ⟨a, c, ho, hab⟩ := hs3.out
        exact ⟨hs3.moved, .inl ⟨rfl, (right_iff (unhide HF) (unhide HK)).2 ⟨unhide HOK, (by first | exact (unhide HIF).1 trivial | exact (unhide HIF).1 rfl)⟩, a, c, ho, fun x hx => (hab x hx).2⟩⟩
    · have NO := hide no
      have HM := hide hm
      clear no hm
      go_wp2_with fail
      refine ⟨rfl, unhide HM, .inr ⟨by rw [unhide HE], fun hr => ?_⟩⟩
      exact unhide NO ((right_iff (unhide HF) (unhide HK)).1 hr).1
  · have he : errOf m = 10 := if_neg hk
    have HE := hide he
    have HK := hide hk
    clear he
    refine (fields_none m.kind (by omega)).mono ?_
    rintro e w2 ⟨rfl, hm⟩
    have HM := hide hm
    clear hm hk
    go_wp2_with fail
    refine ⟨rfl, (unhide HS1).moved.trans (unhide HM) fun _ f => f.elim, .inr ⟨by rw [unhide HE], fun hr => unhide HK hr.kind⟩⟩
end Go.Proofs.YtkbmbcmcnpeabaaDoor

/- MsgOnly's walk: a message that has a field which its kind does not have is wrong. No conditions. -/
import Derived.Test.YtkbmbcmcnpeabaaAwake
import Derived.Test.YtkbmbcmcnpeabaaMsgIn
import Derived.Test.YtkbmbcmcnpeabaaGreat
import Derived.Test.YtkbmbcmcnpeabaaRefRight
namespace Go.Proofs.Ytkbmbcmcnpeabaa
open Pk Go.RowKit

theorem fit_15 : Fit { MsgV.zero with kind := 15 } := ⟨by decide, zero_i64, zero_i64, zero_i64, Nat.zero_le _, Nat.zero_le _, Nat.zero_le _, Nat.zero_le _⟩
theorem fit_0 : Fit MsgV.zero := ⟨by decide, zero_i64, zero_i64, zero_i64, Nat.zero_le _, Nat.zero_le _, Nat.zero_le _, Nat.zero_le _⟩
/-- A kind that is none is told. -/
theorem wrong10 (m : MsgV) (hk : ¬ (1 ≤ m.kind.toNat ∧ m.kind.toNat ≤ 14)) (hf : Fit m) (w : World) (h1 : m.owner = []) (h2 : m.set = []) :
    Calls Try.prog 10 #[.agg (msgCells m none 0 none 0).toArray] w fun e w' => e = .returned (.int .i64 10) ∧ Moved (fun _ => False) w w' := by
  refine (right_any m none none 0 0 w hf (by rw [h1]; exact ints_nil _ _) (by rw [h2]; exact ints_nil _ _)).mono ?_
  rintro e w' ⟨hm, ⟨hr, _⟩ | ⟨_, rfl⟩⟩
  · exact absurd hr.kind hk
  · exact ⟨by rw [show errOf m = 10 from if_neg hk], hm⟩
theorem only_fit {m : MsgV} (hf : Fit m) : Fit (only m) := by
  unfold only
  split
  all_goals exact ⟨by first | exact hf.digest | exact zero_u64, by first | exact hf.at_ | exact zero_i64, by first | exact hf.iat | exact zero_i64, by first | exact hf.iN | exact zero_i64, by first | exact hf.key | exact Nat.zero_le _, by first | exact hf.owner | exact Nat.zero_le _, by first | exact hf.set | exact Nat.zero_le _, by first | exact hf.data | exact Nat.zero_le _⟩
theorem only_kind (m : MsgV) : (only m).kind = m.kind := by
  unfold only
  split
  all_goals rfl
set_option maxHeartbeats 16000000 in
set_option maxRecDepth 100000 in
theorem only_said (m : MsgV) (a1 a2 : Option Addr) (c1 c2 : Nat) (w : World) (hf : Fit m) (hI1 : Ints w a1 m.owner) (hI2 : Ints w a2 m.set) :
    Calls Try.prog 5 #[.agg (msgCells m a1 c1 a2 c2).toArray] w fun e w' => e = .returned (.bool true) ∧ Below w.heap.size w w' := by
  obtain ⟨A, hA⟩ : ∃ A, A = w.heap.size := ⟨_, rfl⟩
  obtain ⟨W, hW⟩ : ∃ W, W = w.alloc (.cells (msgCells m a1 c1 a2 c2).toArray 32) := ⟨_, rfl⟩
  have mW : Moved (fun _ => False) w W := by rw [hW]; exact (Moved.refl _ _).alloc _
  have RA : Hid (RowAt W A (msgCells m a1 c1 a2 c2)) := hide (by rw [hW, hA]; exact row_new _ _ _)
  have JA := hide (And.intro (hI1.keep mW fun _ _ => id) (hI2.keep mW fun _ _ => id))
  have HW := hide hW
  have HA := hide hA
  have HF := hide hf
  have fin : ∀ w', Moved (fun _ => False) W w' → Below w.heap.size w w' := fun w' h => (mW.trans h fun _ f => f.elim).below (fun _ f => f.elim) (Nat.le_refl _)
  have FIN := hide fin
  clear mW hW hA hI1 hI2 hf fin
  go_enter Try.func5, Try.ntmps5
  go_upto_region 1 with fail
  rw [← unhide HA, ← unhide HW]
  go_wp2_with fail
  refine (awake_any W).mono ?_
  rintro e w1 ⟨rfl, hm⟩
  have MV := hide hm
  clear hm
  go_wp2_with (refine wpList_load_on rfl 32 (.tmp 1) rfl A 0 rfl (msgCells m a1 c1 a2 c2) _ ((unhide RA).keep (unhide MV) id).range Try.underlying32 rfl (by kernel_rfl) ?_)
  refine (great_any m a1 a2 c1 c2 w1).mono ?_
  rintro e w2 ⟨rfl, hm⟩
  replace MV := hide ((unhide MV).trans hm fun _ f => f.elim)
  clear hm
  have k0 : w2.cell? ⟨A, 0, none⟩ = some (.int .u8 (m.kind.toNat : Int)) := ((unhide RA).keep (unhide MV) id).cell 0 (show 0 < 22 by decide)
  cases hga : great m
  rotate_left
  · clear hga k0
    go_wp2_with fail
    refine (wrong10 { MsgV.zero with kind := 15 } (by decide) fit_15 w2 rfl rfl).mono ?_
    rintro e u1 ⟨rfl, hm⟩
    replace MV := hide ((unhide MV).trans hm fun _ f => f.elim)
    clear hm
    go_wp2_with fail
    refine (wrong10 MsgV.zero (by decide) fit_0 u1 rfl rfl).mono ?_
    rintro e u2 ⟨rfl, hm⟩
    replace MV := hide ((unhide MV).trans hm fun _ f => f.elim)
    clear hm
    go_wp2_with fail
    go_ret
    exact ⟨rfl, unhide FIN _ (unhide MV)⟩
  clear hga
  by_cases h1 : (m.kind.toNat : Int) < 1
  · go_wp2_with fail
    refine (wrong10 { MsgV.zero with kind := 15 } (by decide) fit_15 w2 rfl rfl).mono ?_
    rintro e u1 ⟨rfl, hm⟩
    replace MV := hide ((unhide MV).trans hm fun _ f => f.elim)
    clear hm
    go_wp2_with fail
    refine (wrong10 MsgV.zero (by decide) fit_0 u1 rfl rfl).mono ?_
    rintro e u2 ⟨rfl, hm⟩
    replace MV := hide ((unhide MV).trans hm fun _ f => f.elim)
    clear hm
    go_wp2_with fail
    go_ret
    exact ⟨rfl, unhide FIN _ (unhide MV)⟩
  by_cases h2 : (14 : Int) < (m.kind.toNat : Int)
  · go_wp2_with fail
    refine (wrong10 { MsgV.zero with kind := 15 } (by decide) fit_15 w2 rfl rfl).mono ?_
    rintro e u1 ⟨rfl, hm⟩
    replace MV := hide ((unhide MV).trans hm fun _ f => f.elim)
    clear hm
    go_wp2_with fail
    refine (wrong10 MsgV.zero (by decide) fit_0 u1 rfl rfl).mono ?_
    rintro e u2 ⟨rfl, hm⟩
    replace MV := hide ((unhide MV).trans hm fun _ f => f.elim)
    clear hm
    go_wp2_with fail
    go_ret
    exact ⟨rfl, unhide FIN _ (unhide MV)⟩
  have HK := hide (show 1 ≤ m.kind.toNat ∧ m.kind.toNat ≤ 14 by omega)
  go_wp2_with (refine wpList_load_on rfl 32 (.tmp 1) rfl A 0 rfl (msgCells m a1 c1 a2 c2) _ ((unhide RA).keep (unhide MV) id).range Try.underlying32 rfl (by kernel_rfl) ?_)
  refine (refonly_any m a1 a2 c1 c2 w2 (unhide HK) ((unhide JA).1.keep (unhide MV) fun _ _ => id) ((unhide JA).2.keep (unhide MV) fun _ _ => id)).mono ?_
  rintro e v1 ⟨hm, b1, d1, b2, d2, rfl, hi1, hi2⟩
  replace MV := hide ((unhide MV).trans hm fun _ f => f.elim)
  obtain ⟨u1, hu, hrow, hmf, hth⟩ := keep_at v1 (only m) b1 b2 d1 d2
  have U1 := hide hu
  have RX := hide hrow
  have T1 := hide hth
  have JX := hide (And.intro (hi1.keep hmf fun _ _ => id) (hi2.keep hmf fun _ _ => id))
  replace MV := hide ((unhide MV).trans hmf fun _ f => f.elim)
  clear hm hi1 hi2 hu hrow hmf hth k0 h1 h2
  have HFO := hide (only_fit (unhide HF))
  have hEO : errOf (only m) = 1 := if_pos (by rw [only_kind]; exact unhide HK)
  have hEM : errOf m = 1 := if_pos (unhide HK)
  have HEE := hide (And.intro hEO hEM)
  clear hEO hEM
  go_wp2_with (first | (refine wpList_store_mid rfl 32 (.tmp 3) (.tmp 28) rfl v1.heap.size 0 (msgCells (only m) b1 d1 b2 d2).toArray rfl rfl (unhide T1) (by kernel_rfl) (cells_one (only m) b1 b2 d1 d2) ?_; change wpList _ _ _ _ _ (World.setCells _ v1.heap.size 0 (msgCells (only m) b1 d1 b2 d2)); rw [unhide U1]; clear T1 U1) | (refine wpList_load_on rfl 32 (.tmp 3) rfl v1.heap.size 0 rfl (msgCells (only m) b1 d1 b2 d2) _ (unhide RX).range Try.underlying32 rfl (by kernel_rfl) ?_))
  refine (right_any (only m) b1 b2 d1 d2 u1 (unhide HFO) (unhide JX).1 (unhide JX).2).mono ?_
  rintro e w3 ⟨hm, hh⟩
  replace RX := hide ((unhide RX).keep hm id)
  replace JX := hide (And.intro ((unhide JX).1.keep hm fun _ _ => id) ((unhide JX).2.keep hm fun _ _ => id))
  replace MV := hide ((unhide MV).trans hm fun _ f => f.elim)
  clear hm
  have hh' : ∃ E : Int, e = .returned (.int .i64 E) ∧ ((Right (only m) ∧ E = 0) ∨ (¬ Right (only m) ∧ E = 1)) := by
    rcases hh with ⟨hr, rfl⟩ | ⟨hr, rfl⟩
    · exact ⟨0, rfl, .inl ⟨hr, rfl⟩⟩
    · exact ⟨1, by rw [(unhide HEE).1], .inr ⟨hr, rfl⟩⟩
  obtain ⟨E, rfl, hE⟩ := hh'
  have HE := hide hE
  clear hh hE
  go_wp2_with (first | (refine wpList_load_on rfl 32 (.tmp 1) rfl A 0 rfl (msgCells m a1 c1 a2 c2) _ ((unhide RA).keep (unhide MV) id).range Try.underlying32 rfl (by kernel_rfl) ?_) | (refine wpList_load_on rfl 32 (.tmp 3) rfl v1.heap.size 0 rfl (msgCells (only m) b1 d1 b2 d2) _ (unhide RX).range Try.underlying32 rfl (by kernel_rfl) ?_))
  refine (same_any m (only m) a1 a2 b1 b2 c1 c2 d1 d2 w3 ((unhide JA).1.keep (unhide MV) fun _ _ => id) ((unhide JA).2.keep (unhide MV) fun _ _ => id) (unhide JX).1 (unhide JX).2 (unhide HF).owner (unhide HF).set).mono ?_
  rintro e w4 ⟨rfl, hm⟩
  replace RX := hide ((unhide RX).keep hm id)
  replace JX := hide (And.intro ((unhide JX).1.keep hm fun _ _ => id) ((unhide JX).2.keep hm fun _ _ => id))
  replace MV := hide ((unhide MV).trans hm fun _ f => f.elim)
  clear hm
  have last : Hid (∀ w', Moved (fun _ => False) W w' → RowAt w' v1.heap.size (msgCells (only m) b1 d1 b2 d2) → Ints w' b1 (only m).owner → Ints w' b2 (only m).set → Calls Try.prog 14 #[.agg (msgCells (only m) b1 d1 b2 d2).toArray] w' fun e w'' => e = .returned (.int .i64 E) ∧ Moved (fun _ => False) w' w'') := hide fun w' _ _ j1 j2 => by
    refine (refright_any (only m) b1 b2 d1 d2 w' (unhide HFO) j1 j2).mono ?_
    rintro e w'' ⟨hm, ⟨hr, rfl⟩ | ⟨hr, rfl⟩⟩
    · rcases unhide HE with ⟨_, rfl⟩ | ⟨hn, _⟩
      · exact ⟨rfl, hm⟩
      · exact absurd hr hn
    · rcases unhide HE with ⟨hn, _⟩ | ⟨_, rfl⟩
      · exact absurd hn hr
      · exact ⟨by rw [(unhide HEE).1], hm⟩
  cases hq : sameMsg m (only m)
  · have HN := hide (show ¬ Right m from fun h => by rw [h.only, (sameMsg_iff m m).2 rfl] at hq; cases hq)
    clear hq
    go_wp2_with (first | (refine wpList_load_on rfl 32 (.tmp 1) rfl A 0 rfl (msgCells m a1 c1 a2 c2) _ ((unhide RA).keep (unhide MV) id).range Try.underlying32 rfl (by kernel_rfl) ?_) | (refine wpList_load_on rfl 32 (.tmp 3) rfl v1.heap.size 0 rfl (msgCells (only m) b1 d1 b2 d2) _ (unhide RX).range Try.underlying32 rfl (by kernel_rfl) ?_))
    refine (right_any m a1 a2 c1 c2 w4 (unhide HF) ((unhide JA).1.keep (unhide MV) fun _ _ => id) ((unhide JA).2.keep (unhide MV) fun _ _ => id)).mono ?_
    rintro e w5 ⟨hm, ⟨hr, _⟩ | ⟨_, rfl⟩⟩
    · exact absurd hr (unhide HN)
    rw [(unhide HEE).2]
    replace RX := hide ((unhide RX).keep hm id)
    replace JX := hide (And.intro ((unhide JX).1.keep hm fun _ _ => id) ((unhide JX).2.keep hm fun _ _ => id))
    replace MV := hide ((unhide MV).trans hm fun _ f => f.elim)
    clear hm
    go_wp2_with (first | (refine wpList_load_on rfl 32 (.tmp 1) rfl A 0 rfl (msgCells m a1 c1 a2 c2) _ ((unhide RA).keep (unhide MV) id).range Try.underlying32 rfl (by kernel_rfl) ?_) | (refine wpList_load_on rfl 32 (.tmp 3) rfl v1.heap.size 0 rfl (msgCells (only m) b1 d1 b2 d2) _ (unhide RX).range Try.underlying32 rfl (by kernel_rfl) ?_))
    refine (unhide last w5 (unhide MV) (unhide RX) (unhide JX).1 (unhide JX).2).mono ?_
    rintro e w6 ⟨rfl, hm⟩
    replace MV := hide ((unhide MV).trans hm fun _ f => f.elim)
    clear hm
    go_wp2_with fail
    go_ret
    exact ⟨by simp, unhide FIN _ (unhide MV)⟩
  · clear hq
    go_wp2_with (first | (refine wpList_load_on rfl 32 (.tmp 1) rfl A 0 rfl (msgCells m a1 c1 a2 c2) _ ((unhide RA).keep (unhide MV) id).range Try.underlying32 rfl (by kernel_rfl) ?_) | (refine wpList_load_on rfl 32 (.tmp 3) rfl v1.heap.size 0 rfl (msgCells (only m) b1 d1 b2 d2) _ (unhide RX).range Try.underlying32 rfl (by kernel_rfl) ?_))
    refine (unhide last w4 (unhide MV) (unhide RX) (unhide JX).1 (unhide JX).2).mono ?_
    rintro e w6 ⟨rfl, hm⟩
    replace MV := hide ((unhide MV).trans hm fun _ f => f.elim)
    clear hm
    go_wp2_with fail
    go_ret
    exact ⟨by simp, unhide FIN _ (unhide MV)⟩
end Go.Proofs.Ytkbmbcmcnpeabaa

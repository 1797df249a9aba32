/- The statements' own first look: a message that is written and read. No conditions. -/
import Derived.Test.YtkbmbcmcnpeabaaDoorBytB
import Derived.Test.YtkbmbcmcnpeabaaDoorRddB
import Derived.Test.YtkbmbcmcnpeabaaDoorRowMem
namespace Go.Proofs.YtkbmbcmcnpeabaaDoor
open Pk Go.RowKit

def m8 : MsgV := { MsgV.zero with kind := 8, move := 1, part := 2, n := 300 }
theorem fit_m8 : Fit m8 := ⟨by decide, zero_i64, zero_i64, zero_i64, Nat.zero_le _, Nat.zero_le _, Nat.zero_le _, Nat.zero_le _⟩
theorem right_m8 : Right m8 := (right_iff fit_m8 (by decide)).2 ⟨⟨⟨by decide, by decide⟩, ⟨by decide, by decide⟩, ⟨by decide, by decide⟩⟩, rfl⟩
theorem num_small (n : Nat) (h : n < 128) : numBytes n = [UInt8.ofNat n] := by rw [numBytes, if_pos h]
theorem bytes_m8 : msgBytes m8 = [8, 1, 2, 172, 2] := by
  have e : msgBytes m8 = 8 :: (numBytes 1 ++ (numBytes 2 ++ numBytes 300)) := rfl
  have h : numBytes 300 = [172, 2] := by rw [numBytes, if_neg (by decide), num_small _ (by decide)]; rfl
  rw [e, h, num_small 1 (by decide), num_small 2 (by decide)]
  rfl
theorem read_m8 : readMsg (⟨#[8, 1, 2, 172, 2]⟩ : ByteArray).data.toList = (m8, 0) := by
  have h := msg_back right_m8
  rw [bytes_m8] at h
  exact h
set_option maxHeartbeats 4000000 in
set_option maxRecDepth 100000 in
theorem awake_any (w : World) : Calls Tryd.prog 6 #[] w fun e w' => e = .returned (.bool true) ∧ Moved (fun _ => False) w w' := by
  have hb := bytes_any m8 none none 0 0 w fit_m8 (ints_nil _ _) (ints_nil _ _)
  have HB := hide hb
  clear hb
  go_enter Tryd.func6, Tryd.ntmps6
  go_wp2_with fail
  change Calls Tryd.prog 8 #[.agg (msgCells m8 none 0 none 0).toArray] _ _
  refine (unhide HB).mono ?_
  rintro e w1 ⟨hm, hh⟩
  have HM := hide hm
  clear hm
  rcases hh with ⟨_, rfl⟩ | ⟨hr, _⟩
  rotate_left
  · exact absurd right_m8 hr
  rw [bytes_m8]
  have hrd := read_any ⟨#[8, 1, 2, 172, 2]⟩ (by decide) w1
  rw [read_m8] at hrd
  have HR := hide hrd
  clear hrd
  go_wp2_with fail
  refine (unhide HR).mono ?_
  rintro e w2 ⟨hm2, a, c, a2, c2, rfl, -, -, -⟩
  have HM2 := hide hm2
  clear hm2
  obtain ⟨wf, hwf, hrow, hmf, hth⟩ := keep_at w2 m8 a a2 c c2
  have HWF := hide hwf
  have HTH := hide hth
  have HMF := hide hmf
  have k0 : wf.cell? ⟨w2.heap.size, 0, none⟩ = some (.int .u8 8) := hrow.cell 0 (show 0 < 22 by decide)
  have k1 : wf.cell? ⟨w2.heap.size, 1, none⟩ = some (.int .i64 1) := hrow.cell 1 (show 1 < 22 by decide)
  have k2 : wf.cell? ⟨w2.heap.size, 2, none⟩ = some (.int .i64 2) := hrow.cell 2 (show 2 < 22 by decide)
  have k4 : wf.cell? ⟨w2.heap.size, 4, none⟩ = some (.int .i64 300) := hrow.cell 4 (show 4 < 22 by decide)
  have hone := cells_one m8 a a2 c c2
  have HONE := hide hone
  clear hwf hth hmf hrow hone
  go_wp2_with (refine wpList_store_mid rfl 29 (.tmp 3) (.tmp 13) rfl w2.heap.size 0 (msgCells m8 a c a2 c2).toArray rfl rfl (unhide HTH) (by kernel_rfl) (unhide HONE) ?_; change wpList _ _ _ _ _ (World.setCells _ w2.heap.size 0 (msgCells m8 a c a2 c2)); rw [unhide HWF])
  go_ret
  exact ⟨rfl, ((unhide HM).trans (unhide HM2) fun _ f => f.elim).trans (unhide HMF) fun _ f => f.elim⟩
end Go.Proofs.YtkbmbcmcnpeabaaDoor

/- The statements' Great: a message with more than 3000 numbers, or 5000 bytes. No conditions. -/
import Derived.Test.YtkbmbcmcnpeabaaSameB
namespace Go.Proofs.Ytkbmbcmcnpeabaa
open Pk Go.RowKit

/-- A message that is too great for the statements. -/
def great (m : MsgV) : Bool := decide (3000 < m.set.length ∨ 3000 < m.owner.length ∨ 5000 < m.data.length ∨ 5000 < m.item.key.length)
theorem size_of (l : List UInt8) : (⟨l.toArray⟩ : ByteArray).size = l.length := by simp [ByteArray.size]
set_option maxHeartbeats 1000000 in
theorem great_any (m : MsgV) (a1 a2 : Option Addr) (c1 c2 : Nat) (w : World) :
    Calls Try.prog 11 #[.agg (msgCells m a1 c1 a2 c2).toArray] w fun e w' => e = .returned (.bool (great m)) ∧ Moved (fun _ => False) w w' := by
  have hrow := row_new w (msgCells m a1 c1 a2 c2) 32
  have mW : Moved (fun _ => False) w (w.alloc (.cells (msgCells m a1 c1 a2 c2).toArray 32)) := (Moved.refl _ _).alloc _
  obtain ⟨W, hW⟩ : ∃ W, W = w.alloc (.cells (msgCells m a1 c1 a2 c2).toArray 32) := ⟨_, rfl⟩
  rw [← hW] at hrow mW
  have k0 : W.cell? ⟨w.heap.size, 20, none⟩ = some (.slice a2 m.set.length c2) := hrow.cell 20 (show 20 < 22 by decide)
  have k1 : W.cell? ⟨w.heap.size, 19, none⟩ = some (.slice a1 m.owner.length c1) := hrow.cell 19 (show 19 < 22 by decide)
  have k2 : W.cell? ⟨w.heap.size, 21, none⟩ = some (.string ⟨m.data.toArray⟩) := hrow.cell 21 (show 21 < 22 by decide)
  have k3 : W.cell? ⟨w.heap.size, 13, none⟩ = some (.string ⟨m.item.key.toArray⟩) := hrow.cell 13 (show 13 < 22 by decide)
  have s2 := size_of m.data
  have s3 := size_of m.item.key
  have hg : great m = decide (3000 < m.set.length ∨ 3000 < m.owner.length ∨ 5000 < (⟨m.data.toArray⟩ : ByteArray).size ∨ 5000 < (⟨m.item.key.toArray⟩ : ByteArray).size) := by rw [s2, s3]; rfl
  have HW := hide hW
  have HM := hide mW
  have HG := hide hg
  clear hrow mW hW hg s2 s3
  generalize (⟨m.data.toArray⟩ : ByteArray) = sd at *
  generalize (⟨m.item.key.toArray⟩ : ByteArray) = sk at *
  generalize m.set.length = n1 at *
  generalize m.owner.length = n2 at *
  go_enter Try.func11, Try.ntmps11
  go_upto_region 1 with fail
  rw [← unhide HW]
  by_cases h1 : (3000 : Int) < (n1 : Int)
  · go_wp2_with fail
    go_ret
    exact ⟨by rw [unhide HG, decide_eq_true (by omega)]; rfl, unhide HM⟩
  · by_cases h2 : (3000 : Int) < (n2 : Int)
    · go_wp2_with fail
      go_ret
      exact ⟨by rw [unhide HG, decide_eq_true (by omega)]; rfl, unhide HM⟩
    · by_cases h3 : (5000 : Int) < (sd.size : Int)
      · go_wp2_with fail
        go_ret
        exact ⟨by rw [unhide HG, decide_eq_true (by omega)]; rfl, unhide HM⟩
      · by_cases h4 : (5000 : Int) < (sk.size : Int)
        · go_wp2_with fail
          go_ret
          exact ⟨by rw [unhide HG, decide_eq_true (by omega)]; rfl, unhide HM⟩
        · go_wp2_with fail
          go_ret
          exact ⟨by rw [unhide HG, decide_eq_false (by omega)]; rfl, unhide HM⟩
end Go.Proofs.Ytkbmbcmcnpeabaa

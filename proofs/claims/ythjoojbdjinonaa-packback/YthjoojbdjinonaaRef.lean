/- What the document's own Num, Zig and Text, and write and bytes of the statements, answer. Condition: texts are no longer than a machine's. -/
import Derived.Test.YthjoojbdjinonaaParts
namespace Go.Proofs.Ythjoojbdjinonaa
open Pk Go.RowKit

/-- One byte as a text. -/
theorem conv_one (B : Nat) (b : UInt8) (W : World) (h : W.cell? ⟨B, 0, none⟩ = some (.int .u8 (b.toNat : Int))) : Sem.run Try.prog (convert 22 9 (.slice (some ⟨B, 0, none⟩) 1 1)) W = .ok (.string ⟨#[b]⟩) W := by
  refine run_convert_bytes_back W 22 9 5 ⟨B, 0, none⟩ 1 [b] Try.underlying22 Try.underlying5 Try.underlying9 fun j hj => ?_
  have : j = 0 := by simp at hj; omega
  subst this
  exact h

/-- .. in a later world. -/
theorem conv_after {w w' : World} {b : UInt8} (h : Below (w.alloc (.cells #[.int .u8 (b.toNat : Int)] 5)).drew.heap.size (w.alloc (.cells #[.int .u8 (b.toNat : Int)] 5)).drew w') :
    Sem.run Try.prog (convert 22 9 (.slice (some ⟨w.heap.size, 0, none⟩) 1 1)) w' = .ok (.string ⟨#[b]⟩) w' :=
  conv_one _ b _ ((h.cell (p := ⟨w.heap.size, 0, none⟩) (by simp)).trans (by simp))
theorem zig_any (i : Int) (hi : i64In i) (w : World) :
    Calls Try.prog 39 #[.int .i64 i] w fun e w' => e = .returned (.int .u64 ((zig i : Nat) : Int)) ∧ w' = w := by
  unfold i64In at hi
  have hz : ((zig i : Nat) : Int) = if i < 0 then -(i + 1) * 2 + 1 else i * 2 := by unfold zig; split <;> omega
  generalize ((zig i : Nat) : Int) = z at *
  by_cases h : i < 0
  · rw [if_pos h] at hz
    subst hz
    go_enter Try.func39, Try.ntmps39
    go_wp2
    go_ret
    refine ⟨ret_u64 ?_, rfl⟩
    first | omega | (simp [wrap64]; omega)
  · rw [if_neg h] at hz
    subst hz
    go_enter Try.func39, Try.ntmps39
    go_wp2
    go_ret
    refine ⟨ret_u64 ?_, rfl⟩
    first | omega | (simp [wrap64]; omega)

set_option maxHeartbeats 1000000 in
set_option maxRecDepth 100000 in
theorem refnum_any (n : Nat) : ∀ (w : World), n < 2 ^ 64 →
    Calls Try.prog 38 #[.int .u64 (n : Int)] w fun e w' => e = .returned (.string ⟨(numBytes n).toArray⟩) ∧ Below w.heap.size w w' := by
  induction n using Nat.strongRecOn with
  | ind n ih =>
    intro w hn
    by_cases hs : n < 128
    · obtain ⟨b, hb⟩ : ∃ b : UInt8, b.toNat = n := ⟨UInt8.ofNat n, toNat_ofNat_lt (by omega)⟩
      subst hb
      have hnb : numBytes b.toNat = [b] := by rw [numBytes, if_pos hs]; simp
      rw [hnb]
      have hcv := conv_one w.heap.size b (w.alloc (.cells #[.int .u8 (b.toNat : Int)] 5)) (by simp)
      clear ih hnb
      go_enter Try.func38, Try.ntmps38
      go_wp2_with fail
      go_ret
      exact ⟨rfl, (Below.refl _ _).alloc (Nat.le_refl _) _⟩
    · have hnb : numBytes n = UInt8.ofNat (n % 128 + 128) :: numBytes (n / 128) := by rw [numBytes, if_neg hs]
      have hv : IntKind.u8.wrap (IntKind.u8.wrap ((n : Int).tmod 128) + 128) = (((UInt8.ofNat (n % 128 + 128)).toNat : Nat) : Int) := by
        rw [toNat_ofNat_lt (by omega), IntKind.wrap_u8', IntKind.wrap_u8', Int.tmod_eq_emod_of_nonneg (by omega)]; omega
      have hq : IntKind.u64.wrap ((n : Int) / 128) = ((n / 128 : Nat) : Int) := by rw [wrap_u64]; omega
      have Hnb := hide hnb
      have IH := hide (fun w => ih (n / 128) (by omega) w (by omega))
      have hlen := numBytes_length (n / 128) (by omega)
      have hsum : ¬ (9223372036854775807 < 1 + (numBytes (n / 128)).length) := by omega
      clear hnb ih
      generalize UInt8.ofNat (n % 128 + 128) = b at *
      generalize n / 128 = q at *
      have v1 : ∀ W : World, Sem.run Try.prog (convert 22 9 (.slice (some ⟨W.heap.size, 0, none⟩) 1 1)) (W.alloc (.cells #[.int .u8 (b.toNat : Int)] 5)).drew = .ok (.string ⟨#[b]⟩) (W.alloc (.cells #[.int .u8 (b.toNat : Int)] 5)).drew := fun W => conv_one _ b _ (by simp)
      have v2 : ∀ W : World, Sem.run Try.prog (convert 22 9 (.slice (some ⟨W.heap.size, 0, none⟩) 1 1)) (W.alloc (.cells #[.int .u8 (b.toNat : Int)] 5)) = .ok (.string ⟨#[b]⟩) (W.alloc (.cells #[.int .u8 (b.toNat : Int)] 5)) := fun W => conv_one _ b _ (by simp)
      go_enter Try.func38, Try.ntmps38
      go_wp2_with fail
      go_region_with (go_at_call 38; refine (unhide IH _).mono ?_; rintro e w' ⟨rfl, hbel⟩; first | have v3 := conv_after hbel | skip)
      all_goals
        have Hbel := hide hbel
        clear hbel
        go_wp2_with fail
        go_ret
        refine ⟨?_, ?_⟩
        · rw [unhide Hnb]; exact congrArg (fun x => Ending.returned (.string x)) (bytes_ext (by simp [ByteArray.data_append]))
        · have hb := unhide Hbel
          first
            | exact ((Below.refl _ _).alloc (Nat.le_refl _) _).drew.trans (hb.mono (by simp))
            | exact (((Below.refl _ w).drew.trans hb).alloc hb.size _)
            | trace_state
end Go.Proofs.Ythjoojbdjinonaa

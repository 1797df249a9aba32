/- What the document's own Num, Zig and Text answer. No conditions. -/
import Derived.Test.YtkbmbcmcnpeabaaDoorMsgMath
import Derived.Test.YtkbmbcmcnpeabaaDoorInB
import Derived.WalkKit
import Derived.WalkSpells
import Derived.Outline
import Derived.Below
import Derived.BigQuiet
import Derived.Deep.RegionWith
import Derived.Deep.CutRange
import Derived.RegionTactic
import Derived.Deep.QuietTactic
import Derived.WalkSmall
import Derived.Laws.IdiomStrings
import Derived.Deep.MidRow
import Derived.Test.YtkbmbcmcnpeabaaDoorRowMem
import Derived.Test.YtkbmbcmcnpeabaaDoorRddB
namespace Go.Proofs.YtkbmbcmcnpeabaaDoor.Rf
open Pk Go.RowKit

/-- One byte as a text. -/
theorem conv_one (B : Nat) (b : UInt8) (W : World) (h : W.cell? ⟨B, 0, none⟩ = some (.int .u8 (b.toNat : Int))) : Sem.run Tryd.prog (convert 48 9 (.slice (some ⟨B, 0, none⟩) 1 1)) W = .ok (.string ⟨#[b]⟩) W := by
  refine run_convert_bytes_back W 48 9 5 ⟨B, 0, none⟩ 1 [b] Tryd.underlying48 Tryd.underlying5 Tryd.underlying9 fun j hj => ?_
  have : j = 0 := by simp at hj; omega
  subst this
  exact h

/-- .. in a later world. -/
theorem conv_after {w w' : World} {b : UInt8} (h : Below (w.alloc (.cells #[.int .u8 (b.toNat : Int)] 5)).drew.heap.size (w.alloc (.cells #[.int .u8 (b.toNat : Int)] 5)).drew w') :
    Sem.run Tryd.prog (convert 48 9 (.slice (some ⟨w.heap.size, 0, none⟩) 1 1)) w' = .ok (.string ⟨#[b]⟩) w' :=
  conv_one _ b _ ((h.cell (p := ⟨w.heap.size, 0, none⟩) (by simp)).trans (by simp))
theorem zig_any (i : Int) (hi : I64 i) (w : World) :
    Calls Tryd.prog 31 #[.int .i64 i] w fun e w' => e = .returned (.int .u64 ((zig i : Nat) : Int)) ∧ w' = w := by
  unfold I64 at hi
  have hz : ((zig i : Nat) : Int) = if i < 0 then -(i + 1) * 2 + 1 else i * 2 := by unfold zig; split <;> omega
  generalize ((zig i : Nat) : Int) = z at *
  by_cases h : i < 0
  · rw [if_pos h] at hz
    subst hz
    go_enter Tryd.func31, Tryd.ntmps31
    go_wp2
    go_ret
    refine ⟨ret_u64 ?_, rfl⟩
    first | omega | (simp [wrap64]; omega)
  · rw [if_neg h] at hz
    subst hz
    go_enter Tryd.func31, Tryd.ntmps31
    go_wp2
    go_ret
    refine ⟨ret_u64 ?_, rfl⟩
    first | omega | (simp [wrap64]; omega)

set_option maxHeartbeats 1000000 in
set_option maxRecDepth 100000 in
theorem refnum_any (n : Nat) : ∀ (w : World), n < 2 ^ 64 →
    Calls Tryd.prog 30 #[.int .u64 (n : Int)] w fun e w' => e = .returned (.string ⟨(numBytes n).toArray⟩) ∧ Below w.heap.size w w' := by
  induction n using Nat.strongRecOn with
  | ind n ih =>
    intro w hn
    by_cases hs : n < 128
    · obtain ⟨b, hb⟩ : ∃ b : UInt8, b.toNat = n := ⟨UInt8.ofNat n, toNat_ofNat_lt (by omega)⟩
      subst hb
      have hnb : numBytes b.toNat = [b] := by rw [numBytes, if_pos hs]; simp
      rw [hnb]
      have hcv := conv_one w.heap.size b (w.alloc (.cells #[.int .u8 (b.toNat : Int)] 5)) (by simp)
      clear ih hnb
      go_enter Tryd.func30, Tryd.ntmps30
      go_wp2_with fail
      go_ret
      exact ⟨rfl, (Below.refl _ _).alloc (Nat.le_refl _) _⟩
    · have hnb : numBytes n = UInt8.ofNat (n % 128 + 128) :: numBytes (n / 128) := by rw [numBytes, if_neg hs]
      have hv : IntKind.u8.wrap (IntKind.u8.wrap ((n : Int).tmod 128) + 128) = (((UInt8.ofNat (n % 128 + 128)).toNat : Nat) : Int) := by
        rw [toNat_ofNat_lt (by omega), IntKind.wrap_u8', IntKind.wrap_u8', Int.tmod_eq_emod_of_nonneg (by omega)]; omega
      have hq : IntKind.u64.wrap ((n : Int) / 128) = ((n / 128 : Nat) : Int) := by rw [wrap_u64]; omega
      have Hnb := hide hnb
      have IH := hide (fun w => ih (n / 128) (by omega) w (by omega))
      have hlen := numBytes_length (n / 128) (by omega)
      have hsum : ¬ (9223372036854775807 < 1 + (numBytes (n / 128)).length) := by omega
      clear hnb ih
      generalize UInt8.ofNat (n % 128 + 128) = b at *
      generalize n / 128 = q at *
      have v1 : ∀ W : World, Sem.run Tryd.prog (convert 48 9 (.slice (some ⟨W.heap.size, 0, none⟩) 1 1)) (W.alloc (.cells #[.int .u8 (b.toNat : Int)] 5)).drew = .ok (.string ⟨#[b]⟩) (W.alloc (.cells #[.int .u8 (b.toNat : Int)] 5)).drew := fun W => conv_one _ b _ (by simp)
      have v2 : ∀ W : World, Sem.run Tryd.prog (convert 48 9 (.slice (some ⟨W.heap.size, 0, none⟩) 1 1)) (W.alloc (.cells #[.int .u8 (b.toNat : Int)] 5)) = .ok (.string ⟨#[b]⟩) (W.alloc (.cells #[.int .u8 (b.toNat : Int)] 5)) := fun W => conv_one _ b _ (by simp)
      go_enter Tryd.func30, Tryd.ntmps30
      go_wp2_with fail
      go_region_with (go_at_call 30; refine (unhide IH _).mono ?_; rintro e w' ⟨rfl, hbel⟩; first | have v3 := conv_after hbel | skip)
      all_goals
        have Hbel := hide hbel
        clear hbel
        go_wp2_with fail
        go_ret
        refine ⟨?_, ?_⟩
        · rw [unhide Hnb]; exact congrArg (fun x => Ending.returned (.string x)) (bytes_ext (by simp [ByteArray.data_append]))
        · have hb := unhide Hbel
          first
            | exact ((Below.refl _ _).alloc (Nat.le_refl _) _).drew.trans (hb.mono (by simp))
            | exact (((Below.refl _ w).drew.trans hb).alloc hb.size _)
            | trace_state
end Go.Proofs.YtkbmbcmcnpeabaaDoor.Rf

namespace Go.Proofs.YtkbmbcmcnpeabaaDoor.Rf
open Pk Go.RowKit

theorem text_len (s : ByteArray) : s.data.toList.length = s.size := by simp
theorem drop_at (s : ByteArray) (k : Nat) (h : k < s.size) : s.data.toList.drop k = s[k] :: s.data.toList.drop (k + 1) := by
  rw [List.drop_eq_getElem_cons (by simpa using h)]; rfl
/-- What Read tells at a place. -/
def numAt (s : ByteArray) (k : Nat) : Nat × Nat × Nat := ((num (s.data.toList.drop k)).1, k + (num (s.data.toList.drop k)).2.1, (num (s.data.toList.drop k)).2.2)

/-- A byte of a text by a reckoned place. -/
theorem index_at (s : ByteArray) (i : Int) (k : Nat) (h : k < s.size) (hi : i = (k : Int)) (w : World) : Sem.run Tryd.prog (Instr.index 9 (.string s) (.int .i64 i)) w = .ok (.int .u8 (s[k].toNat : Int)) w := by
  subst hi
  rw [run_index_string w 9 s .i64 (k : Int) Tryd.underlying9, dif_pos ⟨by omega, by omega⟩]
  rfl

/-- Seven bits more. -/
theorem add_step (acc k c : Nat) (hk : k < 10) (ha : acc < 2 ^ (7 * k)) (hc : k < 9 ∨ c % 128 ≤ 1) :
    IntKind.u64.wrap ((acc : Int) + IntKind.u64.wrap ((c : Int) % 128 * 2 ^ (7 * k))) = ((acc + c % 128 * 2 ^ (7 * k) : Nat) : Int) ∧ acc + c % 128 * 2 ^ (7 * k) < 2 ^ (7 * (k + 1)) := by
  have hm : c % 128 < 128 := Nat.mod_lt _ (by decide)
  have hpow : 2 ^ (7 * (k + 1)) = 2 ^ (7 * k) * 128 := by rw [show 7 * (k + 1) = 7 * k + 7 by omega, Nat.pow_add]
  have hle : c % 128 * 2 ^ (7 * k) ≤ 127 * 2 ^ (7 * k) := Nat.mul_le_mul_right _ (by omega)
  have e : (c : Int) % 128 * 2 ^ (7 * k) = ((c % 128 * 2 ^ (7 * k) : Nat) : Int) := by
    rw [Int.natCast_mul]; simp
  have hs : acc + c % 128 * 2 ^ (7 * k) < 2 ^ 64 := by
    rcases hc with h | h
    · have h3 : 2 ^ (7 * k) ≤ 2 ^ 56 := Nat.pow_le_pow_right (by decide) (by omega)
      have : (2 : Nat) ^ 64 = 256 * 2 ^ 56 := by decide
      omega
    · have h3 : 2 ^ (7 * k) ≤ 2 ^ 63 := Nat.pow_le_pow_right (by decide) (by omega)
      have h4 : c % 128 * 2 ^ (7 * k) ≤ 1 * 2 ^ (7 * k) := Nat.mul_le_mul_right _ h
      have : (2 : Nat) ^ 64 = 2 * 2 ^ 63 := by decide
      omega
  refine ⟨?_, by omega⟩
  rw [e]
  generalize c % 128 * 2 ^ (7 * k) = x at *
  rw [wrap_u64, wrap_u64]
  omega

set_option maxRecDepth 100000 in
set_option maxHeartbeats 1000000 in
theorem refread_any (s : ByteArray) (p : Nat) (w : World) (hs : s.size ≤ maxLen) (hp : p ≤ s.size) :
    Calls Tryd.prog 64 #[.string s, .int .i64 (p : Int)] w fun e w' => e = .returned (.tuple #[.int .u64 (((numAt s p).1 : Nat) : Int), .int .i64 (((numAt s p).2.1 : Nat) : Int), .int .i64 (((numAt s p).2.2 : Nat) : Int)]) ∧ w' = w := by
  unfold maxLen at hs
  go_enter Tryd.func64, Tryd.ntmps64
  go_wp2
  go_loop [7, 8] (fun n i => ∃ k acc : Nat, i = .int .i64 (k : Int) ∧ n = .int .u64 (acc : Int) ∧ k ≤ 10 ∧ p + k ≤ s.size ∧ acc < 2 ^ (7 * k) ∧ rd k acc (s.data.toList.drop (p + k)) = num (s.data.toList.drop p)) (fun _ i => 10 - (intOf i).toNat)
  case atStart => exact ⟨0, 0, rfl, rfl, by omega, by omega, by decide, rfl⟩
  case round =>
    obtain ⟨k, acc, rfl, rfl, hk, hks, hacc, hrd⟩ := hrel
    have Hrd := hide hrd
    by_cases h10 : k < 10
    · by_cases hlt : p + k < s.size
      · have hst : rd k acc (s.data.toList.drop (p + k)) = if s[p + k].toNat < 128 then (if (s[p + k].toNat = 0 ∧ 0 < k) ∨ (k = 9 ∧ 1 < s[p + k].toNat) then (0, 0, 8) else (acc + s[p + k].toNat * 2 ^ (7 * k), k + 1, 0)) else rd (k + 1) (acc + (s[p + k].toNat - 128) * 2 ^ (7 * k)) (s.data.toList.drop (p + k + 1)) := by
          rw [drop_at s (p + k) hlt]
          simp only [rd, if_neg (show ¬ 10 ≤ k by omega)]
        have hidx := fun w => index_at s ((p : Int) + (k : Int)) (p + k) hlt (by omega) w
        generalize s[p + k] = c at *
        have Hst := hide hst
        have hb := c.toNat_lt
        have hle : (p : Int) + (k : Int) < (s.size : Int) := by omega
        clear hst hrd
        by_cases hA : k = 9 ∧ 1 < c.toNat
        · have e9 : ((k : Int) == 9) = true := by simp; omega
          have d9 : decide ((1 : Int) < (c.toNat : Int)) = true := decide_eq_true (by omega)
          have d9' : (1 : Int) < (c.toNat : Int) := by omega
          have hfin : num (s.data.toList.drop p) = (0, 0, 8) := by
            rw [← unhide Hrd, unhide Hst]
            split
            · rw [if_pos (.inr hA)]
            · rw [rd_ten _ _ _ (by omega)]
          have Hfin := hide hfin
          have HA := hide hA
          clear hfin hA hacc
          go_wp2_with fail
          go_ret3
          refine ⟨?_, rfl⟩
          unfold numAt
          rw [unhide Hfin]
          rfl
        · obtain ⟨hsum, hlt'⟩ := add_step acc k c.toNat h10 hacc (by omega)
          generalize hx : acc + c.toNat % 128 * 2 ^ (7 * k) = x at hsum hlt'
          have HX := hide hx
          have HL := hide hlt'
          clear hx hlt' hacc
          have HA := hide hA
          clear hA
          have hA1 : (((k : Int) == 9) = true ∧ decide ((1 : Int) < (c.toNat : Int)) = false ∧ ¬ (1 : Int) < (c.toNat : Int)) ∨ ((k : Int) == 9) = false := by
            by_cases h9 : k = 9
            · left
              have : ¬ (1 : Int) < (c.toNat : Int) := by have := unhide HA; omega
              exact ⟨by simp; omega, decide_eq_false this, this⟩
            · right; simp; omega
          by_cases h128 : c.toNat < 128
          · by_cases hz : c.toNat = 0 ∧ 0 < k
            · have e0 : ((c.toNat : Int) == 0) = true := by simp; omega
              have dk : decide ((0 : Int) < (k : Int)) = true := decide_eq_true (by omega)
              have hfin : num (s.data.toList.drop p) = (0, 0, 8) := by
                rw [← unhide Hrd, unhide Hst, if_pos h128, if_pos (.inl hz)]
              have Hfin := hide hfin
              have HZ := hide hz
              have hkp : 0 < k := hz.2
              clear hfin hz
              rcases hA1 with ⟨e9, d9, d9'⟩ | e9
              all_goals
                go_wp2_with fail
                go_ret3
                refine ⟨?_, rfl⟩
                unfold numAt
                rw [unhide Hfin]
                rfl
            · have hfin : num (s.data.toList.drop p) = (x, k + 1, 0) := by
                rw [← unhide Hrd, unhide Hst, if_pos h128, if_neg (by have := unhide HA; omega), ← unhide HX, Nat.mod_eq_of_lt h128]
              have Hfin := hide hfin
              have hz2 : (((c.toNat : Int) == 0) = true ∧ decide ((0 : Int) < (k : Int)) = false ∧ ¬ 0 < k) ∨ ((c.toNat : Int) == 0) = false := by
                by_cases hc0 : c.toNat = 0
                · left
                  exact ⟨by simp; omega, decide_eq_false (by omega), by omega⟩
                · right; simp; omega
              clear hfin hz
              rcases hA1 with ⟨e9, d9, d9'⟩ | e9 <;> rcases hz2 with ⟨e0, d0, d0'⟩ | e0
              all_goals
                go_wp2_with fail
                go_ret3
                refine ⟨?_, rfl⟩
                unfold numAt
                rw [unhide Hfin]
                first
                  | rfl
                  | (simp only []; rw [show ((p + (k + 1) : Nat) : Int) = (p : Int) + (k : Int) + 1 by omega]; rfl)
                  | trace_state
          · rcases hA1 with ⟨e9, d9, d9'⟩ | e9
            · exfalso; omega
            · have e9' := hide e9
              go_wp2_with fail
              go_round
              case rel =>
                refine ⟨k + 1, x, by go_num, rfl, by omega, by omega, unhide HL, ?_⟩
                rw [← unhide Hrd, unhide Hst, if_neg h128, ← unhide HX, show c.toNat % 128 = c.toNat - 128 by omega]
                rfl
              case measure => simp [intOf]; omega
      · have hfin : num (s.data.toList.drop p) = (0, 0, 7) := by
          rw [← hrd, List.drop_of_length_le (by simp; omega)]
          simp only [rd, if_neg (show ¬ 10 ≤ k by omega)]
        have hge : (s.size : Int) ≤ (p : Int) + (k : Int) := by omega
        have Hfin := hide hfin
        clear hrd hacc hfin
        go_wp2_with fail
        go_ret3
        refine ⟨?_, rfl⟩
        unfold numAt
        rw [unhide Hfin]
        rfl
    · have hfin : num (s.data.toList.drop p) = (0, 0, 8) := by rw [← hrd, rd_ten _ _ _ (by omega)]
      have Hfin := hide hfin
      clear hrd hacc hfin
      go_wp2_with fail
      go_ret3
      refine ⟨?_, rfl⟩
      unfold numAt
      rw [unhide Hfin]
      rfl
end Go.Proofs.YtkbmbcmcnpeabaaDoor.Rf

namespace Go.Proofs.YtkbmbcmcnpeabaaDoor.Rf
open Pk Go.RowKit

theorem drewN_moved (F : Nat → Prop) (w : World) (n : Nat) : Moved F w (w.drewN n) := ⟨rfl, rfl, rfl, Nat.le_refl _, fun _ _ _ => rfl⟩
theorem num_zero {l : List UInt8} (h : (num l).2.2 ≠ 0) : num l = (0, 0, (num l).2.2) := by
  rcases num_fault l with h' | h' | h'
  · exact absurd h' h
  · rw [h']
  · rw [h']

set_option maxHeartbeats 1000000 in
theorem refin_num {w : World} {x : Nat} {s : ByteArray} {k f : Nat} (h : InAt w x s k f) :
    Calls Tryd.prog 46 #[.pointer (some ⟨x, 0, none⟩)] w fun e w' => e = .returned (.int .u64 (((outNum s k f).1 : Nat) : Int)) ∧ Read w w' x s k (outNum s k f).2.1 (outNum s k f).2.2 := by
  have H := hide h
  have hc0 := h.text
  have hc1 := h.place
  have hc2 := h.fault
  have hf1 := h.free1
  have hf2 := h.free2
  have hle := h.le
  have hsm := h.small
  have herr := h.err
  clear h
  by_cases hf : f = 0
  · subst hf
    have ho : outNum s k 0 = num (s.data.toList.drop k) := if_pos rfl
    have hq := hide (show ∀ n, Calls Tryd.prog 64 #[.string s, .int .i64 (k : Int)] (w.drewN n) fun e w' => e = .returned (.tuple #[.int .u64 (((numAt s k).1 : Nat) : Int), .int .i64 (((numAt s k).2.1 : Nat) : Int), .int .i64 (((numAt s k).2.2 : Nat) : Int)]) ∧ w' = w.drewN n from fun n => refread_any s k (w.drewN n) (by unfold maxLen; omega) hle)
    have hroom := num_room (s.data.toList.drop k)
    rw [List.length_drop, text_len] at hroom
    obtain ⟨a, ha⟩ : ∃ a, a = (num (s.data.toList.drop k)).1 := ⟨_, rfl⟩
    obtain ⟨b, hb⟩ : ∃ b, b = (num (s.data.toList.drop k)).2.1 := ⟨_, rfl⟩
    obtain ⟨c, hc⟩ : ∃ c, c = (num (s.data.toList.drop k)).2.2 := ⟨_, rfl⟩
    have hnum : numAt s k = (a, k + b, c) := by unfold numAt; rw [ha, hb, hc]
    have HO : Hid (outNum s k 0 = (a, b, c)) := hide (by rw [ho, ha, hb, hc])
    have hz : c ≠ 0 → b = 0 := fun h0 => by have := num_zero (l := s.data.toList.drop k) (by rw [← hc]; exact h0); rw [hb, this]
    have HZ := hide hz
    rw [← hb, ← hc] at hroom
    rw [hnum] at hq
    clear ho ha hb hc hnum hz
    go_enter Tryd.func46, Tryd.ntmps46
    go_wp2_with fail
    go_quiet (first | (go_at_call 64; exact Calls.quiet_of_same (unhide hq _)))
    have hdr := hide ((unhide H).keep (drewN_moved (fun _ => False) w nq) id)
    have d1 : (w.drewN nq).cell? ⟨x, 1, none⟩ = some (.int .i64 (k : Int)) := hc1
    have d2 : (w.drewN nq).cell? ⟨x, 2, none⟩ = some (.int .i64 0) := hc2
    have g1 : (w.drewN nq).frozen? ⟨x, 1, none⟩ = false := hf1
    have g2 : (w.drewN nq).frozen? ⟨x, 2, none⟩ = false := hf2
    have hkb : Hid (ahead k b c = k + b) := hide (by unfold ahead; split; · rfl
                                                     · rw [unhide HZ ‹_›, Nat.add_zero])
    have hmv := hide (drewN_moved (fun i => i = x) w nq)
    generalize w.drewN nq = wd at *
    clear hc0 hc1 hc2 hf1 hf2 H
    go_wp2_with fail
    go_ret
    rw [unhide HO]
    refine ⟨rfl, ?_, ?_⟩
    · rw [unhide hkb]
      have h1 := ((unhide hdr).fail c (by omega)).go (k + b) (by omega)
      exact h1
    · exact ((unhide hmv).setCell (p := ⟨x, 2, none⟩) (.inl rfl) _).setCell (p := ⟨x, 1, none⟩) (.inl rfl) _
  · have hne : (((f : Nat) : Int) != 0) = true := by simp; omega
    have ho : outNum s k f = (0, 0, f) := if_neg hf
    rw [ho]
    go_enter Tryd.func46, Tryd.ntmps46
    go_wp2_with fail
    go_ret
    exact ⟨rfl, by unfold ahead; rw [if_neg hf]; exact unhide H, Moved.refl _ _⟩

set_option maxHeartbeats 1000000 in
theorem refin_most {w : World} {x : Nat} {s : ByteArray} {k f : Nat} (h : InAt w x s k f) (m : Nat) (hm : m ≤ 2147483647) :
    Calls Tryd.prog 40 #[.pointer (some ⟨x, 0, none⟩), .int .i64 (m : Int)] w fun e w' => e = .returned (.int .i64 (((outMost (m : Int) s k f).1 : Nat) : Int)) ∧ Read w w' x s k (outMost (m : Int) s k f).2.1 (outMost (m : Int) s k f).2.2 := by
  have H := hide h
  have hc0 := h.text
  have hc1 := h.place
  have hc2 := h.fault
  have hf1 := h.free1
  have hf2 := h.free2
  have hle := h.le
  have hsm := h.small
  have herr := h.err
  clear h
  by_cases hf : f = 0
  · subst hf
    have ho : outMost (m : Int) s k 0 = numTo m (s.data.toList.drop k) := if_pos rfl
    have hq := hide (show ∀ n, Calls Tryd.prog 64 #[.string s, .int .i64 (k : Int)] (w.drewN n) fun e w' => e = .returned (.tuple #[.int .u64 (((numAt s k).1 : Nat) : Int), .int .i64 (((numAt s k).2.1 : Nat) : Int), .int .i64 (((numAt s k).2.2 : Nat) : Int)]) ∧ w' = w.drewN n from fun n => refread_any s k (w.drewN n) (by unfold maxLen; omega) hle)
    have hroom := num_room (s.data.toList.drop k)
    rw [List.length_drop, text_len] at hroom
    have hlt := num_lt (l := s.data.toList.drop k)
    have hto : numTo (m : Int) (s.data.toList.drop k) = if (num (s.data.toList.drop k)).2.2 ≠ 0 then (0, 0, (num (s.data.toList.drop k)).2.2) else if (m : Int) < 0 ∨ (m : Int) < ((num (s.data.toList.drop k)).1 : Int) then (0, 0, 8) else num (s.data.toList.drop k) := rfl
    obtain ⟨a, ha⟩ : ∃ a, a = (num (s.data.toList.drop k)).1 := ⟨_, rfl⟩
    obtain ⟨b, hb⟩ : ∃ b, b = (num (s.data.toList.drop k)).2.1 := ⟨_, rfl⟩
    obtain ⟨c, hc⟩ : ∃ c, c = (num (s.data.toList.drop k)).2.2 := ⟨_, rfl⟩
    have hnum : numAt s k = (a, k + b, c) := by unfold numAt; rw [ha, hb, hc]
    have hnn : num (s.data.toList.drop k) = (a, b, c) := by rw [ha, hb, hc]
    rw [hnn] at hto hroom hlt
    simp only [] at hto hroom hlt
    rw [hnum] at hq
    clear ha hb hc hnum hnn
    rw [hto] at ho
    clear hto
    have HO := hide ho
    clear ho
    go_enter Tryd.func40, Tryd.ntmps40
    go_wp2_with fail
    go_quiet (first | (go_at_call 64; exact Calls.quiet_of_same (unhide hq _)))
    have hdr := hide ((unhide H).keep (drewN_moved (fun _ => False) w nq) id)
    have d1 : (w.drewN nq).cell? ⟨x, 1, none⟩ = some (.int .i64 (k : Int)) := hc1
    have d2 : (w.drewN nq).cell? ⟨x, 2, none⟩ = some (.int .i64 0) := hc2
    have g1 : (w.drewN nq).frozen? ⟨x, 1, none⟩ = false := hf1
    have g2 : (w.drewN nq).frozen? ⟨x, 2, none⟩ = false := hf2
    have hmv := hide (drewN_moved (fun i => i = x) w nq)
    generalize w.drewN nq = wd at *
    clear hc0 hc1 hc2 hf1 hf2 H
    clear hq
    have hmw : (m : Int) % 18446744073709551616 = (m : Int) := by omega
    by_cases hc0 : c = 0
    · subst hc0
      by_cases hbig : (m : Int) < (a : Int)
      · have e0 : (((0 : Nat) : Int) == 0) = true := rfl
        have dm : decide ((m : Int) < 0) = false := decide_eq_false (by omega)
        have db : decide ((m : Int) < (a : Int)) = true := decide_eq_true hbig
        go_wp2_with fail
        go_ret
        rw [unhide HO, if_neg (fun h => h rfl), if_pos (.inr hbig)]
        refine ⟨rfl, ?_, ?_⟩
        · exact (unhide hdr).fail 8 (by omega)
        · exact (unhide hmv).setCell (p := ⟨x, 2, none⟩) (.inl rfl) _
      · have e0 : (((0 : Nat) : Int) == 0) = true := rfl
        have dm : decide ((m : Int) < 0) = false := decide_eq_false (by omega)
        have db : decide ((m : Int) < (a : Int)) = false := decide_eq_false hbig
        go_wp2_with fail
        go_ret
        rw [unhide HO, if_neg (fun h => h rfl), if_neg (by omega)]
        refine ⟨rfl, ?_, ?_⟩
        · exact (unhide hdr).go (k + b) (by omega)
        · exact (unhide hmv).setCell (p := ⟨x, 1, none⟩) (.inl rfl) _
    · have e0 : ((c : Int) == 0) = false := by simp; omega
      have e1 : ((c : Int) != 0) = true := by simp; omega
      go_wp2_with fail
      go_ret
      rw [unhide HO, if_pos hc0]
      refine ⟨rfl, ?_, ?_⟩
      · have h2 := (unhide hdr).fail c (by omega)
        unfold ahead
        rw [if_neg hc0]
        exact h2
      · exact (unhide hmv).setCell (p := ⟨x, 2, none⟩) (.inl rfl) _
  · have hne : (((f : Nat) : Int) != 0) = true := by simp; omega
    have ho : outMost (m : Int) s k f = (0, 0, f) := if_neg hf
    rw [ho]
    go_enter Tryd.func40, Tryd.ntmps40
    go_wp2_with fail
    go_ret
    exact ⟨rfl, by unfold ahead; rw [if_neg hf]; exact unhide H, Moved.refl _ _⟩

set_option maxHeartbeats 1000000 in
theorem refin_byte {w : World} {x : Nat} {s : ByteArray} {k f : Nat} (h : InAt w x s k f) :
    Calls Tryd.prog 39 #[.pointer (some ⟨x, 0, none⟩)] w fun e w' => e = .returned (.int .u8 (((outByte s k f).1.toNat : Nat) : Int)) ∧ Read w w' x s k (outByte s k f).2.1 (outByte s k f).2.2 := by
  have H := hide h
  have hc0 := h.text
  have hc1 := h.place
  have hc2 := h.fault
  have hf1 := h.free1
  have hf2 := h.free2
  have hle := h.le
  have hsm := h.small
  have herr := h.err
  clear h
  by_cases hf : f = 0
  · subst hf
    by_cases hk : k < s.size
    · have hidx := fun w => index_at s (k : Int) k hk rfl w
      have ho : outByte s k 0 = (s[k], 1, 0) := by
        unfold outByte
        rw [if_pos rfl, drop_at s k hk]; rfl
      have HO := hide ho
      clear ho
      generalize s[k] = c at *
      have hkn : ((k : Int) == (s.size : Int)) = false := by simp; omega
      go_enter Tryd.func39, Tryd.ntmps39
      go_wp2_with fail
      go_quiet (fail)
      have hdr := hide ((unhide H).keep (drewN_moved (fun _ => False) w nq) id)
      have d1 : (w.drewN nq).cell? ⟨x, 1, none⟩ = some (.int .i64 (k : Int)) := hc1
      have d2 : (w.drewN nq).cell? ⟨x, 2, none⟩ = some (.int .i64 0) := hc2
      have g1 : (w.drewN nq).frozen? ⟨x, 1, none⟩ = false := hf1
      have g2 : (w.drewN nq).frozen? ⟨x, 2, none⟩ = false := hf2
      have hmv := hide (drewN_moved (fun i => i = x) w nq)
      generalize w.drewN nq = wd at *
      clear hc1 hc2 hf1 hf2 H
      have hc0' : (wd.setCell ⟨x, 1, none⟩ (.int .i64 ((k : Int) + 1))).cell? ⟨x, 0, none⟩ = some (.string s) := (World.cell?_setCell_other _ _ _ _ (fun e => by simp at e)).trans (unhide hdr).text
      have hc1' : (wd.setCell ⟨x, 1, none⟩ (.int .i64 ((k : Int) + 1))).cell? ⟨x, 1, none⟩ = some (.int .i64 ((k : Int) + 1)) := World.cell?_setCell_same _ _ _ d1
      have hsub : (k : Int) + 1 - 1 = (k : Int) := by omega
      go_wp2_with fail
      go_quiet (fail)
      go_wp2_with fail
      go_ret
      rw [unhide HO]
      refine ⟨rfl, ?_, ?_⟩
      · exact ((unhide hdr).go (k + 1) (by omega)).keep (drewN_moved (fun _ => False) _ nq) id
      · exact ((unhide hmv).setCell (p := ⟨x, 1, none⟩) (.inl rfl) _).trans (drewN_moved (fun _ => False) _ nq) (fun _ h => h.elim)
    · have hke : k = s.size := by omega
      have ho : outByte s k 0 = (0, 0, 7) := by
        unfold outByte
        rw [if_pos rfl, List.drop_of_length_le (by rw [text_len]; omega)]; rfl
      have HO := hide ho
      clear ho
      have hkn : ((k : Int) == (s.size : Int)) = true := by simp; omega
      clear hke
      go_enter Tryd.func39, Tryd.ntmps39
      go_wp2_with fail
      go_quiet (fail)
      have hdr := hide ((unhide H).keep (drewN_moved (fun _ => False) w nq) id)
      have d1 : (w.drewN nq).cell? ⟨x, 1, none⟩ = some (.int .i64 (k : Int)) := hc1
      have d2 : (w.drewN nq).cell? ⟨x, 2, none⟩ = some (.int .i64 0) := hc2
      have g1 : (w.drewN nq).frozen? ⟨x, 1, none⟩ = false := hf1
      have g2 : (w.drewN nq).frozen? ⟨x, 2, none⟩ = false := hf2
      have hmv := hide (drewN_moved (fun i => i = x) w nq)
      generalize w.drewN nq = wd at *
      clear hc0 hc1 hc2 hf1 hf2 H
      go_wp2_with fail
      go_ret
      rw [unhide HO]
      refine ⟨rfl, ?_, ?_⟩
      · exact (unhide hdr).fail 7 (by omega)
      · exact (unhide hmv).setCell (p := ⟨x, 2, none⟩) (.inl rfl) _
  · have hne : (((f : Nat) : Int) != 0) = true := by simp; omega
    have ho : outByte s k f = (0, 0, f) := if_neg hf
    rw [ho]
    go_enter Tryd.func39, Tryd.ntmps39
    go_wp2_with fail
    go_ret
    exact ⟨rfl, by unfold ahead; rw [if_neg hf]; exact unhide H, Moved.refl _ _⟩

theorem cut_list (s : ByteArray) (a b : Nat) : (s.extract a b).data.toList = (s.data.toList.drop a).take (b - a) := by
  rw [ByteArray.data_extract, Array.toList_extract, List.extract_eq_take_drop]

set_option maxHeartbeats 1000000 in
theorem refin_text {w : World} {x : Nat} {s : ByteArray} {k f : Nat} (h : InAt w x s k f) (m : Nat) (hm : m ≤ 2147483647) :
    Calls Tryd.prog 43 #[.pointer (some ⟨x, 0, none⟩), .int .i64 (m : Int)] w fun e w' => e = .returned (.string ⟨(outText (m : Int) s k f).1.toArray⟩) ∧ Read w w' x s k (outText (m : Int) s k f).2.1 (outText (m : Int) s k f).2.2 := by
  have H := hide h
  have hc1 := h.place
  have hle := h.le
  have hsm := h.small
  have herr := h.err
  clear h
  obtain ⟨a, ha⟩ : ∃ a, a = (outMost (m : Int) s k f).1 := ⟨_, rfl⟩
  obtain ⟨b, hb⟩ : ∃ b, b = (outMost (m : Int) s k f).2.1 := ⟨_, rfl⟩
  obtain ⟨c, hc⟩ : ∃ c, c = (outMost (m : Int) s k f).2.2 := ⟨_, rfl⟩
  have ho : outMost (m : Int) s k f = (a, b, c) := by rw [ha, hb, hc]
  have hout : outText (m : Int) s k f = if c ≠ 0 then ([], 0, c) else if ((s.size - k : Nat) : Int) - (b : Int) < (a : Int) then ([], 0, 7) else (((s.data.toList.drop k).drop b).take a, b + a, 0) := by
    by_cases hf : f = 0
    · subst hf
      have e : outMost (m : Int) s k 0 = numTo m (s.data.toList.drop k) := if_pos rfl
      rw [e] at ho
      unfold outText
      rw [if_pos rfl]
      unfold txt
      rw [ho, List.length_drop, text_len]
    · have e : outMost (m : Int) s k f = (0, 0, f) := if_neg hf
      rw [e] at ho
      simp only [Prod.mk.injEq] at ho
      obtain ⟨rfl, rfl, rfl⟩ := ho
      unfold outText
      rw [if_neg hf, if_pos hf]
  have hbk : c = 0 → k + b ≤ s.size ∧ a ≤ 2147483647 := by
    intro h0
    by_cases hf : f = 0
    · subst hf
      have e : outMost (m : Int) s k 0 = numTo m (s.data.toList.drop k) := if_pos rfl
      rw [e] at ho
      have hr := numTo_room m (s.data.toList.drop k)
      have hk2 := numTo_ok (most := (m : Int)) (l := s.data.toList.drop k) (by rw [ho]; exact h0)
      rw [List.length_drop, text_len, ho] at hr
      have ea := congrArg Prod.fst hk2.1
      rw [ho] at ea
      simp only [] at hr ea
      have hk3 := hk2.2
      exact ⟨by omega, by omega⟩
    · have e : outMost (m : Int) s k f = (0, 0, f) := if_neg hf
      rw [e] at ho
      simp only [Prod.mk.injEq] at ho
      exact absurd (ho.2.2.trans h0) hf
  have HO := hide hout
  have HM := hide (And.intro ha (And.intro hb hc))
  have HB := hide hbk
  clear ha hb hc ho hout hbk
  go_enter Tryd.func43, Tryd.ntmps43
  go_wp2_with fail
  refine (refin_most (unhide H) m hm).mono ?_
  rintro e w1 ⟨rfl, i1, m1⟩
  rw [← (unhide HM).1]
  rw [← (unhide HM).2.1, ← (unhide HM).2.2] at i1
  have hc0 := i1.text
  have hc1 := i1.place
  have hc2 := i1.fault
  have hf1 := i1.free1
  have hf2 := i1.free2
  have hca := i1.err
  have I1 := hide i1
  have M1 := hide m1
  clear i1 m1
  by_cases h0 : c = 0
  · subst h0
    obtain ⟨hkb, ha⟩ := unhide HB rfl
    have hah : ahead k b 0 = k + b := if_pos rfl
    rw [hah] at hc1
    rw [hah] at I1
    by_cases hshort : ((s.size - k : Nat) : Int) - (b : Int) < (a : Int)
    · have hs1 : (s.size : Int) - ((k : Int) + (b : Int)) < (a : Int) := by omega
      have ds1 : decide ((s.size : Int) - ((k : Int) + (b : Int)) < (a : Int)) = true := decide_eq_true hs1
      go_wp2_with fail
      go_quiet (fail)
      have hdr := hide ((unhide I1).keep (drewN_moved (fun _ => False) w1 nq) id)
      have d0 : (w1.drewN nq).cell? ⟨x, 0, none⟩ = some (.string s) := hc0
      have d1 : (w1.drewN nq).cell? ⟨x, 1, none⟩ = some (.int .i64 ((k : Int) + (b : Int))) := hc1
      have d2 : (w1.drewN nq).cell? ⟨x, 2, none⟩ = some (.int .i64 0) := hc2
      have g1 : (w1.drewN nq).frozen? ⟨x, 1, none⟩ = false := hf1
      have g2 : (w1.drewN nq).frozen? ⟨x, 2, none⟩ = false := hf2
      have hmv := hide ((unhide M1).trans (drewN_moved (fun _ => False) w1 nq) (fun _ h => h.elim))
      generalize w1.drewN nq = wd at *
      clear hc0 hc1 hc2 hf1 hf2 I1 M1
      go_wp2_with fail
      go_ret
      rw [unhide HO, if_neg (fun h => h rfl), if_pos hshort]
      refine ⟨rfl, ?_, ?_⟩
      · exact ((unhide hdr).go k hle).fail 7 (by omega)
      · exact ((unhide hmv).setCell (p := ⟨x, 1, none⟩) (.inl rfl) _).setCell (p := ⟨x, 2, none⟩) (.inl rfl) _
    · have hs1 : ¬ (s.size : Int) - ((k : Int) + (b : Int)) < (a : Int) := by omega
      have ds1 : decide ((s.size : Int) - ((k : Int) + (b : Int)) < (a : Int)) = false := decide_eq_false hs1
      go_wp2_with fail
      go_quiet (fail)
      have hdr := hide ((unhide I1).keep (drewN_moved (fun _ => False) w1 nq) id)
      have d0 : (w1.drewN nq).cell? ⟨x, 0, none⟩ = some (.string s) := hc0
      have d1 : (w1.drewN nq).cell? ⟨x, 1, none⟩ = some (.int .i64 ((k : Int) + (b : Int))) := hc1
      have d2 : (w1.drewN nq).cell? ⟨x, 2, none⟩ = some (.int .i64 0) := hc2
      have g1 : (w1.drewN nq).frozen? ⟨x, 1, none⟩ = false := hf1
      have g2 : (w1.drewN nq).frozen? ⟨x, 2, none⟩ = false := hf2
      have hmv := hide ((unhide M1).trans (drewN_moved (fun _ => False) w1 nq) (fun _ h => h.elim))
      generalize w1.drewN nq = wd at *
      clear hc0 hc1 hc2 hf1 hf2 I1 M1
      have u0 : (k : Int) + (b : Int) + (a : Int) ≤ (s.size : Int) := by omega
      have u1 : (k : Int) + (b : Int) ≤ (k : Int) + (b : Int) + (a : Int) := by omega
      have t1 : ((k : Int) + (b : Int)).toNat = k + b := by omega
      have t2 : ((k : Int) + (b : Int) + (a : Int)).toNat = k + b + a := by omega
      go_wp2_with fail
      go_quiet (fail)
      have hdr2 := hide ((unhide hdr).keep (drewN_moved (fun _ => False) wd nq) id)
      have b1 : (wd.drewN nq).cell? ⟨x, 1, none⟩ = some (.int .i64 ((k : Int) + (b : Int))) := d1
      have j1 : (wd.drewN nq).frozen? ⟨x, 1, none⟩ = false := g1
      have hmv2 := hide ((unhide hmv).trans (drewN_moved (fun _ => False) wd nq) (fun _ h => h.elim))
      generalize wd.drewN nq = wz at *
      clear d0 d1 d2 g1 g2 hdr hmv
      go_wp2_with fail
      go_ret
      rw [unhide HO, if_neg (fun h => h rfl), if_neg (show ¬ ((s.size - k : Nat) : Int) - (b : Int) < (a : Int) by omega)]
      have et : (⟨(((s.data.toList.drop k).drop b).take a).toArray⟩ : ByteArray) = s.extract (k + b) (k + b + a) := bytes_ext (by rw [cut_list, List.drop_drop, show k + b + a - (k + b) = a by omega])
      rw [et]
      refine ⟨rfl, ?_, ?_⟩
      · have h1 := (unhide hdr2).go (k + (b + a)) (by omega)
        rw [show ((k + (b + a) : Nat) : Int) = (k : Int) + (b : Int) + (a : Int) by omega] at h1
        exact h1
      · exact (unhide hmv2).setCell (p := ⟨x, 1, none⟩) (.inl rfl) _
  · have hne : ((c : Int) != 0) = true := by simp; omega
    go_wp2_with fail
    go_ret
    rw [unhide HO, if_pos h0]
    refine ⟨rfl, ?_, unhide M1⟩
    have e : ahead k b c = k := by unfold ahead; rw [if_neg h0]
    have h1 := unhide I1
    rw [e] at h1
    have e2 : ahead k 0 c = k := by unfold ahead; rw [if_neg h0]
    rw [e2]
    exact h1
theorem zag_any (n : Nat) (hn : n < 2 ^ 64) (w : World) : Calls Tryd.prog 65 #[.int .u64 (n : Int)] w fun e w' => e = .returned (.int .i64 (zag n)) ∧ w' = w := by
  have hz : zag n = if n % 2 = 1 then -((n / 2 : Nat) : Int) - 1 else ((n / 2 : Nat) : Int) := rfl
  by_cases h : n % 2 = 1
  · rw [if_pos h] at hz
    have e : ((n : Int) % 2 == 0) = false := by simp; omega
    have HZ := hide hz
    clear hz
    go_enter Tryd.func65, Tryd.ntmps65
    go_wp2
    go_ret
    refine ⟨ret_i64 ?_, rfl⟩
    rw [unhide HZ]
    first | omega | (simp [wrap64]; omega)
  · rw [if_neg h] at hz
    have e : ((n : Int) % 2 == 0) = true := by simp; omega
    have HZ := hide hz
    clear hz
    go_enter Tryd.func65, Tryd.ntmps65
    go_wp2
    go_ret
    refine ⟨ret_i64 ?_, rfl⟩
    rw [unhide HZ]
    first | omega | (simp [wrap64]; omega)
theorem refin_i64 {w : World} {x : Nat} {s : ByteArray} {k f : Nat} (h : InAt w x s k f) :
    Calls Tryd.prog 45 #[.pointer (some ⟨x, 0, none⟩)] w fun e w' => e = .returned (.int .i64 (zag (outNum s k f).1)) ∧ Read w w' x s k (outNum s k f).2.1 (outNum s k f).2.2 := by
  have H := hide h
  clear h
  go_enter Tryd.func45, Tryd.ntmps45
  go_wp2_with fail
  refine (refin_num (unhide H)).mono ?_
  rintro e w1 ⟨rfl, r⟩
  have R := hide r
  clear r
  go_wp2_with fail
  refine (zag_any _ (outNum_lt s k f) _).mono ?_
  rintro e w2 ⟨rfl, rfl⟩
  go_wp2_with fail
  go_ret
  exact ⟨rfl, unhide R⟩
end Go.Proofs.YtkbmbcmcnpeabaaDoor.Rf

namespace Go.Proofs.YtkbmbcmcnpeabaaDoor.Rf
open Pk Go.RowKit

/-- From a reader at k with the fault f a value of this code was read, and left it at k' with the fault f'. -/
def Got {α : Type} (C : Cod α) (s : ByteArray) (k f : Nat) (a : α) (k' f' : Nat) : Prop :=
  (f ≠ 0 → f' = f) ∧ (f = 0 → f' = (C.dec (s.data.toList.drop k)).2.2 ∧ (f' = 0 → a = (C.dec (s.data.toList.drop k)).1 ∧ k' = k + (C.dec (s.data.toList.drop k)).2.1))
theorem Got.seq {α β : Type} {A : Cod α} {B : Cod β} {za : α} {zb : β} {s : ByteArray} {k f k1 f1 k2 f2 : Nat} {a : α} {b : β} (h1 : Got A s k f a k1 f1) (h2 : Got B s k1 f1 b k2 f2) : Got (A.seq B za zb) s k f (a, b) k2 f2 := by
  refine ⟨fun hf => ?_, fun hf => ?_⟩
  · have e1 := h1.1 hf
    exact (h2.1 (by omega)).trans e1
  · obtain ⟨e1, e2⟩ := h1.2 hf
    simp only [Cod.seq]
    by_cases hf1 : f1 = 0
    · obtain ⟨ea, ek⟩ := e2 hf1
      obtain ⟨e3, e4⟩ := h2.2 hf1
      rw [ek, ← List.drop_drop] at e3
      rw [if_neg (by rw [← e1]; exact fun h => h hf1)]
      refine ⟨?_, fun hf2 => ?_⟩
      · by_cases h0 : f2 = 0
        · rw [if_neg (by rw [← e3]; exact fun h => h h0), h0]
        · rw [if_pos (by rw [← e3]; exact h0)]; exact e3
      · rw [if_neg (by rw [← e3]; exact fun h => h hf2)]
        obtain ⟨eb, ek2⟩ := e4 hf2
        rw [ek, ← List.drop_drop] at eb ek2
        exact ⟨by rw [ea, eb], by rw [ek2]; simp only []; omega⟩
    · have e5 := h2.1 hf1
      rw [if_pos (by rw [← e1]; exact hf1)]
      exact ⟨e5.trans e1, fun h0 => absurd (e5.symm.trans h0) hf1⟩
theorem Got.map {α β : Type} {A : Cod α} {g : α → β} {g' : β → α} {ok : β → Prop} {s : ByteArray} {k f k1 f1 : Nat} {a : α} (h : Got A s k f a k1 f1) : Got (A.map g g' ok) s k f (g a) k1 f1 :=
  ⟨h.1, fun hf => ⟨(h.2 hf).1, fun h0 => ⟨congrArg g ((h.2 hf).2 h0).1, ((h.2 hf).2 h0).2⟩⟩⟩
theorem numTo_most (m : Nat) (l : List UInt8) : numTo (m : Int) l = most m l := by
  unfold numTo most
  have e : ((m : Int) < 0 ∨ (m : Int) < (((num l).1 : Nat) : Int)) ↔ m < (num l).1 := by omega
  split
  · rfl
  · simp only [e]
theorem ahead_ok {k t e : Nat} (h : e = 0) : ahead k t e = k + t := if_pos h
theorem Got.most (m : Nat) (s : ByteArray) (k f : Nat) : Got (posC m) s k f (((outMost (m : Int) s k f).1 : Nat) : Int) (ahead k (outMost (m : Int) s k f).2.1 (outMost (m : Int) s k f).2.2) (outMost (m : Int) s k f).2.2 := by
  refine ⟨fun hf => by unfold outMost; rw [if_neg hf], fun hf => ?_⟩
  have e : outMost (m : Int) s k f = Pk.most m (s.data.toList.drop k) := by unfold outMost; rw [if_pos hf, numTo_most]
  rw [e]
  exact ⟨rfl, fun h0 => ⟨rfl, ahead_ok h0⟩⟩
theorem Got.num (s : ByteArray) (k f : Nat) : Got numC s k f (outNum s k f).1 (ahead k (outNum s k f).2.1 (outNum s k f).2.2) (outNum s k f).2.2 := by
  refine ⟨fun hf => by unfold outNum; rw [if_neg hf], fun hf => ?_⟩
  have e : outNum s k f = Pk.num (s.data.toList.drop k) := if_pos hf
  rw [e]
  exact ⟨rfl, fun h0 => ⟨rfl, ahead_ok h0⟩⟩
theorem Got.int (s : ByteArray) (k f : Nat) : Got intC s k f (zag (outNum s k f).1) (ahead k (outNum s k f).2.1 (outNum s k f).2.2) (outNum s k f).2.2 := (Got.num s k f).map
theorem Got.byte (s : ByteArray) (k f : Nat) : Got byteC s k f (outByte s k f).1 (ahead k (outByte s k f).2.1 (outByte s k f).2.2) (outByte s k f).2.2 := by
  refine ⟨fun hf => by unfold outByte; rw [if_neg hf], fun hf => ?_⟩
  have e : outByte s k f = byteOf? (s.data.toList.drop k) := if_pos hf
  rw [e]
  exact ⟨rfl, fun h0 => ⟨rfl, ahead_ok h0⟩⟩
theorem Got.text (m : Nat) (s : ByteArray) (k f : Nat) : Got (textC m) s k f (outText (m : Int) s k f).1 (ahead k (outText (m : Int) s k f).2.1 (outText (m : Int) s k f).2.2) (outText (m : Int) s k f).2.2 := by
  refine ⟨fun hf => by unfold outText; rw [if_neg hf], fun hf => ?_⟩
  have e : outText (m : Int) s k f = (textC m).dec (s.data.toList.drop k) := by
    unfold outText
    rw [if_pos hf]
    generalize s.data.toList.drop k = l
    unfold txt textC Cod.behind bytesC
    simp only []
    rw [numTo_most]
    have hle : (Pk.most m l).2.1 ≤ l.length := by
      have := numTo_room m l
      rw [numTo_most] at this
      exact this.1
    by_cases h1 : (Pk.most m l).2.2 = 0
    · by_cases h2 : (l.length : Int) - ((Pk.most m l).2.1 : Int) < ((Pk.most m l).1 : Int)
      · have h3 : l.length - (Pk.most m l).2.1 < (Pk.most m l).1 := by omega
        simp [h1, h2, h3]
      · have h3 : ¬ l.length - (Pk.most m l).2.1 < (Pk.most m l).1 := by omega
        simp [h1, h2, h3]
    · simp [h1]
  rw [e]
  exact ⟨rfl, fun h0 => ⟨rfl, ahead_ok h0⟩⟩

/-- Block B's first cells are these, and may be written. -/
structure RowAt (w : World) (B : Nat) (vs : List Value) : Prop where
  lt : B < w.heap.size
  cell : ∀ i, i < vs.length → w.cell? ⟨B, i, none⟩ = some (vs.getD i undef)
  free : ∀ i, i < vs.length → w.frozen? ⟨B, i, none⟩ = false
theorem RowAt.keep {F : Nat → Prop} {w w' : World} {B : Nat} {vs : List Value} (h : RowAt w B vs) (m : Moved F w w') (hF : ¬ F B) : RowAt w' B vs :=
  ⟨Nat.lt_of_lt_of_le h.lt m.size, fun i hi => (m.cell (p := ⟨B, i, none⟩) h.lt hF).trans (h.cell i hi), fun i hi => (m.frozen (p := ⟨B, i, none⟩) h.lt hF).trans (h.free i hi)⟩
theorem RowAt.set {w : World} {B : Nat} {vs : List Value} (h : RowAt w B vs) (i : Nat) (hi : i < vs.length) (v : Value) : RowAt (w.setCell ⟨B, i, none⟩ v) B (vs.set i v) := by
  refine ⟨by rw [World.size_setCell]; exact h.lt, fun j hj => ?_, fun j hj => ?_⟩
  · rw [List.length_set] at hj
    by_cases e : i = j
    · subst e
      rw [World.cell?_setCell_same (h := h.cell i hi), List.getD_eq_getElem?_getD, List.getElem?_set_self hi]
      rfl
    · rw [World.cell?_setCell_other (h := fun he => e (congrArg Addr.off he)), h.cell j hj, List.getD_eq_getElem?_getD (l := vs.set i v), List.getElem?_set_ne e, ← List.getD_eq_getElem?_getD]
  · rw [List.length_set] at hj
    rw [World.frozen?_setCell]; exact h.free j hj
theorem setCells_moved (w : World) (B i : Nat) (vs : List Value) : Moved (fun j => j = B) w (w.setCells B i vs) := by
  induction vs generalizing w i with
  | nil => exact Moved.refl _ _
  | cons v r ih => exact (((Moved.refl (fun j => j = B) w).setCell (p := ⟨B, i, none⟩) (.inl rfl) v)).trans (ih _ _) (fun _ h => .inl h)
theorem RowAt.range {w : World} {B : Nat} {vs : List Value} (h : RowAt w B vs) : w.rangeAt B 0 vs := fun j v hv => by
  obtain ⟨hj, e⟩ := List.getElem?_eq_some_iff.1 hv
  rw [Nat.zero_add, h.cell j hj, List.getD_eq_getElem?_getD, hv]; rfl
theorem RowAt.there {w : World} {B : Nat} {vs : List Value} (h : RowAt w B vs) : w.there B 0 vs.length := fun j hj => by
  rw [Nat.zero_add]
  exact ⟨by rw [h.cell j hj]; rfl, h.free j hj⟩
theorem RowAt.put {w : World} {B : Nat} {us : List Value} (h : RowAt w B us) (vs : List Value) (hl : us.length = vs.length) : RowAt (w.setCells B 0 vs) B vs := by
  have ht : w.there B 0 vs.length := by rw [← hl]; exact h.there
  refine ⟨Nat.lt_of_lt_of_le h.lt (setCells_moved w B 0 vs).size, fun i hi => ?_, fun i hi => ?_⟩
  · have := World.rangeAt_setCells_same w B 0 vs ht i _ (List.getElem?_eq_getElem hi)
    rw [Nat.zero_add] at this
    rw [this, List.getD_eq_getElem?_getD, List.getElem?_eq_getElem hi]; rfl
  · rw [World.frozen?_setCells]
    exact h.free i (by omega)
theorem results_cell_mid {P : Program} {fn : Func} {p : Tmp} {ty : TypeId} (h : fn.results = #[.cell p ty]) (tmps : Array Value) (w : World) (g : Nat) (cs : List Value) (d : TypeDesc)
    (hp : tmps.getD p undef = .pointer (some ⟨g, 0, none⟩)) (hc : w.rangeAt g 0 cs) (hu : P.underlying ty = some d) (hd : d.isRow = true) (hi : (P.info? ty).map (·.size) = some cs.length) :
    (results fn tmps).run P w = .ok (.agg cs.toArray) w := by
  have hp' : tmps[p]?.getD undef = .pointer (some ⟨g, 0, none⟩) := by simpa using hp
  simp [results, h, hp', asAddr, run_loadVar_mid w g 0 ty cs d hc hu hd hi]
def itemCells (x : ItemV) : List Value := [.int .i64 x.src, .int .i64 x.seq, .int .i64 x.low, .int .u8 (x.kind.toNat : Int), .string ⟨x.key.toArray⟩, .int .i64 x.part, .int .i64 x.at_, .int .i64 x.n]
def itemVal (x : ItemV) : Value := .agg (itemCells x).toArray

theorem row_new (w : World) (vs : List Value) (t : TypeId) : RowAt (w.alloc (.cells vs.toArray t)) w.heap.size vs :=
  ⟨by simp, fun i hi => by rw [World.cell?_alloc_new]; simp [List.getD_eq_getElem?_getD, hi], fun i hi => World.frozen?_alloc_new w _ t i⟩
theorem row_old {w : World} {B : Nat} {vs : List Value} (h : RowAt w B vs) (o : Obj) : RowAt (w.alloc o) B vs := h.keep ((Moved.refl (fun _ => False) w).alloc o) id
theorem row_new2 (w : World) (vs us : List Value) (t u : TypeId) : RowAt ((w.alloc (.cells us.toArray u)).alloc (.cells vs.toArray t)) (w.heap.size + 1) vs := by
  have h := row_new (w.alloc (.cells us.toArray u)) vs t
  have e : (w.alloc (.cells us.toArray u)).heap.size = w.heap.size + 1 := by simp
  rw [e] at h
  exact h
set_option maxRecDepth 100000 in
set_option maxHeartbeats 2000000 in
theorem refitem_any {w : World} {x : Nat} {s : ByteArray} {k f : Nat} (h : InAt w x s k f) :
    Calls Tryd.prog 41 #[.pointer (some ⟨x, 0, none⟩)] w fun e w' => ∃ it k' f', e = .returned (itemVal it) ∧ InAt w' x s k' f' ∧ Moved (fun i => i = x) w w' ∧ Got itemC s k f it k' f' := by
  have hx := h.lt
  obtain ⟨A, hA⟩ : ∃ A, A = w.heap.size := ⟨_, rfl⟩
  obtain ⟨w0, hw0⟩ : ∃ w0, w0 = (w.alloc (.cells (itemCells ItemV.zero).toArray 24)).alloc (.cells (itemCells ItemV.zero).toArray 24) := ⟨_, rfl⟩
  have m0 : Moved (fun i => i = x) w w0 := by rw [hw0]; exact ((Moved.refl _ _).alloc _).alloc _
  have I := hide (h.keep (((Moved.refl (fun _ => False) w).alloc (.cells (itemCells ItemV.zero).toArray 24)).alloc (.cells (itemCells ItemV.zero).toArray 24)) id)
  rw [← hw0] at I
  have R1 : Hid (RowAt w0 A (itemCells ItemV.zero)) := hide (by rw [hw0, hA]; exact row_old (row_new _ _ _) _)
  have R2 : Hid (RowAt w0 (A + 1) (itemCells ItemV.zero)) := hide (by rw [hw0, hA]; exact row_new2 _ _ _ _ _)
  have M := hide m0
  have HX := hide (show x ≠ A ∧ x ≠ A + 1 by omega)
  clear m0 h hx
  obtain ⟨k0, hk0⟩ : ∃ k0, k0 = k := ⟨_, rfl⟩
  obtain ⟨f0, hf0⟩ : ∃ f0, f0 = f := ⟨_, rfl⟩
  rw [← hk0, ← hf0] at I
  have HK := hide (And.intro hk0 hf0)
  clear hk0 hf0
  have HW : Hid (w0 = (w.alloc (.cells (itemCells ItemV.zero).toArray 24)).alloc (.cells (itemCells ItemV.zero).toArray 24)) := hide hw0
  have HA := hide hA
  clear hw0 hA
  go_enter Tryd.func41, Tryd.ntmps41
  go_wp2_with fail
  rw [← unhide HA]
  change Calls Tryd.prog 40 _ ((w.alloc (.cells (itemCells ItemV.zero).toArray 24)).alloc (.cells (itemCells ItemV.zero).toArray 24)) _
  rw [← unhide HW]
  refine (refin_most (unhide I) 2147483647 (by decide)).mono ?_
  rintro e w0b ⟨rfl, i1, m1⟩
  have G0 := hide (Got.most 2147483647 s k0 f0)
  generalize (((outMost (2147483647 : Nat) s k0 f0).1 : Nat) : Int) = a0 at *
  generalize ahead k0 (outMost (2147483647 : Nat) s k0 f0).2.1 (outMost (2147483647 : Nat) s k0 f0).2.2 = k1 at *
  generalize (outMost (2147483647 : Nat) s k0 f0).2.2 = f1 at *
  replace R1 := hide ((unhide R1).keep m1 (Ne.symm (unhide HX).1))
  replace R2 := hide ((unhide R2).keep m1 (Ne.symm (unhide HX).2))
  replace M := hide ((unhide M).trans m1 (fun _ h => .inl h))
  have c0 := (unhide R2).cell 0 (show 0 < 8 by decide)
  have g0 := (unhide R2).free 0 (show 0 < 8 by decide)
  have m2 := (Moved.refl (fun i => i = A + 1) w0b).setCell (p := ⟨A + 1, 0, none⟩) (.inl rfl) (.int .i64 a0)
  replace I := hide (i1.keep m2 (unhide HX).2)
  replace R1 := hide ((unhide R1).keep m2 (by omega))
  have r2 : RowAt (w0b.setCell ⟨A + 1, 0, none⟩ (.int .i64 a0)) (A + 1) [.int .i64 a0, .int .i64 0, .int .i64 0, .int .u8 0, .string ⟨#[]⟩, .int .i64 0, .int .i64 0, .int .i64 0] := (unhide R2).set 0 (show 0 < 8 by decide) (.int .i64 a0)
  replace R2 := hide r2
  replace M := hide ((unhide M).trans m2 (fun i h => .inr (by have := unhide HA; omega)))
  clear i1 m1 m2 r2
  go_wp2_with fail
  clear c0 g0
  generalize w0b.setCell ⟨A + 1, 0, none⟩ (.int .i64 a0) = w1 at *
  refine (refin_most (unhide I) 2147483647 (by decide)).mono ?_
  rintro e w1b ⟨rfl, i1, m1⟩
  have G1 := hide (Got.most 2147483647 s k1 f1)
  generalize (((outMost (2147483647 : Nat) s k1 f1).1 : Nat) : Int) = a1 at *
  generalize ahead k1 (outMost (2147483647 : Nat) s k1 f1).2.1 (outMost (2147483647 : Nat) s k1 f1).2.2 = k2 at *
  generalize (outMost (2147483647 : Nat) s k1 f1).2.2 = f2 at *
  replace R1 := hide ((unhide R1).keep m1 (Ne.symm (unhide HX).1))
  replace R2 := hide ((unhide R2).keep m1 (Ne.symm (unhide HX).2))
  replace M := hide ((unhide M).trans m1 (fun _ h => .inl h))
  have c1 := (unhide R2).cell 1 (show 1 < 8 by decide)
  have g1 := (unhide R2).free 1 (show 1 < 8 by decide)
  have m2 := (Moved.refl (fun i => i = A + 1) w1b).setCell (p := ⟨A + 1, 1, none⟩) (.inl rfl) (.int .i64 a1)
  replace I := hide (i1.keep m2 (unhide HX).2)
  replace R1 := hide ((unhide R1).keep m2 (by omega))
  have r2 : RowAt (w1b.setCell ⟨A + 1, 1, none⟩ (.int .i64 a1)) (A + 1) [.int .i64 a0, .int .i64 a1, .int .i64 0, .int .u8 0, .string ⟨#[]⟩, .int .i64 0, .int .i64 0, .int .i64 0] := (unhide R2).set 1 (show 1 < 8 by decide) (.int .i64 a1)
  replace R2 := hide r2
  replace M := hide ((unhide M).trans m2 (fun i h => .inr (by have := unhide HA; omega)))
  clear i1 m1 m2 r2
  go_wp2_with fail
  clear c1 g1
  generalize w1b.setCell ⟨A + 1, 1, none⟩ (.int .i64 a1) = w2 at *
  refine (refin_most (unhide I) 2147483647 (by decide)).mono ?_
  rintro e w2b ⟨rfl, i1, m1⟩
  have G2 := hide (Got.most 2147483647 s k2 f2)
  generalize (((outMost (2147483647 : Nat) s k2 f2).1 : Nat) : Int) = a2 at *
  generalize ahead k2 (outMost (2147483647 : Nat) s k2 f2).2.1 (outMost (2147483647 : Nat) s k2 f2).2.2 = k3 at *
  generalize (outMost (2147483647 : Nat) s k2 f2).2.2 = f3 at *
  replace R1 := hide ((unhide R1).keep m1 (Ne.symm (unhide HX).1))
  replace R2 := hide ((unhide R2).keep m1 (Ne.symm (unhide HX).2))
  replace M := hide ((unhide M).trans m1 (fun _ h => .inl h))
  have c2 := (unhide R2).cell 2 (show 2 < 8 by decide)
  have g2 := (unhide R2).free 2 (show 2 < 8 by decide)
  have m2 := (Moved.refl (fun i => i = A + 1) w2b).setCell (p := ⟨A + 1, 2, none⟩) (.inl rfl) (.int .i64 a2)
  replace I := hide (i1.keep m2 (unhide HX).2)
  replace R1 := hide ((unhide R1).keep m2 (by omega))
  have r2 : RowAt (w2b.setCell ⟨A + 1, 2, none⟩ (.int .i64 a2)) (A + 1) [.int .i64 a0, .int .i64 a1, .int .i64 a2, .int .u8 0, .string ⟨#[]⟩, .int .i64 0, .int .i64 0, .int .i64 0] := (unhide R2).set 2 (show 2 < 8 by decide) (.int .i64 a2)
  replace R2 := hide r2
  replace M := hide ((unhide M).trans m2 (fun i h => .inr (by have := unhide HA; omega)))
  clear i1 m1 m2 r2
  go_wp2_with fail
  clear c2 g2
  generalize w2b.setCell ⟨A + 1, 2, none⟩ (.int .i64 a2) = w3 at *
  refine (refin_byte (unhide I)).mono ?_
  rintro e w3b ⟨rfl, i1, m1⟩
  have G3 := hide (Got.byte s k3 f3)
  generalize (outByte s k3 f3).1 = a3 at *
  generalize ahead k3 (outByte s k3 f3).2.1 (outByte s k3 f3).2.2 = k4 at *
  generalize (outByte s k3 f3).2.2 = f4 at *
  replace R1 := hide ((unhide R1).keep m1 (Ne.symm (unhide HX).1))
  replace R2 := hide ((unhide R2).keep m1 (Ne.symm (unhide HX).2))
  replace M := hide ((unhide M).trans m1 (fun _ h => .inl h))
  have c3 := (unhide R2).cell 3 (show 3 < 8 by decide)
  have g3 := (unhide R2).free 3 (show 3 < 8 by decide)
  have m2 := (Moved.refl (fun i => i = A + 1) w3b).setCell (p := ⟨A + 1, 3, none⟩) (.inl rfl) (.int .u8 (a3.toNat : Int))
  replace I := hide (i1.keep m2 (unhide HX).2)
  replace R1 := hide ((unhide R1).keep m2 (by omega))
  have r2 : RowAt (w3b.setCell ⟨A + 1, 3, none⟩ (.int .u8 (a3.toNat : Int))) (A + 1) [.int .i64 a0, .int .i64 a1, .int .i64 a2, .int .u8 (a3.toNat : Int), .string ⟨#[]⟩, .int .i64 0, .int .i64 0, .int .i64 0] := (unhide R2).set 3 (show 3 < 8 by decide) (.int .u8 (a3.toNat : Int))
  replace R2 := hide r2
  replace M := hide ((unhide M).trans m2 (fun i h => .inr (by have := unhide HA; omega)))
  clear i1 m1 m2 r2
  go_wp2_with fail
  clear c3 g3
  generalize w3b.setCell ⟨A + 1, 3, none⟩ (.int .u8 (a3.toNat : Int)) = w4 at *
  refine (refin_text (unhide I) 255 (by decide)).mono ?_
  rintro e w4b ⟨rfl, i1, m1⟩
  have G4 := hide (Got.text 255 s k4 f4)
  generalize (outText (255 : Nat) s k4 f4).1 = a4 at *
  generalize ahead k4 (outText (255 : Nat) s k4 f4).2.1 (outText (255 : Nat) s k4 f4).2.2 = k5 at *
  generalize (outText (255 : Nat) s k4 f4).2.2 = f5 at *
  replace R1 := hide ((unhide R1).keep m1 (Ne.symm (unhide HX).1))
  replace R2 := hide ((unhide R2).keep m1 (Ne.symm (unhide HX).2))
  replace M := hide ((unhide M).trans m1 (fun _ h => .inl h))
  have c4 := (unhide R2).cell 4 (show 4 < 8 by decide)
  have g4 := (unhide R2).free 4 (show 4 < 8 by decide)
  have m2 := (Moved.refl (fun i => i = A + 1) w4b).setCell (p := ⟨A + 1, 4, none⟩) (.inl rfl) (.string ⟨a4.toArray⟩)
  replace I := hide (i1.keep m2 (unhide HX).2)
  replace R1 := hide ((unhide R1).keep m2 (by omega))
  have r2 : RowAt (w4b.setCell ⟨A + 1, 4, none⟩ (.string ⟨a4.toArray⟩)) (A + 1) [.int .i64 a0, .int .i64 a1, .int .i64 a2, .int .u8 (a3.toNat : Int), .string ⟨a4.toArray⟩, .int .i64 0, .int .i64 0, .int .i64 0] := (unhide R2).set 4 (show 4 < 8 by decide) (.string ⟨a4.toArray⟩)
  replace R2 := hide r2
  replace M := hide ((unhide M).trans m2 (fun i h => .inr (by have := unhide HA; omega)))
  clear i1 m1 m2 r2
  go_wp2_with fail
  clear c4 g4
  generalize w4b.setCell ⟨A + 1, 4, none⟩ (.string ⟨a4.toArray⟩) = w5 at *
  refine (refin_most (unhide I) 2147483647 (by decide)).mono ?_
  rintro e w5b ⟨rfl, i1, m1⟩
  have G5 := hide (Got.most 2147483647 s k5 f5)
  generalize (((outMost (2147483647 : Nat) s k5 f5).1 : Nat) : Int) = a5 at *
  generalize ahead k5 (outMost (2147483647 : Nat) s k5 f5).2.1 (outMost (2147483647 : Nat) s k5 f5).2.2 = k6 at *
  generalize (outMost (2147483647 : Nat) s k5 f5).2.2 = f6 at *
  replace R1 := hide ((unhide R1).keep m1 (Ne.symm (unhide HX).1))
  replace R2 := hide ((unhide R2).keep m1 (Ne.symm (unhide HX).2))
  replace M := hide ((unhide M).trans m1 (fun _ h => .inl h))
  have c5 := (unhide R2).cell 5 (show 5 < 8 by decide)
  have g5 := (unhide R2).free 5 (show 5 < 8 by decide)
  have m2 := (Moved.refl (fun i => i = A + 1) w5b).setCell (p := ⟨A + 1, 5, none⟩) (.inl rfl) (.int .i64 a5)
  replace I := hide (i1.keep m2 (unhide HX).2)
  replace R1 := hide ((unhide R1).keep m2 (by omega))
  have r2 : RowAt (w5b.setCell ⟨A + 1, 5, none⟩ (.int .i64 a5)) (A + 1) [.int .i64 a0, .int .i64 a1, .int .i64 a2, .int .u8 (a3.toNat : Int), .string ⟨a4.toArray⟩, .int .i64 a5, .int .i64 0, .int .i64 0] := (unhide R2).set 5 (show 5 < 8 by decide) (.int .i64 a5)
  replace R2 := hide r2
  replace M := hide ((unhide M).trans m2 (fun i h => .inr (by have := unhide HA; omega)))
  clear i1 m1 m2 r2
  go_wp2_with fail
  clear c5 g5
  generalize w5b.setCell ⟨A + 1, 5, none⟩ (.int .i64 a5) = w6 at *
  refine (refin_i64 (unhide I)).mono ?_
  rintro e w6b ⟨rfl, i1, m1⟩
  have G6 := hide (Got.int s k6 f6)
  generalize zag (outNum s k6 f6).1 = a6 at *
  generalize ahead k6 (outNum s k6 f6).2.1 (outNum s k6 f6).2.2 = k7 at *
  generalize (outNum s k6 f6).2.2 = f7 at *
  replace R1 := hide ((unhide R1).keep m1 (Ne.symm (unhide HX).1))
  replace R2 := hide ((unhide R2).keep m1 (Ne.symm (unhide HX).2))
  replace M := hide ((unhide M).trans m1 (fun _ h => .inl h))
  have c6 := (unhide R2).cell 6 (show 6 < 8 by decide)
  have g6 := (unhide R2).free 6 (show 6 < 8 by decide)
  have m2 := (Moved.refl (fun i => i = A + 1) w6b).setCell (p := ⟨A + 1, 6, none⟩) (.inl rfl) (.int .i64 a6)
  replace I := hide (i1.keep m2 (unhide HX).2)
  replace R1 := hide ((unhide R1).keep m2 (by omega))
  have r2 : RowAt (w6b.setCell ⟨A + 1, 6, none⟩ (.int .i64 a6)) (A + 1) [.int .i64 a0, .int .i64 a1, .int .i64 a2, .int .u8 (a3.toNat : Int), .string ⟨a4.toArray⟩, .int .i64 a5, .int .i64 a6, .int .i64 0] := (unhide R2).set 6 (show 6 < 8 by decide) (.int .i64 a6)
  replace R2 := hide r2
  replace M := hide ((unhide M).trans m2 (fun i h => .inr (by have := unhide HA; omega)))
  clear i1 m1 m2 r2
  go_wp2_with fail
  clear c6 g6
  generalize w6b.setCell ⟨A + 1, 6, none⟩ (.int .i64 a6) = w7 at *
  refine (refin_i64 (unhide I)).mono ?_
  rintro e w7b ⟨rfl, i1, m1⟩
  have G7 := hide (Got.int s k7 f7)
  generalize zag (outNum s k7 f7).1 = a7 at *
  generalize ahead k7 (outNum s k7 f7).2.1 (outNum s k7 f7).2.2 = k8 at *
  generalize (outNum s k7 f7).2.2 = f8 at *
  replace R1 := hide ((unhide R1).keep m1 (Ne.symm (unhide HX).1))
  replace R2 := hide ((unhide R2).keep m1 (Ne.symm (unhide HX).2))
  replace M := hide ((unhide M).trans m1 (fun _ h => .inl h))
  have c7 := (unhide R2).cell 7 (show 7 < 8 by decide)
  have g7 := (unhide R2).free 7 (show 7 < 8 by decide)
  have m2 := (Moved.refl (fun i => i = A + 1) w7b).setCell (p := ⟨A + 1, 7, none⟩) (.inl rfl) (.int .i64 a7)
  replace I := hide (i1.keep m2 (unhide HX).2)
  replace R1 := hide ((unhide R1).keep m2 (by omega))
  have r2 : RowAt (w7b.setCell ⟨A + 1, 7, none⟩ (.int .i64 a7)) (A + 1) [.int .i64 a0, .int .i64 a1, .int .i64 a2, .int .u8 (a3.toNat : Int), .string ⟨a4.toArray⟩, .int .i64 a5, .int .i64 a6, .int .i64 a7] := (unhide R2).set 7 (show 7 < 8 by decide) (.int .i64 a7)
  replace R2 := hide r2
  replace M := hide ((unhide M).trans m2 (fun i h => .inr (by have := unhide HA; omega)))
  clear i1 m1 m2 r2
  go_upto_region 10 with fail
  generalize w7b.setCell ⟨A + 1, 7, none⟩ (.int .i64 a7) = wz at *
  have hrg := (unhide R2).range
  have hth := (unhide R1).there
  go_step
  refine wpList_load_mid rfl 24 (.tmp 3) rfl (A + 1) 0 rfl [.int .i64 a0, .int .i64 a1, .int .i64 a2, .int .u8 (a3.toNat : Int), .string ⟨a4.toArray⟩, .int .i64 a5, .int .i64 a6, .int .i64 a7] _ hrg Tryd.underlying24 rfl (by kernel_rfl) ?_
  refine wpList_store_mid rfl 24 (.tmp 2) (.tmp 28) rfl A 0 #[.int .i64 a0, .int .i64 a1, .int .i64 a2, .int .u8 (a3.toNat : Int), .string ⟨a4.toArray⟩, .int .i64 a5, .int .i64 a6, .int .i64 a7] rfl rfl hth (by kernel_rfl) (by simp [Value.oneCell']) ?_
  clear hrg hth
  have RF := (unhide R1).put [.int .i64 a0, .int .i64 a1, .int .i64 a2, .int .u8 (a3.toNat : Int), .string ⟨a4.toArray⟩, .int .i64 a5, .int .i64 a6, .int .i64 a7] rfl
  have MF := hide (setCells_moved wz A 0 [.int .i64 a0, .int .i64 a1, .int .i64 a2, .int .u8 (a3.toNat : Int), .string ⟨a4.toArray⟩, .int .i64 a5, .int .i64 a6, .int .i64 a7])
  change wpList _ _ _ _ _ (wz.setCells A 0 [.int .i64 a0, .int .i64 a1, .int .i64 a2, .int .u8 (a3.toNat : Int), .string ⟨a4.toArray⟩, .int .i64 a5, .int .i64 a6, .int .i64 a7])
  generalize wz.setCells A 0 [.int .i64 a0, .int .i64 a1, .int .i64 a2, .int .u8 (a3.toNat : Int), .string ⟨a4.toArray⟩, .int .i64 a5, .int .i64 a6, .int .i64 a7] = wf at *
  go_wp2_with fail
  have hres := hide RF
  have hfr := RF.range
  clear RF
  refine bodyPost_ret (v := itemVal ⟨a0, a1, a2, a3, a4, a5, a6, a7⟩) ?_ rfl ?_
  · exact results_cell_mid Tryd.results41 _ wf A _ _ rfl hfr Tryd.underlying24 rfl (by kernel_rfl)
  · refine ⟨_, _, _, rfl, (unhide I).keep (unhide MF) (unhide HX).1, (unhide M).trans (unhide MF) (fun i h => .inr (by have := unhide HA; omega)), ?_⟩
    rw [← (unhide HK).1, ← (unhide HK).2]
    exact ((unhide G0).seq ((unhide G1).seq ((unhide G2).seq ((unhide G3).seq ((unhide G4).seq ((unhide G5).seq ((unhide G6).seq (unhide G7)))))))).map
end Go.Proofs.YtkbmbcmcnpeabaaDoor.Rf

namespace Go.Proofs.YtkbmbcmcnpeabaaDoor.Rf
open Pk Go.RowKit

theorem rdN_snoc {α : Type} (A : Cod α) (n : Nat) : ∀ l : List UInt8, rdN A (n + 1) l = if (rdN A n l).2.2 ≠ 0 then ([], 0, (rdN A n l).2.2)
    else if (A.dec (l.drop (rdN A n l).2.1)).2.2 ≠ 0 then ([], 0, (A.dec (l.drop (rdN A n l).2.1)).2.2)
    else ((rdN A n l).1 ++ [(A.dec (l.drop (rdN A n l).2.1)).1], (rdN A n l).2.1 + (A.dec (l.drop (rdN A n l).2.1)).2.1, 0) := by
  induction n with
  | zero =>
    intro l
    simp only [rdN, List.drop_zero]
    by_cases h : (A.dec l).2.2 = 0 <;> simp [h]
  | succ n ih =>
    intro l
    rw [rdN, ih (l.drop (A.dec l).2.1)]
    have e : rdN A (n + 1) l = if (A.dec l).2.2 ≠ 0 then ([], 0, (A.dec l).2.2) else if (rdN A n (l.drop (A.dec l).2.1)).2.2 ≠ 0 then ([], 0, (rdN A n (l.drop (A.dec l).2.1)).2.2) else ((A.dec l).1 :: (rdN A n (l.drop (A.dec l).2.1)).1, (A.dec l).2.1 + (rdN A n (l.drop (A.dec l).2.1)).2.1, 0) := rfl
    rw [e]
    by_cases h1 : (A.dec l).2.2 = 0
    · by_cases h2 : (rdN A n (l.drop (A.dec l).2.1)).2.2 = 0
      · simp only [h1, h2, ne_eq, not_true_eq_false, if_false, List.drop_drop]
        by_cases h3 : (A.dec (l.drop ((A.dec l).2.1 + (rdN A n (l.drop (A.dec l).2.1)).2.1))).2.2 = 0
        · simp [h3, Nat.add_assoc]
        · simp [h3]
      · simp [h1, h2]
    · simp [h1]
theorem Got.zero_times {α : Type} (A : Cod α) (s : ByteArray) (k f : Nat) : Got (A.times 0) s k f [] k f := ⟨fun _ => rfl, fun hf => ⟨hf, fun _ => ⟨rfl, rfl⟩⟩⟩
theorem Got.snoc {α : Type} {A : Cod α} {n : Nat} {s : ByteArray} {k f k1 f1 k2 f2 : Nat} {l : List α} {a : α} (h1 : Got (A.times n) s k f l k1 f1) (h2 : Got A s k1 f1 a k2 f2) : Got (A.times (n + 1)) s k f (l ++ [a]) k2 f2 := by
  refine ⟨fun hf => ?_, fun hf => ?_⟩
  · have e1 := h1.1 hf
    exact (h2.1 (by omega)).trans e1
  · obtain ⟨e1, e2⟩ := h1.2 hf
    simp only [Cod.times] at e1 e2 ⊢
    rw [rdN_snoc]
    by_cases hf1 : f1 = 0
    · obtain ⟨ea, ek⟩ := e2 hf1
      obtain ⟨e3, e4⟩ := h2.2 hf1
      rw [ek, ← List.drop_drop] at e3
      rw [if_neg (by rw [← e1]; exact fun h => h hf1)]
      refine ⟨?_, fun hf2 => ?_⟩
      · by_cases h0 : f2 = 0
        · rw [if_neg (by rw [← e3]; exact fun h => h h0), h0]
        · rw [if_pos (by rw [← e3]; exact h0)]; exact e3
      · rw [if_neg (by rw [← e3]; exact fun h => h hf2)]
        obtain ⟨eb, ek2⟩ := e4 hf2
        rw [ek, ← List.drop_drop] at eb ek2
        exact ⟨by rw [ea, eb], by rw [ek2]; simp only []; omega⟩
    · have e5 := h2.1 hf1
      rw [if_pos (by rw [← e1]; exact hf1)]
      exact ⟨e5.trans e1, fun h0 => absurd (e5.symm.trans h0) hf1⟩
theorem Got.list {α : Type} {A : Cod α} {m n : Nat} {s : ByteArray} {k f k1 f1 k2 f2 : Nat} {l : List α} (h1 : Got (posC m) s k f (n : Int) k1 f1) (h2 : Got (A.times n) s k1 f1 l k2 f2) : Got (listC A m) s k f l k2 f2 := by
  refine ⟨fun hf => ?_, fun hf => ?_⟩
  · have e1 := h1.1 hf
    exact (h2.1 (by omega)).trans e1
  · obtain ⟨e1, e2⟩ := h1.2 hf
    simp only [posC, Cod.map, mostC] at e1 e2
    simp only [listC, Cod.behind]
    by_cases hf1 : f1 = 0
    · obtain ⟨ea, ek⟩ := e2 hf1
      obtain ⟨e3, e4⟩ := h2.2 hf1
      have en : n = (Pk.most m (s.data.toList.drop k)).1 := by omega
      rw [ek, ← List.drop_drop, en] at e3
      rw [if_neg (by rw [← e1]; exact fun h => h hf1)]
      refine ⟨?_, fun hf2 => ?_⟩
      · by_cases h0 : f2 = 0
        · rw [if_neg (by rw [← e3]; exact fun h => h h0), h0]
        · rw [if_pos (by rw [← e3]; exact h0)]; exact e3
      · rw [if_neg (by rw [← e3]; exact fun h => h hf2)]
        obtain ⟨eb, ek2⟩ := e4 hf2
        rw [ek, ← List.drop_drop, en] at eb ek2
        exact ⟨eb, by rw [ek2]; simp only []; omega⟩
    · have e5 := h2.1 hf1
      rw [if_pos (by rw [← e1]; exact hf1)]
      exact ⟨e5.trans e1, fun h0 => absurd (e5.symm.trans h0) hf1⟩

def intCells (l : List Int) : List Value := l.map fun x => .int .i64 x
theorem info3 : (Tryd.prog.info? 3).map (fun i => (i.zero, i.size, i.bytes)) = some (some (.int .i64 0), 1, 8) := by kernel_rfl
/-- One int more. -/
theorem app_int {w : World} {base : Nat} {v : Value} {l : List Int} (h : w.ownsRow base 3 1 v l.length (intCells l)) (x : Int) (hl : l.length ≤ 100000) (hb : base ≤ w.heap.size) :
    ∃ v' w', (∀ ty, (Builtin.append_ #[25, 25] ty #[v, .slice (some ⟨w.heap.size, 0, none⟩) 1 1]).run Tryd.prog (w.alloc (.cells #[.int .i64 x] 3)) = .ok v' w') ∧
      w'.ownsRow base 3 1 v' (l ++ [x]).length (intCells (l ++ [x])) ∧ Moved (fun i => v.ownBlock = some i) w w' := by
  obtain ⟨i0, hi, hz0, hz1, hz2⟩ := info_parts info3
  have hnews : ∀ j u, (intCells [x])[j]? = some u → (w.alloc (.cells #[.int .i64 x] 3)).cell? ((⟨w.heap.size, 0, none⟩ : Addr).add j) = some u := fun j u hj => by
    match j, hj with
    | 0, hj =>
      simp [intCells] at hj
      subst hj
      rw [Addr.add_lit]; simp
    | j + 1, hj => simp [intCells] at hj
  have h1 : ∀ u ∈ intCells [x], u.oneCell' = true := fun u hu => by simp [intCells] at hu; subst hu; rfl
  have key : ∀ ty, ∃ v' w', (Builtin.append_ #[25, 25] ty #[v, .slice (some ⟨w.heap.size, 0, none⟩) 1 1]).run Tryd.prog (w.alloc (.cells #[.int .i64 x] 3)) = .ok v' w' ∧ w'.ownsRow base 3 1 v' (l.length + 1) (intCells l ++ intCells [x]) ∧ (w.alloc (.cells #[.int .i64 x] 3)).grownBy w' v.ownBlock := fun ty => by
    obtain ⟨v', w', h2, h3, h4, _⟩ := run_append_own (P := Tryd.prog) (w.alloc (.cells #[.int .i64 x] 3)) base 25 ty 3 i0 (.int .i64 0) 1 8 Tryd.underlying25 hi hz0 hz1 hz2 rfl (by decide) v l.length (intCells l) (h.alloc _) ⟨w.heap.size, 0, none⟩ 1 1 (intCells [x]) rfl hnews h1
      (by unfold maxLen; omega) (by omega) (by simp; omega)
    exact ⟨v', w', h2, h3, h4⟩
  obtain ⟨v', w', h2, h3, h4⟩ := key 0
  have hc : intCells (l ++ [x]) = intCells l ++ intCells [x] := by simp [intCells]
  have hn : (l ++ [x]).length = l.length + 1 := by simp
  rw [hc, hn]
  refine ⟨v', w', fun ty => ?_, h3, ?_⟩
  · exact h2
  · exact ((Moved.refl _ w).alloc _).grown h4 (fun k hk => .inl hk)

theorem owns_keep {w w' : World} {base : Nat} {e : TypeId} {size : Nat} {v : Value} {n : Nat} {xs : List Value} (h : w.ownsRow base e size v n xs) (hb : ∀ k, v.ownBlock = some k → w'.heap[k]? = w.heap[k]?) : w'.ownsRow base e size v n xs := by
  obtain ⟨h1, h2⟩ := h
  refine ⟨h1, h2.imp id ?_⟩
  rintro ⟨g, cap, cur, rfl, a0, a2, a3⟩
  exact ⟨g, cap, cur, rfl, a0, (hb g rfl).trans a2, a3⟩

set_option maxRecDepth 100000 in
set_option maxHeartbeats 1000000 in
theorem refnumbers_any {w : World} {x : Nat} {s : ByteArray} {k f : Nat} (h : InAt w x s k f) (m : Nat) (hm : m ≤ 2000) :
    Calls Tryd.prog 44 #[.pointer (some ⟨x, 0, none⟩), .int .i64 (m : Int)] w fun e w' => ∃ v l k' f', e = .returned v ∧ w'.ownsRow w.heap.size 3 1 v l.length (intCells l) ∧ InAt w' x s k' f' ∧ Moved (fun i => i = x) w w' ∧ Got (listC P m) s k f l k' f' := by
  have H := hide h
  have hx := h.lt
  clear h
  go_enter Tryd.func44, Tryd.ntmps44
  go_wp2_with fail
  refine (refin_most (unhide H) m (by omega)).mono ?_
  rintro e w1 ⟨rfl, i1, m1⟩
  have G0 := hide (Got.most m s k f)
  have hn : (outMost (m : Int) s k f).1 ≤ m := by
    unfold outMost
    split
    · have hk := numTo_room (m : Int) (s.data.toList.drop k)
      unfold numTo
      split
      · simp
      · split
        · simp
        · omega
    · simp
  generalize (outMost (m : Int) s k f).1 = n at *
  generalize ahead k (outMost (m : Int) s k f).2.1 (outMost (m : Int) s k f).2.2 = k1 at *
  generalize (outMost (m : Int) s k f).2.2 = f1 at *
  have I1 := hide i1
  have M1 := hide m1
  clear i1 m1
  go_wp2_with fail
  go_loopw [6, 7] (fun sl i wr => ∃ (j : Nat) (l : List Int) (kk ff : Nat), j ≤ n ∧ i = .int .i64 (j : Int) ∧ l.length = j ∧ wr.ownsRow w.heap.size 3 1 sl l.length (intCells l) ∧ InAt wr x s kk ff ∧ Moved (fun i => i = x) w wr ∧ Got (P.times j) s k1 f1 l kk ff) (fun _ i _ => n - (intOf i).toNat)
  case atStart => exact ⟨0, [], k1, f1, by omega, rfl, rfl, ⟨rfl, .inl ⟨rfl, rfl⟩⟩, unhide I1, unhide M1, Got.zero_times P s k1 f1⟩
  case round =>
    obtain ⟨j, l, kk, ff, hj, rfl, hl, hown, hi, hmv, hg⟩ := hrel
    have HO := hide hown
    have HI := hide hi
    have HM := hide hmv
    have HG := hide hg
    clear hown hi hmv hg
    by_cases hlt : j < n
    · go_wp2_with fail
      refine (refin_most (unhide HI) 2147483647 (by decide)).mono ?_
      rintro e w2 ⟨rfl, i2, m2⟩
      have G1 := hide (Got.most 2147483647 s kk ff)
      generalize (((outMost ((2147483647 : Nat) : Int) s kk ff).1 : Nat) : Int) = a at *
      generalize ahead kk (outMost ((2147483647 : Nat) : Int) s kk ff).2.1 (outMost ((2147483647 : Nat) : Int) s kk ff).2.2 = k2 at *
      generalize (outMost ((2147483647 : Nat) : Int) s kk ff).2.2 = f2 at *
      have own2 : w2.ownsRow w.heap.size 3 1 u6 l.length (intCells l) := owns_keep (unhide HO) (fun g hg => m2.block g ((unhide HO).lt g hg).2 (fun e => by have := ((unhide HO).lt g hg).1; omega))
      have hsz : w.heap.size ≤ w2.heap.size := Nat.le_trans (unhide HM).size m2.size
      obtain ⟨v', w3, hr, hown3, hmv3⟩ := app_int own2 a (by omega) hsz
      have hown_lt := own2.lt
      have O3 := hide hown3
      have I3 := hide (i2.keep hmv3 (fun e => by have := (hown_lt x e).1; omega))
      have M3 := hide (((unhide HM).trans m2 (fun _ h => .inl h)).trans hmv3 (fun g e => .inr (hown_lt g e).1))
      have HR := hide hr
      clear i2 m2 own2 hown3 hmv3 hown_lt hr
      go_wp2_with (at_builtin; refine wpList_app rfl _ _ 25 25 rfl rfl rfl (unhide HR) ?_)
      go_roundw
      case rel => exact ⟨j + 1, l ++ [a], k2, f2, by omega, by go_num, by simp [hl], unhide O3, unhide I3, unhide M3, (unhide HG).snoc (unhide G1)⟩
      case measure => simp [intOf]; omega
    · have hjn : j = n := by omega
      subst hjn
      go_wp2_with fail
      go_ret
      exact ⟨_, l, kk, ff, rfl, unhide HO, unhide HI, unhide HM, (unhide G0).list (unhide HG)⟩
theorem owns_mono {w : World} {base base' : Nat} {e : TypeId} {size : Nat} {v : Value} {n : Nat} {xs : List Value} (h : w.ownsRow base e size v n xs) (hb : base' ≤ base) : w.ownsRow base' e size v n xs := by
  obtain ⟨h1, h2⟩ := h
  refine ⟨h1, h2.imp id ?_⟩
  rintro ⟨g, cap, cur, rfl, a0, a2, a3⟩
  exact ⟨g, cap, cur, rfl, Nat.le_trans hb a0, a2, a3⟩
/-- A table that is read. -/
def tableC : Cod (Int × Int × List Int) := P.seq (P.seq ownersC 0 []) 0 (0, [])
set_option maxRecDepth 100000 in
set_option maxHeartbeats 2000000 in
theorem reftable_any {w : World} {x : Nat} {s : ByteArray} {k f : Nat} (h : InAt w x s k f) :
    Calls Tryd.prog 42 #[.pointer (some ⟨x, 0, none⟩)] w fun e w' => ∃ a0 a1 v l k' f', e = .returned (.agg #[.int .i64 a0, .int .i64 a1, v]) ∧ w'.ownsRow w.heap.size 3 1 v l.length (intCells l) ∧ InAt w' x s k' f' ∧ Moved (fun i => i = x) w w' ∧ Got tableC s k f (a0, a1, l) k' f' := by
  have hx := h.lt
  obtain ⟨A, hA⟩ : ∃ A, A = w.heap.size := ⟨_, rfl⟩
  obtain ⟨w0, hw0⟩ : ∃ w0, w0 = (w.alloc (.cells #[.int .i64 0, .int .i64 0, .slice none 0 0] 27)).alloc (.cells #[.int .i64 0, .int .i64 0, .slice none 0 0] 27) := ⟨_, rfl⟩
  have m0 : Moved (fun i => i = x) w w0 := by rw [hw0]; exact ((Moved.refl _ _).alloc _).alloc _
  have I := hide (h.keep (((Moved.refl (fun _ => False) w).alloc (.cells #[.int .i64 0, .int .i64 0, .slice none 0 0] 27)).alloc (.cells #[.int .i64 0, .int .i64 0, .slice none 0 0] 27)) id)
  rw [← hw0] at I
  have R1 : Hid (RowAt w0 A [.int .i64 0, .int .i64 0, .slice none 0 0]) := hide (by rw [hw0, hA]; exact row_old (row_new w [.int .i64 0, .int .i64 0, .slice none 0 0] 27) _)
  have R2 : Hid (RowAt w0 (A + 1) [.int .i64 0, .int .i64 0, .slice none 0 0]) := hide (by rw [hw0, hA]; exact row_new2 w [.int .i64 0, .int .i64 0, .slice none 0 0] [.int .i64 0, .int .i64 0, .slice none 0 0] 27 27)
  have M := hide m0
  have HX := hide (show x ≠ A ∧ x ≠ A + 1 by omega)
  clear m0 h hx
  obtain ⟨k0, hk0⟩ : ∃ k0, k0 = k := ⟨_, rfl⟩
  obtain ⟨f0, hf0⟩ : ∃ f0, f0 = f := ⟨_, rfl⟩
  rw [← hk0, ← hf0] at I
  have HK := hide (And.intro hk0 hf0)
  clear hk0 hf0
  have HW := hide hw0
  have HA := hide hA
  clear hw0 hA
  go_enter Tryd.func42, Tryd.ntmps42
  go_wp2_with fail
  rw [← unhide HA, ← unhide HW]
  refine (refin_most (unhide I) 2147483647 (by decide)).mono ?_
  rintro e w0b ⟨rfl, i1, m1⟩
  have G0 := hide (Got.most 2147483647 s k0 f0)
  generalize (((outMost (2147483647 : Nat) s k0 f0).1 : Nat) : Int) = a0 at *
  generalize ahead k0 (outMost (2147483647 : Nat) s k0 f0).2.1 (outMost (2147483647 : Nat) s k0 f0).2.2 = k1 at *
  generalize (outMost (2147483647 : Nat) s k0 f0).2.2 = f1 at *
  replace R1 := hide ((unhide R1).keep m1 (Ne.symm (unhide HX).1))
  replace R2 := hide ((unhide R2).keep m1 (Ne.symm (unhide HX).2))
  replace M := hide ((unhide M).trans m1 (fun _ h => .inl h))
  have c0 := (unhide R2).cell 0 (show 0 < 3 by decide)
  have g0 := (unhide R2).free 0 (show 0 < 3 by decide)
  have m2 := (Moved.refl (fun i => i = A + 1) w0b).setCell (p := ⟨A + 1, 0, none⟩) (.inl rfl) (.int .i64 a0)
  replace I := hide (i1.keep m2 (unhide HX).2)
  replace R1 := hide ((unhide R1).keep m2 (by omega))
  have r2 : RowAt (w0b.setCell ⟨A + 1, 0, none⟩ (.int .i64 a0)) (A + 1) [.int .i64 a0, .int .i64 0, .slice none 0 0] := (unhide R2).set 0 (show 0 < 3 by decide) (.int .i64 a0)
  replace R2 := hide r2
  replace M := hide ((unhide M).trans m2 (fun i h => .inr (by have := unhide HA; omega)))
  clear i1 m1 m2 r2
  go_wp2_with fail
  clear c0 g0
  generalize w0b.setCell ⟨A + 1, 0, none⟩ (.int .i64 a0) = w1 at *
  refine (refin_most (unhide I) 2147483647 (by decide)).mono ?_
  rintro e w1b ⟨rfl, i1, m1⟩
  have G1 := hide (Got.most 2147483647 s k1 f1)
  generalize (((outMost (2147483647 : Nat) s k1 f1).1 : Nat) : Int) = a1 at *
  generalize ahead k1 (outMost (2147483647 : Nat) s k1 f1).2.1 (outMost (2147483647 : Nat) s k1 f1).2.2 = k2 at *
  generalize (outMost (2147483647 : Nat) s k1 f1).2.2 = f2 at *
  replace R1 := hide ((unhide R1).keep m1 (Ne.symm (unhide HX).1))
  replace R2 := hide ((unhide R2).keep m1 (Ne.symm (unhide HX).2))
  replace M := hide ((unhide M).trans m1 (fun _ h => .inl h))
  have c1 := (unhide R2).cell 1 (show 1 < 3 by decide)
  have g1 := (unhide R2).free 1 (show 1 < 3 by decide)
  have m2 := (Moved.refl (fun i => i = A + 1) w1b).setCell (p := ⟨A + 1, 1, none⟩) (.inl rfl) (.int .i64 a1)
  replace I := hide (i1.keep m2 (unhide HX).2)
  replace R1 := hide ((unhide R1).keep m2 (by omega))
  have r2 : RowAt (w1b.setCell ⟨A + 1, 1, none⟩ (.int .i64 a1)) (A + 1) [.int .i64 a0, .int .i64 a1, .slice none 0 0] := (unhide R2).set 1 (show 1 < 3 by decide) (.int .i64 a1)
  replace R2 := hide r2
  replace M := hide ((unhide M).trans m2 (fun i h => .inr (by have := unhide HA; omega)))
  clear i1 m1 m2 r2
  go_wp2_with fail
  clear c1 g1
  generalize w1b.setCell ⟨A + 1, 1, none⟩ (.int .i64 a1) = w2 at *
  have hs2 : w.heap.size + 2 ≤ w2.heap.size := by have := (unhide R2).lt; have := unhide HA; omega
  refine (refnumbers_any (unhide I) 64 (by decide)).mono ?_
  rintro e w2b ⟨v, l, k3, f3, rfl, own1, i1, m1, g1⟩
  have G2 := hide g1
  have O := hide own1
  clear g1 own1
  replace R1 := hide ((unhide R1).keep m1 (Ne.symm (unhide HX).1))
  replace R2 := hide ((unhide R2).keep m1 (Ne.symm (unhide HX).2))
  replace M := hide ((unhide M).trans m1 (fun _ h => .inl h))
  have c2 := (unhide R2).cell 2 (show 2 < 3 by decide)
  have g2 := (unhide R2).free 2 (show 2 < 3 by decide)
  have m2 := (Moved.refl (fun i => i = A + 1) w2b).setCell (p := ⟨A + 1, 2, none⟩) (.inl rfl) (v)
  replace I := hide (i1.keep m2 (unhide HX).2)
  replace R1 := hide ((unhide R1).keep m2 (by omega))
  have r2 : RowAt (w2b.setCell ⟨A + 1, 2, none⟩ (v)) (A + 1) [.int .i64 a0, .int .i64 a1, v] := (unhide R2).set 2 (show 2 < 3 by decide) (v)
  replace R2 := hide r2
  replace M := hide ((unhide M).trans m2 (fun i h => .inr (by have := unhide HA; omega)))
  replace O := hide (owns_keep (unhide O) (fun g hg => m2.block g ((unhide O).lt g hg).2 (fun e => by have := ((unhide O).lt g hg).1; have := unhide HA; omega)))
  clear i1 m1 m2 r2
  have hv1 : v.oneCell' = true := by
    rcases (unhide O).2 with ⟨rfl, _⟩ | ⟨g, cap, cur, rfl, _⟩ <;> rfl
  have hv1' : ∃ a b c, v = .slice a b c := by
    rcases (unhide O).2 with ⟨rfl, _⟩ | ⟨g, cap, cur, rfl, _⟩
    · exact ⟨_, _, _, rfl⟩
    · exact ⟨_, _, _, rfl⟩
  obtain ⟨va, vb, vc, rfl⟩ := hv1'
  go_upto_region 5 with fail
  clear c2 g2
  generalize w2b.setCell ⟨A + 1, 2, none⟩ (.slice va vb vc) = wz at *
  have hrg := (unhide R2).range
  have hth := (unhide R1).there
  go_step
  refine wpList_load_mid rfl 27 (.tmp 3) rfl (A + 1) 0 rfl [.int .i64 a0, .int .i64 a1, .slice va vb vc] _ hrg Tryd.underlying27 rfl (by kernel_rfl) ?_
  refine wpList_store_mid rfl 27 (.tmp 2) (.tmp 13) rfl A 0 #[.int .i64 a0, .int .i64 a1, .slice va vb vc] rfl rfl hth (by kernel_rfl) (by simp [Value.oneCell']) ?_
  clear hrg hth
  have RF := (unhide R1).put [.int .i64 a0, .int .i64 a1, .slice va vb vc] rfl
  have MF := hide (setCells_moved wz A 0 [.int .i64 a0, .int .i64 a1, .slice va vb vc])
  change wpList _ _ _ _ _ (wz.setCells A 0 [.int .i64 a0, .int .i64 a1, .slice va vb vc])
  generalize wz.setCells A 0 [.int .i64 a0, .int .i64 a1, .slice va vb vc] = wf at *
  go_wp2_with fail
  have hfr := RF.range
  clear RF
  refine bodyPost_ret (v := .agg #[.int .i64 a0, .int .i64 a1, .slice va vb vc]) ?_ rfl ?_
  · exact results_cell_mid Tryd.results42 _ wf A _ _ rfl hfr Tryd.underlying27 rfl (by kernel_rfl)
  · refine ⟨a0, a1, _, l, k3, f3, rfl, ?_, (unhide I).keep (unhide MF) (unhide HX).1, (unhide M).trans (unhide MF) (fun i h => .inr (by have := unhide HA; omega)), ?_⟩
    · have o1 := owns_keep (unhide O) (fun g hg => (unhide MF).block g ((unhide O).lt g hg).2 (fun e => by have := ((unhide O).lt g hg).1; have := unhide HA; omega))
      exact owns_mono o1 (by omega)
    · rw [← (unhide HK).1, ← (unhide HK).2]
      exact (unhide G0).seq ((unhide G1).seq (unhide G2))
end Go.Proofs.YtkbmbcmcnpeabaaDoor.Rf

namespace Go.Proofs.YtkbmbcmcnpeabaaDoor
open Pk Go.RowKit

def setsL (vs : List Value) (o : Nat) : List Value → List Value
  | [] => vs
  | v :: r => setsL (vs.set o v) (o + 1) r
theorem RowAt.sets {B : Nat} (cs : List Value) : ∀ {w : World} {vs : List Value} (_ : RowAt w B vs) (o : Nat), o + cs.length ≤ vs.length → RowAt (w.setCells B o cs) B (setsL vs o cs) := by
  induction cs with
  | nil => intro w vs h o _; exact h
  | cons v r ih =>
    intro w vs h o hl
    simp only [List.length_cons] at hl
    exact ih (h.set o (by omega) v) (o + 1) (by rw [List.length_set]; omega)
theorem RowAt.rangeMid {w : World} {B : Nat} {vs : List Value} (h : RowAt w B vs) (o : Nat) (cs : List Value) (hc : ∀ j, j < cs.length → vs[o + j]? = cs[j]?) : w.rangeAt B o cs := fun j v hv => by
  have hj : j < cs.length := (List.getElem?_eq_some_iff.1 hv).1
  have e : vs[o + j]? = some v := (hc j hj).trans hv
  obtain ⟨hi, _⟩ := List.getElem?_eq_some_iff.1 e
  rw [h.cell _ hi, List.getD_eq_getElem?_getD, e]; rfl
theorem RowAt.thereMid {w : World} {B : Nat} {vs : List Value} (h : RowAt w B vs) (o n : Nat) (hl : o + n ≤ vs.length) : w.there B o n := fun j hj => ⟨by rw [h.cell _ (by omega)]; rfl, h.free _ (by omega)⟩
theorem range8 {w : World} {A : Nat} {m : MsgV} {a1 a2 : Option Addr} {c1 c2 : Nat} (h : RowAt w A (msgCells m a1 c1 a2 c2)) : w.rangeAt A 9 (itemCells m.item) := h.rangeMid 9 _ fun j hj => by
  have hj' : j < 8 := hj
  have : j = 0 ∨ j = 1 ∨ j = 2 ∨ j = 3 ∨ j = 4 ∨ j = 5 ∨ j = 6 ∨ j = 7 := by omega
  rcases this with rfl | rfl | rfl | rfl | rfl | rfl | rfl | rfl <;> rfl
theorem range3 {w : World} {A : Nat} {m : MsgV} {a1 a2 : Option Addr} {c1 c2 : Nat} (h : RowAt w A (msgCells m a1 c1 a2 c2)) : w.rangeAt A 17 [.int .i64 m.epoch, .int .i64 m.nodes, .slice a1 m.owner.length c1] := h.rangeMid 17 _ fun j hj => by
  have hj' : j < 3 := hj
  have : j = 0 ∨ j = 1 ∨ j = 2 := by omega
  rcases this with rfl | rfl | rfl <;> rfl

end Go.Proofs.YtkbmbcmcnpeabaaDoor

namespace Go.Proofs.YtkbmbcmcnpeabaaDoor
open Pk Go.RowKit

theorem setCell_self {w : World} {b o : Nat} {v : Value} (h : w.cell? ⟨b, o, none⟩ = some v) : w.setCell ⟨b, o, none⟩ v = w := by
  cases w with
  | mk heap tape drawn os output =>
    simp only [World.cell?] at h
    simp only [World.setCell]
    congr 1
    apply Array.ext_getElem?
    intro i
    rw [Array.getElem?_modify]
    by_cases e : b = i
    · subst e
      rw [if_pos rfl]
      cases hb : heap[b]? with
      | none => rfl
      | some x =>
        rw [hb] at h
        cases x with
        | cells c el fr =>
          have hc : c[o]? = some v := by simpa using h
          have e : c.setIfInBounds o v = c := by
            apply Array.ext_getElem?
            intro j
            rw [Array.getElem?_setIfInBounds]
            by_cases e : o = j
            · subst e
              obtain ⟨hlt, _⟩ := Array.getElem?_eq_some_iff.1 hc
              rw [if_pos rfl, if_pos hlt, hc]
            · rw [if_neg e]
          simp [e]
        | _ => rfl
    · rw [if_neg e]
theorem setCells_self {b : Nat} (vs : List Value) : ∀ {w : World} {o : Nat}, w.rangeAt b o vs → w.setCells b o vs = w := by
  induction vs with
  | nil => intro w o _; rfl
  | cons v r ih =>
    intro w o h
    have h0 : w.setCell ⟨b, o, none⟩ v = w := setCell_self (h 0 v rfl)
    show (w.setCell ⟨b, o, none⟩ v).setCells b (o + 1) r = w
    rw [h0]
    exact ih fun j u hj => by have := h (j + 1) u hj; rwa [show o + (j + 1) = o + 1 + j by omega] at this
/-- A world of which St holds. -/
structure SW (St : World → Prop) where
  w : World
  ok : St w
/-- A region that draws its order, whose operations yield one value each in every world of which St holds, and whose calls leave such a world. -/
theorem wp_region_sw {P : Program} {St : World → Prop} {id : Nat} {Q : Exit → Act → World → Prop} {a : Act} {w : World} {l : List Oper} (hm : P.follows .mixedOrders = true) (hB : Region.lexB .any l.toArray = true) (hS : St w.drew)
    (h : wpQuiet P l.toArray (fun w' => ∃ p : SW St, w' = p.w) (fun a' => ∀ w', (∃ p : SW St, w' = p.w) → Q .normal a' w') l a) : (Code.region id l.toArray true).wp P Q a w :=
  wp_region_quiet (C := fun w' => ∃ p : SW St, w' = p.w) hm hB ⟨⟨_, hS⟩, rfl⟩ (by simpa using h)
/-- A store, in such a region, of what lies there. -/
theorem wpQuiet_store_same {P : Program} {ops : Array Oper} {C : World → Prop} {Q : Act → Prop} {rest : List Oper} {op : Oper} {a : Act} (hw : Region.wanted op (yielded ops a.tmps) = true) (ty : TypeId) (x y : Operand) (ho : op.op = .store ty x y)
    (b o : Nat) (cells : Array Value) (hx : a.eval x = .pointer (some ⟨b, o, none⟩)) (hy : a.eval y = .agg cells) (ht : ∀ w, C w → w.there b o cells.size) (hr : ∀ w, C w → w.rangeAt b o cells.toList)
    (hi : (P.info? ty).map (·.size) = some cells.size) (h1 : cells.all (·.oneCell') = true)
    (h : wpQuiet P ops C Q rest (a.put op.dst undef)) : wpQuiet P ops C Q (op :: rest) a := by
  unfold wpQuiet
  rw [if_pos hw]
  refine ⟨undef, fun w hw' => ?_, h⟩
  unfold Oper.quietAt execOp
  simp only [ho, hx, hy, Sem.run_bind, run_storeAt_mid w b o ty cells (ht w hw') hi h1, Sem.run_pure, Result.andThen_ok, setCells_self _ (hr w hw')]
  exact ⟨rfl, rfl⟩

/-- The document's reader at x, the message at B and the result's place R behind a reading. -/
structure DSt (w0 w : World) (x B R : Nat) (vs : List Value) (s : ByteArray) (k f : Nat) : Prop where
  moved : Moved (fun i => i = x ∨ i = B) w0 w
  row : RowAt w B vs
  res : RowAt w R (msgCells MsgV.zero none 0 none 0)
  inn : InAt w x s k f
  xB : x ≠ B
  xR : x ≠ R
  RB : R ≠ B
section
variable {w0 w w' : World} {x B R : Nat} {vs : List Value} {s : ByteArray} {k f k' f' : Nat}
theorem DSt.goes (h : DSt w0 w x B R vs s k f) (m : Moved (fun i => i = x) w w') (hi : InAt w' x s k' f') : DSt w0 w' x B R vs s k' f' :=
  ⟨h.moved.trans m fun _ hi => .inl (.inl hi), h.row.keep m (fun e => h.xB e.symm), h.res.keep m (fun e => h.xR e.symm), hi, h.xB, h.xR, h.RB⟩
theorem DSt.put (h : DSt w0 w x B R vs s k f) (i : Nat) (hi : i < vs.length) (v : Value) : DSt w0 (w.setCell ⟨B, i, none⟩ v) x B R (vs.set i v) s k f :=
  ⟨h.moved.setCell (.inl (.inr rfl)) v, h.row.set i hi v, h.res.keep (Moved.put w B i v) h.RB, h.inn.keep (Moved.put w B i v) h.xB, h.xB, h.xR, h.RB⟩
theorem DSt.puts (h : DSt w0 w x B R vs s k f) (i : Nat) (cs : List Value) (hi : i + cs.length ≤ vs.length) : DSt w0 (w.setCells B i cs) x B R (setsL vs i cs) s k f :=
  ⟨h.moved.trans (setCells_moved w B i cs) fun _ hi => .inl (.inr hi), h.row.sets cs i hi, h.res.keep (setCells_moved w B i cs) h.RB, h.inn.keep (setCells_moved w B i cs) h.xB, h.xB, h.xR, h.RB⟩
theorem DSt.drew (h : DSt w0 w x B R vs s k f) : DSt w0 w.drew x B R vs s k f := by
  have m : Moved (fun _ => False) w w.drew := ⟨rfl, rfl, rfl, Nat.le_refl _, fun _ _ _ => rfl⟩
  exact ⟨h.moved.trans m fun _ hi => hi.elim, h.row.keep m id, h.res.keep m id, h.inn.keep m id, h.xB, h.xR, h.RB⟩
theorem DSt.cell (h : DSt w0 w x B R vs s k f) (i : Nat) {v : Value} (hi : vs[i]? = some v) : w.cell? ⟨B, i, none⟩ = some v := by
  obtain ⟨hl, e⟩ := List.getElem?_eq_some_iff.1 hi
  rw [h.row.cell i hl, List.getD_eq_getElem?_getD, hi]; rfl
end
/-- What Read answers. -/
def RPost (s : ByteArray) (w : World) (e : Ending) (w' : World) : Prop :=
  Moved (fun _ => False) w w' ∧ ∃ a c a2 c2, e = .returned (.tuple #[.agg (msgCells (readMsg s.data.toList).1 a c a2 c2).toArray, .int .i64 (((readMsg s.data.toList).2 : Nat) : Int)]) ∧ Ints w' a (readMsg s.data.toList).1.owner ∧ Ints w' a2 (readMsg s.data.toList).1.set ∧ ∀ y, a = some y ∨ a2 = some y → w.heap.size ≤ y.block
theorem rpost_zero {s : ByteArray} {w w' : World} {e : Nat} (hm : Moved (fun _ => False) w w') (h : readMsg s.data.toList = (MsgV.zero, e)) : RPost s w (.returned (.tuple #[.agg (msgCells MsgV.zero none 0 none 0).toArray, .int .i64 ((e : Nat) : Int)])) w' := by
  refine ⟨hm, none, 0, none, 0, ?_, ?_, ?_, fun y hy => by rcases hy with h | h <;> cases h⟩
  · rw [h]
  · rw [h]; exact ints_nil _ _
  · rw [h]; exact ints_nil _ _
theorem rpost_msg {s : ByteArray} {w w' : World} {m : MsgV} {a a2 : Option Addr} {c c2 : Nat} (hm : Moved (fun _ => False) w w') (h : readMsg s.data.toList = (m, 0)) (h1 : Ints w' a m.owner) (h2 : Ints w' a2 m.set) (hF : ∀ y, a = some y ∨ a2 = some y → w.heap.size ≤ y.block) : RPost s w (.returned (.tuple #[.agg (msgCells m a c a2 c2).toArray, .int .i64 0])) w' := by
  refine ⟨hm, a, c, a2, c2, ?_, ?_, ?_, hF⟩
  · rw [h]; rfl
  · rw [h]; exact h1
  · rw [h]; exact h2
theorem got_none {K : UInt8} {s : ByteArray} {t : List UInt8} {k f : Nat} {m : MsgV} (hl : s.data.toList = K :: t) (hk : 1 ≤ K.toNat ∧ K.toNat ≤ 14) (h : Rf.Got (bodyC K.toNat) s 1 0 m k f) :
    (f ≠ 0 → readMsg s.data.toList = (MsgV.zero, f)) ∧ (f = 0 → k < s.size → readMsg s.data.toList = (MsgV.zero, 8)) ∧ (f = 0 → ¬ k < s.size → readMsg s.data.toList = (m, 0)) := by
  obtain ⟨h1, h2⟩ := h.2 rfl
  have hd : s.data.toList.drop 1 = t := by rw [hl]; rfl
  have hz : s.size = t.length + 1 := by have := congrArg List.length hl; simpa using this
  rw [hd] at h1 h2
  have hn : ¬ (K.toNat < 1 ∨ 14 < K.toNat) := by omega
  rw [hl]
  unfold readMsg
  simp only [hn, if_false]
  refine ⟨fun hf => ?_, fun hf hs => ?_, fun hf hs => ?_⟩
  · rw [if_pos (by rw [← h1]; exact hf), h1]
  · obtain ⟨-, h3⟩ := h2 hf
    rw [if_neg (by rw [← h1]; simpa using hf), if_pos (by omega)]
  · obtain ⟨h4, h3⟩ := h2 hf
    rw [if_neg (by rw [← h1]; simpa using hf), if_neg (by omega), h4]
/-- The world in which Read reads. -/
theorem dst_laid {w : World} {s : ByteArray} (hs : s.size ≤ 1099511627776) {A : Nat} (hA : A = w.heap.size) {W : World}
    (hW : W = ((w.alloc (.cells (msgCells MsgV.zero none 0 none 0).toArray 29)).alloc (.cells #[.string s, .int .i64 0, .int .i64 0] 79)).alloc (.cells (msgCells MsgV.zero none 0 none 0).toArray 29)) :
    DSt W W (A + 1) (A + 2) A (msgCells MsgV.zero none 0 none 0) s 0 0 ∧ Moved (fun _ => False) w W := by
  obtain ⟨w1, h1⟩ : ∃ w1, w1 = w.alloc (.cells (msgCells MsgV.zero none 0 none 0).toArray 29) := ⟨_, rfl⟩
  have z1 : w1.heap.size = A + 1 := by rw [h1, hA]; simp
  have r2 : RowAt (w1.alloc (.cells #[.string s, .int .i64 0, .int .i64 0] 79)) w1.heap.size [.string s, .int .i64 0, .int .i64 0] := row_new w1 [.string s, .int .i64 0, .int .i64 0] 79
  have r3 := row_new2 w1 (msgCells MsgV.zero none 0 none 0) [.string s, .int .i64 0, .int .i64 0] 29 79
  have r1 : RowAt w1 A (msgCells MsgV.zero none 0 none 0) := by rw [h1, hA]; exact row_new w _ 29
  rw [← h1] at hW
  have r3' : RowAt W (A + 2) (msgCells MsgV.zero none 0 none 0) := by rw [hW]; rw [z1] at r3; exact r3
  have r2' : RowAt W (A + 1) [.string s, .int .i64 0, .int .i64 0] := by rw [hW, ← z1]; exact row_old r2 _
  have r1' : RowAt W A (msgCells MsgV.zero none 0 none 0) := by rw [hW]; exact row_old (row_old r1 _) _
  refine ⟨⟨Moved.refl _ _, r3', r1', ⟨r2'.cell 0 (show 0 < 3 by decide), r2'.cell 1 (show 1 < 3 by decide), r2'.cell 2 (show 2 < 3 by decide), r2'.free 1 (show 1 < 3 by decide), r2'.free 2 (show 2 < 3 by decide), Nat.zero_le _, hs, Nat.zero_le _⟩, by omega, by omega, by omega⟩, ?_⟩
  rw [hW, h1]
  exact (((Moved.refl _ w).alloc _).alloc _).alloc _
end Go.Proofs.YtkbmbcmcnpeabaaDoor

namespace Go.Proofs.YtkbmbcmcnpeabaaDoor
open Pk Go.RowKit

set_option maxHeartbeats 4000000 in
set_option maxRecDepth 100000 in
theorem refread_empty (s : ByteArray) (hs : s.size ≤ 1099511627776) (w : World) (hl : s.data.toList = []) : Calls Tryd.prog 14 #[.string s] w (RPost s w) := by
  obtain ⟨A, hA⟩ : ∃ A, A = w.heap.size := ⟨_, rfl⟩
  obtain ⟨W, hW⟩ : ∃ W, W = ((w.alloc (.cells (msgCells MsgV.zero none 0 none 0).toArray 29)).alloc (.cells #[.string s, .int .i64 0, .int .i64 0] 79)).alloc (.cells (msgCells MsgV.zero none 0 none 0).toArray 29) := ⟨_, rfl⟩
  obtain ⟨d0, mw⟩ := dst_laid hs hA hW
  have D := hide d0
  have HW := hide hW
  have HA := hide hA
  have HM := hide mw
  have HL := hide hl
  clear d0 mw hW hA hl hs
  go_enter Tryd.func14, Tryd.ntmps14
  go_wp2_with fail
  rw [← unhide HA]
  change Calls Tryd.prog 39 _ (((w.alloc (.cells (msgCells MsgV.zero none 0 none 0).toArray 29)).alloc (.cells #[.string s, .int .i64 0, .int .i64 0] 79)).alloc (.cells (msgCells MsgV.zero none 0 none 0).toArray 29)) _
  rw [← unhide HW]
  refine (Rf.refin_byte (unhide D).inn).mono ?_
  rw [show outByte s 0 0 = (0, 0, 7) by unfold outByte; rw [if_pos rfl, List.drop_zero, unhide HL]; rfl]
  rintro e w1 ⟨rfl, i1, m1⟩
  change InAt w1 (A + 1) s 0 7 at i1
  replace D := hide ((unhide D).goes m1 i1)
  have c0 := (unhide D).cell 0 rfl
  have g0 := (unhide D).row.free 0 (show 0 < 22 by decide)
  replace D := hide (show DSt W (w1.setCell ⟨A + 2, 0, none⟩ (.int .u8 0)) (A + 1) (A + 2) A (msgCells MsgV.zero none 0 none 0) s 0 7 from (unhide D).put 0 (show 0 < 22 by decide) (.int .u8 0))
  have f0 := (unhide D).inn.fault
  clear i1 m1
  go_upto_region 5 with fail
  generalize w1.setCell ⟨A + 2, 0, none⟩ (.int .u8 0) = w2 at *
  let St : World → Prop := fun v => DSt W v (A + 1) (A + 2) A (msgCells MsgV.zero none 0 none 0) s 0 7
  have st : St w2.drew := (unhide D).drew
  have ne : Nonempty (SW St) := ⟨⟨_, st⟩⟩
  have fs : ∀ p : SW St, p.w.cell? ⟨A + 1, 2, none⟩ = some (.int .i64 7) := fun p => p.ok.inn.fault
  refine wp_region_sw (St := St) (by kernel_rfl) (by kernel_rfl) st ?_
  go_big_quiet_step (fail)
  go_big_quiet_step (fail)
  go_big_quiet_step (fail)
  go_big_quiet_step (fail)
  go_big_quiet_step (fail)
  refine wpQuiet_store_same rfl 29 (.tmp 2) (.tmp 17) rfl A 0 (msgCells MsgV.zero none 0 none 0).toArray rfl rfl (fun v ⟨p, hp⟩ => by rw [hp]; exact p.ok.res.there) (fun v ⟨p, hp⟩ => by rw [hp]; exact p.ok.res.range) (by kernel_rfl) (cells_one MsgV.zero none none 0 0) ?_
  go_simp
  go_big_quiet_step (fail)
  refine wpQuiet_nil ?_
  rintro ⟨w9, st9⟩
  dsimp only
  have S9 := hide (show DSt W w9 (A + 1) (A + 2) A (msgCells MsgV.zero none 0 none 0) s 0 7 from st9)
  clear st9
  go_wp2_with fail
  refine bodyPost_ret (v := .tuple #[.agg (msgCells MsgV.zero none 0 none 0).toArray, .int .i64 7]) ?_ rfl ?_
  · exact results_cell_tmp Tryd.results14 _ w9 A _ _ rfl (unhide S9).res.range Tryd.underlying29 rfl (by kernel_rfl)
  · exact rpost_zero ((unhide HM).trans (unhide S9).moved fun i hi => .inr (by have := unhide HA; omega)) (by rw [unhide HL]; rfl)
theorem read_none {c : UInt8} {t : List UInt8} (hk : ¬ (1 ≤ c.toNat ∧ c.toNat ≤ 14)) : readMsg (c :: t) = (MsgV.zero, 10) := by
  show (if _ then _ else _) = _
  rw [if_pos (by omega)]
set_option maxHeartbeats 4000000 in
set_option maxRecDepth 100000 in
theorem refread_none (s : ByteArray) (c : UInt8) (t : List UInt8) (hs : s.size ≤ 1099511627776) (w : World) (hl : s.data.toList = c :: t) (hk : ¬ (1 ≤ c.toNat ∧ c.toNat ≤ 14)) : Calls Tryd.prog 14 #[.string s] w (RPost s w) := by
  obtain ⟨A, hA⟩ : ∃ A, A = w.heap.size := ⟨_, rfl⟩
  obtain ⟨W, hW⟩ : ∃ W, W = ((w.alloc (.cells (msgCells MsgV.zero none 0 none 0).toArray 29)).alloc (.cells #[.string s, .int .i64 0, .int .i64 0] 79)).alloc (.cells (msgCells MsgV.zero none 0 none 0).toArray 29) := ⟨_, rfl⟩
  obtain ⟨d0, mw⟩ := dst_laid hs hA hW
  have D := hide d0
  have HW := hide hW
  have HA := hide hA
  have HM := hide mw
  have HL := hide hl
  have HR := hide (read_none (t := t) hk)
  obtain ⟨K, hK⟩ : ∃ K, K = c.toNat := ⟨_, rfl⟩
  have hk' : (K : Int) < 1 ∨ (14 : Int) < (K : Int) := by omega
  have HK := hide hK
  clear d0 mw hW hA hl hs hk hK
  go_enter Tryd.func14, Tryd.ntmps14
  go_wp2_with fail
  rw [← unhide HA]
  change Calls Tryd.prog 39 _ (((w.alloc (.cells (msgCells MsgV.zero none 0 none 0).toArray 29)).alloc (.cells #[.string s, .int .i64 0, .int .i64 0] 79)).alloc (.cells (msgCells MsgV.zero none 0 none 0).toArray 29)) _
  rw [← unhide HW]
  refine (Rf.refin_byte (unhide D).inn).mono ?_
  rw [show outByte s 0 0 = (c, 1, 0) by unfold outByte; rw [if_pos rfl, List.drop_zero, unhide HL]; rfl]
  rintro e w1 ⟨rfl, i1, m1⟩
  change InAt w1 (A + 1) s 1 0 at i1
  dsimp only
  rw [← unhide HK]
  replace D := hide ((unhide D).goes m1 i1)
  have c0 := (unhide D).cell 0 rfl
  have g0 := (unhide D).row.free 0 (show 0 < 22 by decide)
  replace D := hide ((unhide D).put 0 (show 0 < 22 by decide) (.int .u8 ((K : Nat) : Int)))
  have f0 : (w1.setCell ⟨A + 2, 0, none⟩ (.int .u8 ((K : Nat) : Int))).cell? ⟨A + 1, 2, none⟩ = some (.int .i64 0) := (unhide D).inn.fault
  clear i1 m1
  go_upto_region 6 with fail
  generalize w1.setCell ⟨A + 2, 0, none⟩ (.int .u8 ((K : Nat) : Int)) = v0 at *
  have k0 : v0.cell? ⟨A + 2, 0, none⟩ = some (.int .u8 ((K : Nat) : Int)) := (unhide D).cell 0 rfl
  have HT := hide (unhide D).res.there
  have HRG := hide (unhide D).res.range
  clear c0 g0 w1 f0
  rcases hk' with hk' | hk'
  all_goals
    (try have hk2 : ¬ ((K : Int) < 1) := by omega)
    go_wp2_with (refine wpList_store_mid rfl 29 (.tmp 2) (.tmp 30) rfl A 0 (msgCells MsgV.zero none 0 none 0).toArray rfl rfl (unhide HT) (by kernel_rfl) (cells_one MsgV.zero none none 0 0) ?_; change wpList _ _ _ _ _ (World.setCells _ A 0 (msgCells MsgV.zero none 0 none 0)); rw [setCells_self _ (unhide HRG)])
    refine bodyPost_ret (v := .tuple #[.agg (msgCells MsgV.zero none 0 none 0).toArray, .int .i64 10]) ?_ rfl ?_
    · exact results_cell_tmp Tryd.results14 _ v0 A _ _ rfl (unhide HRG) Tryd.underlying29 rfl (by kernel_rfl)
    · exact rpost_zero ((unhide HM).trans (unhide D).moved fun i hi => .inr (by have := unhide HA; omega)) (by rw [unhide HL]; exact unhide HR)
end Go.Proofs.YtkbmbcmcnpeabaaDoor

/- What the program's Out answers: Byte, Num, Int and Text write behind what was written the bytes that the chapter says; String is what was written; a nil Out does nothing. Condition: no more than 2^40 bytes are written. -/
import Derived.Test.YtkbmbcmcnpeabaaDoorMem
namespace Go.Proofs.YtkbmbcmcnpeabaaDoor
open Pk Go.RowKit

theorem byte_nil (b : Int) (w : World) : Calls Tryd.prog 50 #[.pointer none, .int .u8 b] w fun e w' => e = .returned (.tuple #[]) ∧ w' = w := by
  go_enter Tryd.func50, Tryd.ntmps50
  go_wp2
  go_end0
  exact ⟨rfl, rfl⟩

theorem byte_any {w : World} {p : Nat} {a : Option Addr} {c : Nat} {l : List UInt8} (h : OutAt w p a c l) (b : UInt8) (hb : l.length + 1 ≤ 1099511627776) :
    Calls Tryd.prog 50 #[.pointer (some ⟨p, 0, none⟩), .int .u8 (b.toNat : Int)] w fun e w' => e = .returned (.tuple #[]) ∧ Wrote w w' p a (l ++ [b]) := by
  obtain ⟨a', c', w1, hr, h1, h2, h3⟩ := app_byte h b hb
  have hc := h.cell
  rw [List.length_append] at h3
  have H3 := hide h3
  clear h3
  go_enter Tryd.func50, Tryd.ntmps50
  go_wp2_with (at_builtin; refine wpList_app rfl _ _ 48 48 rfl rfl rfl hr ?_)
  go_end0
  exact ⟨rfl, unhide H3⟩

theorem or128 (m : Nat) : bits .or .u8 ((m : Int) % 256) 128 = (((UInt8.ofNat (m % 128 + 128)).toNat : Nat) : Int) := by
  have key : ∀ k : Fin 256, bits .or .u8 ((k.val : Nat) : Int) 128 = (((UInt8.ofNat (k.val % 128 + 128)).toNat : Nat) : Int) := by decide +kernel
  have := key ⟨m % 256, Nat.mod_lt _ (by decide)⟩
  simp only at this
  rw [show m % 256 % 128 = m % 128 by omega] at this
  rw [← this]
  congr 1

theorem num_nil_out (n : Nat) (w : World) : Calls Tryd.prog 101 #[.pointer none, .int .u64 (n : Int)] w fun e w' => e = .returned (.tuple #[]) ∧ w' = w := by
  go_enter Tryd.func101, Tryd.ntmps101
  go_wp2
  go_loopw [1] (fun v wr => ∃ m : Nat, v = .int .u64 (m : Int) ∧ wr = w) (fun v _ => (intOf v).toNat)
  case atStart => exact ⟨n, rfl, rfl⟩
  case round =>
    obtain ⟨m, rfl, rfl⟩ := hrel
    by_cases hm : (128 : Int) ≤ (m : Int)
    · go_wp2_with fail
      refine (byte_nil _ _).mono ?_
      rintro e w' ⟨rfl, rfl⟩
      go_wp2_with fail
      go_roundw
      case rel => exact ⟨m / 128, by simp, trivial⟩
      case measure => simp [intOf]; omega
    · go_wp2_with fail
      refine (byte_nil _ _).mono ?_
      rintro e w' ⟨rfl, rfl⟩
      go_wp2_with fail
      go_end0
      exact ⟨rfl, rfl⟩

theorem num_any {w : World} {p : Nat} {a : Option Addr} {c : Nat} {l : List UInt8} (h : OutAt w p a c l) (n : Nat) (hn : n < 2 ^ 64) (hb : l.length + 10 ≤ 1099511627776) :
    Calls Tryd.prog 101 #[.pointer (some ⟨p, 0, none⟩), .int .u64 (n : Int)] w fun e w' => e = .returned (.tuple #[]) ∧ Wrote w w' p a (l ++ numBytes n) := by
  have hlen := numBytes_length n hn
  have H := hide h
  have Hn := hide hn
  clear h hn
  go_enter Tryd.func101, Tryd.ntmps101
  go_wp2
  go_loopw [1] (fun v wr => ∃ m : Nat, v = .int .u64 (m : Int) ∧ ∃ pre, numBytes n = pre ++ numBytes m ∧ Wrote w wr p a (l ++ pre)) (fun v _ => (intOf v).toNat)
  case atStart => exact ⟨n, rfl, [], rfl, by rw [List.append_nil]; exact Wrote.start (unhide H)⟩
  case round =>
    obtain ⟨m, rfl, pre, hpre, a1, c1, ho, hf, hmv⟩ := hrel
    have hl2 : pre.length + (numBytes m).length ≤ 10 := by rw [hpre, List.length_append] at hlen; exact hlen
    have hpos := numBytes_pos m
    have Hpre := hide hpre
    have Hf := hide hf
    have Hm := hide hmv
    have Ho := hide ho
    clear hpre hf hmv ho hlen
    by_cases hm : (128 : Int) ≤ (m : Int)
    · have hor := or128 m
      have hstep : numBytes m = UInt8.ofNat (m % 128 + 128) :: numBytes (m / 128) := by rw [numBytes, if_neg (by omega)]
      have Hstep := hide hstep
      clear hstep
      generalize UInt8.ofNat (m % 128 + 128) = b at *
      go_wp2_with fail
      refine (byte_any (unhide Ho) b (by rw [List.length_append]; omega)).mono ?_
      rintro e w' ⟨rfl, hw⟩
      have Hw := hide hw
      clear hw
      go_wp2_with fail
      go_roundw
      case rel =>
        refine ⟨m / 128, by simp, pre ++ [b], ?_, ?_⟩
        · rw [unhide Hpre, unhide Hstep]; simp
        · rw [← List.append_assoc]; exact Wrote.trans (unhide Hf) (unhide Hm) (unhide Hw)
      case measure => simp [intOf]; omega
    · obtain ⟨b, hbm⟩ : ∃ b : UInt8, b.toNat = m := ⟨UInt8.ofNat m, toNat_ofNat_lt (by omega)⟩
      subst hbm
      have hstep : numBytes b.toNat = [b] := by rw [numBytes, if_pos (by omega)]; simp
      have Hstep := hide hstep
      clear hstep
      go_wp2_with fail
      refine (byte_any (unhide Ho) b (by rw [List.length_append]; omega)).mono ?_
      rintro e w' ⟨rfl, hw⟩
      have Hw := hide hw
      clear hw
      go_wp2_with fail
      go_end0
      refine ⟨rfl, ?_⟩
      rw [unhide Hpre, unhide Hstep, ← List.append_assoc]
      exact Wrote.trans (unhide Hf) (unhide Hm) (unhide Hw)

theorem ret_u64 {a b : Int} (h : a = b) : Ending.returned (.int .u64 a) = .returned (.int .u64 b) := by rw [h]
theorem folded_any (i : Int) (hi : -9223372036854775808 ≤ i ∧ i ≤ 9223372036854775807) (w : World) :
    Calls Tryd.prog 102 #[.int .i64 i] w fun e w' => e = .returned (.int .u64 ((zig i : Nat) : Int)) ∧ w' = w := by
  have hz : ((zig i : Nat) : Int) = if i < 0 then -(i + 1) * 2 + 1 else i * 2 := by unfold zig; split <;> omega
  generalize ((zig i : Nat) : Int) = z at *
  by_cases h : i < 0
  · rw [if_pos h] at hz
    subst hz
    go_enter Tryd.func102, Tryd.ntmps102
    go_wp2
    go_ret
    refine ⟨ret_u64 ?_, rfl⟩
    first | omega | (simp [wrap64]; omega)
  · rw [if_neg h] at hz
    subst hz
    go_enter Tryd.func102, Tryd.ntmps102
    go_wp2
    go_ret
    refine ⟨ret_u64 ?_, rfl⟩
    first | omega | (simp [wrap64]; omega)

theorem int_nil (i : Int) (hi : -9223372036854775808 ≤ i ∧ i ≤ 9223372036854775807) (w : World) : Calls Tryd.prog 99 #[.pointer none, .int .i64 i] w fun e w' => e = .returned (.tuple #[]) ∧ w' = w := by
  go_enter Tryd.func99, Tryd.ntmps99
  go_wp2_with fail
  refine (folded_any i hi _).mono ?_
  rintro e w' ⟨rfl, rfl⟩
  go_wp2_with fail
  refine (num_nil_out _ _).mono ?_
  rintro e w' ⟨rfl, rfl⟩
  go_wp2_with fail
  go_end0
  exact ⟨rfl, rfl⟩
theorem int_any {w : World} {p : Nat} {a : Option Addr} {c : Nat} {l : List UInt8} (h : OutAt w p a c l) (i : Int) (hi : -9223372036854775808 ≤ i ∧ i ≤ 9223372036854775807) (hb : l.length + 10 ≤ 1099511627776) :
    Calls Tryd.prog 99 #[.pointer (some ⟨p, 0, none⟩), .int .i64 i] w fun e w' => e = .returned (.tuple #[]) ∧ Wrote w w' p a (l ++ numBytes (zig i)) := by
  have H := hide h
  clear h
  go_enter Tryd.func99, Tryd.ntmps99
  go_wp2_with fail
  refine (folded_any i hi _).mono ?_
  rintro e w' ⟨rfl, rfl⟩
  go_wp2_with fail
  refine (num_any (unhide H) _ (zig_lt i hi) hb).mono ?_
  rintro e w' ⟨rfl, hw⟩
  have Hw := hide hw
  clear hw
  go_wp2_with fail
  go_end0
  exact ⟨rfl, unhide Hw⟩

theorem text_nil (s : ByteArray) (hs : s.size ≤ maxLen) (w : World) : Calls Tryd.prog 100 #[.pointer none, .string s] w fun e w' => e = .returned (.tuple #[]) ∧ w' = w := by
  unfold maxLen at hs
  go_enter Tryd.func100, Tryd.ntmps100
  go_wp2_with fail
  refine (num_nil_out s.size _).mono ?_
  rintro e w' ⟨rfl, rfl⟩
  go_wp2_with fail
  go_end0
  exact ⟨rfl, rfl⟩
theorem text_any {w : World} {p : Nat} {a : Option Addr} {c : Nat} {l : List UInt8} (h : OutAt w p a c l) (s : ByteArray) (hb : l.length + 10 + s.size ≤ 1099511627776) :
    Calls Tryd.prog 100 #[.pointer (some ⟨p, 0, none⟩), .string s] w fun e w' => e = .returned (.tuple #[]) ∧ Wrote w w' p a (l ++ textBytes s.data.toList) := by
  have H := hide h
  clear h
  have hlen : (numBytes s.size).length ≤ 10 := numBytes_length s.size (by omega)
  go_enter Tryd.func100, Tryd.ntmps100
  go_wp2_with fail
  refine (num_any (unhide H) s.size (by omega) (by omega)).mono ?_
  rintro e w' ⟨rfl, a1, c1, ho, hf, hm⟩
  obtain ⟨a2, c2, w2, hr, h1, h2, h3⟩ := app_text ho s (by rw [List.length_append]; omega)
  have hc := ho.cell
  simp only [List.length_append, Array.length_toList] at h3 hr h1 hc
  have H3 := hide h3
  have Hf := hide hf
  have Hm := hide hm
  clear h3 hf hm ho
  have hsz : s.data.size = s.size := rfl
  rw [hsz] at hr H3
  generalize (numBytes s.size).length = k at *
  go_wp2_with (at_builtin; refine wpList_app rfl _ _ 48 9 rfl rfl rfl hr ?_)
  go_end0
  refine ⟨rfl, ?_⟩
  have := Wrote.trans (unhide Hf) (unhide Hm) (unhide H3)
  unfold textBytes
  rw [← List.append_assoc, Array.length_toList]
  exact this

theorem string_nil (w : World) : Calls Tryd.prog 24 #[.pointer none] w fun e w' => e = .returned (.string ⟨#[]⟩) ∧ w' = w := by
  go_enter Tryd.func24, Tryd.ntmps24
  go_wp2
  go_ret
  exact ⟨rfl, rfl⟩
theorem string_any {w : World} {p : Nat} {a : Option Addr} {c : Nat} {l : List UInt8} (h : OutAt w p a c l) :
    Calls Tryd.prog 24 #[.pointer (some ⟨p, 0, none⟩)] w fun e w' => e = .returned (.string ⟨l.toArray⟩) ∧ w' = w := by
  have hc := h.cell
  have ht := out_text h
  go_enter Tryd.func24, Tryd.ntmps24
  go_wp2
  go_ret
  exact ⟨rfl, rfl⟩
end Go.Proofs.YtkbmbcmcnpeabaaDoor

/- What write and bytes of the statements do with a part: its bytes, as the chapter says. Condition: no more than 2^40 bytes are written. -/
import Derived.Test.YthjoojbdjinonaaRef
import Derived.Test.YthjoojbdjinonaaApartWalk
namespace Go.Proofs.Ythjoojbdjinonaa
open Pk Go.RowKit

theorem reftext_any (s : ByteArray) (hs : s.size ≤ 1099511627776) (w : World) :
    Calls Try.prog 40 #[.string s] w fun e w' => e = .returned (.string ⟨(textBytes s.data.toList).toArray⟩) ∧ Below w.heap.size w w' := by
  have hlen := numBytes_length s.size (by omega)
  have hsum : ¬ (9223372036854775807 < (numBytes s.size).length + s.size) := by omega
  go_enter Try.func40, Try.ntmps40
  go_wp2_with fail
  refine (refnum_any s.size _ (by omega)).mono ?_
  rintro e w' ⟨rfl, hb⟩
  have Hb := hide hb
  clear hb
  go_wp2_with fail
  go_ret
  refine ⟨congrArg (fun x => Ending.returned (.string x)) (bytes_ext ?_), unhide Hb⟩
  unfold textBytes
  simp [ByteArray.data_append]

def PartV.val (p : PartV) : Value := .agg #[.int .i64 p.kind, .int .u64 (p.n : Int), .int .i64 p.i, .string p.s, .int .u8 ((p.b.toNat : Nat) : Int), .int .i64 p.most]
/-- A part's bytes. -/
def partBytes (p : PartV) : List UInt8 :=
  if p.kind = 0 then numBytes p.n else if p.kind = 1 then numBytes (zig p.i) else if p.kind = 2 then textBytes p.s.data.toList else if p.kind = 3 then [p.b] else []
theorem partBytes_le (p : PartV) (ok : p.Ok) (hs : p.s.size ≤ 60000) : (partBytes p).length ≤ 10 + p.s.size := by
  unfold partBytes
  have h1 := numBytes_length p.n ok.n
  have h2 := numBytes_length (zig p.i) (zig_lt p.i ok.i)
  have h3 := numBytes_length p.s.size (by omega)
  have h4 : p.s.data.toList.length = p.s.size := by simp
  split
  · omega
  · split
    · omega
    · split
      · unfold textBytes; rw [List.length_append, h4]; omega
      · split
        · simp only [List.length_cons, List.length_nil]; omega
        · simp

set_option maxRecDepth 100000 in
theorem bytes_any (p : PartV) (ok : p.Ok) (hs : p.s.size ≤ 1099511627776) (w : World) :
    Calls Try.prog 23 #[p.val] w fun e w' => e = .returned (.string ⟨(partBytes p).toArray⟩) ∧ Below w.heap.size w w' := by
  obtain ⟨k, n, i, s, b, most⟩ := p
  unfold PartV.val
  by_cases h0 : k = 0
  · have d0 : (k == (0 : Int)) = true := by simp [h0]
    have hp : partBytes ⟨k, n, i, s, b, most⟩ = numBytes n := by unfold partBytes; rw [if_pos h0]
    rw [hp]
    clear hp
    clear h0
    go_enter Try.func23, Try.ntmps23
    go_wp2_with fail
    refine (refnum_any n _ ok.n).mono ?_
    rintro e w' ⟨rfl, hb⟩
    have Hb := hide hb
    clear hb
    go_wp2_with fail
    go_ret
    exact ⟨rfl, ((Below.refl w.heap.size w).alloc (Nat.le_refl _) _).trans ((unhide Hb).mono (by simp))⟩
  · skip
    by_cases h1 : k = 1
    · have d1 : (k == (1 : Int)) = true := by simp [h1]
      have d0 : (k == (0 : Int)) = false := by simp [h0]
      have hp : partBytes ⟨k, n, i, s, b, most⟩ = numBytes (zig i) := by unfold partBytes; rw [if_neg h0, if_pos h1]
      rw [hp]
      clear hp
      clear h0 h1
      go_enter Try.func23, Try.ntmps23
      go_wp2_with fail
      refine (zig_any i ok.i _).mono ?_
      rintro e w' ⟨rfl, rfl⟩
      go_wp2_with fail
      refine (refnum_any _ _ (zig_lt i ok.i)).mono ?_
      rintro e w' ⟨rfl, hb⟩
      have Hb := hide hb
      clear hb
      go_wp2_with fail
      go_ret
      exact ⟨rfl, ((Below.refl w.heap.size w).alloc (Nat.le_refl _) _).trans ((unhide Hb).mono (by simp))⟩
    · skip
      by_cases h2 : k = 2
      · have d2 : (k == (2 : Int)) = true := by simp [h2]
        have d0 : (k == (0 : Int)) = false := by simp [h0]
        have d1 : (k == (1 : Int)) = false := by simp [h1]
        have hp : partBytes ⟨k, n, i, s, b, most⟩ = textBytes s.data.toList := by unfold partBytes; rw [if_neg h0, if_neg h1, if_pos h2]
        rw [hp]
        clear hp
        clear h0 h1 h2
        go_enter Try.func23, Try.ntmps23
        go_wp2_with fail
        refine (reftext_any s hs _).mono ?_
        rintro e w' ⟨rfl, hb⟩
        have Hb := hide hb
        clear hb
        go_wp2_with fail
        go_ret
        exact ⟨rfl, ((Below.refl w.heap.size w).alloc (Nat.le_refl _) _).trans ((unhide Hb).mono (by simp))⟩
      · skip
        by_cases h3 : k = 3
        · have d3 : (k == (3 : Int)) = true := by simp [h3]
          have d0 : (k == (0 : Int)) = false := by simp [h0]
          have d1 : (k == (1 : Int)) = false := by simp [h1]
          have d2 : (k == (2 : Int)) = false := by simp [h2]
          have hp : partBytes ⟨k, n, i, s, b, most⟩ = [b] := by unfold partBytes; rw [if_neg h0, if_neg h1, if_neg h2, if_pos h3]
          rw [hp]
          clear hp
          have hcv := conv_one (w.alloc (.cells #[.int .i64 k, .int .u64 (n : Int), .int .i64 i, .string s, .int .u8 ((b.toNat : Nat) : Int), .int .i64 most] 47)).heap.size b ((w.alloc (.cells #[.int .i64 k, .int .u64 (n : Int), .int .i64 i, .string s, .int .u8 ((b.toNat : Nat) : Int), .int .i64 most] 47)).alloc (.cells #[.int .u8 (b.toNat : Int)] 5)) (by simp)
          simp only [World.size_alloc] at hcv
          clear h0 h1 h2 h3
          go_enter Try.func23, Try.ntmps23
          go_wp2_with fail
          go_ret
          exact ⟨rfl, ((Below.refl w.heap.size w).alloc (Nat.le_refl _) _).alloc (by simp) _⟩
        · skip
          have d0 : (k == (0 : Int)) = false := by simp [h0]
          have d1 : (k == (1 : Int)) = false := by simp [h1]
          have d2 : (k == (2 : Int)) = false := by simp [h2]
          have d3 : (k == (3 : Int)) = false := by simp [h3]
          have hp : partBytes ⟨k, n, i, s, b, most⟩ = [] := by unfold partBytes; rw [if_neg h0, if_neg h1, if_neg h2, if_neg h3]
          rw [hp]
          clear hp
          clear h0 h1 h2 h3
          go_enter Try.func23, Try.ntmps23
          go_wp2_with fail
          go_ret
          exact ⟨rfl, (Below.refl w.heap.size w).alloc (Nat.le_refl _) _⟩

set_option maxRecDepth 100000 in
theorem write_nil (p : PartV) (ok : p.Ok) (w : World) :
    Calls Try.prog 22 #[.pointer none, p.val] w fun e w' => e = .returned (.tuple #[]) ∧ Below w.heap.size w w' := by
  obtain ⟨k, n, i, s, b, most⟩ := p
  unfold PartV.val
  by_cases h0 : k = 0
  · have d0 : (k == (0 : Int)) = true := by simp [h0]
    clear h0
    go_enter Try.func22, Try.ntmps22
    go_wp2_with fail
    refine (num_nil_out _ _).mono ?_
    rintro e w' ⟨rfl, rfl⟩
    go_wp2_with fail
    go_end0
    exact ⟨rfl, (Below.refl w.heap.size w).alloc (Nat.le_refl _) _⟩
  · skip
    by_cases h1 : k = 1
    · have d1 : (k == (1 : Int)) = true := by simp [h1]
      have d0 : (k == (0 : Int)) = false := by simp [h0]
      clear h0 h1
      go_enter Try.func22, Try.ntmps22
      go_wp2_with fail
      refine (int_nil i ok.i _).mono ?_
      rintro e w' ⟨rfl, rfl⟩
      go_wp2_with fail
      go_end0
      exact ⟨rfl, (Below.refl w.heap.size w).alloc (Nat.le_refl _) _⟩
    · skip
      by_cases h2 : k = 2
      · have d2 : (k == (2 : Int)) = true := by simp [h2]
        have d0 : (k == (0 : Int)) = false := by simp [h0]
        have d1 : (k == (1 : Int)) = false := by simp [h1]
        clear h0 h1 h2
        go_enter Try.func22, Try.ntmps22
        go_wp2_with fail
        refine (text_nil s ok.s _).mono ?_
        rintro e w' ⟨rfl, rfl⟩
        go_wp2_with fail
        go_end0
        exact ⟨rfl, (Below.refl w.heap.size w).alloc (Nat.le_refl _) _⟩
      · skip
        by_cases h3 : k = 3
        · have d3 : (k == (3 : Int)) = true := by simp [h3]
          have d0 : (k == (0 : Int)) = false := by simp [h0]
          have d1 : (k == (1 : Int)) = false := by simp [h1]
          have d2 : (k == (2 : Int)) = false := by simp [h2]
          clear h0 h1 h2 h3
          go_enter Try.func22, Try.ntmps22
          go_wp2_with fail
          refine (byte_nil _ _).mono ?_
          rintro e w' ⟨rfl, rfl⟩
          go_wp2_with fail
          go_end0
          exact ⟨rfl, (Below.refl w.heap.size w).alloc (Nat.le_refl _) _⟩
        · skip
          have d0 : (k == (0 : Int)) = false := by simp [h0]
          have d1 : (k == (1 : Int)) = false := by simp [h1]
          have d2 : (k == (2 : Int)) = false := by simp [h2]
          have d3 : (k == (3 : Int)) = false := by simp [h3]
          clear h0 h1 h2 h3
          go_enter Try.func22, Try.ntmps22
          go_wp2_with fail
          go_end0
          exact ⟨rfl, (Below.refl w.heap.size w).alloc (Nat.le_refl _) _⟩

set_option maxRecDepth 100000 in
theorem write_any (p : PartV) (ok : p.Ok) {w : World} {q : Nat} {a : Option Addr} {c : Nat} {l : List UInt8} (h : OutAt w q a c l) (hb : l.length + 10 + p.s.size ≤ 1099511627776) :
    Calls Try.prog 22 #[.pointer (some ⟨q, 0, none⟩), p.val] w fun e w' => e = .returned (.tuple #[]) ∧ Wrote w w' q a (l ++ partBytes p) := by
  have H := hide (out_alloc h (.cells #[.int .i64 p.kind, .int .u64 (p.n : Int), .int .i64 p.i, .string p.s, .int .u8 ((p.b.toNat : Nat) : Int), .int .i64 p.most] 47))
  clear h
  obtain ⟨k, n, i, s, b, most⟩ := p
  unfold PartV.val
  by_cases h0 : k = 0
  · have d0 : (k == (0 : Int)) = true := by simp [h0]
    have hp : partBytes ⟨k, n, i, s, b, most⟩ = numBytes n := by unfold partBytes; rw [if_pos h0]
    rw [hp]
    clear hp
    clear h0
    go_enter Try.func22, Try.ntmps22
    go_wp2_with fail
    refine (num_any (unhide H) n ok.n (by omega)).mono ?_
    rintro e w' ⟨rfl, hw⟩
    have Hw := hide hw
    clear hw
    go_wp2_with fail
    go_end0
    exact ⟨rfl, Wrote.trans (Fresh.refl _ _) ((Moved.refl _ _).alloc _) (unhide Hw)⟩
  · skip
    by_cases h1 : k = 1
    · have d1 : (k == (1 : Int)) = true := by simp [h1]
      have d0 : (k == (0 : Int)) = false := by simp [h0]
      have hp : partBytes ⟨k, n, i, s, b, most⟩ = numBytes (zig i) := by unfold partBytes; rw [if_neg h0, if_pos h1]
      rw [hp]
      clear hp
      clear h0 h1
      go_enter Try.func22, Try.ntmps22
      go_wp2_with fail
      refine (int_any (unhide H) i ok.i (by omega)).mono ?_
      rintro e w' ⟨rfl, hw⟩
      have Hw := hide hw
      clear hw
      go_wp2_with fail
      go_end0
      exact ⟨rfl, Wrote.trans (Fresh.refl _ _) ((Moved.refl _ _).alloc _) (unhide Hw)⟩
    · skip
      by_cases h2 : k = 2
      · have d2 : (k == (2 : Int)) = true := by simp [h2]
        have d0 : (k == (0 : Int)) = false := by simp [h0]
        have d1 : (k == (1 : Int)) = false := by simp [h1]
        have hp : partBytes ⟨k, n, i, s, b, most⟩ = textBytes s.data.toList := by unfold partBytes; rw [if_neg h0, if_neg h1, if_pos h2]
        rw [hp]
        clear hp
        clear h0 h1 h2
        go_enter Try.func22, Try.ntmps22
        go_wp2_with fail
        refine (text_any (unhide H) s hb).mono ?_
        rintro e w' ⟨rfl, hw⟩
        have Hw := hide hw
        clear hw
        go_wp2_with fail
        go_end0
        exact ⟨rfl, Wrote.trans (Fresh.refl _ _) ((Moved.refl _ _).alloc _) (unhide Hw)⟩
      · skip
        by_cases h3 : k = 3
        · have d3 : (k == (3 : Int)) = true := by simp [h3]
          have d0 : (k == (0 : Int)) = false := by simp [h0]
          have d1 : (k == (1 : Int)) = false := by simp [h1]
          have d2 : (k == (2 : Int)) = false := by simp [h2]
          have hp : partBytes ⟨k, n, i, s, b, most⟩ = [b] := by unfold partBytes; rw [if_neg h0, if_neg h1, if_neg h2, if_pos h3]
          rw [hp]
          clear hp
          clear h0 h1 h2 h3
          go_enter Try.func22, Try.ntmps22
          go_wp2_with fail
          refine (byte_any (unhide H) b (by omega)).mono ?_
          rintro e w' ⟨rfl, hw⟩
          have Hw := hide hw
          clear hw
          go_wp2_with fail
          go_end0
          exact ⟨rfl, Wrote.trans (Fresh.refl _ _) ((Moved.refl _ _).alloc _) (unhide Hw)⟩
        · skip
          have d0 : (k == (0 : Int)) = false := by simp [h0]
          have d1 : (k == (1 : Int)) = false := by simp [h1]
          have d2 : (k == (2 : Int)) = false := by simp [h2]
          have d3 : (k == (3 : Int)) = false := by simp [h3]
          have hp : partBytes ⟨k, n, i, s, b, most⟩ = [] := by unfold partBytes; rw [if_neg h0, if_neg h1, if_neg h2, if_neg h3]
          rw [hp]
          clear hp
          clear h0 h1 h2 h3
          go_enter Try.func22, Try.ntmps22
          go_wp2_with fail
          go_end0
          (try rw [List.append_nil])
          exact ⟨rfl, Wrote.trans (Fresh.refl _ _) ((Moved.refl _ _).alloc _) (Wrote.start (unhide H))⟩
end Go.Proofs.Ythjoojbdjinonaa

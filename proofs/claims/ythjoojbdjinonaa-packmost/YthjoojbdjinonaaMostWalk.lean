/- What PackMost does, for any number, bound and text: it answers true, and of what was there nothing has turned. No conditions. -/
import Derived.Test.YthjoojbdjinonaaApartWalk
namespace Go.Proofs.Ythjoojbdjinonaa
open Pk Go.RowKit

/-- The text that is read: a byte, a number's bytes, a text. -/
def mtext (n : Nat) (s : ByteArray) : ByteArray := ⟨#[113]⟩ ++ ⟨(numBytes n).toArray⟩ ++ s
theorem mtext_list (n : Nat) (s : ByteArray) : (mtext n s).data.toList = 113 :: (numBytes n ++ s.data.toList) := by
  unfold mtext
  simp [ByteArray.data_append]
theorem mtext_size (n : Nat) (s : ByteArray) : (mtext n s).size = 1 + (numBytes n).length + s.size := by
  have h1 : (mtext n s).data.toList.length = (mtext n s).size := by simp
  have h2 : s.data.toList.length = s.size := by simp
  rw [← h1, mtext_list, List.length_cons, List.length_append, h2]; omega
theorem mtext_byte (n : Nat) (s : ByteArray) : outByte (mtext n s) 0 0 = (113, 1, 0) := by
  unfold outByte
  rw [if_pos rfl, mtext_list]; rfl
theorem mtext_fits (n : Nat) (hn : n < 2 ^ 64) (s : ByteArray) (most : Int) (h : (n : Int) ≤ most) : outMost most (mtext n s) 1 0 = (n, (numBytes n).length, 0) := by
  unfold outMost numTo
  rw [if_pos rfl, mtext_list, List.drop_succ_cons, List.drop_zero, num_of n _ hn]
  simp only
  rw [if_neg (by simp), if_neg (by omega)]
theorem mtext_not (n : Nat) (hn : n < 2 ^ 64) (s : ByteArray) (most : Int) (h : most < 0 ∨ most < (n : Int)) : outMost most (mtext n s) 1 0 = (0, 0, 8) := by
  unfold outMost numTo
  rw [if_pos rfl, mtext_list, List.drop_succ_cons, List.drop_zero, num_of n _ hn]
  simp only
  rw [if_neg (by simp), if_pos h]
/-- The text that is read back. -/
def ttext (s : ByteArray) : ByteArray := ⟨(textBytes s.data.toList).toArray⟩
theorem ttext_list (s : ByteArray) : (ttext s).data.toList = numBytes s.size ++ s.data.toList := by
  unfold ttext textBytes
  simp
theorem ttext_size (s : ByteArray) : (ttext s).size = (numBytes s.size).length + s.size := by
  have h1 : (ttext s).data.toList.length = (ttext s).size := by simp
  have h2 : s.data.toList.length = s.size := by simp
  rw [← h1, ttext_list, List.length_append, h2]
theorem ttext_fits (s : ByteArray) (hs : s.size ≤ 60000) (most : Int) (h : (s.size : Int) ≤ most) : outText most (ttext s) 0 0 = (s.data.toList, (numBytes s.size).length + s.size, 0) := by
  have h2 : s.data.toList.length = s.size := by simp
  have hnum : numTo most (numBytes s.size ++ s.data.toList) = (s.size, (numBytes s.size).length, 0) := by
    unfold numTo
    rw [num_of _ _ (by omega)]
    simp only
    rw [if_neg (by simp), if_neg (by omega)]
  unfold outText txt
  rw [if_pos rfl, List.drop_zero, ttext_list, hnum]
  simp only
  rw [if_neg (by simp), if_neg (by rw [List.length_append, h2]; omega), List.drop_left, List.take_of_length_le (by omega)]
theorem ttext_not (s : ByteArray) (hs : s.size ≤ 60000) (most : Int) (h : most < 0 ∨ most < (s.size : Int)) : outText most (ttext s) 0 0 = ([], 0, 8) := by
  have hnum : numTo most (numBytes s.size ++ s.data.toList) = (0, 0, 8) := by
    unfold numTo
    rw [num_of _ _ (by omega)]
    simp only
    rw [if_neg (by simp), if_pos h]
  unfold outText txt
  rw [if_pos rfl, List.drop_zero, ttext_list, hnum]
  simp
theorem same_bytes (s : ByteArray) : (⟨s.data.toList.toArray⟩ : ByteArray) = s := bytes_ext rfl

set_option maxRecDepth 100000 in
set_option maxHeartbeats 2000000 in
theorem most_neg (n : Nat) (most : Int) (s : ByteArray) (w : World) (hn : n < 2 ^ 64) (hm : -9223372036854775808 ≤ most ∧ most ≤ 9223372036854775807) (hs : s.size ≤ 60000) (hneg : most < 0) :
    Calls Try.prog 7 #[.int .u64 (n : Int), .int .i64 most, .string s] w fun e w' => e = .returned (.bool true) ∧ Below w.heap.size w w' := by
  have d0 : decide ((60000 : Int) < (s.size : Int)) = false := decide_eq_false (by omega)
  have hln := numBytes_length n hn
  have hls := numBytes_length s.size (by omega)
  have hms := mtext_size n s
  have hts := ttext_size s
  have q0 := hide (mtext_byte n s)
  have d1 : decide ((0 : Int) ≤ most) = false := decide_eq_false (by omega)
  have q1 := hide (mtext_not n hn s most (.inl hneg))
  have q2 := hide (ttext_not s hs most (.inl hneg))
  have l1 : (mtext n s).size ≤ 1099511627776 := by omega
  have l2 : (ttext s).size ≤ 1099511627776 := by omega
  have sm := hide (show (mtext n s).size = 1 + (numBytes n).length + s.size by omega)
  have st := hide (show (ttext s).size = (numBytes s.size).length + s.size by omega)
  clear hms hts
  go_enter Try.func7, Try.ntmps7
  go_wp2_with fail
  refine (awake_any _).mono ?_
  rintro e w1 ⟨rfl, hB⟩
  have B := hide hB
  clear hB
  go_wp2_with fail
  refine (numlaw_any n hn _).mono ?_
  rintro e w2 ⟨rfl, hB⟩
  replace B := hide ((unhide B).trans (hB.mono (unhide B).size))
  clear hB
  go_wp2_with fail
  refine (of_any (mtext n s) l1 _).mono ?_
  rintro e w3 ⟨rfl, i, m⟩
  have hx : w.heap.size ≤ w2.heap.size := (unhide B).size
  replace B := hide ((unhide B).trans (m.below (fun _ h => h.elim) (unhide B).size))
  generalize w2.heap.size = x at *
  have I := hide i
  clear i m
  go_wp2_with fail
  refine (in_byte (unhide I)).mono ?_
  rintro e w4 ⟨rfl, i, m⟩
  rw [unhide q0] at i ⊢
  replace I : Hid (InAt w4 x (mtext n s) 1 0) := hide i
  replace B := hide ((unhide B).trans (m.below (fun i h => by have h' : i = x := h; omega) (unhide B).size))
  clear i m
  go_wp2_with fail
  refine (in_most (unhide I) most hm).mono ?_
  rintro e w5 ⟨rfl, i, m⟩
  rw [unhide q1] at i ⊢
  replace I : Hid (InAt w5 x (mtext n s) 1 8) := hide i
  replace B := hide ((unhide B).trans (m.below (fun i h => by have h' : i = x := h; omega) (unhide B).size))
  clear i m
  go_wp2_with fail
  refine (fault_any (unhide I)).mono ?_
  rintro e w6 ⟨rfl, m⟩
  replace I := hide ((unhide I).keep m id)
  replace B := hide ((unhide B).trans (m.below (fun _ h => h.elim) (unhide B).size))
  clear m
  rw [show (((if (8 : Nat) = 0 then 0 else 1 : Nat)) : Int) = 1 from rfl]
  go_wp2_with fail
  refine (left_any (unhide I)).mono ?_
  rintro e w7 ⟨rfl, m⟩
  replace I := hide ((unhide I).keep m id)
  replace B := hide ((unhide B).trans (m.below (fun _ h => h.elim) (unhide B).size))
  clear m
  rw [show (((mtext n s).size - 1 : Nat) : Int) = (((numBytes n).length : Nat) : Int) + (s.size : Int) by rw [unhide sm]; omega]
  go_wp2_with fail
  refine (numlaw_any n hn _).mono ?_
  rintro e w8 ⟨rfl, hB⟩
  replace I := hide ((unhide I).keep (Moved.of_below (F := fun _ => False) hB) id)
  replace B := hide ((unhide B).trans (hB.mono (unhide B).size))
  clear hB
  have hoz : (ByteArray.mk (numBytes n).toArray).size = (numBytes n).length := out_size _
  have hy := (unhide B).size
  have O := hide (out_new w8)
  have M := hide ((unhide B).trans ((Below.refl w.heap.size w8).alloc hy newOut))
  go_wp2_with fail
  refine (text_any (unhide O) s (by simp only [List.length_nil]; omega)).mono ?_
  rintro e w9 ⟨rfl, a9, c9, o9, f9, m9⟩
  rw [List.nil_append] at o9
  replace M := hide ((unhide M).trans (m9.below (fun y h => by have := foot_none h; omega) (by simp; omega)))
  clear O f9 m9
  have O := hide o9
  have hlt := hide o9.lt
  clear o9
  go_wp2_with fail
  refine (string_any (unhide O)).mono ?_
  rintro e w10 ⟨rfl, rfl⟩
  go_wp2_with fail
  refine (of_any (ttext s) l2 _).mono ?_
  rintro e w11 ⟨rfl, i, m⟩
  have hx2 : w.heap.size ≤ w10.heap.size := (unhide M).size
  replace M := hide ((unhide M).trans (m.below (fun _ h => h.elim) (unhide M).size))
  replace O := hide ((unhide O).keep m (fun _ h => h.elim))
  generalize w10.heap.size = y at *
  have J := hide i
  clear i m
  go_wp2_with fail
  refine (in_text (unhide J) most hm).mono ?_
  rintro e w12 ⟨rfl, i, m⟩
  rw [unhide q2] at i ⊢
  replace J : Hid (InAt w12 y (ttext s) 0 8) := hide i
  replace O := hide ((unhide O).keep m (fun k hk hf => by have := (unhide hlt) k hf; have hk' : k = y := hk; omega))
  replace M := hide ((unhide M).trans (m.below (fun i h => by have h' : i = y := h; omega) (unhide M).size))
  clear i m
  go_wp2_with fail
  refine (end_any (unhide J)).mono ?_
  rintro e w13 ⟨rfl, m⟩
  replace J := hide ((unhide J).keep m id)
  replace O := hide ((unhide O).keep m (fun _ h => h.elim))
  replace M := hide ((unhide M).trans (m.below (fun _ h => h.elim) (unhide M).size))
  clear m
  rw [show endOf (ttext s) 0 8 = 8 from rfl]
  go_wp2_with fail
  refine (left_any (unhide J)).mono ?_
  rintro e w14 ⟨rfl, m⟩
  replace O := hide ((unhide O).keep m (fun _ h => h.elim))
  replace M := hide ((unhide M).trans (m.below (fun _ h => h.elim) (unhide M).size))
  clear m
  rw [Nat.sub_zero]
  go_wp2_with fail
  refine (string_any (unhide O)).mono ?_
  rintro e w15 ⟨rfl, rfl⟩
  rw [show (⟨(textBytes s.data.toList).toArray⟩ : ByteArray) = ttext s from rfl]
  go_wp2_with fail
  go_ret
  exact ⟨rfl, unhide M⟩
set_option maxRecDepth 100000 in
set_option maxHeartbeats 2000000 in
theorem most_ff (n : Nat) (most : Int) (s : ByteArray) (w : World) (hn : n < 2 ^ 64) (hm : -9223372036854775808 ≤ most ∧ most ≤ 9223372036854775807) (hs : s.size ≤ 60000) (h0 : 0 ≤ most) (hnf : (n : Int) ≤ most) (hsf : (s.size : Int) ≤ most) :
    Calls Try.prog 7 #[.int .u64 (n : Int), .int .i64 most, .string s] w fun e w' => e = .returned (.bool true) ∧ Below w.heap.size w w' := by
  have d0 : decide ((60000 : Int) < (s.size : Int)) = false := decide_eq_false (by omega)
  have hln := numBytes_length n hn
  have hls := numBytes_length s.size (by omega)
  have hms := mtext_size n s
  have hts := ttext_size s
  have q0 := hide (mtext_byte n s)
  have d1 : decide ((0 : Int) ≤ most) = true := decide_eq_true h0
  have hw : IntKind.u64.wrap most = most := by rw [wrap_u64]; omega
  have d2 : decide ((n : Int) ≤ most) = true := decide_eq_true (by omega)
  have d3 : decide ((s.size : Int) ≤ most) = true := decide_eq_true (by omega)
  have q1 := hide (mtext_fits n hn s most hnf)
  have q2 := hide (ttext_fits s hs most hsf)
  have hw2 : IntKind.u64.wrap (n : Int) = (n : Int) := by rw [wrap_u64]; omega
  have l1 : (mtext n s).size ≤ 1099511627776 := by omega
  have l2 : (ttext s).size ≤ 1099511627776 := by omega
  have sm := hide (show (mtext n s).size = 1 + (numBytes n).length + s.size by omega)
  have st := hide (show (ttext s).size = (numBytes s.size).length + s.size by omega)
  clear hms hts
  go_enter Try.func7, Try.ntmps7
  go_wp2_with fail
  refine (awake_any _).mono ?_
  rintro e w1 ⟨rfl, hB⟩
  have B := hide hB
  clear hB
  go_wp2_with fail
  refine (numlaw_any n hn _).mono ?_
  rintro e w2 ⟨rfl, hB⟩
  replace B := hide ((unhide B).trans (hB.mono (unhide B).size))
  clear hB
  go_wp2_with fail
  refine (of_any (mtext n s) l1 _).mono ?_
  rintro e w3 ⟨rfl, i, m⟩
  have hx : w.heap.size ≤ w2.heap.size := (unhide B).size
  replace B := hide ((unhide B).trans (m.below (fun _ h => h.elim) (unhide B).size))
  generalize w2.heap.size = x at *
  have I := hide i
  clear i m
  go_wp2_with fail
  refine (in_byte (unhide I)).mono ?_
  rintro e w4 ⟨rfl, i, m⟩
  rw [unhide q0] at i ⊢
  replace I : Hid (InAt w4 x (mtext n s) 1 0) := hide i
  replace B := hide ((unhide B).trans (m.below (fun i h => by have h' : i = x := h; omega) (unhide B).size))
  clear i m
  go_wp2_with fail
  refine (in_most (unhide I) most hm).mono ?_
  rintro e w5 ⟨rfl, i, m⟩
  rw [unhide q1] at i ⊢
  replace I : Hid (InAt w5 x (mtext n s) (1 + (numBytes n).length) 0) := hide i
  replace B := hide ((unhide B).trans (m.below (fun i h => by have h' : i = x := h; omega) (unhide B).size))
  clear i m
  go_wp2_with fail
  refine (fault_any (unhide I)).mono ?_
  rintro e w6 ⟨rfl, m⟩
  replace I := hide ((unhide I).keep m id)
  replace B := hide ((unhide B).trans (m.below (fun _ h => h.elim) (unhide B).size))
  clear m
  rw [show (((if (0 : Nat) = 0 then 0 else 1 + (numBytes n).length : Nat)) : Int) = 0 from rfl]
  go_wp2_with fail
  refine (left_any (unhide I)).mono ?_
  rintro e w7 ⟨rfl, m⟩
  replace I := hide ((unhide I).keep m id)
  replace B := hide ((unhide B).trans (m.below (fun _ h => h.elim) (unhide B).size))
  clear m
  rw [show (((mtext n s).size - (1 + (numBytes n).length) : Nat) : Int) = (s.size : Int) by rw [unhide sm]; omega]
  have hy := (unhide B).size
  have O := hide (out_new w7)
  have M := hide ((unhide B).trans ((Below.refl w.heap.size w7).alloc hy newOut))
  go_wp2_with fail
  refine (text_any (unhide O) s (by simp only [List.length_nil]; omega)).mono ?_
  rintro e w9 ⟨rfl, a9, c9, o9, f9, m9⟩
  rw [List.nil_append] at o9
  replace M := hide ((unhide M).trans (m9.below (fun y h => by have := foot_none h; omega) (by simp; omega)))
  clear O f9 m9
  have O := hide o9
  have hlt := hide o9.lt
  clear o9
  go_wp2_with fail
  refine (string_any (unhide O)).mono ?_
  rintro e w10 ⟨rfl, rfl⟩
  go_wp2_with fail
  refine (of_any (ttext s) l2 _).mono ?_
  rintro e w11 ⟨rfl, i, m⟩
  have hx2 : w.heap.size ≤ w10.heap.size := (unhide M).size
  replace M := hide ((unhide M).trans (m.below (fun _ h => h.elim) (unhide M).size))
  replace O := hide ((unhide O).keep m (fun _ h => h.elim))
  generalize w10.heap.size = y at *
  have J := hide i
  clear i m
  go_wp2_with fail
  refine (in_text (unhide J) most hm).mono ?_
  rintro e w12 ⟨rfl, i, m⟩
  rw [unhide q2] at i ⊢
  replace J : Hid (InAt w12 y (ttext s) (0 + ((numBytes s.size).length + s.size)) 0) := hide i
  rw [show ((s.data.toList, (numBytes s.size).length + s.size, 0) : List UInt8 × Nat × Nat).1 = s.data.toList from rfl, same_bytes]
  replace O := hide ((unhide O).keep m (fun k hk hf => by have := (unhide hlt) k hf; have hk' : k = y := hk; omega))
  replace M := hide ((unhide M).trans (m.below (fun i h => by have h' : i = y := h; omega) (unhide M).size))
  clear i m
  go_wp2_with fail
  refine (end_any (unhide J)).mono ?_
  rintro e w13 ⟨rfl, m⟩
  replace J := hide ((unhide J).keep m id)
  replace O := hide ((unhide O).keep m (fun _ h => h.elim))
  replace M := hide ((unhide M).trans (m.below (fun _ h => h.elim) (unhide M).size))
  clear m
  rw [show endOf (ttext s) (0 + ((numBytes s.size).length + s.size)) 0 = 0 by unfold endOf; rw [if_neg (by simp), if_neg (by rw [unhide st]; omega)]]
  go_wp2_with fail
  go_ret
  exact ⟨rfl, unhide M⟩
set_option maxRecDepth 100000 in
set_option maxHeartbeats 2000000 in
theorem most_fn (n : Nat) (most : Int) (s : ByteArray) (w : World) (hn : n < 2 ^ 64) (hm : -9223372036854775808 ≤ most ∧ most ≤ 9223372036854775807) (hs : s.size ≤ 60000) (h0 : 0 ≤ most) (hnf : (n : Int) ≤ most) (hsf : most < (s.size : Int)) :
    Calls Try.prog 7 #[.int .u64 (n : Int), .int .i64 most, .string s] w fun e w' => e = .returned (.bool true) ∧ Below w.heap.size w w' := by
  have d0 : decide ((60000 : Int) < (s.size : Int)) = false := decide_eq_false (by omega)
  have hln := numBytes_length n hn
  have hls := numBytes_length s.size (by omega)
  have hms := mtext_size n s
  have hts := ttext_size s
  have q0 := hide (mtext_byte n s)
  have d1 : decide ((0 : Int) ≤ most) = true := decide_eq_true h0
  have hw : IntKind.u64.wrap most = most := by rw [wrap_u64]; omega
  have d2 : decide ((n : Int) ≤ most) = true := decide_eq_true (by omega)
  have d3 : decide ((s.size : Int) ≤ most) = false := decide_eq_false (by omega)
  have q1 := hide (mtext_fits n hn s most hnf)
  have q2 := hide (ttext_not s hs most (.inr hsf))
  have hw2 : IntKind.u64.wrap (n : Int) = (n : Int) := by rw [wrap_u64]; omega
  have l1 : (mtext n s).size ≤ 1099511627776 := by omega
  have l2 : (ttext s).size ≤ 1099511627776 := by omega
  have sm := hide (show (mtext n s).size = 1 + (numBytes n).length + s.size by omega)
  have st := hide (show (ttext s).size = (numBytes s.size).length + s.size by omega)
  clear hms hts
  go_enter Try.func7, Try.ntmps7
  go_wp2_with fail
  refine (awake_any _).mono ?_
  rintro e w1 ⟨rfl, hB⟩
  have B := hide hB
  clear hB
  go_wp2_with fail
  refine (numlaw_any n hn _).mono ?_
  rintro e w2 ⟨rfl, hB⟩
  replace B := hide ((unhide B).trans (hB.mono (unhide B).size))
  clear hB
  go_wp2_with fail
  refine (of_any (mtext n s) l1 _).mono ?_
  rintro e w3 ⟨rfl, i, m⟩
  have hx : w.heap.size ≤ w2.heap.size := (unhide B).size
  replace B := hide ((unhide B).trans (m.below (fun _ h => h.elim) (unhide B).size))
  generalize w2.heap.size = x at *
  have I := hide i
  clear i m
  go_wp2_with fail
  refine (in_byte (unhide I)).mono ?_
  rintro e w4 ⟨rfl, i, m⟩
  rw [unhide q0] at i ⊢
  replace I : Hid (InAt w4 x (mtext n s) 1 0) := hide i
  replace B := hide ((unhide B).trans (m.below (fun i h => by have h' : i = x := h; omega) (unhide B).size))
  clear i m
  go_wp2_with fail
  refine (in_most (unhide I) most hm).mono ?_
  rintro e w5 ⟨rfl, i, m⟩
  rw [unhide q1] at i ⊢
  replace I : Hid (InAt w5 x (mtext n s) (1 + (numBytes n).length) 0) := hide i
  replace B := hide ((unhide B).trans (m.below (fun i h => by have h' : i = x := h; omega) (unhide B).size))
  clear i m
  go_wp2_with fail
  refine (fault_any (unhide I)).mono ?_
  rintro e w6 ⟨rfl, m⟩
  replace I := hide ((unhide I).keep m id)
  replace B := hide ((unhide B).trans (m.below (fun _ h => h.elim) (unhide B).size))
  clear m
  rw [show (((if (0 : Nat) = 0 then 0 else 1 + (numBytes n).length : Nat)) : Int) = 0 from rfl]
  go_wp2_with fail
  refine (left_any (unhide I)).mono ?_
  rintro e w7 ⟨rfl, m⟩
  replace I := hide ((unhide I).keep m id)
  replace B := hide ((unhide B).trans (m.below (fun _ h => h.elim) (unhide B).size))
  clear m
  rw [show (((mtext n s).size - (1 + (numBytes n).length) : Nat) : Int) = (s.size : Int) by rw [unhide sm]; omega]
  have hy := (unhide B).size
  have O := hide (out_new w7)
  have M := hide ((unhide B).trans ((Below.refl w.heap.size w7).alloc hy newOut))
  go_wp2_with fail
  refine (text_any (unhide O) s (by simp only [List.length_nil]; omega)).mono ?_
  rintro e w9 ⟨rfl, a9, c9, o9, f9, m9⟩
  rw [List.nil_append] at o9
  replace M := hide ((unhide M).trans (m9.below (fun y h => by have := foot_none h; omega) (by simp; omega)))
  clear O f9 m9
  have O := hide o9
  have hlt := hide o9.lt
  clear o9
  go_wp2_with fail
  refine (string_any (unhide O)).mono ?_
  rintro e w10 ⟨rfl, rfl⟩
  go_wp2_with fail
  refine (of_any (ttext s) l2 _).mono ?_
  rintro e w11 ⟨rfl, i, m⟩
  have hx2 : w.heap.size ≤ w10.heap.size := (unhide M).size
  replace M := hide ((unhide M).trans (m.below (fun _ h => h.elim) (unhide M).size))
  replace O := hide ((unhide O).keep m (fun _ h => h.elim))
  generalize w10.heap.size = y at *
  have J := hide i
  clear i m
  go_wp2_with fail
  refine (in_text (unhide J) most hm).mono ?_
  rintro e w12 ⟨rfl, i, m⟩
  rw [unhide q2] at i ⊢
  replace J : Hid (InAt w12 y (ttext s) 0 8) := hide i
  replace O := hide ((unhide O).keep m (fun k hk hf => by have := (unhide hlt) k hf; have hk' : k = y := hk; omega))
  replace M := hide ((unhide M).trans (m.below (fun i h => by have h' : i = y := h; omega) (unhide M).size))
  clear i m
  go_wp2_with fail
  refine (end_any (unhide J)).mono ?_
  rintro e w13 ⟨rfl, m⟩
  replace J := hide ((unhide J).keep m id)
  replace O := hide ((unhide O).keep m (fun _ h => h.elim))
  replace M := hide ((unhide M).trans (m.below (fun _ h => h.elim) (unhide M).size))
  clear m
  rw [show endOf (ttext s) 0 8 = 8 from rfl]
  go_wp2_with fail
  refine (left_any (unhide J)).mono ?_
  rintro e w14 ⟨rfl, m⟩
  replace O := hide ((unhide O).keep m (fun _ h => h.elim))
  replace M := hide ((unhide M).trans (m.below (fun _ h => h.elim) (unhide M).size))
  clear m
  rw [Nat.sub_zero]
  go_wp2_with fail
  refine (string_any (unhide O)).mono ?_
  rintro e w15 ⟨rfl, rfl⟩
  rw [show (⟨(textBytes s.data.toList).toArray⟩ : ByteArray) = ttext s from rfl]
  go_wp2_with fail
  go_ret
  exact ⟨rfl, unhide M⟩
set_option maxRecDepth 100000 in
set_option maxHeartbeats 2000000 in
theorem most_nf (n : Nat) (most : Int) (s : ByteArray) (w : World) (hn : n < 2 ^ 64) (hm : -9223372036854775808 ≤ most ∧ most ≤ 9223372036854775807) (hs : s.size ≤ 60000) (h0 : 0 ≤ most) (hnf : most < (n : Int)) (hsf : (s.size : Int) ≤ most) :
    Calls Try.prog 7 #[.int .u64 (n : Int), .int .i64 most, .string s] w fun e w' => e = .returned (.bool true) ∧ Below w.heap.size w w' := by
  have d0 : decide ((60000 : Int) < (s.size : Int)) = false := decide_eq_false (by omega)
  have hln := numBytes_length n hn
  have hls := numBytes_length s.size (by omega)
  have hms := mtext_size n s
  have hts := ttext_size s
  have q0 := hide (mtext_byte n s)
  have d1 : decide ((0 : Int) ≤ most) = true := decide_eq_true h0
  have hw : IntKind.u64.wrap most = most := by rw [wrap_u64]; omega
  have d2 : decide ((n : Int) ≤ most) = false := decide_eq_false (by omega)
  have d3 : decide ((s.size : Int) ≤ most) = true := decide_eq_true (by omega)
  have q1 := hide (mtext_not n hn s most (.inr hnf))
  have q2 := hide (ttext_fits s hs most hsf)
  have l1 : (mtext n s).size ≤ 1099511627776 := by omega
  have l2 : (ttext s).size ≤ 1099511627776 := by omega
  have sm := hide (show (mtext n s).size = 1 + (numBytes n).length + s.size by omega)
  have st := hide (show (ttext s).size = (numBytes s.size).length + s.size by omega)
  clear hms hts
  go_enter Try.func7, Try.ntmps7
  go_wp2_with fail
  refine (awake_any _).mono ?_
  rintro e w1 ⟨rfl, hB⟩
  have B := hide hB
  clear hB
  go_wp2_with fail
  refine (numlaw_any n hn _).mono ?_
  rintro e w2 ⟨rfl, hB⟩
  replace B := hide ((unhide B).trans (hB.mono (unhide B).size))
  clear hB
  go_wp2_with fail
  refine (of_any (mtext n s) l1 _).mono ?_
  rintro e w3 ⟨rfl, i, m⟩
  have hx : w.heap.size ≤ w2.heap.size := (unhide B).size
  replace B := hide ((unhide B).trans (m.below (fun _ h => h.elim) (unhide B).size))
  generalize w2.heap.size = x at *
  have I := hide i
  clear i m
  go_wp2_with fail
  refine (in_byte (unhide I)).mono ?_
  rintro e w4 ⟨rfl, i, m⟩
  rw [unhide q0] at i ⊢
  replace I : Hid (InAt w4 x (mtext n s) 1 0) := hide i
  replace B := hide ((unhide B).trans (m.below (fun i h => by have h' : i = x := h; omega) (unhide B).size))
  clear i m
  go_wp2_with fail
  refine (in_most (unhide I) most hm).mono ?_
  rintro e w5 ⟨rfl, i, m⟩
  rw [unhide q1] at i ⊢
  replace I : Hid (InAt w5 x (mtext n s) 1 8) := hide i
  replace B := hide ((unhide B).trans (m.below (fun i h => by have h' : i = x := h; omega) (unhide B).size))
  clear i m
  go_wp2_with fail
  refine (fault_any (unhide I)).mono ?_
  rintro e w6 ⟨rfl, m⟩
  replace I := hide ((unhide I).keep m id)
  replace B := hide ((unhide B).trans (m.below (fun _ h => h.elim) (unhide B).size))
  clear m
  rw [show (((if (8 : Nat) = 0 then 0 else 1 : Nat)) : Int) = 1 from rfl]
  go_wp2_with fail
  refine (left_any (unhide I)).mono ?_
  rintro e w7 ⟨rfl, m⟩
  replace I := hide ((unhide I).keep m id)
  replace B := hide ((unhide B).trans (m.below (fun _ h => h.elim) (unhide B).size))
  clear m
  rw [show (((mtext n s).size - 1 : Nat) : Int) = (((numBytes n).length : Nat) : Int) + (s.size : Int) by rw [unhide sm]; omega]
  go_wp2_with fail
  refine (numlaw_any n hn _).mono ?_
  rintro e w8 ⟨rfl, hB⟩
  replace I := hide ((unhide I).keep (Moved.of_below (F := fun _ => False) hB) id)
  replace B := hide ((unhide B).trans (hB.mono (unhide B).size))
  clear hB
  have hoz : (ByteArray.mk (numBytes n).toArray).size = (numBytes n).length := out_size _
  have hy := (unhide B).size
  have O := hide (out_new w8)
  have M := hide ((unhide B).trans ((Below.refl w.heap.size w8).alloc hy newOut))
  go_wp2_with fail
  refine (text_any (unhide O) s (by simp only [List.length_nil]; omega)).mono ?_
  rintro e w9 ⟨rfl, a9, c9, o9, f9, m9⟩
  rw [List.nil_append] at o9
  replace M := hide ((unhide M).trans (m9.below (fun y h => by have := foot_none h; omega) (by simp; omega)))
  clear O f9 m9
  have O := hide o9
  have hlt := hide o9.lt
  clear o9
  go_wp2_with fail
  refine (string_any (unhide O)).mono ?_
  rintro e w10 ⟨rfl, rfl⟩
  go_wp2_with fail
  refine (of_any (ttext s) l2 _).mono ?_
  rintro e w11 ⟨rfl, i, m⟩
  have hx2 : w.heap.size ≤ w10.heap.size := (unhide M).size
  replace M := hide ((unhide M).trans (m.below (fun _ h => h.elim) (unhide M).size))
  replace O := hide ((unhide O).keep m (fun _ h => h.elim))
  generalize w10.heap.size = y at *
  have J := hide i
  clear i m
  go_wp2_with fail
  refine (in_text (unhide J) most hm).mono ?_
  rintro e w12 ⟨rfl, i, m⟩
  rw [unhide q2] at i ⊢
  replace J : Hid (InAt w12 y (ttext s) (0 + ((numBytes s.size).length + s.size)) 0) := hide i
  rw [show ((s.data.toList, (numBytes s.size).length + s.size, 0) : List UInt8 × Nat × Nat).1 = s.data.toList from rfl, same_bytes]
  replace O := hide ((unhide O).keep m (fun k hk hf => by have := (unhide hlt) k hf; have hk' : k = y := hk; omega))
  replace M := hide ((unhide M).trans (m.below (fun i h => by have h' : i = y := h; omega) (unhide M).size))
  clear i m
  go_wp2_with fail
  refine (end_any (unhide J)).mono ?_
  rintro e w13 ⟨rfl, m⟩
  replace J := hide ((unhide J).keep m id)
  replace O := hide ((unhide O).keep m (fun _ h => h.elim))
  replace M := hide ((unhide M).trans (m.below (fun _ h => h.elim) (unhide M).size))
  clear m
  rw [show endOf (ttext s) (0 + ((numBytes s.size).length + s.size)) 0 = 0 by unfold endOf; rw [if_neg (by simp), if_neg (by rw [unhide st]; omega)]]
  go_wp2_with fail
  go_ret
  exact ⟨rfl, unhide M⟩
set_option maxRecDepth 100000 in
set_option maxHeartbeats 2000000 in
theorem most_nn (n : Nat) (most : Int) (s : ByteArray) (w : World) (hn : n < 2 ^ 64) (hm : -9223372036854775808 ≤ most ∧ most ≤ 9223372036854775807) (hs : s.size ≤ 60000) (h0 : 0 ≤ most) (hnf : most < (n : Int)) (hsf : most < (s.size : Int)) :
    Calls Try.prog 7 #[.int .u64 (n : Int), .int .i64 most, .string s] w fun e w' => e = .returned (.bool true) ∧ Below w.heap.size w w' := by
  have d0 : decide ((60000 : Int) < (s.size : Int)) = false := decide_eq_false (by omega)
  have hln := numBytes_length n hn
  have hls := numBytes_length s.size (by omega)
  have hms := mtext_size n s
  have hts := ttext_size s
  have q0 := hide (mtext_byte n s)
  have d1 : decide ((0 : Int) ≤ most) = true := decide_eq_true h0
  have hw : IntKind.u64.wrap most = most := by rw [wrap_u64]; omega
  have d2 : decide ((n : Int) ≤ most) = false := decide_eq_false (by omega)
  have d3 : decide ((s.size : Int) ≤ most) = false := decide_eq_false (by omega)
  have q1 := hide (mtext_not n hn s most (.inr hnf))
  have q2 := hide (ttext_not s hs most (.inr hsf))
  have l1 : (mtext n s).size ≤ 1099511627776 := by omega
  have l2 : (ttext s).size ≤ 1099511627776 := by omega
  have sm := hide (show (mtext n s).size = 1 + (numBytes n).length + s.size by omega)
  have st := hide (show (ttext s).size = (numBytes s.size).length + s.size by omega)
  clear hms hts
  go_enter Try.func7, Try.ntmps7
  go_wp2_with fail
  refine (awake_any _).mono ?_
  rintro e w1 ⟨rfl, hB⟩
  have B := hide hB
  clear hB
  go_wp2_with fail
  refine (numlaw_any n hn _).mono ?_
  rintro e w2 ⟨rfl, hB⟩
  replace B := hide ((unhide B).trans (hB.mono (unhide B).size))
  clear hB
  go_wp2_with fail
  refine (of_any (mtext n s) l1 _).mono ?_
  rintro e w3 ⟨rfl, i, m⟩
  have hx : w.heap.size ≤ w2.heap.size := (unhide B).size
  replace B := hide ((unhide B).trans (m.below (fun _ h => h.elim) (unhide B).size))
  generalize w2.heap.size = x at *
  have I := hide i
  clear i m
  go_wp2_with fail
  refine (in_byte (unhide I)).mono ?_
  rintro e w4 ⟨rfl, i, m⟩
  rw [unhide q0] at i ⊢
  replace I : Hid (InAt w4 x (mtext n s) 1 0) := hide i
  replace B := hide ((unhide B).trans (m.below (fun i h => by have h' : i = x := h; omega) (unhide B).size))
  clear i m
  go_wp2_with fail
  refine (in_most (unhide I) most hm).mono ?_
  rintro e w5 ⟨rfl, i, m⟩
  rw [unhide q1] at i ⊢
  replace I : Hid (InAt w5 x (mtext n s) 1 8) := hide i
  replace B := hide ((unhide B).trans (m.below (fun i h => by have h' : i = x := h; omega) (unhide B).size))
  clear i m
  go_wp2_with fail
  refine (fault_any (unhide I)).mono ?_
  rintro e w6 ⟨rfl, m⟩
  replace I := hide ((unhide I).keep m id)
  replace B := hide ((unhide B).trans (m.below (fun _ h => h.elim) (unhide B).size))
  clear m
  rw [show (((if (8 : Nat) = 0 then 0 else 1 : Nat)) : Int) = 1 from rfl]
  go_wp2_with fail
  refine (left_any (unhide I)).mono ?_
  rintro e w7 ⟨rfl, m⟩
  replace I := hide ((unhide I).keep m id)
  replace B := hide ((unhide B).trans (m.below (fun _ h => h.elim) (unhide B).size))
  clear m
  rw [show (((mtext n s).size - 1 : Nat) : Int) = (((numBytes n).length : Nat) : Int) + (s.size : Int) by rw [unhide sm]; omega]
  go_wp2_with fail
  refine (numlaw_any n hn _).mono ?_
  rintro e w8 ⟨rfl, hB⟩
  replace I := hide ((unhide I).keep (Moved.of_below (F := fun _ => False) hB) id)
  replace B := hide ((unhide B).trans (hB.mono (unhide B).size))
  clear hB
  have hoz : (ByteArray.mk (numBytes n).toArray).size = (numBytes n).length := out_size _
  have hy := (unhide B).size
  have O := hide (out_new w8)
  have M := hide ((unhide B).trans ((Below.refl w.heap.size w8).alloc hy newOut))
  go_wp2_with fail
  refine (text_any (unhide O) s (by simp only [List.length_nil]; omega)).mono ?_
  rintro e w9 ⟨rfl, a9, c9, o9, f9, m9⟩
  rw [List.nil_append] at o9
  replace M := hide ((unhide M).trans (m9.below (fun y h => by have := foot_none h; omega) (by simp; omega)))
  clear O f9 m9
  have O := hide o9
  have hlt := hide o9.lt
  clear o9
  go_wp2_with fail
  refine (string_any (unhide O)).mono ?_
  rintro e w10 ⟨rfl, rfl⟩
  go_wp2_with fail
  refine (of_any (ttext s) l2 _).mono ?_
  rintro e w11 ⟨rfl, i, m⟩
  have hx2 : w.heap.size ≤ w10.heap.size := (unhide M).size
  replace M := hide ((unhide M).trans (m.below (fun _ h => h.elim) (unhide M).size))
  replace O := hide ((unhide O).keep m (fun _ h => h.elim))
  generalize w10.heap.size = y at *
  have J := hide i
  clear i m
  go_wp2_with fail
  refine (in_text (unhide J) most hm).mono ?_
  rintro e w12 ⟨rfl, i, m⟩
  rw [unhide q2] at i ⊢
  replace J : Hid (InAt w12 y (ttext s) 0 8) := hide i
  replace O := hide ((unhide O).keep m (fun k hk hf => by have := (unhide hlt) k hf; have hk' : k = y := hk; omega))
  replace M := hide ((unhide M).trans (m.below (fun i h => by have h' : i = y := h; omega) (unhide M).size))
  clear i m
  go_wp2_with fail
  refine (end_any (unhide J)).mono ?_
  rintro e w13 ⟨rfl, m⟩
  replace J := hide ((unhide J).keep m id)
  replace O := hide ((unhide O).keep m (fun _ h => h.elim))
  replace M := hide ((unhide M).trans (m.below (fun _ h => h.elim) (unhide M).size))
  clear m
  rw [show endOf (ttext s) 0 8 = 8 from rfl]
  go_wp2_with fail
  refine (left_any (unhide J)).mono ?_
  rintro e w14 ⟨rfl, m⟩
  replace O := hide ((unhide O).keep m (fun _ h => h.elim))
  replace M := hide ((unhide M).trans (m.below (fun _ h => h.elim) (unhide M).size))
  clear m
  rw [Nat.sub_zero]
  go_wp2_with fail
  refine (string_any (unhide O)).mono ?_
  rintro e w15 ⟨rfl, rfl⟩
  rw [show (⟨(textBytes s.data.toList).toArray⟩ : ByteArray) = ttext s from rfl]
  go_wp2_with fail
  go_ret
  exact ⟨rfl, unhide M⟩
set_option maxRecDepth 100000 in
theorem most_any (n : Nat) (most : Int) (s : ByteArray) (w : World) (hn : n < 2 ^ 64) (hm : -9223372036854775808 ≤ most ∧ most ≤ 9223372036854775807) (hs : s.size ≤ maxLen) :
    Calls Try.prog 7 #[.int .u64 (n : Int), .int .i64 most, .string s] w fun e w' => e = .returned (.bool true) ∧ Below w.heap.size w w' := by
  unfold maxLen at hs
  by_cases hs6 : (60000 : Int) < (s.size : Int)
  · have d1 : decide ((60000 : Int) < (s.size : Int)) = true := decide_eq_true hs6
    go_enter Try.func7, Try.ntmps7
    go_wp2_with fail
    refine (awake_any _).mono ?_
    rintro e w1 ⟨rfl, hB⟩
    have B := hide hB
    clear hB
    go_wp2_with fail
    go_ret
    exact ⟨rfl, unhide B⟩
  · have h6 : s.size ≤ 60000 := by omega
    by_cases h0 : most < 0
    · exact most_neg n most s w hn hm h6 h0
    · by_cases h1 : (n : Int) ≤ most
      · by_cases h2 : (s.size : Int) ≤ most
        · exact most_ff n most s w hn hm h6 (by omega) h1 h2
        · exact most_fn n most s w hn hm h6 (by omega) h1 (by omega)
      · by_cases h2 : (s.size : Int) ≤ most
        · exact most_nf n most s w hn hm h6 (by omega) (by omega) h2
        · exact most_nn n most s w hn hm h6 (by omega) (by omega) (by omega)
end Go.Proofs.Ythjoojbdjinonaa

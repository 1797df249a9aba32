/- What the program's lengthOf and bodyOf answer. Condition: the table's sixteen cells hold its numbers. -/
import Derived.Test.YtkbmbcmcnpeabaaDoorFPieces
namespace Go.Proofs.YtkbmbcmcnpeabaaDoor.Fm
open Crc Go.RowKit

/-- A world of which St holds. -/
structure SW (St : World → Prop) where
  w : World
  ok : St w
/-- A region that draws its order, whose operations yield one value each in every world of which St holds, and whose calls leave such a world. -/
theorem wp_region_sw {P : Program} {St : World → Prop} {id : Nat} {Q : Exit → Act → World → Prop} {a : Act} {w : World} {l : List Oper} (hm : P.follows .mixedOrders = true) (hB : Region.lexB .any l.toArray = true) (hS : St w.drew)
    (h : wpQuiet P l.toArray (fun w' => ∃ p : SW St, w' = p.w) (fun a' => ∀ w', (∃ p : SW St, w' = p.w) → Q .normal a' w') l a) : (Code.region id l.toArray true).wp P Q a w :=
  wp_region_quiet (C := fun w' => ∃ p : SW St, w' = p.w) hm hB ⟨⟨_, hS⟩, rfl⟩ (by simpa using h)

theorem cut_list (s : ByteArray) (a b : Nat) : (s.extract a b).data.toList = (s.data.toList.drop a).take (b - a) := by
  rw [ByteArray.data_extract, Array.toList_extract, List.extract_eq_take_drop]
theorem cut_max (s : ByteArray) (a b : Nat) (hs : s.size ≤ maxLen) : (s.extract a b).size ≤ maxLen := by
  rw [ByteArray.size_extract]; omega
theorem text_len (s : ByteArray) : s.data.toList.length = s.size := by simp
theorem drew_below {w : World} {B : Nat} (h : Below B w w) : Below B w w.drew := h.drew

theorem cut_same (s : ByteArray) (a b : Nat) (t : List UInt8) : ((s.extract a b).toList == t) = decide ((s.data.toList.drop a).take (b - a) = t) := by
  rw [ByteArray.toList_eq, cut_list, Bool.eq_iff_iff, decide_eq_true_eq, beq_iff_eq]
theorem cut_ne {s : ByteArray} {a b : Nat} {t : List UInt8} (h : (!(s.extract a b).toList == t) = true) : t ≠ (s.data.toList.drop a).take (b - a) := by
  rw [cut_same] at h
  simp only [Bool.not_eq_true', decide_eq_false_iff_not] at h
  exact fun e => h e.symm
theorem cut_eq {s : ByteArray} {a b : Nat} {t : List UInt8} (h : (!(s.extract a b).toList == t) = false) : t = (s.data.toList.drop a).take (b - a) := by
  rw [cut_same] at h
  simp only [Bool.not_eq_false', decide_eq_true_eq] at h
  exact h.symm
theorem below_drewN {w w' : World} {B : Nat} (h : Below B w w') (n : Nat) : Below B w (w'.drewN n) := ⟨h.os, h.tape, h.output, h.size, h.block⟩
theorem le4_lt (l : List UInt8) : le4 l < 4294967296 := by
  have h0 := (l.getD 0 0).toNat_lt
  have h1 := (l.getD 1 0).toNat_lt
  have h2 := (l.getD 2 0).toNat_lt
  have h3 := (l.getD 3 0).toNat_lt
  unfold le4
  omega

/-- The length that a text tells ahead of a body, or what is wrong. -/
def lenOf (l : List UInt8) : Nat × Nat :=
  if l.length < 8 then (0, 7) else if four (crc (l.take 4)) ≠ (l.drop 4).take 4 then (0, 9) else if 16384 < le4 (l.take 4) then (0, 3) else (le4 (l.take 4), 0)
/-- The body of n bytes with its sum behind it, or what is wrong. -/
def bodOf (l : List UInt8) (n : Nat) : List UInt8 × Nat :=
  if l.length < n + 4 then ([], 7) else if four (crc (l.take n)) ≠ (l.drop n).take 4 then ([], 9) else (l.take n, 0)

theorem lengthOf_any (s : ByteArray) (w : World) (hs : s.size ≤ maxLen) (hT : Tab w) :
    Calls Tryd.prog 72 #[.string s] w fun e w' => e = .returned (.tuple #[.int .i64 (((lenOf s.data.toList).1 : Nat) : Int), .int .i64 (((lenOf s.data.toList).2 : Nat) : Int)]) ∧ Below w.heap.size w w' := by
  have HT : Hid (Tab w) := hide hT
  clear hT
  by_cases h8 : (s.size : Int) < 8
  · have e : lenOf s.data.toList = (0, 7) := if_pos (by rw [text_len]; omega)
    rw [e]
    go_enter Tryd.func72, Tryd.ntmps72
    go_wp2_with fail
    go_ret2
    exact ⟨rfl, Below.refl _ _⟩
  · have HS := hide hs
    have l4 : ¬ (s.size : Int) < 4 := by omega
    have l4' : (4 : Int) ≤ (s.size : Int) := by omega
    have l8' : (8 : Int) ≤ (s.size : Int) := by omega
    obtain ⟨St, hst⟩ : ∃ St : World → Prop, St = fun w' => Below w.heap.size w w' := ⟨_, rfl⟩
    have st : St w.drew := by rw [hst]; exact (Below.refl _ _).drew
    have sS := hide (show ∀ p : SW St, Calls Tryd.prog 59 #[.string (s.extract 0 4)] p.w fun e w'' => e = .returned (.string ⟨(four (crc (s.extract 0 4).data.toList)).toArray⟩) ∧ ∃ q : SW St, w'' = q.w from fun ⟨w', h⟩ => by
      have h' : Below w.heap.size w w' := by rw [hst] at h; exact h
      exact (sumOf_any _ w' (cut_max _ _ _ hs) ((unhide HT).below h')).mono fun e w'' ⟨he, m⟩ => ⟨he, ⟨w'', by rw [hst]; exact h'.trans (m.mono h'.size)⟩, rfl⟩)
    have Hst := hide hst
    clear hst hs
    go_enter Tryd.func72, Tryd.ntmps72
    go_wp2_with fail
    have ne : Nonempty (SW St) := ⟨⟨_, st⟩⟩
    refine wp_region_sw (St := St) (by kernel_rfl) (by kernel_rfl) st ?_
    repeat (go_big_quiet_step (first | (go_at_call 59; exact unhide sS _)))
    refine wpQuiet_nil ?_
    rintro w9 ⟨⟨_, st9⟩, rfl⟩
    have B := hide (show Below w.heap.size w w9 by rw [unhide Hst] at st9; exact st9)
    clear st9
    go_wp2_with fail
    · go_ret2
      have hx := ‹(!(s.extract 4 8).toList == four (crc (List.take 4 s.data.toList))) = true›
      have e : lenOf s.data.toList = (0, 9) := by
        unfold lenOf
        rw [if_neg (by rw [text_len]; omega), if_pos (cut_ne hx)]
      rw [e]
      exact ⟨rfl, unhide B⟩
    · have hx := hide (cut_eq ‹(!(s.extract 4 8).toList == four (crc (List.take 4 s.data.toList))) = false›)
      refine (read_any s _ (by omega)).mono ?_
      rintro e w2 ⟨rfl, nq, rfl⟩
      replace B := hide (below_drewN (unhide B) nq)
      have hb := le4_lt (s.data.toList.take 4)
      go_wp2_with fail
      · go_ret2
        have e : lenOf s.data.toList = (0, 3) := by
          unfold lenOf
          rw [if_neg (by rw [text_len]; omega), if_neg (fun h => h (unhide hx)), if_pos (by omega)]
        rw [e]
        exact ⟨rfl, unhide B⟩
      · go_ret2
        have e : lenOf s.data.toList = (le4 (s.data.toList.take 4), 0) := by
          unfold lenOf
          rw [if_neg (by rw [text_len]; omega), if_neg (fun h => h (unhide hx)), if_neg (by omega)]
        rw [e]
        exact ⟨rfl, unhide B⟩

theorem bodyOf_any (s : ByteArray) (n : Nat) (w : World) (hs : s.size ≤ maxLen) (hn : n ≤ 16384) (hT : Tab w) :
    Calls Tryd.prog 73 #[.string s, .int .i64 (n : Int)] w fun e w' => e = .returned (.tuple #[.string ⟨(bodOf s.data.toList n).1.toArray⟩, .int .i64 (((bodOf s.data.toList n).2 : Nat) : Int)]) ∧ Below w.heap.size w w' := by
  have HT : Hid (Tab w) := hide hT
  clear hT
  have hsum : IntKind.i64.wrap ((n : Int) + 4) = (n : Int) + 4 := by rw [IntKind.wrap_i64]; omega
  by_cases h8 : (s.size : Int) < (n : Int) + 4
  · have e : bodOf s.data.toList n = ([], 7) := if_pos (by rw [text_len]; omega)
    rw [e]
    go_enter Tryd.func73, Tryd.ntmps73
    go_wp2_with fail
    go_ret2
    exact ⟨rfl, Below.refl _ _⟩
  · have HS := hide hs
    have l4 : ¬ (s.size : Int) < (n : Int) := by omega
    have l4' : (n : Int) ≤ (s.size : Int) := by omega
    have l8' : (n : Int) + 4 ≤ (s.size : Int) := by omega
    have t4 : ((n : Int) + 4).toNat = n + 4 := by omega
    obtain ⟨St, hst⟩ : ∃ St : World → Prop, St = fun w' => Below w.heap.size w w' := ⟨_, rfl⟩
    have st : St w.drew := by rw [hst]; exact (Below.refl _ _).drew
    have sS := hide (show ∀ p : SW St, Calls Tryd.prog 59 #[.string (s.extract 0 n)] p.w fun e w'' => e = .returned (.string ⟨(four (crc (s.extract 0 n).data.toList)).toArray⟩) ∧ ∃ q : SW St, w'' = q.w from fun ⟨w', h⟩ => by
      have h' : Below w.heap.size w w' := by rw [hst] at h; exact h
      exact (sumOf_any _ w' (cut_max _ _ _ hs) ((unhide HT).below h')).mono fun e w'' ⟨he, m⟩ => ⟨he, ⟨w'', by rw [hst]; exact h'.trans (m.mono h'.size)⟩, rfl⟩)
    have Hst := hide hst
    clear hst hs
    go_enter Tryd.func73, Tryd.ntmps73
    go_wp2_with fail
    have ne : Nonempty (SW St) := ⟨⟨_, st⟩⟩
    refine wp_region_sw (St := St) (by kernel_rfl) (by kernel_rfl) st ?_
    repeat (go_big_quiet_step (first | (go_at_call 59; exact unhide sS _)))
    refine wpQuiet_nil ?_
    rintro w9 ⟨⟨_, st9⟩, rfl⟩
    have B := hide (show Below w.heap.size w w9 by rw [unhide Hst] at st9; exact st9)
    clear st9
    go_wp2_with fail
    · go_ret2
      have hx := ‹(!(s.extract n (n + 4)).toList == four (crc (List.take n s.data.toList))) = true›
      have e : bodOf s.data.toList n = ([], 9) := by
        have h := cut_ne hx
        rw [show n + 4 - n = 4 by omega] at h
        unfold bodOf
        rw [if_neg (by rw [text_len]; omega), if_pos h]
      rw [e]
      exact ⟨rfl, unhide B⟩
    · have hx := hide (cut_eq ‹(!(s.extract n (n + 4)).toList == four (crc (List.take n s.data.toList))) = false›)
      refine (clone_any _ _ (by rw [ByteArray.size_extract]; omega)).mono ?_
      rintro e w2 ⟨rfl, m⟩
      replace B := hide ((unhide B).trans (m.mono (unhide B).size))
      clear m
      go_wp2_with fail
      go_ret2
      have e : bodOf s.data.toList n = (s.data.toList.take n, 0) := by
        have h := unhide hx
        rw [show n + 4 - n = 4 by omega] at h
        unfold bodOf
        rw [if_neg (by rw [text_len]; omega), if_neg (fun h' => h' h)]
      rw [e, show (⟨(s.data.toList.take n).toArray⟩ : ByteArray) = s.extract 0 n from bytes_ext (by rw [cut_list]; simp)]
      exact ⟨rfl, unhide B⟩
end Go.Proofs.YtkbmbcmcnpeabaaDoor.Fm

/- What the program's reader answers: each reading, the first fault and its place, how many bytes are left, and whether that is all, as the chapter says. Condition: the text has no more than 2^40 bytes. -/
import Derived.Test.YtkbmbcmcnpeabaaDoorTry
import Derived.Handy
namespace Go.Proofs.YtkbmbcmcnpeabaaDoor
open Pk Go.RowKit

theorem rest_list (s : ByteArray) (k : Nat) : (s.extract k s.size).data.toList = s.data.toList.drop k := by
  rw [ByteArray.data_extract, Array.toList_extract, List.extract_eq_take_drop, List.take_of_length_le (by simp)]
theorem rest_size (s : ByteArray) (k : Nat) : (s.extract k s.size).size ≤ s.size := by
  rw [ByteArray.size_extract]; omega

theorem close_num (s : ByteArray) (hs : s.size ≤ maxLen) (B : Nat) (v : Int) (w : World) (hc : w.cell? ⟨B, 0, none⟩ = some (.int .u64 v)) (hf : w.frozen? ⟨B, 0, none⟩ = false) :
    Calls Tryd.prog 116 #[.string s, .pointer (some ⟨B, 0, none⟩)] w fun e w' => e = .returned (.tuple #[.int .i64 (((num s.data.toList).2.1 : Nat) : Int), .int .i64 (((num s.data.toList).2.2 : Nat) : Int)]) ∧ w' = w.setCell ⟨B, 0, none⟩ (.int .u64 (((num s.data.toList).1 : Nat) : Int)) := by
  go_enter Tryd.func116, Tryd.ntmps116
  go_wp2_with fail
  refine (number_any s hs _).mono ?_
  rintro e w' ⟨rfl, rfl⟩
  go_wp2_with fail
  go_ret2
  exact ⟨rfl, rfl⟩

/-- What a number's reading comes to: at a fault nothing. -/
def outNum (s : ByteArray) (k f : Nat) : Nat × Nat × Nat := if f = 0 then num (s.data.toList.drop k) else (0, 0, f)
def outMost (most : Int) (s : ByteArray) (k f : Nat) : Nat × Nat × Nat := if f = 0 then numTo most (s.data.toList.drop k) else (0, 0, f)

theorem num_room (l : List UInt8) : (num l).2.1 ≤ l.length ∧ (num l).2.2 ≤ 8 := by
  rcases num_fault l with h | h | h
  · have hb := num_back (l := l) (m := (num l).1) (j := (num l).2.1) (by rw [← h])
    exact ⟨hb.2.2.2, by omega⟩
  · rw [h]; simp
  · rw [h]; simp

set_option maxRecDepth 100000 in
theorem in_num {w : World} {x : Nat} {s : ByteArray} {k f : Nat} (h : InAt w x s k f) :
    Calls Tryd.prog 111 #[.pointer (some ⟨x, 0, none⟩)] w fun e w' => e = .returned (.int .u64 (((outNum s k f).1 : Nat) : Int)) ∧ Read w w' x s k (outNum s k f).2.1 (outNum s k f).2.2 := by
  have hx := h.lt
  have hk := h.le
  have h1 : InAt (w.alloc (.cells #[.int .u64 0] 22)) x s k f := h.keep (F := fun _ => False) ((Moved.refl _ _).alloc _) id
  by_cases hf : f = 0
  · subst hf
    have hr := num_room (s.data.toList.drop k)
    have hrl : k + (num (s.data.toList.drop k)).2.1 ≤ s.size := by
      have := hr.1
      rw [List.length_drop] at this
      simp at this
      omega
    have hcall := try_any_30 (.pointer (some ⟨w.heap.size, 0, none⟩)) h1
      (fun t e' w1 => t = (num (s.data.toList.drop k)).2.1 ∧ e' = (num (s.data.toList.drop k)).2.2 ∧ w1.cell? ⟨w.heap.size, 0, none⟩ = some (.int .u64 (((num (s.data.toList.drop k)).1 : Nat) : Int)) ∧ w1.frozen? ⟨w.heap.size, 0, none⟩ = false ∧ Moved (fun _ => False) w w1)
      (fun w0 m0 => by
        have hc0 : w0.cell? ⟨w.heap.size, 0, none⟩ = some (.int .u64 0) := (m0.cell (p := ⟨w.heap.size, 0, none⟩) (by simp) id).trans (by simp)
        have hf0 : w0.frozen? ⟨w.heap.size, 0, none⟩ = false := (m0.frozen (p := ⟨w.heap.size, 0, none⟩) (by simp) id).trans (by simp)
        refine (close_num (s.extract k s.size) (Nat.le_trans (rest_size s k) (by have := h.small; unfold maxLen; omega)) w.heap.size 0 w0 hc0 hf0).mono ?_
        rintro e w1 ⟨rfl, rfl⟩
        rw [rest_list]
        have mw : Moved (fun _ => False) w (w0.setCell ⟨w.heap.size, 0, none⟩ (.int .u64 (((num (s.data.toList.drop k)).1 : Nat) : Int))) := (((Moved.refl _ w).alloc _).trans m0 (fun _ h => h.elim)).setCell (.inr (Nat.le_refl _)) _
        exact ⟨_, _, rfl, ⟨rfl, rfl, World.cell?_setCell_same _ _ _ hc0, by rw [World.frozen?_setCell]; exact hf0, mw⟩, h.keep mw id, hrl, hr.2⟩)
    have Hcall := hide hcall
    clear hcall
    have ho : outNum s k 0 = num (s.data.toList.drop k) := rfl
    rw [ho]
    generalize num (s.data.toList.drop k) = r at *
    obtain ⟨n, t, e'⟩ := r
    go_enter Tryd.func111, Tryd.ntmps111
    go_wp2_with fail
    refine (unhide Hcall).mono ?_
    rintro e w' ⟨rfl, t2, e2, w1, ⟨rfl, rfl, hc, hfr, mv⟩, m2, hI⟩
    have hB : w.heap.size < w1.heap.size := World.block_lt_of_cell? _ _ hc
    have hc' := (m2.cell (p := ⟨w.heap.size, 0, none⟩) hB (fun e => by have e' : w.heap.size = x := e; omega)).trans hc
    have hf' := (m2.frozen (p := ⟨w.heap.size, 0, none⟩) hB (fun e => by have e' : w.heap.size = x := e; omega)).trans hfr
    have Hm : Hid (Moved (fun i => i = x) w w') := hide ((mv.mono (fun _ h => h.elim)).trans m2 (fun i h => .inl h))
    have HI := hide hI
    clear m2 hI hc hfr mv h1
    have hset := World.cell?_setCell_same w' ⟨w.heap.size, 0, none⟩ (.int .u64 (n : Int)) hc'
    go_wp2_with fail
    (try simp only [Exit.inBlock, Exit.then])
    refine bodyPost_ret (v := .int .u64 (n : Int)) (by simp [results, Tryd.results111, go_sem, hset]) rfl ?_
    refine ⟨rfl, ?_, (unhide Hm).setCell (.inr (Nat.le_refl _)) _⟩
    exact (unhide HI).keep (F := fun i => i = w.heap.size) (Moved.put _ _ _ _) (fun e => by omega)
  · have hcall := try_fault_30 #[.pointer (some ⟨w.heap.size, 0, none⟩)] h1 hf
    have Hcall := hide hcall
    have H1 := hide h1
    clear hcall
    have ho : outNum s k f = (0, 0, f) := if_neg hf
    rw [ho]
    go_enter Tryd.func111, Tryd.ntmps111
    go_wp2_with fail
    refine (unhide Hcall).mono ?_
    rintro e w' ⟨rfl, rfl⟩
    go_wp2_with fail
    go_returns
    refine ⟨rfl, ?_, ?_⟩
    · unfold ahead
      rw [if_neg hf]
      exact h.keep (F := fun _ => False) ((Moved.refl _ _).alloc _) id
    · exact (Moved.refl _ _).alloc _

theorem numTo_room (most : Int) (l : List UInt8) : (numTo most l).2.1 ≤ l.length ∧ (numTo most l).2.2 ≤ 8 := by
  have h := num_room l
  unfold numTo
  split
  · exact ⟨Nat.zero_le _, h.2⟩
  · split
    · exact ⟨Nat.zero_le _, Nat.le_refl 8⟩
    · exact h
theorem numTo_ok {most : Int} {l : List UInt8} (h : (numTo most l).2.2 = 0) : numTo most l = num l ∧ 0 ≤ most ∧ ((num l).1 : Int) ≤ most := by
  unfold numTo at h ⊢
  split at h
  · rename_i h1; exact absurd h h1
  · split at h
    · simp at h
    · rename_i h1 h2
      rw [if_neg h1, if_neg h2]
      exact ⟨rfl, by omega, by omega⟩

theorem close_most (s : ByteArray) (hs : s.size ≤ maxLen) (most : Int) (hm : -9223372036854775808 ≤ most ∧ most ≤ 9223372036854775807) (A B : Nat) (v : Int) (w : World) (ha : w.cell? ⟨A, 0, none⟩ = some (.int .i64 most)) (hc : w.cell? ⟨B, 0, none⟩ = some (.int .i64 v)) (hf : w.frozen? ⟨B, 0, none⟩ = false) :
    Calls Tryd.prog 118 #[.string s, .pointer (some ⟨A, 0, none⟩), .pointer (some ⟨B, 0, none⟩)] w fun e w' => e = .returned (.tuple #[.int .i64 (((numTo most s.data.toList).2.1 : Nat) : Int), .int .i64 (((numTo most s.data.toList).2.2 : Nat) : Int)]) ∧ w' = w.setCell ⟨B, 0, none⟩ (.int .i64 (((numTo most s.data.toList).1 : Nat) : Int)) := by
  go_enter Tryd.func118, Tryd.ntmps118
  go_wp2_with fail
  refine (numberTo_any s hs most hm _).mono ?_
  rintro e w' ⟨rfl, rfl⟩
  go_wp2_with fail
  go_ret2
  exact ⟨rfl, rfl⟩

set_option maxRecDepth 100000 in
theorem in_most {w : World} {x : Nat} {s : ByteArray} {k f : Nat} (h : InAt w x s k f) (most : Int) (hm : -9223372036854775808 ≤ most ∧ most ≤ 9223372036854775807) :
    Calls Tryd.prog 113 #[.pointer (some ⟨x, 0, none⟩), .int .i64 most] w fun e w' => e = .returned (.int .i64 (((outMost most s k f).1 : Nat) : Int)) ∧ Read w w' x s k (outMost most s k f).2.1 (outMost most s k f).2.2 := by
  have hx := h.lt
  have hk := h.le
  have mv1 : Moved (fun _ => False) w ((w.alloc (.cells #[.int .i64 most] 3)).alloc (.cells #[.int .i64 0] 3)) := ((Moved.refl _ _).alloc _).alloc _
  have h1 : InAt ((w.alloc (.cells #[.int .i64 most] 3)).alloc (.cells #[.int .i64 0] 3)) x s k f := h.keep mv1 id
  by_cases hf : f = 0
  · subst hf
    have hr := numTo_room most (s.data.toList.drop k)
    have hrl : k + (numTo most (s.data.toList.drop k)).2.1 ≤ s.size := by
      have := hr.1
      rw [List.length_drop] at this
      simp at this
      omega
    have hcall := try_any_32 (.pointer (some ⟨w.heap.size, 0, none⟩)) (.pointer (some ⟨w.heap.size + 1, 0, none⟩)) h1
      (fun t e' w1 => t = (numTo most (s.data.toList.drop k)).2.1 ∧ e' = (numTo most (s.data.toList.drop k)).2.2 ∧ w1.cell? ⟨w.heap.size + 1, 0, none⟩ = some (.int .i64 (((numTo most (s.data.toList.drop k)).1 : Nat) : Int)) ∧ w1.frozen? ⟨w.heap.size + 1, 0, none⟩ = false ∧ Moved (fun _ => False) w w1)
      (fun w0 m0 => by
        have ha0 : w0.cell? ⟨w.heap.size, 0, none⟩ = some (.int .i64 most) := (m0.cell (p := ⟨w.heap.size, 0, none⟩) (by simp; omega) id).trans (by simp [World.cell?_alloc_lt])
        have hc0 : w0.cell? ⟨w.heap.size + 1, 0, none⟩ = some (.int .i64 0) := (m0.cell (p := ⟨w.heap.size + 1, 0, none⟩) (by simp) id).trans (by simp)
        have hf0 : w0.frozen? ⟨w.heap.size + 1, 0, none⟩ = false := (m0.frozen (p := ⟨w.heap.size + 1, 0, none⟩) (by simp) id).trans (by simp)
        refine (close_most (s.extract k s.size) (Nat.le_trans (rest_size s k) (by have := h.small; unfold maxLen; omega)) most hm w.heap.size (w.heap.size + 1) 0 w0 ha0 hc0 hf0).mono ?_
        rintro e w1 ⟨rfl, rfl⟩
        rw [rest_list]
        have mw : Moved (fun _ => False) w (w0.setCell ⟨w.heap.size + 1, 0, none⟩ (.int .i64 (((numTo most (s.data.toList.drop k)).1 : Nat) : Int))) := (mv1.trans m0 (fun _ h => h.elim)).setCell (.inr (Nat.le_succ _)) _
        exact ⟨_, _, rfl, ⟨rfl, rfl, World.cell?_setCell_same _ _ _ hc0, by rw [World.frozen?_setCell]; exact hf0, mw⟩, h.keep mw id, hrl, hr.2⟩)
    have Hcall := hide hcall
    clear hcall
    have ho : outMost most s k 0 = numTo most (s.data.toList.drop k) := rfl
    rw [ho]
    generalize numTo most (s.data.toList.drop k) = r at *
    obtain ⟨n, t, e'⟩ := r
    go_enter Tryd.func113, Tryd.ntmps113
    go_wp2_with fail
    refine (unhide Hcall).mono ?_
    rintro e w' ⟨rfl, t2, e2, w1, ⟨rfl, rfl, hc, hfr, mv⟩, m2, hI⟩
    have hB : w.heap.size + 1 < w1.heap.size := World.block_lt_of_cell? _ _ hc
    have hc' := (m2.cell (p := ⟨w.heap.size + 1, 0, none⟩) hB (fun e => by have e' : w.heap.size + 1 = x := e; omega)).trans hc
    have hf' := (m2.frozen (p := ⟨w.heap.size + 1, 0, none⟩) hB (fun e => by have e' : w.heap.size + 1 = x := e; omega)).trans hfr
    have Hm : Hid (Moved (fun i => i = x) w w') := hide ((mv.mono (fun _ h => h.elim)).trans m2 (fun i h => .inl h))
    have HI := hide hI
    clear m2 hI hc hfr mv h1 mv1
    have hset := World.cell?_setCell_same w' ⟨w.heap.size + 1, 0, none⟩ (.int .i64 (n : Int)) hc'
    go_wp2_with fail
    (try simp only [Exit.inBlock, Exit.then])
    refine bodyPost_ret (v := .int .i64 (n : Int)) (by simp [results, Tryd.results113, go_sem, hset]) rfl ?_
    refine ⟨rfl, ?_, (unhide Hm).setCell (.inr (Nat.le_succ _)) _⟩
    exact (unhide HI).keep (F := fun i => i = w.heap.size + 1) (Moved.put _ _ _ _) (fun e => by omega)
  · have hcall := try_fault_32 #[.pointer (some ⟨w.heap.size, 0, none⟩), .pointer (some ⟨w.heap.size + 1, 0, none⟩)] h1 hf
    have Hcall := hide hcall
    have H1 := hide h1
    have Hmv := hide mv1
    clear hcall
    have ho : outMost most s k f = (0, 0, f) := if_neg hf
    rw [ho]
    go_enter Tryd.func113, Tryd.ntmps113
    go_wp2_with fail
    refine (unhide Hcall).mono ?_
    rintro e w' ⟨rfl, rfl⟩
    go_wp2_with fail
    go_returns
    refine ⟨rfl, ?_, ?_⟩
    · unfold ahead
      rw [if_neg hf]
      exact h.keep (F := fun _ => False) (((Moved.refl _ _).alloc _).alloc _) id
    · exact ((Moved.refl _ _).alloc _).alloc _

/-- A byte's reading. -/
def byt (l : List UInt8) : UInt8 × Nat × Nat := match l with | [] => (0, 0, 7) | c :: _ => (c, 1, 0)
def outByte (s : ByteArray) (k f : Nat) : UInt8 × Nat × Nat := if f = 0 then byt (s.data.toList.drop k) else (0, 0, f)
theorem byt_room (l : List UInt8) : (byt l).2.1 ≤ l.length ∧ (byt l).2.2 ≤ 8 := by
  cases l <;> simp [byt]
theorem close_byte (s : ByteArray) (B : Nat) (w : World) (hc : w.cell? ⟨B, 0, none⟩ = some (.int .u8 0)) (hf : w.frozen? ⟨B, 0, none⟩ = false) :
    Calls Tryd.prog 69 #[.string s, .pointer (some ⟨B, 0, none⟩)] w fun e w' => e = .returned (.tuple #[.int .i64 (((byt s.data.toList).2.1 : Nat) : Int), .int .i64 (((byt s.data.toList).2.2 : Nat) : Int)]) ∧
      w'.cell? ⟨B, 0, none⟩ = some (.int .u8 (((byt s.data.toList).1.toNat : Nat) : Int)) ∧ w'.frozen? ⟨B, 0, none⟩ = false ∧ Moved (fun i => i = B) w w' := by
  cases hl : s.data.toList with
  | nil =>
    have hs : s = ⟨#[]⟩ := bytes_ext hl
    subst hs
    go_enter Tryd.func69, Tryd.ntmps69
    go_wp2_with fail
    go_ret2
    exact ⟨rfl, hc, hf, Moved.refl _ _⟩
  | cons c t =>
    have hpos : 0 < s.size := by
      have := congrArg List.length hl
      simp at this
      have e : s.data.size = s.size := rfl
      omega
    have hz : s[0] = c := by
      have h0 : s.data.toList[0]? = some c := by rw [hl]; rfl
      rw [List.getElem?_eq_getElem (by simpa using hpos)] at h0
      exact Option.some.inj h0
    have hem : s.toList.isEmpty = false := by rw [ByteArray.toList_eq, hl]; rfl
    have hset := World.cell?_setCell_same w ⟨B, 0, none⟩ (.int .u8 ((c.toNat : Nat) : Int)) hc
    go_enter Tryd.func69, Tryd.ntmps69
    go_wp2_with fail
    go_ret2
    exact ⟨rfl, hset, by rw [World.frozen?_setCell]; exact hf, Moved.put _ _ _ _⟩

set_option maxRecDepth 100000 in
theorem in_byte {w : World} {x : Nat} {s : ByteArray} {k f : Nat} (h : InAt w x s k f) :
    Calls Tryd.prog 61 #[.pointer (some ⟨x, 0, none⟩)] w fun e w' => e = .returned (.int .u8 (((outByte s k f).1.toNat : Nat) : Int)) ∧ Read w w' x s k (outByte s k f).2.1 (outByte s k f).2.2 := by
  have hx := h.lt
  have hk := h.le
  have h1 : InAt (w.alloc (.cells #[.int .u8 0] 5)) x s k f := h.keep (F := fun _ => False) ((Moved.refl _ _).alloc _) id
  by_cases hf : f = 0
  · subst hf
    have hr := byt_room (s.data.toList.drop k)
    have hrl : k + (byt (s.data.toList.drop k)).2.1 ≤ s.size := by
      have := hr.1
      rw [List.length_drop] at this
      simp at this
      omega
    have hcall := try_any_36 (.pointer (some ⟨w.heap.size, 0, none⟩)) h1
      (fun t e' w1 => t = (byt (s.data.toList.drop k)).2.1 ∧ e' = (byt (s.data.toList.drop k)).2.2 ∧ w1.cell? ⟨w.heap.size, 0, none⟩ = some (.int .u8 (((byt (s.data.toList.drop k)).1.toNat : Nat) : Int)) ∧ w1.frozen? ⟨w.heap.size, 0, none⟩ = false ∧ Moved (fun _ => False) w w1)
      (fun w0 m0 => by
        have hc0 : w0.cell? ⟨w.heap.size, 0, none⟩ = some (.int .u8 0) := (m0.cell (p := ⟨w.heap.size, 0, none⟩) (by simp) id).trans (by simp)
        have hf0 : w0.frozen? ⟨w.heap.size, 0, none⟩ = false := (m0.frozen (p := ⟨w.heap.size, 0, none⟩) (by simp) id).trans (by simp)
        refine (close_byte (s.extract k s.size) w.heap.size w0 hc0 hf0).mono ?_
        rintro e w1 ⟨rfl, hc1, hf1, m1⟩
        rw [rest_list] at hc1 ⊢
        have mw : Moved (fun _ => False) w w1 := (((Moved.refl _ w).alloc _).trans m0 (fun _ h => h.elim)).trans m1 (fun i hi => .inr (by omega))
        exact ⟨_, _, rfl, ⟨rfl, rfl, hc1, hf1, mw⟩, h.keep mw id, hrl, hr.2⟩)
    have Hcall := hide hcall
    clear hcall
    have ho : outByte s k 0 = byt (s.data.toList.drop k) := rfl
    rw [ho]
    generalize byt (s.data.toList.drop k) = r at *
    obtain ⟨n, t, e'⟩ := r
    go_enter Tryd.func61, Tryd.ntmps61
    go_wp2_with fail
    refine (unhide Hcall).mono ?_
    rintro e w' ⟨rfl, t2, e2, w1, ⟨rfl, rfl, hc, hfr, mv⟩, m2, hI⟩
    have hB : w.heap.size < w1.heap.size := World.block_lt_of_cell? _ _ hc
    have hc' := (m2.cell (p := ⟨w.heap.size, 0, none⟩) hB (fun e => by have e' : w.heap.size = x := e; omega)).trans hc
    have hf' := (m2.frozen (p := ⟨w.heap.size, 0, none⟩) hB (fun e => by have e' : w.heap.size = x := e; omega)).trans hfr
    have Hm : Hid (Moved (fun i => i = x) w w') := hide ((mv.mono (fun _ h => h.elim)).trans m2 (fun i h => .inl h))
    have HI := hide hI
    clear m2 hI hc hfr mv h1
    have hset := World.cell?_setCell_same w' ⟨w.heap.size, 0, none⟩ (.int .u8 (n.toNat : Int)) hc'
    go_wp2_with fail
    (try simp only [Exit.inBlock, Exit.then])
    refine bodyPost_ret (v := .int .u8 (n.toNat : Int)) (by simp [results, Tryd.results61, go_sem, hset]) rfl ?_
    refine ⟨rfl, ?_, (unhide Hm).setCell (.inr (Nat.le_refl _)) _⟩
    exact (unhide HI).keep (F := fun i => i = w.heap.size) (Moved.put _ _ _ _) (fun e => by omega)
  · have hcall := try_fault_36 #[.pointer (some ⟨w.heap.size, 0, none⟩)] h1 hf
    have Hcall := hide hcall
    have H1 := hide h1
    clear hcall
    have ho : outByte s k f = (0, 0, f) := if_neg hf
    rw [ho]
    go_enter Tryd.func61, Tryd.ntmps61
    go_wp2_with fail
    refine (unhide Hcall).mono ?_
    rintro e w' ⟨rfl, rfl⟩
    go_wp2_with fail
    go_returns
    refine ⟨rfl, ?_, ?_⟩
    · unfold ahead
      rw [if_neg hf]
      exact h.keep (F := fun _ => False) ((Moved.refl _ _).alloc _) id
    · exact (Moved.refl _ _).alloc _

theorem outNum_lt (s : ByteArray) (k f : Nat) : (outNum s k f).1 < 2 ^ 64 := by
  unfold outNum
  split
  · exact num_lt
  · show 0 < 2 ^ 64
    decide
theorem in_int {w : World} {x : Nat} {s : ByteArray} {k f : Nat} (h : InAt w x s k f) :
    Calls Tryd.prog 108 #[.pointer (some ⟨x, 0, none⟩)] w fun e w' => e = .returned (.int .i64 (zag (outNum s k f).1)) ∧ Read w w' x s k (outNum s k f).2.1 (outNum s k f).2.2 := by
  go_enter Tryd.func108, Tryd.ntmps108
  go_wp2_with fail
  refine (in_num h).mono ?_
  rintro e w' ⟨rfl, hr⟩
  have Hr := hide hr
  clear hr
  go_wp2_with fail
  refine (unfolded_any _ (outNum_lt s k f) _).mono ?_
  rintro e w' ⟨rfl, rfl⟩
  go_wp2_with fail
  go_ret
  exact ⟨rfl, unhide Hr⟩
end Go.Proofs.YtkbmbcmcnpeabaaDoor

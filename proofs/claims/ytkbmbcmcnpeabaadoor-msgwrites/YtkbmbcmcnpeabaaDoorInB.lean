/- What the program's reader answers, the rest: Text, Left, Fault, End, Of; a nil reader. Condition: the text has no more than 2^40 bytes. -/
import Derived.Test.YtkbmbcmcnpeabaaDoorIn
namespace Go.Proofs.YtkbmbcmcnpeabaaDoor
open Pk Go.RowKit

/-- A text's reading. -/
def txt (most : Int) (l : List UInt8) : List UInt8 × Nat × Nat :=
  if (numTo most l).2.2 ≠ 0 then ([], 0, (numTo most l).2.2)
  else if (l.length : Int) - ((numTo most l).2.1 : Int) < ((numTo most l).1 : Int) then ([], 0, 7)
  else ((l.drop (numTo most l).2.1).take (numTo most l).1, (numTo most l).2.1 + (numTo most l).1, 0)
def outText (most : Int) (s : ByteArray) (k f : Nat) : List UInt8 × Nat × Nat := if f = 0 then txt most (s.data.toList.drop k) else ([], 0, f)
theorem txt_room (most : Int) (l : List UInt8) : (txt most l).2.1 ≤ l.length ∧ (txt most l).2.2 ≤ 8 := by
  have h := numTo_room most l
  unfold txt
  split
  · exact ⟨Nat.zero_le _, h.2⟩
  · split
    · exact ⟨Nat.zero_le _, by simp⟩
    · refine ⟨?_, Nat.zero_le _⟩
      show (numTo most l).2.1 + (numTo most l).1 ≤ l.length
      omega

theorem cut_bytes (s : ByteArray) (t n : Nat) : s.extract t (t + n) = ⟨((s.data.toList.drop t).take n).toArray⟩ := by
  apply bytes_ext
  rw [ByteArray.data_extract, Array.toList_extract, List.extract_eq_take_drop]
  simp

set_option maxRecDepth 100000 in
set_option maxHeartbeats 1000000 in
theorem close_text (s : ByteArray) (hs : s.size ≤ 1099511627776) (most : Int) (hm : -9223372036854775808 ≤ most ∧ most ≤ 9223372036854775807) (A B : Nat) (w : World) (ha : w.cell? ⟨A, 0, none⟩ = some (.int .i64 most)) (hc : w.cell? ⟨B, 0, none⟩ = some (.string ⟨#[]⟩)) (hf : w.frozen? ⟨B, 0, none⟩ = false) :
    Calls Tryd.prog 114 #[.string s, .pointer (some ⟨A, 0, none⟩), .pointer (some ⟨B, 0, none⟩)] w fun e w' => e = .returned (.tuple #[.int .i64 (((txt most s.data.toList).2.1 : Nat) : Int), .int .i64 (((txt most s.data.toList).2.2 : Nat) : Int)]) ∧
      w'.cell? ⟨B, 0, none⟩ = some (.string ⟨(txt most s.data.toList).1.toArray⟩) ∧ w'.frozen? ⟨B, 0, none⟩ = false ∧ Moved (fun i => i = B) w w' := by
  have hto : txt most s.data.toList = if (numTo most s.data.toList).2.2 ≠ 0 then ([], 0, (numTo most s.data.toList).2.2)
      else if (s.data.toList.length : Int) - ((numTo most s.data.toList).2.1 : Int) < ((numTo most s.data.toList).1 : Int) then ([], 0, 7)
      else ((s.data.toList.drop (numTo most s.data.toList).2.1).take (numTo most s.data.toList).1, (numTo most s.data.toList).2.1 + (numTo most s.data.toList).1, 0) := rfl
  have hroom := numTo_room most s.data.toList
  have hcall := numberTo_any s (by unfold maxLen; omega) most hm
  have hn : ((numTo most s.data.toList).1 : Int) ≤ 9223372036854775807 := by
    by_cases h0 : (numTo most s.data.toList).2.2 = 0
    · have := numTo_ok h0
      rw [this.1]
      omega
    · have : (numTo most s.data.toList).1 = 0 := by
        unfold numTo at h0 ⊢
        split
        · rfl
        · split
          · rfl
          · rename_i h1 h2
            rw [if_neg h1, if_neg h2] at h0
            exact absurd h0 (by simpa using h1)
      rw [this]; decide
  have hlen : s.data.toList.length = s.size := by simp
  rw [hlen] at hto hroom
  generalize numTo most s.data.toList = r at *
  obtain ⟨n, t, e⟩ := r
  have hcut := cut_bytes s t n
  generalize txt most s.data.toList = q at *
  simp only at hto hroom hcall hn
  have Hto := hide hto
  have Hcall := hide hcall
  have Hcut := hide hcut
  clear hto hcall hcut
  by_cases he : e = 0
  · have he1 : (((e : Nat) : Int) != 0) = false := by simp; omega
    by_cases h2 : (s.size : Int) - (t : Int) < (n : Int)
    · have hq : q = ([], 0, 7) := by rw [unhide Hto, if_neg (by simpa using he), if_pos h2]
      subst hq
      go_enter Tryd.func114, Tryd.ntmps114
      go_wp2_with fail
      refine (unhide Hcall _).mono ?_
      rintro e w' ⟨rfl, rfl⟩
      go_wp2_with fail
      go_ret2
      exact ⟨rfl, hc, hf, Moved.refl _ _⟩
    · have hq : q = ((s.data.toList.drop t).take n, t + n, 0) := by rw [unhide Hto, if_neg (by simpa using he), if_neg h2]
      subst hq
      have hle1 : (t : Int) + (n : Int) ≤ (s.size : Int) := by omega
      go_enter Tryd.func114, Tryd.ntmps114
      go_wp2_with fail
      refine (unhide Hcall _).mono ?_
      rintro e w' ⟨rfl, rfl⟩
      go_wp2_with fail
      refine (clone_any _ _ ?_).mono ?_
      · rw [ByteArray.size_extract]; omega
      rintro e w1 ⟨rfl, hb⟩
      have hB : B < w'.heap.size := World.block_lt_of_cell? _ _ hc
      have hc1 := (hb.cell (p := ⟨B, 0, none⟩) hB).trans hc
      have hf1 := (hb.frozen (p := ⟨B, 0, none⟩) hB).trans hf
      rw [unhide Hcut]
      have hset := World.cell?_setCell_same w1 ⟨B, 0, none⟩ (.string ⟨((s.data.toList.drop t).take n).toArray⟩) hc1
      have Hb := hide hb
      clear hb
      go_wp2_with fail
      go_ret2
      refine ⟨?_, hset, by rw [World.frozen?_setCell]; exact hf1, (Moved.of_below (F := fun i => i = B) (unhide Hb)).trans (Moved.put _ _ _ _) (fun _ h => .inl h)⟩
      first | rfl | simp
  · have he1 : (((e : Nat) : Int) != 0) = true := by simp; omega
    have hq : q = ([], 0, e) := by rw [unhide Hto, if_pos (by simpa using he)]
    subst hq
    go_enter Tryd.func114, Tryd.ntmps114
    go_wp2_with fail
    refine (unhide Hcall _).mono ?_
    rintro e w' ⟨rfl, rfl⟩
    go_wp2_with fail
    go_ret2
    exact ⟨rfl, hc, hf, Moved.refl _ _⟩
set_option maxRecDepth 100000 in
theorem in_text {w : World} {x : Nat} {s : ByteArray} {k f : Nat} (h : InAt w x s k f) (most : Int) (hm : -9223372036854775808 ≤ most ∧ most ≤ 9223372036854775807) :
    Calls Tryd.prog 110 #[.pointer (some ⟨x, 0, none⟩), .int .i64 most] w fun e w' => e = .returned (.string ⟨(outText most s k f).1.toArray⟩) ∧ Read w w' x s k (outText most s k f).2.1 (outText most s k f).2.2 := by
  have hx := h.lt
  have hk := h.le
  have mv1 : Moved (fun _ => False) w ((w.alloc (.cells #[.int .i64 most] 3)).alloc (.cells #[.string ⟨#[]⟩] 9)) := ((Moved.refl _ _).alloc _).alloc _
  have h1 : InAt ((w.alloc (.cells #[.int .i64 most] 3)).alloc (.cells #[.string ⟨#[]⟩] 9)) x s k f := h.keep mv1 id
  by_cases hf : f = 0
  · subst hf
    have hr := txt_room most (s.data.toList.drop k)
    have hrl : k + (txt most (s.data.toList.drop k)).2.1 ≤ s.size := by
      have := hr.1
      rw [List.length_drop] at this
      simp at this
      omega
    have hcall := try_any_34 (.pointer (some ⟨w.heap.size, 0, none⟩)) (.pointer (some ⟨w.heap.size + 1, 0, none⟩)) h1
      (fun t e' w1 => t = (txt most (s.data.toList.drop k)).2.1 ∧ e' = (txt most (s.data.toList.drop k)).2.2 ∧ w1.cell? ⟨w.heap.size + 1, 0, none⟩ = some (.string ⟨(txt most (s.data.toList.drop k)).1.toArray⟩) ∧ w1.frozen? ⟨w.heap.size + 1, 0, none⟩ = false ∧ Moved (fun _ => False) w w1)
      (fun w0 m0 => by
        have ha0 : w0.cell? ⟨w.heap.size, 0, none⟩ = some (.int .i64 most) := (m0.cell (p := ⟨w.heap.size, 0, none⟩) (by simp; omega) id).trans (by simp [World.cell?_alloc_lt])
        have hc0 : w0.cell? ⟨w.heap.size + 1, 0, none⟩ = some (.string ⟨#[]⟩) := (m0.cell (p := ⟨w.heap.size + 1, 0, none⟩) (by simp) id).trans (by simp)
        have hf0 : w0.frozen? ⟨w.heap.size + 1, 0, none⟩ = false := (m0.frozen (p := ⟨w.heap.size + 1, 0, none⟩) (by simp) id).trans (by simp)
        refine (close_text (s.extract k s.size) (Nat.le_trans (rest_size s k) h.small) most hm w.heap.size (w.heap.size + 1) w0 ha0 hc0 hf0).mono ?_
        rintro e w1 ⟨rfl, hc1, hf1, m1⟩
        rw [rest_list] at hc1 ⊢
        have mw : Moved (fun _ => False) w w1 := (mv1.trans m0 (fun _ h => h.elim)).trans m1 (fun i hi => .inr (by omega))
        exact ⟨_, _, rfl, ⟨rfl, rfl, hc1, hf1, mw⟩, h.keep mw id, hrl, hr.2⟩)
    have Hcall := hide hcall
    clear hcall
    have ho : outText most s k 0 = txt most (s.data.toList.drop k) := rfl
    rw [ho]
    generalize txt most (s.data.toList.drop k) = r at *
    obtain ⟨n, t, e'⟩ := r
    go_enter Tryd.func110, Tryd.ntmps110
    go_wp2_with fail
    refine (unhide Hcall).mono ?_
    rintro e w' ⟨rfl, t2, e2, w1, ⟨rfl, rfl, hc, hfr, mv⟩, m2, hI⟩
    have hB : w.heap.size + 1 < w1.heap.size := World.block_lt_of_cell? _ _ hc
    have hc' := (m2.cell (p := ⟨w.heap.size + 1, 0, none⟩) hB (fun e => by have e' : w.heap.size + 1 = x := e; omega)).trans hc
    have hf' := (m2.frozen (p := ⟨w.heap.size + 1, 0, none⟩) hB (fun e => by have e' : w.heap.size + 1 = x := e; omega)).trans hfr
    have Hm : Hid (Moved (fun i => i = x) w w') := hide ((mv.mono (fun _ h => h.elim)).trans m2 (fun i h => .inl h))
    have HI := hide hI
    clear m2 hI hc hfr mv h1 mv1
    have hset := World.cell?_setCell_same w' ⟨w.heap.size + 1, 0, none⟩ (.string ⟨n.toArray⟩) hc'
    go_wp2_with fail
    (try simp only [Exit.inBlock, Exit.then])
    refine bodyPost_ret (v := .string ⟨n.toArray⟩) (by simp [results, Tryd.results110, go_sem, hset]) rfl ?_
    refine ⟨rfl, ?_, (unhide Hm).setCell (.inr (Nat.le_succ _)) _⟩
    exact (unhide HI).keep (F := fun i => i = w.heap.size + 1) (Moved.put _ _ _ _) (fun e => by omega)
  · have hcall := try_fault_34 #[.pointer (some ⟨w.heap.size, 0, none⟩), .pointer (some ⟨w.heap.size + 1, 0, none⟩)] h1 hf
    have Hcall := hide hcall
    have H1 := hide h1
    have Hmv := hide mv1
    clear hcall
    have ho : outText most s k f = ([], 0, f) := if_neg hf
    rw [ho]
    go_enter Tryd.func110, Tryd.ntmps110
    go_wp2_with fail
    refine (unhide Hcall).mono ?_
    rintro e w' ⟨rfl, rfl⟩
    go_wp2_with fail
    go_returns
    refine ⟨rfl, ?_, ?_⟩
    · unfold ahead
      rw [if_neg hf]
      exact h.keep (F := fun _ => False) (((Moved.refl _ _).alloc _).alloc _) id
    · exact ((Moved.refl _ _).alloc _).alloc _


theorem left_nil (w : World) : Calls Tryd.prog 71 #[.pointer none] w fun e w' => e = .returned (.int .i64 0) ∧ w' = w := by
  go_enter Tryd.func71, Tryd.ntmps71
  go_wp2
  go_ret
  exact ⟨rfl, rfl⟩
theorem left_any {w : World} {x : Nat} {s : ByteArray} {k f : Nat} (h : InAt w x s k f) :
    Calls Tryd.prog 71 #[.pointer (some ⟨x, 0, none⟩)] w fun e w' => e = .returned (.int .i64 ((s.size - k : Nat) : Int)) ∧ Moved (fun _ => False) w w' := by
  have h0 := h.text; have h1 := h.place; have hle := h.le; have hsm := h.small
  go_enter Tryd.func71, Tryd.ntmps71
  go_wp2_with fail
  go_quiet (fail)
  go_wp2_with fail
  go_ret
  refine ⟨ret_i64 ?_, ⟨rfl, rfl, rfl, Nat.le_refl _, fun _ _ _ => rfl⟩⟩
  first | omega | (simp [wrap64]; omega)
theorem fault_nil (w : World) : Calls Tryd.prog 70 #[.pointer none] w fun e w' => e = .returned (.tuple #[.int .i64 0, .int .i64 0]) ∧ w' = w := by
  go_enter Tryd.func70, Tryd.ntmps70
  go_wp2
  go_ret2
  exact ⟨rfl, rfl⟩
theorem fault_any {w : World} {x : Nat} {s : ByteArray} {k f : Nat} (h : InAt w x s k f) :
    Calls Tryd.prog 70 #[.pointer (some ⟨x, 0, none⟩)] w fun e w' => e = .returned (.tuple #[.int .i64 (f : Int), .int .i64 ((if f = 0 then 0 else k : Nat) : Int)]) ∧ Moved (fun _ => False) w w' := by
  have h0 := h.text; have h1 := h.place; have h2 := h.fault; have hle := h.le; have hsm := h.small
  by_cases hf : f = 0
  · subst hf
    go_enter Tryd.func70, Tryd.ntmps70
    go_wp2_with fail
    go_ret2
    exact ⟨rfl, Moved.refl _ _⟩
  · have hb : (((f : Nat) : Int) == 0) = false := by simp; omega
    rw [if_neg hf]
    go_enter Tryd.func70, Tryd.ntmps70
    go_wp2_with fail
    go_quiet (fail)
    go_wp2_with fail
    go_ret2
    exact ⟨rfl, ⟨rfl, rfl, rfl, Nat.le_refl _, fun _ _ _ => rfl⟩⟩
/-- What End tells. -/
def endOf (s : ByteArray) (k f : Nat) : Nat := if f ≠ 0 then f else if k < s.size then 8 else 0
theorem end_nil (w : World) : Calls Tryd.prog 63 #[.pointer none] w fun e w' => e = .returned (.int .i64 0) ∧ w' = w := by
  go_enter Tryd.func63, Tryd.ntmps63
  go_wp2_with fail
  refine (fault_nil _).mono ?_
  rintro e w' ⟨rfl, rfl⟩
  go_wp2_with fail
  refine (left_nil _).mono ?_
  rintro e w' ⟨rfl, rfl⟩
  go_wp2_with fail
  go_ret
  exact ⟨rfl, rfl⟩
theorem end_any {w : World} {x : Nat} {s : ByteArray} {k f : Nat} (h : InAt w x s k f) :
    Calls Tryd.prog 63 #[.pointer (some ⟨x, 0, none⟩)] w fun e w' => e = .returned (.int .i64 ((endOf s k f : Nat) : Int)) ∧ Moved (fun _ => False) w w' := by
  have hle := h.le
  by_cases hf : f = 0
  · subst hf
    by_cases hk : k < s.size
    · have hg : (0 : Int) < ((s.size - k : Nat) : Int) := by omega
      have he : endOf s k 0 = 8 := by unfold endOf; rw [if_neg (by simp), if_pos hk]
      rw [he]
      generalize s.size - k = d at *
      go_enter Tryd.func63, Tryd.ntmps63
      go_wp2_with fail
      refine (fault_any h).mono ?_
      rintro e w1 ⟨rfl, hm⟩
      have h2 := h.keep hm id
      have Hm := hide hm
      clear hm
      simp only [if_true]
      go_wp2_with fail
      refine (left_any h2).mono ?_
      rintro e w2 ⟨rfl, hm2⟩
      have Hm2 := hide hm2
      clear hm2 h2
      go_wp2_with fail
      go_ret
      exact ⟨rfl, (unhide Hm).trans (unhide Hm2) (fun _ h => .inl h)⟩
    · have hkz : s.size - k = 0 := by omega
      have he : endOf s k 0 = 0 := by unfold endOf; rw [if_neg (by simp), if_neg hk]
      rw [he]
      go_enter Tryd.func63, Tryd.ntmps63
      go_wp2_with fail
      refine (fault_any h).mono ?_
      rintro e w1 ⟨rfl, hm⟩
      have h2 := h.keep hm id
      have Hm := hide hm
      clear hm
      simp only [if_true]
      go_wp2_with fail
      refine (left_any h2).mono ?_
      rintro e w2 ⟨rfl, hm2⟩
      have Hm2 := hide hm2
      clear hm2 h2
      rw [hkz]
      go_wp2_with fail
      go_ret
      exact ⟨rfl, (unhide Hm).trans (unhide Hm2) (fun _ h => .inl h)⟩
  · have hb : (((f : Nat) : Int) != 0) = true := by simp; omega
    have he : endOf s k f = f := by unfold endOf; rw [if_pos hf]
    rw [he]
    go_enter Tryd.func63, Tryd.ntmps63
    go_wp2_with fail
    refine (fault_any h).mono ?_
    rintro e w1 ⟨rfl, hm⟩
    have Hm := hide hm
    clear hm
    rw [if_neg hf]
    go_wp2_with fail
    go_ret
    exact ⟨rfl, unhide Hm⟩
theorem of_any (s : ByteArray) (hs : s.size ≤ 1099511627776) (w : World) :
    Calls Tryd.prog 35 #[.string s] w fun e w' => e = .returned (.pointer (some ⟨w.heap.size, 0, none⟩)) ∧ InAt w' w.heap.size s 0 0 ∧ Moved (fun _ => False) w w' := by
  go_enter Tryd.func35, Tryd.ntmps35
  go_wp2_with fail
  go_ret
  refine ⟨rfl, ⟨by simp, by simp, by simp, by simp, by simp, Nat.zero_le _, hs, Nat.zero_le _⟩, (Moved.refl _ _).alloc _⟩
theorem num_nil_in (w : World) : Calls Tryd.prog 111 #[.pointer none] w fun e w' => e = .returned (.int .u64 0) ∧ Moved (fun _ => False) w w' := by
  go_enter Tryd.func111, Tryd.ntmps111
  go_wp2_with fail
  refine (try_nil_30 _ _).mono ?_
  rintro e w' ⟨rfl, rfl⟩
  go_wp2_with fail
  go_returns
  exact ⟨rfl, (Moved.refl _ _).alloc _⟩
theorem most_nil_in (most : Int) (w : World) : Calls Tryd.prog 113 #[.pointer none, .int .i64 most] w fun e w' => e = .returned (.int .i64 0) ∧ Moved (fun _ => False) w w' := by
  go_enter Tryd.func113, Tryd.ntmps113
  go_wp2_with fail
  refine (try_nil_32 _ _).mono ?_
  rintro e w' ⟨rfl, rfl⟩
  go_wp2_with fail
  go_returns
  exact ⟨rfl, ((Moved.refl _ _).alloc _).alloc _⟩
theorem text_nil_in (most : Int) (w : World) : Calls Tryd.prog 110 #[.pointer none, .int .i64 most] w fun e w' => e = .returned (.string ⟨#[]⟩) ∧ Moved (fun _ => False) w w' := by
  go_enter Tryd.func110, Tryd.ntmps110
  go_wp2_with fail
  refine (try_nil_34 _ _).mono ?_
  rintro e w' ⟨rfl, rfl⟩
  go_wp2_with fail
  go_returns
  exact ⟨rfl, ((Moved.refl _ _).alloc _).alloc _⟩
theorem byte_nil_in (w : World) : Calls Tryd.prog 61 #[.pointer none] w fun e w' => e = .returned (.int .u8 0) ∧ Moved (fun _ => False) w w' := by
  go_enter Tryd.func61, Tryd.ntmps61
  go_wp2_with fail
  refine (try_nil_36 _ _).mono ?_
  rintro e w' ⟨rfl, rfl⟩
  go_wp2_with fail
  go_returns
  exact ⟨rfl, (Moved.refl _ _).alloc _⟩
theorem int_nil_in (w : World) : Calls Tryd.prog 108 #[.pointer none] w fun e w' => e = .returned (.int .i64 0) ∧ Moved (fun _ => False) w w' := by
  go_enter Tryd.func108, Tryd.ntmps108
  go_wp2_with fail
  refine (num_nil_in _).mono ?_
  rintro e w' ⟨rfl, hm⟩
  have Hm := hide hm
  clear hm
  go_wp2_with fail
  refine (unfolded_any 0 (by decide) _).mono ?_
  rintro e w' ⟨rfl, rfl⟩
  go_wp2_with fail
  go_ret
  exact ⟨rfl, unhide Hm⟩
end Go.Proofs.YtkbmbcmcnpeabaaDoor

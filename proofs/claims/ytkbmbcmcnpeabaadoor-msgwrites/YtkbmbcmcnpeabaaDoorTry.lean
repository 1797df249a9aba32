/- What a reader's try does with each of its four readings: at a fault, and by a nil reader, nothing; else the reading is done on what is left, and the reader goes on by what it took, or keeps the fault. Condition: what is asked of the reading, in every world that is like this one. -/
import Derived.Test.YtkbmbcmcnpeabaaDoorNumber
import Derived.Deep.RegionWith
import Derived.Deep.CutRange
import Derived.Deep.QuietTactic
import Derived.BigQuiet
namespace Go.Proofs.YtkbmbcmcnpeabaaDoor
open Pk Go.RowKit

/-- Block x holds a reader of s that stands at k, with the fault f. -/
structure InAt (w : World) (x : Nat) (s : ByteArray) (k f : Nat) : Prop where
  text : w.cell? ⟨x, 0, none⟩ = some (.string s)
  place : w.cell? ⟨x, 1, none⟩ = some (.int .i64 (k : Int))
  fault : w.cell? ⟨x, 2, none⟩ = some (.int .i64 (f : Int))
  free1 : w.frozen? ⟨x, 1, none⟩ = false
  free2 : w.frozen? ⟨x, 2, none⟩ = false
  le : k ≤ s.size
  small : s.size ≤ 1099511627776
  err : f ≤ 8

theorem InAt.lt {w : World} {x : Nat} {s : ByteArray} {k f : Nat} (h : InAt w x s k f) : x < w.heap.size := World.block_lt_of_cell? _ _ h.text
theorem InAt.keep {F : Nat → Prop} {w w' : World} {x : Nat} {s : ByteArray} {k f : Nat} (h : InAt w x s k f) (m : Moved F w w') (hF : ¬ F x) : InAt w' x s k f :=
  ⟨(m.cell (p := ⟨x, 0, none⟩) h.lt hF).trans h.text, (m.cell (p := ⟨x, 1, none⟩) h.lt hF).trans h.place, (m.cell (p := ⟨x, 2, none⟩) h.lt hF).trans h.fault, (m.frozen (p := ⟨x, 1, none⟩) h.lt hF).trans h.free1, (m.frozen (p := ⟨x, 2, none⟩) h.lt hF).trans h.free2, h.le, h.small, h.err⟩
theorem InAt.go {w : World} {x : Nat} {s : ByteArray} {k f : Nat} (h : InAt w x s k f) (j : Nat) (hj : j ≤ s.size) : InAt (w.setCell ⟨x, 1, none⟩ (.int .i64 (j : Int))) x s j f :=
  ⟨(World.cell?_setCell_other _ _ _ _ (fun e => by simp at e)).trans h.text, World.cell?_setCell_same _ _ _ h.place, (World.cell?_setCell_other _ _ _ _ (fun e => by simp at e)).trans h.fault, by rw [World.frozen?_setCell]; exact h.free1, by rw [World.frozen?_setCell]; exact h.free2, hj, h.small, h.err⟩
theorem InAt.fail {w : World} {x : Nat} {s : ByteArray} {k f : Nat} (h : InAt w x s k f) (e : Nat) (he : e ≤ 8) : InAt (w.setCell ⟨x, 2, none⟩ (.int .i64 (e : Int))) x s k e :=
  ⟨(World.cell?_setCell_other _ _ _ _ (fun e => by simp at e)).trans h.text, (World.cell?_setCell_other _ _ _ _ (fun e => by simp at e)).trans h.place, World.cell?_setCell_same _ _ _ h.fault, by rw [World.frozen?_setCell]; exact h.free1, by rw [World.frozen?_setCell]; exact h.free2, h.le, h.small, he⟩
theorem Moved.put (w : World) (x j : Nat) (u : Value) : Moved (fun i => i = x) w (w.setCell ⟨x, j, none⟩ u) := (Moved.refl (fun i => i = x) w).setCell (p := ⟨x, j, none⟩) (.inl rfl) u
/-- A reader behind a reading that took t bytes, or had the error e. -/
def ahead (k t e : Nat) : Nat := if e = 0 then k + t else k
def Read (w w' : World) (x : Nat) (s : ByteArray) (k t e : Nat) : Prop := InAt w' x s (ahead k t e) e ∧ Moved (fun i => i = x) w w'

theorem try_nil_30 (caps : Array Value) (w : World) : Calls Tryd.prog 68 #[.pointer none, .func (.func 116) #[] caps] w fun e w' => e = .returned (.tuple #[]) ∧ w' = w := by
  go_enter Tryd.func68, Tryd.ntmps68
  go_wp2_with fail
  (try simp only [Exit.inBlock, Exit.then])
  refine bodyPost_ret (results_none rfl _ _ _) rfl ?_
  exact ⟨rfl, rfl⟩
theorem try_fault_30 (caps : Array Value) {w : World} {x : Nat} {s : ByteArray} {k f : Nat} (h : InAt w x s k f) (hf : f ≠ 0) :
    Calls Tryd.prog 68 #[.pointer (some ⟨x, 0, none⟩), .func (.func 116) #[] caps] w fun e w' => e = .returned (.tuple #[]) ∧ w' = w := by
  have h0 := h.text; have h1 := h.place; have h2 := h.fault
  have hb : (((f : Nat) : Int) != 0) = true := by simp; omega
  go_enter Tryd.func68, Tryd.ntmps68
  go_wp2_with fail
  (try simp only [Exit.inBlock, Exit.then])
  refine bodyPost_ret (results_none rfl _ _ _) rfl ?_
  exact ⟨rfl, rfl⟩
set_option maxRecDepth 100000 in
set_option maxHeartbeats 1000000 in
theorem try_any_30 (p1 : Value) {w : World} {x : Nat} {s : ByteArray} {k : Nat} (h : InAt w x s k 0) (R : Nat → Nat → World → Prop)
    (hcl : ∀ w0, Moved (fun _ => False) w w0 → Calls Tryd.prog 116 #[.string (s.extract k s.size), p1] w0 fun e w1 => ∃ t e' : Nat, e = .returned (.tuple #[.int .i64 (t : Int), .int .i64 (e' : Int)]) ∧ R t e' w1 ∧ InAt w1 x s k 0 ∧ k + t ≤ s.size ∧ e' ≤ 8) :
    Calls Tryd.prog 68 #[.pointer (some ⟨x, 0, none⟩), .func (.func 116) #[] #[p1]] w fun e w' => e = .returned (.tuple #[]) ∧ ∃ t e' w1, R t e' w1 ∧ Moved (fun i => i = x) w1 w' ∧ InAt w' x s (ahead k t e') e' := by
  have h0 := h.text; have h1 := h.place; have h2 := h.fault; have hle := h.le; have hsm := h.small
  have Hcl := hide hcl
  clear hcl
  go_enter Tryd.func68, Tryd.ntmps68
  go_upto_region 1 with fail
  go_cut [4, 5] from 15 to 28 (fun s4 s5 wx => ∃ t e' : Nat, s4 = .int .i64 (t : Int) ∧ s5 = .int .i64 (e' : Int) ∧ R t e' wx ∧ InAt wx x s k 0 ∧ k + t ≤ s.size ∧ e' ≤ 8)
  case first =>
    have hle2 : (k : Int) ≤ (s.size : Int) := by omega
    go_region_with (go_at_call 116; refine (unhide Hcl _ ?_).mono ?_; exact (Moved.refl _ _).drew; rintro e w' ⟨t, e', rfl, hR⟩)
    all_goals (go_wp2_with fail; go_meet; exact ⟨t, e', rfl, rfl, hR⟩)
  case rest =>
    obtain ⟨t, e', rfl, rfl, hR, hI, ht, he⟩ := hcut
    have c0 := hI.text; have c1 := hI.place; have c2 := hI.fault; have c3 := hI.free1; have c4 := hI.free2
    have HI := hide hI
    have HR := hide hR
    clear hI hR
    by_cases h0 : e' = 0
    · have hb : (((e' : Nat) : Int) != 0) = false := by simp; omega
      go_wp2_with fail
      go_end0
      refine ⟨rfl, t, e', _, unhide HR, Moved.put _ _ _ _, ?_⟩
      unfold ahead
      rw [if_pos h0]
      subst h0
      exact (unhide HI).go _ ht
    · have hb : (((e' : Nat) : Int) != 0) = true := by simp; omega
      go_wp2_with fail
      (try simp only [Exit.inBlock, Exit.then])
      refine bodyPost_ret (results_none rfl _ _ _) rfl ?_
      refine ⟨rfl, t, e', _, unhide HR, Moved.put _ _ _ _, ?_⟩
      unfold ahead
      rw [if_neg h0]
      exact (unhide HI).fail _ he

theorem try_nil_32 (caps : Array Value) (w : World) : Calls Tryd.prog 68 #[.pointer none, .func (.func 118) #[] caps] w fun e w' => e = .returned (.tuple #[]) ∧ w' = w := by
  go_enter Tryd.func68, Tryd.ntmps68
  go_wp2_with fail
  (try simp only [Exit.inBlock, Exit.then])
  refine bodyPost_ret (results_none rfl _ _ _) rfl ?_
  exact ⟨rfl, rfl⟩
theorem try_fault_32 (caps : Array Value) {w : World} {x : Nat} {s : ByteArray} {k f : Nat} (h : InAt w x s k f) (hf : f ≠ 0) :
    Calls Tryd.prog 68 #[.pointer (some ⟨x, 0, none⟩), .func (.func 118) #[] caps] w fun e w' => e = .returned (.tuple #[]) ∧ w' = w := by
  have h0 := h.text; have h1 := h.place; have h2 := h.fault
  have hb : (((f : Nat) : Int) != 0) = true := by simp; omega
  go_enter Tryd.func68, Tryd.ntmps68
  go_wp2_with fail
  (try simp only [Exit.inBlock, Exit.then])
  refine bodyPost_ret (results_none rfl _ _ _) rfl ?_
  exact ⟨rfl, rfl⟩
set_option maxRecDepth 100000 in
set_option maxHeartbeats 1000000 in
theorem try_any_32 (p1 p2 : Value) {w : World} {x : Nat} {s : ByteArray} {k : Nat} (h : InAt w x s k 0) (R : Nat → Nat → World → Prop)
    (hcl : ∀ w0, Moved (fun _ => False) w w0 → Calls Tryd.prog 118 #[.string (s.extract k s.size), p1, p2] w0 fun e w1 => ∃ t e' : Nat, e = .returned (.tuple #[.int .i64 (t : Int), .int .i64 (e' : Int)]) ∧ R t e' w1 ∧ InAt w1 x s k 0 ∧ k + t ≤ s.size ∧ e' ≤ 8) :
    Calls Tryd.prog 68 #[.pointer (some ⟨x, 0, none⟩), .func (.func 118) #[] #[p1, p2]] w fun e w' => e = .returned (.tuple #[]) ∧ ∃ t e' w1, R t e' w1 ∧ Moved (fun i => i = x) w1 w' ∧ InAt w' x s (ahead k t e') e' := by
  have h0 := h.text; have h1 := h.place; have h2 := h.fault; have hle := h.le; have hsm := h.small
  have Hcl := hide hcl
  clear hcl
  go_enter Tryd.func68, Tryd.ntmps68
  go_upto_region 1 with fail
  go_cut [4, 5] from 15 to 28 (fun s4 s5 wx => ∃ t e' : Nat, s4 = .int .i64 (t : Int) ∧ s5 = .int .i64 (e' : Int) ∧ R t e' wx ∧ InAt wx x s k 0 ∧ k + t ≤ s.size ∧ e' ≤ 8)
  case first =>
    have hle2 : (k : Int) ≤ (s.size : Int) := by omega
    go_region_with (go_at_call 118; refine (unhide Hcl _ ?_).mono ?_; exact (Moved.refl _ _).drew; rintro e w' ⟨t, e', rfl, hR⟩)
    all_goals (go_wp2_with fail; go_meet; exact ⟨t, e', rfl, rfl, hR⟩)
  case rest =>
    obtain ⟨t, e', rfl, rfl, hR, hI, ht, he⟩ := hcut
    have c0 := hI.text; have c1 := hI.place; have c2 := hI.fault; have c3 := hI.free1; have c4 := hI.free2
    have HI := hide hI
    have HR := hide hR
    clear hI hR
    by_cases h0 : e' = 0
    · have hb : (((e' : Nat) : Int) != 0) = false := by simp; omega
      go_wp2_with fail
      go_end0
      refine ⟨rfl, t, e', _, unhide HR, Moved.put _ _ _ _, ?_⟩
      unfold ahead
      rw [if_pos h0]
      subst h0
      exact (unhide HI).go _ ht
    · have hb : (((e' : Nat) : Int) != 0) = true := by simp; omega
      go_wp2_with fail
      (try simp only [Exit.inBlock, Exit.then])
      refine bodyPost_ret (results_none rfl _ _ _) rfl ?_
      refine ⟨rfl, t, e', _, unhide HR, Moved.put _ _ _ _, ?_⟩
      unfold ahead
      rw [if_neg h0]
      exact (unhide HI).fail _ he

theorem try_nil_34 (caps : Array Value) (w : World) : Calls Tryd.prog 68 #[.pointer none, .func (.func 114) #[] caps] w fun e w' => e = .returned (.tuple #[]) ∧ w' = w := by
  go_enter Tryd.func68, Tryd.ntmps68
  go_wp2_with fail
  (try simp only [Exit.inBlock, Exit.then])
  refine bodyPost_ret (results_none rfl _ _ _) rfl ?_
  exact ⟨rfl, rfl⟩
theorem try_fault_34 (caps : Array Value) {w : World} {x : Nat} {s : ByteArray} {k f : Nat} (h : InAt w x s k f) (hf : f ≠ 0) :
    Calls Tryd.prog 68 #[.pointer (some ⟨x, 0, none⟩), .func (.func 114) #[] caps] w fun e w' => e = .returned (.tuple #[]) ∧ w' = w := by
  have h0 := h.text; have h1 := h.place; have h2 := h.fault
  have hb : (((f : Nat) : Int) != 0) = true := by simp; omega
  go_enter Tryd.func68, Tryd.ntmps68
  go_wp2_with fail
  (try simp only [Exit.inBlock, Exit.then])
  refine bodyPost_ret (results_none rfl _ _ _) rfl ?_
  exact ⟨rfl, rfl⟩
set_option maxRecDepth 100000 in
set_option maxHeartbeats 1000000 in
theorem try_any_34 (p1 p2 : Value) {w : World} {x : Nat} {s : ByteArray} {k : Nat} (h : InAt w x s k 0) (R : Nat → Nat → World → Prop)
    (hcl : ∀ w0, Moved (fun _ => False) w w0 → Calls Tryd.prog 114 #[.string (s.extract k s.size), p1, p2] w0 fun e w1 => ∃ t e' : Nat, e = .returned (.tuple #[.int .i64 (t : Int), .int .i64 (e' : Int)]) ∧ R t e' w1 ∧ InAt w1 x s k 0 ∧ k + t ≤ s.size ∧ e' ≤ 8) :
    Calls Tryd.prog 68 #[.pointer (some ⟨x, 0, none⟩), .func (.func 114) #[] #[p1, p2]] w fun e w' => e = .returned (.tuple #[]) ∧ ∃ t e' w1, R t e' w1 ∧ Moved (fun i => i = x) w1 w' ∧ InAt w' x s (ahead k t e') e' := by
  have h0 := h.text; have h1 := h.place; have h2 := h.fault; have hle := h.le; have hsm := h.small
  have Hcl := hide hcl
  clear hcl
  go_enter Tryd.func68, Tryd.ntmps68
  go_upto_region 1 with fail
  go_cut [4, 5] from 15 to 28 (fun s4 s5 wx => ∃ t e' : Nat, s4 = .int .i64 (t : Int) ∧ s5 = .int .i64 (e' : Int) ∧ R t e' wx ∧ InAt wx x s k 0 ∧ k + t ≤ s.size ∧ e' ≤ 8)
  case first =>
    have hle2 : (k : Int) ≤ (s.size : Int) := by omega
    go_region_with (go_at_call 114; refine (unhide Hcl _ ?_).mono ?_; exact (Moved.refl _ _).drew; rintro e w' ⟨t, e', rfl, hR⟩)
    all_goals (go_wp2_with fail; go_meet; exact ⟨t, e', rfl, rfl, hR⟩)
  case rest =>
    obtain ⟨t, e', rfl, rfl, hR, hI, ht, he⟩ := hcut
    have c0 := hI.text; have c1 := hI.place; have c2 := hI.fault; have c3 := hI.free1; have c4 := hI.free2
    have HI := hide hI
    have HR := hide hR
    clear hI hR
    by_cases h0 : e' = 0
    · have hb : (((e' : Nat) : Int) != 0) = false := by simp; omega
      go_wp2_with fail
      go_end0
      refine ⟨rfl, t, e', _, unhide HR, Moved.put _ _ _ _, ?_⟩
      unfold ahead
      rw [if_pos h0]
      subst h0
      exact (unhide HI).go _ ht
    · have hb : (((e' : Nat) : Int) != 0) = true := by simp; omega
      go_wp2_with fail
      (try simp only [Exit.inBlock, Exit.then])
      refine bodyPost_ret (results_none rfl _ _ _) rfl ?_
      refine ⟨rfl, t, e', _, unhide HR, Moved.put _ _ _ _, ?_⟩
      unfold ahead
      rw [if_neg h0]
      exact (unhide HI).fail _ he

theorem try_nil_36 (caps : Array Value) (w : World) : Calls Tryd.prog 68 #[.pointer none, .func (.func 69) #[] caps] w fun e w' => e = .returned (.tuple #[]) ∧ w' = w := by
  go_enter Tryd.func68, Tryd.ntmps68
  go_wp2_with fail
  (try simp only [Exit.inBlock, Exit.then])
  refine bodyPost_ret (results_none rfl _ _ _) rfl ?_
  exact ⟨rfl, rfl⟩
theorem try_fault_36 (caps : Array Value) {w : World} {x : Nat} {s : ByteArray} {k f : Nat} (h : InAt w x s k f) (hf : f ≠ 0) :
    Calls Tryd.prog 68 #[.pointer (some ⟨x, 0, none⟩), .func (.func 69) #[] caps] w fun e w' => e = .returned (.tuple #[]) ∧ w' = w := by
  have h0 := h.text; have h1 := h.place; have h2 := h.fault
  have hb : (((f : Nat) : Int) != 0) = true := by simp; omega
  go_enter Tryd.func68, Tryd.ntmps68
  go_wp2_with fail
  (try simp only [Exit.inBlock, Exit.then])
  refine bodyPost_ret (results_none rfl _ _ _) rfl ?_
  exact ⟨rfl, rfl⟩
set_option maxRecDepth 100000 in
set_option maxHeartbeats 1000000 in
theorem try_any_36 (p1 : Value) {w : World} {x : Nat} {s : ByteArray} {k : Nat} (h : InAt w x s k 0) (R : Nat → Nat → World → Prop)
    (hcl : ∀ w0, Moved (fun _ => False) w w0 → Calls Tryd.prog 69 #[.string (s.extract k s.size), p1] w0 fun e w1 => ∃ t e' : Nat, e = .returned (.tuple #[.int .i64 (t : Int), .int .i64 (e' : Int)]) ∧ R t e' w1 ∧ InAt w1 x s k 0 ∧ k + t ≤ s.size ∧ e' ≤ 8) :
    Calls Tryd.prog 68 #[.pointer (some ⟨x, 0, none⟩), .func (.func 69) #[] #[p1]] w fun e w' => e = .returned (.tuple #[]) ∧ ∃ t e' w1, R t e' w1 ∧ Moved (fun i => i = x) w1 w' ∧ InAt w' x s (ahead k t e') e' := by
  have h0 := h.text; have h1 := h.place; have h2 := h.fault; have hle := h.le; have hsm := h.small
  have Hcl := hide hcl
  clear hcl
  go_enter Tryd.func68, Tryd.ntmps68
  go_upto_region 1 with fail
  go_cut [4, 5] from 15 to 28 (fun s4 s5 wx => ∃ t e' : Nat, s4 = .int .i64 (t : Int) ∧ s5 = .int .i64 (e' : Int) ∧ R t e' wx ∧ InAt wx x s k 0 ∧ k + t ≤ s.size ∧ e' ≤ 8)
  case first =>
    have hle2 : (k : Int) ≤ (s.size : Int) := by omega
    go_region_with (go_at_call 69; refine (unhide Hcl _ ?_).mono ?_; exact (Moved.refl _ _).drew; rintro e w' ⟨t, e', rfl, hR⟩)
    all_goals (go_wp2_with fail; go_meet; exact ⟨t, e', rfl, rfl, hR⟩)
  case rest =>
    obtain ⟨t, e', rfl, rfl, hR, hI, ht, he⟩ := hcut
    have c0 := hI.text; have c1 := hI.place; have c2 := hI.fault; have c3 := hI.free1; have c4 := hI.free2
    have HI := hide hI
    have HR := hide hR
    clear hI hR
    by_cases h0 : e' = 0
    · have hb : (((e' : Nat) : Int) != 0) = false := by simp; omega
      go_wp2_with fail
      go_end0
      refine ⟨rfl, t, e', _, unhide HR, Moved.put _ _ _ _, ?_⟩
      unfold ahead
      rw [if_pos h0]
      subst h0
      exact (unhide HI).go _ ht
    · have hb : (((e' : Nat) : Int) != 0) = true := by simp; omega
      go_wp2_with fail
      (try simp only [Exit.inBlock, Exit.then])
      refine bodyPost_ret (results_none rfl _ _ _) rfl ?_
      refine ⟨rfl, t, e', _, unhide HR, Moved.put _ _ _ _, ?_⟩
      unfold ahead
      rw [if_neg h0]
      exact (unhide HI).fail _ he
end Go.Proofs.YtkbmbcmcnpeabaaDoor

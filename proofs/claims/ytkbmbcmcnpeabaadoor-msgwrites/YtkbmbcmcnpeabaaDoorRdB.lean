/- The program's reader of messages: what stands in memory while it reads, and a number up to a bound. No conditions. -/
import Derived.Test.YtkbmbcmcnpeabaaDoorRd
namespace Go.Proofs.YtkbmbcmcnpeabaaDoor
open Pk Go.RowKit

/-- A reader at r, whose In is at x, and a message at B, all of them new since w0; no fault has come. -/
structure RSt (w0 w : World) (r x B : Nat) (vs : List Value) (s : ByteArray) (k : Nat) : Prop where
  moved : Moved (fun i => i = x ∨ i = B) w0 w
  row : RowAt w B vs
  rd : w.cell? ⟨r, 0, none⟩ = some (.pointer (some ⟨x, 0, none⟩))
  inn : InAt w x s k 0
  rB : r ≠ B
  xB : x ≠ B
  rx : r ≠ x
theorem RSt.lt {w0 w : World} {r x B : Nat} {vs : List Value} {s : ByteArray} {k : Nat} (h : RSt w0 w r x B vs s k) : r < w.heap.size := World.block_lt_of_cell? _ _ h.rd
theorem RSt.read {w0 w w' : World} {r x B : Nat} {vs : List Value} {s : ByteArray} {k j : Nat} (h : RSt w0 w r x B vs s k) (m : Moved (fun i => i = x) w w') (hi : InAt w' x s j 0) : RSt w0 w' r x B vs s j :=
  ⟨h.moved.trans m fun _ hi => .inl (.inl hi), h.row.keep m (fun e => h.xB e.symm), (m.cell (p := ⟨r, 0, none⟩) h.lt h.rx).trans h.rd, hi, h.rB, h.xB, h.rx⟩
theorem RSt.still {w0 w w' : World} {r x B : Nat} {vs : List Value} {s : ByteArray} {k : Nat} (h : RSt w0 w r x B vs s k) (m : Moved (fun _ => False) w w') : RSt w0 w' r x B vs s k :=
  h.read (m.mono fun _ f => f.elim) (h.inn.keep m fun f => f)

theorem rupTo_any {w0 w : World} {r x B : Nat} {vs : List Value} {s : ByteArray} {k : Nat} (h : RSt w0 w r x B vs s k) (most : Int) (hm : -9223372036854775808 ≤ most ∧ most ≤ 9223372036854775807) :
    Calls Tryd.prog 109 #[.pointer (some ⟨r, 0, none⟩), .int .i64 most] w fun e w' =>
      (e = .returned (.int .i64 (((outMost most s k 0).1 : Nat) : Int)) ∧ (outMost most s k 0).2.2 = 0 ∧ RSt w0 w' r x B vs s (ahead k (outMost most s k 0).2.1 0) ∧ Moved (fun i => i = x) w w') ∨
      (e = .panicked (refused (((outMost most s k 0).2.2 : Nat) : Int)) ∧ (outMost most s k 0).2.2 ≠ 0 ∧ Moved (fun i => i = x ∨ i = B) w0 w') := by
  have hrd := h.rd
  have hcon := in_most h.inn most hm
  generalize outMost most s k 0 = o at *
  obtain ⟨o1, o2, o3⟩ := o
  have HC := hide hcon
  have H := hide h
  clear h hcon
  go_enter Tryd.func109, Tryd.ntmps109
  go_wp2_with fail
  refine (unhide HC).mono ?_
  rintro e w1 ⟨rfl, hi, hmv⟩
  have hr1 := (hmv.cell (p := ⟨r, 0, none⟩) (unhide H).lt (unhide H).rx).trans hrd
  have HI := hide hi
  have HV := hide hmv
  clear hi hmv hrd hm HC
  go_wp2_with fail
  refine (check_any (unhide HI) hr1).mono ?_
  rintro e w2 ⟨m2, hh⟩
  have M2 := hide m2
  clear m2 hr1
  rcases hh with ⟨rfl, h0⟩ | ⟨rfl, h0⟩
  · have h0' : o3 = 0 := h0
    subst h0'
    go_wp2_with fail
    go_ret
    have hfin := ((unhide H).read (unhide HV) (unhide HI)).still (unhide M2)
    have hmv := (unhide HV).trans (unhide M2) fun _ f => f.elim
    first | exact ⟨rfl, hfin, hmv⟩ | exact ⟨rfl, rfl, hfin, hmv⟩
  · have H0 := hide h0
    clear h0
    go_wp2_with fail
    exact ⟨rfl, .inr ⟨rfl, unhide H0, ((unhide H).moved.trans (unhide HV) fun _ hi => .inl (.inl hi)).trans (unhide M2) fun _ f => f.elim⟩⟩
end Go.Proofs.YtkbmbcmcnpeabaaDoor

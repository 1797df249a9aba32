/- The program's reader of messages: it gives up at a fault (check), and where bytes are left (end). No conditions. -/
import Derived.Test.YtkbmbcmcnpeabaaDoorWr
import Derived.Test.YtkbmbcmcnpeabaaDoorInB
namespace Go.Proofs.YtkbmbcmcnpeabaaDoor
open Pk Go.RowKit

theorem check_any {w : World} {r x : Nat} {s : ByteArray} {k f : Nat} (h : InAt w x s k f) (hr : w.cell? ⟨r, 0, none⟩ = some (.pointer (some ⟨x, 0, none⟩))) :
    Calls Tryd.prog 62 #[.pointer (some ⟨r, 0, none⟩)] w fun e w' => Moved (fun _ => False) w w' ∧ ((e = .returned (.tuple #[]) ∧ f = 0) ∨ (e = .panicked (refused ((f : Nat) : Int)) ∧ f ≠ 0)) := by
  have H := hide h
  clear h
  go_enter Tryd.func62, Tryd.ntmps62
  go_wp2_with fail
  refine (fault_any (unhide H)).mono ?_
  rintro e w1 ⟨rfl, hm⟩
  have HM := hide hm
  clear hm hr H
  generalize hg : f = g at *
  have HG := hide hg
  clear hg
  by_cases hf : g = 0
  · subst hf
    go_wp2_with fail
    go_end0
    exact ⟨unhide HM, .inl ⟨rfl, unhide HG⟩⟩
  · have hf' : ¬ (g : Int) = 0 := by omega
    go_wp2_with fail
    refine (giveUp_any (g : Int) _).mono ?_
    rintro e w2 ⟨rfl, rfl⟩
    go_wp2_with fail
    exact ⟨rfl, unhide HM, .inr ⟨by rw [unhide HG], by rw [unhide HG]; exact hf⟩⟩

theorem rend_any {w : World} {r x : Nat} {s : ByteArray} {k f : Nat} (h : InAt w x s k f) (hr : w.cell? ⟨r, 0, none⟩ = some (.pointer (some ⟨x, 0, none⟩))) :
    Calls Tryd.prog 38 #[.pointer (some ⟨r, 0, none⟩)] w fun e w' => Moved (fun _ => False) w w' ∧ ((e = .returned (.tuple #[]) ∧ endOf s k f = 0) ∨ (e = .panicked (refused ((endOf s k f : Nat) : Int)) ∧ endOf s k f ≠ 0)) := by
  have H := hide h
  clear h
  go_enter Tryd.func38, Tryd.ntmps38
  go_wp2_with fail
  refine (end_any (unhide H)).mono ?_
  rintro e w1 ⟨rfl, hm⟩
  have HM := hide hm
  clear hm hr H
  generalize hg : endOf s k f = g at *
  have HG := hide hg
  clear hg
  by_cases hf : g = 0
  · subst hf
    go_wp2_with fail
    go_end0
    exact ⟨unhide HM, .inl ⟨rfl, unhide HG⟩⟩
  · have hf' : ¬ (g : Int) = 0 := by omega
    go_wp2_with fail
    refine (giveUp_any (g : Int) _).mono ?_
    rintro e w2 ⟨rfl, rfl⟩
    go_wp2_with fail
    exact ⟨rfl, unhide HM, .inr ⟨by rw [unhide HG], by rw [unhide HG]; exact hf⟩⟩

end Go.Proofs.YtkbmbcmcnpeabaaDoor

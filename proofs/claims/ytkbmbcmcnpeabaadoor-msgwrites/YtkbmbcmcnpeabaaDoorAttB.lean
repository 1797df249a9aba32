/- The program's attempt: what it is handed returns, or panics with a refusal: the two closures that it is handed (Bytes' and Read's). No conditions. -/
import Derived.Test.YtkbmbcmcnpeabaaDoorAtt
namespace Go.Proofs.YtkbmbcmcnpeabaaDoor
open Pk Go.RowKit

/-- The cell where attempt keeps its answer, at the end of what attempt is handed. -/
def Kept (w w' : World) : Prop := w'.cell? ⟨w.heap.size, 0, none⟩ = some (.int .i64 0) ∧ w'.frozen? ⟨w.heap.size, 0, none⟩ = false ∧ w.heap.size < w'.heap.size

theorem cell_again {w : World} {p : Addr} {v : Value} (h : w.cell? p = some v) (q : Addr) : (w.setCell p v).cell? q = w.cell? q := by
  by_cases e : p = q
  · subst e
    rw [World.cell?_setCell_same (h := h), h]
  · rw [World.cell?_setCell_other (h := e)]
theorem attempt_16 {w : World} {cap : Array Value} {c : Int} {Q R : World → Prop} (h : Calls Tryd.prog 20 cap (w.alloc (.cells #[.int .i64 0] 32)) fun e w' => Kept w w' ∧ ((e = .returned (.tuple #[]) ∧ Q w') ∨ (e = .panicked (refused c) ∧ R w'))) :
    Calls Tryd.prog 19 #[.func (.func 20) #[] cap] w fun e w' => ∃ w1, Moved (fun b => b = w.heap.size) w1 w' ∧ ((e = .returned (.int .i64 0) ∧ Q w1) ∨ (e = .returned (.int .i64 c) ∧ R w1)) := by
  have hmf : ∀ (fn : Fn) (first cap : Array Value) (w : World), (Instr.makeFunc fn first cap).run Tryd.prog w = .ok (.func fn first cap) w := fun _ _ _ _ => rfl
  go_enter_defers Tryd.func19, Tryd.ntmps19
  go_wp2_with fail
  refine h.mono ?_
  clear h
  rintro e w1 ⟨⟨hc, hz, hs⟩, hh⟩
  rcases hh with ⟨rfl, hq⟩ | ⟨rfl, hq⟩
  rotate_left
  · have HQ := hide hq
    clear hq
    go_wp2_with fail
    refine leaves_cons (f := 49) (args := #[.pointer (some ⟨w.heap.size, 0, none⟩)]) (by simp) (by simp [go_sem]) ?_
    refine (catch_refused ⟨w.heap.size, 0, none⟩ 0 c [] w1 hc hz hs).mono ?_
    rintro e u' w2 ⟨rfl, rfl, hc2, hm⟩
    have HM := hide hm
    clear hm
    simp [Leaves, settle, results, Tryd.results19, go_sem, hc2]
    exact ⟨w1, unhide HM, .inr (unhide HQ)⟩
  have HQ := hide hq
  clear hq
  go_wp2_with fail
  refine leaves_cons (f := 49) (args := #[.pointer (some ⟨w.heap.size, 0, none⟩)]) (by simp) (by simp [go_sem]) ?_
  refine (catch_idle ⟨w.heap.size, 0, none⟩ _).mono ?_
  rintro e u' w2 ⟨rfl, rfl, rfl⟩
  have H2 := hide (World.cell?_setCell_same _ _ (.int .i64 0) hc)
  have HM := hide ((Moved.refl (fun b => b = w.heap.size) w1).setCell (p := ⟨w.heap.size, 0, none⟩) (.inl rfl) (.int .i64 0))
  have hc2 := unhide H2
  simp [Leaves, settle, results, Tryd.results19, go_sem, hc2]
  exact ⟨w1, unhide HM, .inl (unhide HQ)⟩

theorem attempt_22 {w : World} {cap : Array Value} {c : Int} {Q R : World → Prop} (h : Calls Tryd.prog 36 cap (w.alloc (.cells #[.int .i64 0] 32)) fun e w' => Kept w w' ∧ ((e = .returned (.tuple #[]) ∧ Q w') ∨ (e = .panicked (refused c) ∧ R w'))) :
    Calls Tryd.prog 19 #[.func (.func 36) #[] cap] w fun e w' => ∃ w1, Moved (fun b => b = w.heap.size) w1 w' ∧ ((e = .returned (.int .i64 0) ∧ Q w1 ∧ ∀ q, w'.cell? q = w1.cell? q) ∨ (e = .returned (.int .i64 c) ∧ R w1)) := by
  have hmf : ∀ (fn : Fn) (first cap : Array Value) (w : World), (Instr.makeFunc fn first cap).run Tryd.prog w = .ok (.func fn first cap) w := fun _ _ _ _ => rfl
  go_enter_defers Tryd.func19, Tryd.ntmps19
  go_wp2_with fail
  refine h.mono ?_
  clear h
  rintro e w1 ⟨⟨hc, hz, hs⟩, hh⟩
  rcases hh with ⟨rfl, hq⟩ | ⟨rfl, hq⟩
  rotate_left
  · have HQ := hide hq
    clear hq
    go_wp2_with fail
    refine leaves_cons (f := 49) (args := #[.pointer (some ⟨w.heap.size, 0, none⟩)]) (by simp) (by simp [go_sem]) ?_
    refine (catch_refused ⟨w.heap.size, 0, none⟩ 0 c [] w1 hc hz hs).mono ?_
    rintro e u' w2 ⟨rfl, rfl, hc2, hm⟩
    have HM := hide hm
    clear hm
    simp [Leaves, settle, results, Tryd.results19, go_sem, hc2]
    exact ⟨w1, unhide HM, .inr (unhide HQ)⟩
  have HQ := hide hq
  clear hq
  go_wp2_with fail
  refine leaves_cons (f := 49) (args := #[.pointer (some ⟨w.heap.size, 0, none⟩)]) (by simp) (by simp [go_sem]) ?_
  refine (catch_idle ⟨w.heap.size, 0, none⟩ _).mono ?_
  rintro e u' w2 ⟨rfl, rfl, rfl⟩
  have H2 := hide (World.cell?_setCell_same _ _ (.int .i64 0) hc)
  have HM := hide ((Moved.refl (fun b => b = w.heap.size) w1).setCell (p := ⟨w.heap.size, 0, none⟩) (.inl rfl) (.int .i64 0))
  have hc2 := unhide H2
  have HL := hide (cell_again hc)
  simp [Leaves, settle, results, Tryd.results19, go_sem, hc2]
  exact ⟨w1, unhide HM, .inl ⟨unhide HQ, unhide HL⟩⟩

end Go.Proofs.YtkbmbcmcnpeabaaDoor

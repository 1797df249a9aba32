/- The program's attempt: its deferred closure, entered as a deferred call of a frame that returns and of one that panics with a refusal. No conditions. -/
import Derived.Test.YtkbmbcmcnpeabaaDoorWr
import Derived.Recover
import Derived.Defers
import Derived.Laws.Pointers
import Derived.Deep.RegionWith
namespace Go.Proofs.YtkbmbcmcnpeabaaDoor
open Pk Go.RowKit

theorem catch_idle (p : Addr) (w : World) :
    CallsD Tryd.prog 49 #[.pointer (some p)] .returning w fun e u' w' => e = .returned (.tuple #[]) ∧ u' = .returning ∧ w' = w := by
  refine callsD_of_wpS Tryd.func49 rfl fun c₀ cs hu => ?_
  apply wpS_seq
  apply wpS_region
  simp [wpOpsS, go_sem, recoverD, hu, Tryd.ntmps49, Exit.thenS]
  refine wpS_of_wp ?_
  go_wp2_with fail
  cases c₀
  simp_all [bodyPostS, results, Tryd.results49]

theorem assert_refusal (v : Value) (w : World) : (Instr.typeAssert (.iface 89 v) 20 89 true).run Tryd.prog w = .ok (.tuple #[v, .bool true]) w := by kernel_rfl

set_option maxRecDepth 100000 in
set_option maxHeartbeats 1000000 in
theorem catch_refused (p : Addr) (x e : Int) (older : List PanicEntry) (w : World) (hc : w.cell? p = some (.int .i64 x)) (hz : w.frozen? p = false) (hp : p.block < w.heap.size) :
    CallsD Tryd.prog 49 #[.pointer (some p)] (.panicking ({ v := .iface 89 (.agg #[.int .i64 e]), recovered := false } :: older)) w fun r u' w' =>
      r = .returned (.tuple #[]) ∧ u' = .panicking ({ v := .iface 89 (.agg #[.int .i64 e]), recovered := true } :: older) ∧ w'.cell? p = some (.int .i64 e) ∧ Moved (fun b => b = p.block) w w' := by
  refine callsD_of_wpS Tryd.func49 rfl fun c₀ cs hu => ?_
  apply wpS_seq
  apply wpS_region
  simp [wpOpsS, go_sem, recoverD, hu, Tryd.ntmps49, Exit.thenS]
  refine wpS_of_wp ?_
  have has := assert_refusal
  have hz' := (World.frozen?_alloc_old w (.cells #[.int .i64 e] 89) p (Nat.ne_of_lt hp)).trans hz
  have hc' := (World.cell?_alloc_lt w (.cells #[.int .i64 e] 89) p hp).trans hc
  go_wp2_with fail
  have H1 := hide (World.cell?_setCell_same _ _ (.int .i64 e) hc')
  have H2 := hide (((Moved.refl (fun b => b = p.block) w).alloc (.cells #[.int .i64 e] 89)).setCell (p := p) (.inl rfl) (.int .i64 e))
  clear hc hz hp hc' hz' has
  simp [bodyPostS, results, Tryd.results49]
  exact ⟨unhide H1, unhide H2⟩

end Go.Proofs.YtkbmbcmcnpeabaaDoor

/- What the program's Put answers: the plain one; nothing that was there has turned. Conditions: all numbers are int64's. -/
import Derived.Test.YtmgmkdkdpeljmaaJoin
import Derived.Test.YtmgmkdkdpeljmaaLast
namespace Go.Proofs.Ytmgmkdkdpeljmaa
open Go.RowKit

/-- Two rows, side by side, and nothing below them has turned. -/
def Two (w : World) (H : Nat) (us vs : List Value) (w' : World) : Prop := RowAt w' H us ∧ RowAt w' (H + 1) vs ∧ Below H w w'
theorem Two.carry {H : Nat} {w w1 w2 : World} {us vs : List Value} (h : Two w H us vs w1) (hb : Below w1.heap.size w1 w2) : Two w H us vs w2 :=
  ⟨h.1.keep (Moved.of_below (F := fun _ => False) hb) id, h.2.1.keep (Moved.of_below (F := fun _ => False) hb) id, h.2.2.trans (hb.mono (by have := h.1.lt; omega))⟩
theorem Two.drew {H : Nat} {w w1 : World} {us vs : List Value} (h : Two w H us vs w1) : Two w H us vs w1.drew :=
  ⟨h.1.keep (Moved.refl (fun _ => False) _).drew id, h.2.1.keep (Moved.refl (fun _ => False) _).drew id, h.2.2.drew⟩

set_option maxHeartbeats 1000000 in
set_option maxRecDepth 100000 in
theorem put_any (a : AggV) (v : Int) (w : World) (ha : a.In) (hv : i64 v) :
    Calls Try.prog 48 #[aggV a, .int .i64 v] w fun e w' => e = .returned (aggV (put a v)) ∧ Below w.heap.size w w' := by
  have HA := hide ha
  have HV := hide hv
  clear ha hv
  obtain ⟨w0, hw0⟩ : ∃ w0, w0 = (w.alloc (.cells (cellsA a).toArray 34)).alloc (.cells #[.int .i64 0, .int .i64 0, .int .i64 0, .int .i64 0, .int .i64 0, .int .i64 0, .int .i64 0, .int .i64 0] 34) := ⟨_, rfl⟩
  have Hw0 := hide hw0
  obtain ⟨H, hH⟩ : ∃ H, H = w.heap.size := ⟨_, rfl⟩
  have HH := hide hH
  have RA : RowAt w0 H (cellsA a) := by rw [hw0, hH]; exact row_old (row_new w (cellsA a) 34) _
  have RB : RowAt w0 (H + 1) (cellsA zero) := by rw [hw0, hH]; exact row_new2 w (cellsA zero) (cellsA a) 34 34
  have HBl : Below H w w0 := by rw [hw0, hH]; exact ((Below.refl _ _).alloc (Nat.le_refl _) _).alloc (by simp) _
  obtain ⟨St, hSt⟩ : ∃ St : World → Prop, St = Two w H (cellsA a) (cellsA zero) := ⟨_, rfl⟩
  have Hst := hide hSt
  have st : St w0.drew := by rw [hSt]; exact Two.drew ⟨RA, RB, HBl⟩
  have sS : Hid (∀ p : SW St, Calls Try.prog 66 #[.int .i64 v] p.w fun e w' => e = .returned (aggV (one v)) ∧ ∃ q : SW St, w' = q.w) := hide (fun ⟨p, hp⟩ => (single_any v p).mono (by
    rintro e w' ⟨rfl, hb⟩
    refine ⟨rfl, ⟨w', ?_⟩, rfl⟩
    rw [hSt] at hp ⊢; exact hp.carry hb))
  have sJ : Hid (∀ p : SW St, Calls Try.prog 65 #[aggV a, aggV (one v)] p.w fun e w' => e = .returned (aggV (put a v)) ∧ ∃ q : SW St, w' = q.w) := hide (fun ⟨p, hp⟩ => (join_any a (one v) p (unhide HA) (one_in (unhide HV))).mono (by
    rintro e w' ⟨rfl, hb⟩
    refine ⟨rfl, ⟨w', ?_⟩, rfl⟩
    rw [hSt] at hp ⊢; exact hp.carry hb))
  have QR : Hid (∀ w', (∃ p : SW St, w' = p.w) → w'.rangeAt H 0 (cellsA a)) := hide (by
    rintro w' ⟨⟨p, hp⟩, rfl⟩
    rw [hSt] at hp
    exact hp.1.range)
  clear hw0 hH RA RB HBl hSt
  go_enter Try.func48, Try.ntmps48
  unfold aggV
  go_upto_region 1 with fail
  rw [← unhide HH, ← unhide Hw0]
  clear Hw0
  have ne : Nonempty (SW St) := ⟨⟨_, st⟩⟩
  refine wp_region_last_sw (St := St) (by kernel_rfl) (by kernel_rfl) st ?_
  simp only [List.dropLast_cons_cons, List.dropLast_singleton]
  refine wpQuiet_load_on rfl 34 (.tmp 2) rfl H 0 rfl (cellsA a) _ (unhide QR) Try.underlying34 rfl (by kernel_rfl) ?_
  go_simp
  repeat (go_big_quiet_step (first | (go_at_call 66; exact unhide sS _) | (go_at_call 65; exact unhide sJ _)))
  refine wpQuiet_nil ?_
  intro w9 st9 o0 ho
  simp only [List.getLast?_cons_cons, List.getLast?_singleton, Option.some.injEq] at ho
  subst ho
  rw [unhide Hst] at st9
  have T := hide st9
  clear st9 ne st sS sJ QR
  have hth := (unhide T).2.1.there
  refine ⟨rfl, ?_⟩
  refine wp_store_mid 34 (.tmp 4) (.tmp 8) rfl (H + 1) 0 (cellsA (put a v)).toArray rfl rfl hth (by kernel_rfl) (by simp [Value.oneCell', cellsA, I]) ?_
  clear hth
  have RF := (unhide T).2.1.put (cellsA (put a v)) rfl
  have BF := hide ((unhide T).2.2.trans ((setCells_moved w9 (H + 1) 0 (cellsA (put a v))).below (B := H) (fun i hi => by omega) (by have := (unhide T).1.lt; omega)))
  change Exit.then _ _ _ _ (w9.setCells (H + 1) 0 (cellsA (put a v)))
  generalize w9.setCells (H + 1) 0 (cellsA (put a v)) = wf at *
  have hfr := RF.range
  go_wp2_with fail
  refine bodyPost_ret (v := aggV (put a v)) ?_ rfl ?_
  · exact results_cell_mid Try.results48 _ wf (H + 1) _ _ rfl hfr Try.underlying34 rfl (by kernel_rfl)
  · refine ⟨rfl, ?_⟩
    have h := unhide BF
    rw [unhide HH] at h; exact h
end Go.Proofs.Ytmgmkdkdpeljmaa

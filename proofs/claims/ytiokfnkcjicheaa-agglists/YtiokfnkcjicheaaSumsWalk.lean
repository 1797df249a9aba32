/- What AggSums and AggLists do, for any input: they answer true, and nothing that was there has turned. No conditions. -/
import Derived.Test.YtiokfnkcjicheaaAwake
import Derived.Test.YtiokfnkcjicheaaRight
import Derived.Test.YtiokfnkcjicheaaRefPut
import Derived.Test.YtiokfnkcjicheaaRefOf
import Derived.Test.YtiokfnkcjicheaaRefJoin
namespace Go.Proofs.Ytiokfnkcjicheaa
open Go.RowKit

theorem wpQuiet_load_A {ops : Array Oper} {C : World → Prop} {Q : Act → Prop} {rest : List Oper} {op : Oper} {a : Act} (hw : Region.wanted op (yielded ops a.tmps) = true) (x : Operand) (ho : op.op = .load 24 x)
    (b : Nat) (hx : a.eval x = .pointer (some ⟨b, 0, none⟩)) (v : AggV) (hc : ∀ w, C w → w.rangeAt b 0 (cellsA v))
    (h : wpQuiet Try.prog ops C Q rest (a.put op.dst (aggV v))) : wpQuiet Try.prog ops C Q (op :: rest) a :=
  wpQuiet_load_on hw 24 x ho b 0 hx (cellsA v) _ hc Try.underlying24 rfl (by kernel_rfl) h

set_option maxHeartbeats 2000000 in
theorem sums_any (a b : AggV) (v u : Int) (w : World) (ha : a.In) (hb : b.In) (hv : i64 v) (hu : i64 u) :
    Calls Try.prog 3 #[aggV a, aggV b, .int .i64 v, .int .i64 u] w fun e w' => e = .returned (.bool true) ∧ Below w.heap.size w w' := by
  obtain ⟨w0, hw0⟩ : ∃ w0, w0 = (w.alloc (.cells (cellsA a).toArray 24)).alloc (.cells (cellsA b).toArray 24) := ⟨_, rfl⟩
  have Hw0 := hide hw0
  obtain ⟨H, hH⟩ : ∃ H, H = w.heap.size := ⟨_, rfl⟩
  have HH := hide hH
  have RA : RowAt w0 H (cellsA a) := by rw [hw0, hH]; exact row_old (row_new w (cellsA a) 24) _
  have RB : RowAt w0 (H + 1) (cellsA b) := by rw [hw0, hH]; exact row_new2 w (cellsA b) (cellsA a) 24 24
  have HBl : Below H w w0 := by rw [hw0, hH]; exact ((Below.refl _ _).alloc (Nat.le_refl _) _).alloc (by simp) _
  obtain ⟨St, hSt⟩ : ∃ St : World → Prop, St = Two w H (cellsA a) (cellsA b) := ⟨_, rfl⟩
  have Hst := hide hSt
  have st : St w0.drew := by rw [hSt]; exact Two.drew ⟨RA, RB, HBl⟩
  have keep : ∀ (p w' : World), St p → Below p.heap.size p w' → ∃ q : SW St, w' = q.w := fun p w' hp hb => ⟨⟨w', by rw [hSt] at hp ⊢; exact hp.carry hb⟩, rfl⟩
  have same : ∀ (p w' : World), St p → w' = p → ∃ q : SW St, w' = q.w := fun p w' hp hb => ⟨⟨p, hp⟩, hb⟩
  have s9 : Hid (∀ p : SW St, Calls Try.prog 9 #[.int .i64 v, .int .i64 u] p.w fun e w' => e = .returned (.int .i64 (plus v u)) ∧ ∃ q : SW St, w' = q.w) := hide (fun ⟨p, hp⟩ => (plus_any v u p hv hu).mono (by
    rintro e w' ⟨rfl, hb⟩; exact ⟨rfl, same p w' hp hb⟩))
  have s10 : Hid (∀ p : SW St, Calls Try.prog 10 #[.int .i64 v, .int .i64 u] p.w fun e w' => e = .returned (.int .i64 (plus v u)) ∧ ∃ q : SW St, w' = q.w) := hide (fun ⟨p, hp⟩ => (ref_plus_any v u p hv hu).mono (by
    rintro e w' ⟨rfl, hb⟩; exact ⟨rfl, same p w' hp hb⟩))
  have s11 : Hid (∀ p : SW St, Calls Try.prog 11 #[.int .i64 v] p.w fun e w' => e = .returned (.int .i64 (bucket v)) ∧ ∃ q : SW St, w' = q.w) := hide (fun ⟨p, hp⟩ => (bucket_any v p).mono (by
    rintro e w' ⟨rfl, hb⟩; exact ⟨rfl, same p w' hp hb⟩))
  have s12 : Hid (∀ p : SW St, Calls Try.prog 12 #[.int .i64 v] p.w fun e w' => e = .returned (.int .i64 (bucket v)) ∧ ∃ q : SW St, w' = q.w) := hide (fun ⟨p, hp⟩ => (ref_bucket_any v p).mono (by
    rintro e w' ⟨rfl, hb⟩; exact ⟨rfl, same p w' hp hb⟩))
  have s13 : Hid (∀ p : SW St, Calls Try.prog 13 #[aggV a, .int .i64 v] p.w fun e w' => e = .returned (aggV (put a v)) ∧ ∃ q : SW St, w' = q.w) := hide (fun ⟨p, hp⟩ => (put_any a v p ha hv).mono (by
    rintro e w' ⟨rfl, hb⟩; exact ⟨rfl, keep p w' hp hb⟩))
  have s14 : Hid (∀ p : SW St, Calls Try.prog 14 #[aggV a, .int .i64 v] p.w fun e w' => e = .returned (aggV (put a v)) ∧ ∃ q : SW St, w' = q.w) := hide (fun ⟨p, hp⟩ => (ref_put_any a v p ha hv).mono (by
    rintro e w' ⟨rfl, hb⟩; exact ⟨rfl, keep p w' hp hb⟩))
  have s15 : Hid (∀ p : SW St, Calls Try.prog 15 #[aggV a, aggV b] p.w fun e w' => e = .returned (aggV (join a b)) ∧ ∃ q : SW St, w' = q.w) := hide (fun ⟨p, hp⟩ => (join_any a b p ha hb).mono (by
    rintro e w' ⟨rfl, hb⟩; exact ⟨rfl, keep p w' hp hb⟩))
  have s16 : Hid (∀ p : SW St, Calls Try.prog 16 #[aggV a, aggV b] p.w fun e w' => e = .returned (aggV (join a b)) ∧ ∃ q : SW St, w' = q.w) := hide (fun ⟨p, hp⟩ => (ref_join_any a b p ha hb).mono (by
    rintro e w' ⟨rfl, hb⟩; exact ⟨rfl, keep p w' hp hb⟩))
  have s17 : Hid (∀ p : SW St, Calls Try.prog 17 #[] p.w fun e w' => e = .returned (.bool true) ∧ ∃ q : SW St, w' = q.w) := hide (fun ⟨p, hp⟩ => (awake_any p).mono (by
    rintro e w' ⟨rfl, hb⟩; exact ⟨rfl, keep p w' hp hb⟩))
  have QA : Hid (∀ w', (∃ p : SW St, w' = p.w) → w'.rangeAt H 0 (cellsA a)) := hide (by
    rintro w' ⟨⟨p, hp⟩, rfl⟩
    rw [hSt] at hp
    exact hp.1.range)
  have QB : Hid (∀ w', (∃ p : SW St, w' = p.w) → w'.rangeAt (H + 1) 0 (cellsA b)) := hide (by
    rintro w' ⟨⟨p, hp⟩, rfl⟩
    rw [hSt] at hp
    exact hp.2.1.range)
  have hsa := sameA_self
  clear hw0 hH RA RB HBl hSt keep same ha hb hv hu
  go_enter Try.func3, Try.ntmps3
  unfold aggV
  go_upto_region 1 with fail
  rw [← unhide HH, ← unhide Hw0]
  clear Hw0
  have ne : Nonempty (SW St) := ⟨⟨_, st⟩⟩
  refine wp_region_sw (St := St) (by kernel_rfl) (by kernel_rfl) st ?_
  repeat (go_big_quiet_step (first | (go_at_call 9; exact unhide s9 _) | (go_at_call 10; exact unhide s10 _) | (go_at_call 11; exact unhide s11 _) | (go_at_call 12; exact unhide s12 _)))
  refine wpQuiet_load_A rfl (.tmp 4) rfl H rfl a (unhide QA) ?_
  go_simp
  repeat (go_big_quiet_step (first | (go_at_call 13; exact unhide s13 _)))
  refine wpQuiet_load_A rfl (.tmp 4) rfl H rfl a (unhide QA) ?_
  go_simp
  repeat (go_big_quiet_step (first | (go_at_call 14; exact unhide s14 _)))
  refine wpQuiet_load_A rfl (.tmp 4) rfl H rfl a (unhide QA) ?_
  refine wpQuiet_load_A rfl (.tmp 5) rfl (H + 1) rfl b (unhide QB) ?_
  go_simp
  repeat (go_big_quiet_step (first | (go_at_call 15; exact unhide s15 _)))
  refine wpQuiet_load_A rfl (.tmp 4) rfl H rfl a (unhide QA) ?_
  refine wpQuiet_load_A rfl (.tmp 5) rfl (H + 1) rfl b (unhide QB) ?_
  go_simp
  repeat (go_big_quiet_step (first | (go_at_call 16; exact unhide s16 _) | (go_at_call 17; exact unhide s17 _)))
  refine wpQuiet_nil ?_
  rintro ⟨w9, st9⟩
  dsimp only
  have B := hide (show Below w.heap.size w w9 by rw [unhide Hst] at st9; have h := st9.2.2; rw [unhide HH] at h; exact h)
  clear st9
  go_wp2_with fail
  go_ret
  exact ⟨rfl, unhide B⟩
end Go.Proofs.Ytiokfnkcjicheaa

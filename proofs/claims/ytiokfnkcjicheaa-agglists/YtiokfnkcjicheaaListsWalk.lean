/- What AggLists does, for any input: it answers true, and nothing that was there has turned. No conditions. -/
import Derived.Test.YtiokfnkcjicheaaSumsWalk
import Derived.Test.YtiokfnkcjicheaaArgs
namespace Go.Proofs.Ytiokfnkcjicheaa
open Go.RowKit

/-- A row, and nothing below it has turned. -/
def One (w : World) (H : Nat) (us : List Value) (w' : World) : Prop := RowAt w' H us ∧ Below H w w'
theorem One.carry {H : Nat} {w w1 w2 : World} {us : List Value} (h : One w H us w1) (hb : Below w1.heap.size w1 w2) : One w H us w2 :=
  ⟨h.1.keep (Moved.of_below (F := fun _ => False) hb) id, h.2.trans (hb.mono (by have := h.1.lt; omega))⟩
theorem One.drew {H : Nat} {w w1 : World} {us : List Value} (h : One w H us w1) : One w H us w1.drew :=
  ⟨h.1.keep (Moved.refl (fun _ => False) _).drew id, h.2.drew⟩

set_option maxHeartbeats 2000000 in
theorem lists_any (a : Option Addr) (len cap : Nat) (xs : List Int) (A : AggV) (w : World) (hx : IntsIn w a len xs) (hA : A.In) :
    Calls Try.prog 4 #[.slice a len cap, aggV A] w fun e w' => e = .returned (.bool true) ∧ Below w.heap.size w w' := by
  obtain ⟨hlen, hmax, hI, hall⟩ := hx
  subst hlen
  have hn' : xs.length ≤ 2 ^ 63 - 1 := hmax
  obtain ⟨w0, hw0⟩ : ∃ w0, w0 = w.alloc (.cells (cellsA A).toArray 24) := ⟨_, rfl⟩
  have Hw0 := hide hw0
  obtain ⟨H, hH⟩ : ∃ H, H = w.heap.size := ⟨_, rfl⟩
  have HH := hide hH
  have O0 : One w H (cellsA A) w0 := by rw [hw0, hH]; exact ⟨row_new w (cellsA A) 24, (Below.refl _ _).alloc (Nat.le_refl _) _⟩
  have HO := hide O0
  by_cases hl : (1000 : Int) < (xs.length : Int)
  · clear hI hall hA hw0 hH O0
    generalize xs.length = n at *
    go_enter Try.func4, Try.ntmps4
    unfold aggV
    go_upto_region 2 with fail
    rw [← unhide Hw0]
    go_wp2_with fail
    refine (awake_any _).mono ?_
    rintro e w1 ⟨rfl, hb⟩
    have B := hide (show Below w.heap.size w w1 by have h := ((unhide HO).carry hb).2; rw [unhide HH] at h; exact h)
    clear hb
    go_wp2_with fail
    go_ret
    exact ⟨rfl, unhide B⟩
  · obtain ⟨St, hSt⟩ : ∃ St : World → Prop, St = One w H (cellsA A) := ⟨_, rfl⟩
    have Hst := hide hSt
    have st : St w0.drew := by rw [hSt]; exact O0.drew
    have keep : ∀ (p w' : World), St p → Below p.heap.size p w' → ∃ q : SW St, w' = q.w := fun p w' hp hb => ⟨⟨w', by rw [hSt] at hp ⊢; exact hp.carry hb⟩, rfl⟩
    have hIn : ∀ p : World, St p → Ints p a xs := fun p hp => by rw [hSt, hH] at hp; exact hI.keep hp.2
    have s18 : Hid (∀ p : SW St, Calls Try.prog 18 #[.slice a xs.length cap] p.w fun e w' => e = .returned (aggV (of xs)) ∧ ∃ q : SW St, w' = q.w) := hide (fun ⟨p, hp⟩ => (of_any a cap xs p (hIn p hp) hall hmax).mono (by
      rintro e w' ⟨rfl, hb⟩; exact ⟨rfl, keep p w' hp hb⟩))
    have s19 : Hid (∀ p : SW St, Calls Try.prog 19 #[.slice a xs.length cap] p.w fun e w' => e = .returned (aggV (of xs)) ∧ ∃ q : SW St, w' = q.w) := hide (fun ⟨p, hp⟩ => (ref_of_any a cap xs p (hIn p hp) hall hmax).mono (by
      rintro e w' ⟨rfl, hb⟩; exact ⟨rfl, keep p w' hp hb⟩))
    have s20 : Hid (∀ p : SW St, Calls Try.prog 20 #[aggV A] p.w fun e w' => e = .returned (.bool (right A)) ∧ ∃ q : SW St, w' = q.w) := hide (fun ⟨p, hp⟩ => (right_any A p hA).mono (by
      rintro e w' ⟨rfl, hb⟩; exact ⟨rfl, keep p w' hp hb⟩))
    have s21 : Hid (∀ p : SW St, Calls Try.prog 21 #[aggV A] p.w fun e w' => e = .returned (.bool (right A)) ∧ ∃ q : SW St, w' = q.w) := hide (fun ⟨p, hp⟩ => (ref_right_any A p hA).mono (by
      rintro e w' ⟨rfl, hb⟩; exact ⟨rfl, keep p w' hp hb⟩))
    have s17 : Hid (∀ p : SW St, Calls Try.prog 17 #[] p.w fun e w' => e = .returned (.bool true) ∧ ∃ q : SW St, w' = q.w) := hide (fun ⟨p, hp⟩ => (awake_any p).mono (by
      rintro e w' ⟨rfl, hb⟩; exact ⟨rfl, keep p w' hp hb⟩))
    have QA : Hid (∀ w', (∃ p : SW St, w' = p.w) → w'.rangeAt H 0 (cellsA A)) := hide (by
      rintro w' ⟨⟨p, hp⟩, rfl⟩
      rw [hSt] at hp
      exact hp.1.range)
    have hsa := sameA_self
    clear hw0 hH O0 HO hSt keep hIn hI hall hA hmax
    generalize xs.length = n at *
    generalize of xs = X at *
    generalize right A = rr at *
    go_enter Try.func4, Try.ntmps4
    unfold aggV
    go_upto_region 3 with fail
    rw [← unhide HH, ← unhide Hw0]
    clear Hw0
    have ne : Nonempty (SW St) := ⟨⟨_, st⟩⟩
    refine wp_region_sw (St := St) (by kernel_rfl) (by kernel_rfl) st ?_
    repeat (go_big_quiet_step (first | (go_at_call 18; exact unhide s18 _) | (go_at_call 19; exact unhide s19 _)))
    refine wpQuiet_load_A rfl (.tmp 3) rfl H rfl A (unhide QA) ?_
    go_simp
    repeat (go_big_quiet_step (first | (go_at_call 20; exact unhide s20 _)))
    refine wpQuiet_load_A rfl (.tmp 3) rfl H rfl A (unhide QA) ?_
    go_simp
    repeat (go_big_quiet_step (first | (go_at_call 21; exact unhide s21 _) | (go_at_call 17; exact unhide s17 _)))
    refine wpQuiet_nil ?_
    rintro ⟨w9, st9⟩
    dsimp only
    have B := hide (show Below w.heap.size w w9 by rw [unhide Hst] at st9; have h := st9.2; rw [unhide HH] at h; exact h)
    clear st9
    go_wp2_with fail
    go_ret
    exact ⟨rfl, unhide B⟩
end Go.Proofs.Ytiokfnkcjicheaa

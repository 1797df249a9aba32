/- What the program's Starts hands back: a function that is ranged over, of the row startsL; it may be left early and gone over again: its two numbers lie in two blocks of its own. -/
import Derived.Test.YtjmbiljeincocaaCalls
import Derived.RangeFuncNested
import Derived.RangeFuncBound
import Derived.RangeFuncCalls
import Derived.RangeFuncLeaves
import Derived.Shelf.Abstract
import Derived.Shelf.RegionOpen
import Derived.OwnWalkIn
import Derived.TacticsInMore
import Derived.LoopNIn
import Derived.LoopIn
namespace Go.Proofs.Ytjmbiljeincocaa
open Go.RowKit Go.Shelf

attribute [local go_sem] Oper.semAt_some

/-- A variable's box B is as it was. -/
def Kb (B : Nat) (W W' : World) : Prop := ∀ t v, Boxed W B t v → Boxed W' B t v
theorem Kb.refl (B : Nat) (W : World) : Kb B W W := fun _ _ h => h
theorem Kb.trans {B : Nat} {X Y Z : World} (h : Kb B X Y) (k : Kb B Y Z) : Kb B X Z := fun t v e => k t v (h t v e)
theorem Kb.set {B B' : Nat} {X Y : World} (h : Kb B X Y) (hne : B ≠ B') (u : Value) : Kb B X (Y.setCell ⟨B', 0, none⟩ u) := fun t v e => (h t v e).other hne u
theorem Kb.alloc {B : Nat} {X Y : World} (h : Kb B X Y) (o : Obj) : Kb B X (Y.alloc o) := fun t v e => (h t v e).alloc o
theorem Kb.putObj {B : Nat} (W : World) (l : Nat) (o o' : Obj) (hl : W.heap[l]? = some o) (ho : o.isCells = false) : Kb B W (W.putObj l o') := fun t v e =>
  e.kept (grownBy_putObj' W l o') (fun e' => by
    obtain rfl : B = l := by simpa using e'
    rw [show W.heap[B]? = _ from e] at hl; cases hl; cases ho)

set_option maxRecDepth 100000 in
set_option maxHeartbeats 1000000 in
theorem starts1_in (l Bm Bs : Nat) (m since : Int) (J Jx : List Int → World → Prop)
    (hY : ∀ pre x W, J pre W → pre.length < 1000 → YieldAt Fence.wide (10 - 1) Try.prog l #[.int .i64 x] W fun e W' =>
      (e = .returned (.bool true) ∧ J (pre ++ [x]) W' ∧ Kb Bm W W') ∨ (e = .returned (.bool false) ∧ Jx (pre ++ [x]) W'))
    (W : World) (hBm : Boxed W Bm 2 (.int .i64 m)) (hBs : Boxed W Bs 2 (.int .i64 since)) (h0 : J [] W) :
    CallsIn Fence.wide 10 Try.prog 22 #[.func (.yield l) #[] #[], .pointer (some ⟨Bs, 0, none⟩), .pointer (some ⟨Bm, 0, none⟩)] W fun e W' => (∃ v, e = .returned v) ∧
      ((∃ ys, ys = startsL m since ∧ J ys W') ∨ (∃ pre, pre <+: startsL m since ∧ Jx pre W')) := by
  have hs := hBs.cell
  have HBm := hide hBm
  clear hBm hBs
  by_cases hr : 0 ≤ since ∧ since ≤ 1099511627776
  · have hrr := hide (rightI_iff.2 hr)
    have hf := hide (firstI_right hr)
    have hs1 : Hid (startsL m since = [] ++ upL m (1000 - 0) (firstI since)) := hide (by unfold startsL; rw [if_pos hr]; rfl)
    have hr' := hide hr
    clear hr
    refine callsIn_of_wp Try.func22 rfl trivial ?_ rfl
    simp only [Try.ntmps22, List.size_toArray, List.length_cons, List.length_nil, Nat.reduceAdd, Nat.reduceSub, Array.replicate_succ, Array.replicate_zero, List.push_toArray, List.append_toArray, List.nil_append, List.cons_append]
    gi_wp2
    refine ⟨trivial, (callsIn_wide.2 (right_any _ _)).mono ?_⟩
    rintro e w' ⟨rfl, rfl⟩
    rw [unhide hrr]
    gi_wp2
    refine ⟨trivial, (callsIn_wide.2 (first_any _ _ (unhide hr'))).mono ?_⟩
    rintro e w' ⟨rfl, rfl⟩
    gi_wp2
    gi_loopw [4, 10] (fun s k wr => ∃ (pre : List Int) (x : Int) (j : Nat), s = .int .i64 x ∧ k = .int .i64 j ∧ j ≤ 1000 ∧ pre.length = j ∧ startsL m since = pre ++ upL m (1000 - j) x ∧ J pre wr ∧ Kb Bm w' wr) (fun _ k _ => 1000 - (intOf k).toNat)
    case atStart => exact ⟨[], firstI since, 0, rfl, rfl, by omega, rfl, unhide hs1, h0, Kb.refl _ _⟩
    case round =>
      obtain ⟨pre, x, j, rfl, rfl, hj, hp, hx, hJs, hB⟩ := hrel
      by_cases hlt : j < 1000
      · obtain ⟨u, hu⟩ : ∃ u, 1000 - j = u + 1 := ⟨1000 - j - 1, by omega⟩
        rw [hu, upL] at hx
        have hm1 : wr.cell? ⟨Bm, 0, none⟩ = some (.int .i64 m) := (hB _ _ (unhide HBm)).cell
        have hlt' : (j : Int) < 1000 := by omega
        by_cases ho : isOver x m
        · rw [if_pos ho] at hx
          have ho1 := hide (overI_iff.2 ho)
          have hw := Go.IntWalk.i64_in (x + 10) (by unfold isOver at ho; omega)
          have hw2 := Go.IntWalk.i64_in ((j : Int) + 1) (by omega)
          have hX := hide hx
          have hP := hide hp
          have hU := hide hu
          have hJ' := hide hlt
          clear hx ho hp hu hlt hj
          obtain ⟨fn, tmps, assign, body, hy, hR⟩ := hY pre x wr hJs (by rw [unhide hP]; exact unhide hJ')
          gi_wp2
          refine ⟨trivial, (callsIn_wide.2 (over_any _ _ _)).mono ?_⟩
          rintro e w'' ⟨rfl, rfl⟩
          rw [unhide ho1]
          gi_wp2
          refine hR.mono ?_
          rintro e W3 (⟨rfl, hJ3, hk3⟩ | ⟨rfl, hJx3⟩)
          · gi_wp2
            go_roundw
            case rel =>
              refine ⟨pre ++ [x], x + 10, j + 1, rfl, by simp, by have := unhide hJ'; omega, by simp [unhide hP], ?_, hJ3, hB.trans hk3⟩
              rw [show 1000 - (j + 1) = u by have := unhide hU; omega, unhide hX]; simp
            case measure => have := unhide hJ'; simp [intOf]; omega
          · gi_wp2
            refine bodyPost_ret (results_none rfl _ _ _) rfl ?_
            exact ⟨⟨_, rfl⟩, .inr ⟨pre ++ [x], by rw [unhide hX]; exact ⟨upL m u (x + 10), by simp⟩, hJx3⟩⟩
        · rw [if_neg ho] at hx
          have ho1 : Hid (overI x m = false) := hide (by unfold overI; exact decide_eq_false ho)
          have hX := hide hx
          clear hx ho hp hu hlt hj
          gi_wp2
          refine ⟨trivial, (callsIn_wide.2 (over_any _ _ _)).mono ?_⟩
          rintro e w'' ⟨rfl, rfl⟩
          rw [unhide ho1]
          gi_wp2
          refine ⟨fun _ h => (by cases h), ?_⟩
          gi_wp2
          refine bodyPost_ret (results_none rfl _ _ _) rfl ?_
          exact ⟨⟨_, rfl⟩, .inl ⟨pre, by rw [unhide hX]; simp, hJs⟩⟩
      · obtain rfl : j = 1000 := by omega
        have hX := hide hx
        clear hx hlt hj hp
        gi_wp2
        go_end0
        exact ⟨⟨_, rfl⟩, .inl ⟨pre, by rw [unhide hX]; simp [upL], hJs⟩⟩
  · have hrr : Hid (rightI since = false) := hide (by unfold rightI; exact decide_eq_false hr)
    have es : Hid (startsL m since = []) := hide (by unfold startsL; rw [if_neg hr])
    refine callsIn_of_wp Try.func22 rfl trivial ?_ rfl
    simp only [Try.ntmps22, List.size_toArray, List.length_cons, List.length_nil, Nat.reduceAdd, Nat.reduceSub, Array.replicate_succ, Array.replicate_zero, List.push_toArray, List.append_toArray, List.nil_append, List.cons_append]
    clear hr
    gi_wp2
    refine ⟨trivial, (callsIn_wide.2 (right_any _ _)).mono ?_⟩
    rintro e w' ⟨rfl, rfl⟩
    rw [unhide hrr]
    gi_wp2
    refine bodyPost_ret (results_none rfl _ _ _) rfl ?_
    exact ⟨⟨_, rfl⟩, .inl ⟨[], (unhide es).symm, h0⟩⟩

/-- Starts hands back a function of two blocks of its own. -/
theorem starts_any (m since : Int) (w : World) : Calls Try.prog 21 #[.int .i64 m, .int .i64 since] w fun e w' =>
    e = .returned (.func (.func 22) #[] #[.pointer (some ⟨w.heap.size + 1, 0, none⟩), .pointer (some ⟨w.heap.size, 0, none⟩)]) ∧ w' = (w.alloc (.cells #[.int .i64 m] 2)).alloc (.cells #[.int .i64 since] 2) := by
  go_enter Try.func21, Try.ntmps21
  go_wp2
  go_ret
  exact ⟨rfl, rfl⟩

/-- The function that Starts hands back, by its contract. -/
theorem starts_stops (Bm Bs : Nat) (m since : Int) (w : World) (hm : Boxed w Bm 2 (.int .i64 m)) (hs : Boxed w Bs 2 (.int .i64 since)) :
    SeqStopsK Fence.wide 10 Try.prog 22 #[.pointer (some ⟨Bs, 0, none⟩), .pointer (some ⟨Bm, 0, none⟩)] (fun v : Int => #[Value.int .i64 v]) (Kb Bm) (fun xs => xs = startsL m since) (fun pre => pre <+: startsL m since) 1000 w :=
  fun l J Jx W hW _ _ hY h0 => starts1_in l Bm Bs m since J Jx hY W ((hW.block Bm hm.lt).trans hm) ((hW.block Bs hs.lt).trans hs) h0

theorem under29 : Try.prog.underlying 29 = some (.func #[22] #[] false) := by kernel_rfl
theorem run_equalIn_fnil {P : Program} (w : World) (d : Nat) (t : TypeId) (ps rs : Array TypeId) (v : Bool) (fn : Fn) (cs lb : Array Value) (h : P.underlying t = some (.func ps rs v)) : (Op.equalIn (d + 1) t (.func fn cs lb) .nilFunc).run P w = .ok false w := by
  simp [Op.equalIn, run_underlying h]
theorem run_equal_fnil {P : Program} (w : World) (t : TypeId) (ps rs : Array TypeId) (v : Bool) (fn : Fn) (cs lb : Array Value) (h : P.underlying t = some (.func ps rs v)) : (Op.equal t (.func fn cs lb) .nilFunc).run P w = .ok false w := run_equalIn_fnil w 9999 t ps rs v fn cs lb h
theorem run_fnil (fn : Fn) (cs lb : Array Value) (w : World) : Sem.run Try.prog (binOp .eql 29 (.func fn cs lb) .nilFunc) w = .ok (.bool false) w := by
  simp only [binOp]
  simp [run_equal_fnil w 29 _ _ _ fn cs lb under29]
end Go.Proofs.Ytjmbiljeincocaa

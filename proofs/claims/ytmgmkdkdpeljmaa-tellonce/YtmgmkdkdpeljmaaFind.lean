/- Where a window is in the document's own row, or would be: its find. Conditions: keys are no longer than 2^40; the row lies in memory. -/
import Derived.Test.YtmgmkdkdpeljmaaLess
import Derived.Test.YtmgmkdkdpeljmaaStoreFind
import Derived.Test.YtmgmkdkdpeljmaaRowG
namespace Go.Proofs.Ytmgmkdkdpeljmaa
open Go.RowKit

/-- A window's cells. -/
def outV (b : Win AggV) : List Value := outC b.key b.start (cellsA b.agg)
/-- Rows of windows. -/
def OutK : RowK (Win AggV) := ⟨28, 38, 10, 88, .agg #[.string ⟨#[]⟩, .int .i64 0, .int .i64 0, .int .i64 0, .int .i64 0, .int .i64 0, .int .i64 0, .int .i64 0, .int .i64 0, .int .i64 0], outV⟩
theorem info34 : (Try.prog.info? 38).map (fun i => (i.zero, i.size, i.bytes)) = some (some OutK.z, 10, 88) := by kernel_rfl
theorem outK_law : OutK.Law Try.prog where
  und := Try.underlying28
  info := by obtain ⟨i0, hi, hz0, hz1, hz2⟩ := info_parts info34; exact ⟨i0, hi, hz0, hz1, hz2⟩
  zc := rfl
  pos := by decide
  len := fun _ => rfl
  one := fun b u hu => by
    simp [OutK, outV, outC, cellsA, I] at hu
    rcases hu with rfl | rfl | rfl | rfl | rfl | rfl | rfl | rfl | rfl | rfl <;> rfl
  small := by decide
/-- A load of a whole struct in a region that draws. -/
theorem wpQuiet_load_onx {P : Program} {ops : Array Oper} {C : World → Prop} {Q : Act → Prop} {rest : List Oper} {op : Oper} {a : Act} (hw : Region.wanted op (yielded ops a.tmps) = true) (ty : TypeId) (x : Operand) (ho : op.op = .load ty x)
    (b o : Nat) (hx : a.eval x = .pointer (some ⟨b, o, none⟩)) (cs : List Value) (d : TypeDesc) (hc : ∀ w, C w → w.rangeAt b o cs)
    (hu : P.underlying ty = some d) (hd : d.isRow = true) (hi : (P.info? ty).map (·.size) = some cs.length)
    (h : wpQuiet P ops C Q rest (a.put op.dst (.agg cs.toArray))) : wpQuiet P ops C Q (op :: rest) a := by
  unfold wpQuiet
  rw [if_pos hw]
  refine ⟨_, fun w hw' => ?_, h⟩
  unfold Oper.quietAt execOp
  simp only [ho, hx, Instr.loadAt, Instr.sureAddr, Sem.run_bind, Sem.run_pure, Result.andThen_ok, run_loadVar_mid w b o ty cs d (hc w hw') hu hd hi]
  exact ⟨rfl, rfl⟩

set_option maxRecDepth 100000 in
set_option maxHeartbeats 2000000 in
theorem find_any (l : List (Win AggV)) (b : Win AggV) (a : Option Addr) (c : Nat) (w : World) (hL : OutK.Lies w a l) (hl : l.length ≤ c) (hc : c ≤ maxLen) (hk : ∀ x ∈ l, x.key.length ≤ 1099511627776) (hb : b.key.length ≤ 1099511627776) (g o : Nat) (ha : a = some ⟨g, o, none⟩ ∨ l = []) :
    Calls Try.prog 69 #[.agg #[.slice a l.length c], .agg (outV b).toArray] w fun e w' => e = .returned (.tuple #[.int .i64 (pos b l : Int), .bool (opens b l)]) ∧ Below w.heap.size w w' := by
  obtain ⟨W, hW⟩ : ∃ W, W = (w.alloc (.cells #[.slice a l.length c] 49)).alloc (.cells (outV b).toArray 38) := ⟨_, rfl⟩
  obtain ⟨h, hh⟩ : ∃ h, h = w.heap.size := ⟨_, rfl⟩
  have bW : Below w.heap.size w W := by rw [hW]; exact ((Below.refl _ _).alloc (Nat.le_refl _) _).alloc (by simp) _
  have hsz : W.heap.size = h + 2 := by rw [hW, hh]; simp
  obtain ⟨CL, hCL⟩ : ∃ CL : World → Prop, CL = fun v => Below W.heap.size W v := ⟨_, rfl⟩
  have un : ∀ v, CL v → Below W.heap.size W v := fun v k => by rw [hCL] at k; exact k
  have re : ∀ v v', CL v → Below v.heap.size v v' → CL v' := fun v v' k k' => by rw [hCL] at k ⊢; exact k.trans (k'.mono k.size)
  have base : CL W := by rw [hCL]; exact Below.refl _ _
  have drew : ∀ v, CL v → CL v.drew := fun v k => by rw [hCL] at k ⊢; exact k.drew
  have ne : Nonempty (SX CL) := ⟨⟨W, base⟩⟩
  have c0 : W.cell? ⟨h, 0, none⟩ = some (.slice a l.length c) := by
    have e : W.cell? ⟨h, 0, none⟩ = (w.alloc (.cells #[.slice a l.length c] 49)).cell? ⟨h, 0, none⟩ := by
      rw [hW]; exact ((Below.refl _ _).alloc (Nat.le_refl _) _).cell (p := ⟨h, 0, none⟩) (by rw [hh]; simp)
    rw [e, hh, World.cell?_alloc_new]; rfl
  have RB : ∀ p : SX CL, p.w.rangeAt (h + 1) 0 (outV b) := fun p j u hu => by
    have hu' : (outV b).toArray[j]? = some u := by simpa using hu
    have e : h + 1 = (w.alloc (.cells #[.slice a l.length c] 49)).heap.size := by rw [hh]; simp
    rw [Nat.zero_add, (un _ p.ok).cell (p := ⟨h + 1, j, none⟩) (by rw [hsz]; show h + 1 < h + 2; omega), hW, e, World.cell?_alloc_new]
    exact hu'
  have s0 : ∀ p : SX CL, p.w.cell? ⟨h, 0, none⟩ = some (.slice a l.length c) := fun p => ((un _ p.ok).cell (p := ⟨h, 0, none⟩) (by rw [hsz]; show h < h + 2; omega)).trans c0
  have LL : ∀ p : SX CL, OutK.Lies p.w a l := fun p => lies_keep (lies_keep hL bW) (un _ p.ok)
  have sL := hide (fun (x y : Win AggV) (hx : x.key.length ≤ 1099511627776) (p : SX CL) => ((less_any x.key y.key x.start y.start (cellsA x.agg) (cellsA y.agg) p.w hx).mono fun e w'' ⟨he, hb⟩ => ⟨he, ⟨w'', re _ _ p.ok hb⟩, rfl⟩ :
    Calls Try.prog 90 #[.agg (outV x).toArray, .agg (outV y).toArray] p.w fun e w'' => e = .returned (.bool (ahead x y)) ∧ ∃ q : SX CL, w'' = q.w))
  have FIN := hide (fun v (k : CL v) => bW.trans ((un v k).mono bW.size))
  have HW := hide hW
  have HH := hide hh
  have BS := hide base
  have HK := hide hk
  have HB := hide hb
  clear hW hh bW hsz hCL un re c0 base hL hk hb
  go_enter Try.func69, Try.ntmps69
  go_upto_region 1 with fail
  rw [← unhide HH]
  try change Code.wp _ _ _ _ ((w.alloc (.cells #[.slice a l.length c] 49)).alloc (.cells (outV b).toArray 38))
  rw [← unhide HW]
  go_wp2_with fail
  go_loopw [6] (fun i wr => ∃ j : Nat, i = .int .i64 (j : Int) ∧ j ≤ l.length ∧ (∀ i' x, i' < j → l[i']? = some x → ahead x b = true) ∧ CL wr) (fun i _ => l.length - (intOf i).toNat)
  case atStart => exact ⟨0, rfl, Nat.zero_le _, fun i' x h0 => by omega, unhide BS⟩
  case round =>
    obtain ⟨j, rfl, hj, hall, OK⟩ := hrel
    have HA := hide hall
    clear hall
    have hj0 : (0 : Int) ≤ (j : Int) := by omega
    by_cases h1 : j < l.length
    · have g1 : (j : Int) < (l.length : Int) := by omega
      obtain ⟨y, hy⟩ : ∃ y, l[j]? = some y := ⟨_, List.getElem?_eq_getElem h1⟩
      rcases ha with rfl | rfl
      rotate_left
      · simp at h1
      have RY : Hid (∀ v, (∃ p : SX CL, v = p.w) → v.rangeAt g (o + j * 10) (outV y)) := hide (by rintro v ⟨p, rfl⟩; exact lies_at outK_law (LL p) hy)
      have RB' : Hid (∀ v, (∃ p : SX CL, v = p.w) → v.rangeAt (h + 1) 0 (outV b)) := hide (by rintro v ⟨p, rfl⟩; exact RB p)
      go_upto_region 2 with fail
      refine wp_region_sx (St := CL) (by kernel_rfl) (by kernel_rfl) (drew _ OK) ?_
      repeat (go_big_quiet_step (fail))
      refine wpQuiet_load_onx rfl 38 (.tmp 16) rfl g (o + j * 10) rfl (outV y) _ (unhide RY) Try.underlying38 rfl (by kernel_rfl) ?_
      go_simp
      refine wpQuiet_load_onx rfl 38 (.tmp 3) rfl (h + 1) 0 rfl (outV b) _ (unhide RB') Try.underlying38 rfl (by kernel_rfl) ?_
      go_simp
      repeat (go_big_quiet_step (first | (go_at_call 90; exact unhide sL y b (unhide HK y (List.mem_of_getElem? hy)) _)))
      refine wpQuiet_nil ?_
      intro p1
      have OK1 := p1.ok
      generalize p1.w = v1 at OK1 ⊢
      clear OK RY RB'
      try dsimp only
      by_cases e : ahead y b = true
      · have hw : IntKind.i64.wrap ((j : Int) + 1) = (j : Int) + 1 := Go.IntWalk.i64_in _ (by simp [maxLen] at hc; omega)
        have A1 : Hid (∀ i' x, i' < j + 1 → l[i']? = some x → ahead x b = true) := hide (fun i' x h0 hx => by
          by_cases h2 : i' = j
          · subst h2; rw [hy] at hx; cases hx; exact e
          · exact unhide HA i' x (by omega) hx)
        rw [e]
        go_wp2_with fail
        go_roundw
        case rel => exact ⟨j + 1, rfl, by omega, unhide A1, OK1⟩
        case measure => simp [intOf]; omega
      · have e' := Bool.eq_false_iff.2 e
        rw [e']
        have hp : j = pos b l := pos_is (by omega) (fun i' x h0 hx => unhide HA i' x h0 hx) (fun x hx => by rw [hy] at hx; cases hx; exact e')
        have ho : Hid (opens b l = !ahead b y) := hide ((pos_stop b l y (by rw [← hp]; exact hy)).2)
        have HP := hide hp
        clear hp
        have RY : Hid (∀ v, (∃ p : SX CL, v = p.w) → v.rangeAt g (o + j * 10) (outV y)) := hide (by rintro v ⟨p, rfl⟩; exact lies_at outK_law (LL p) hy)
        have RB' : Hid (∀ v, (∃ p : SX CL, v = p.w) → v.rangeAt (h + 1) 0 (outV b)) := hide (by rintro v ⟨p, rfl⟩; exact RB p)
        go_upto_region 4 with fail
        refine wp_region_sx (St := CL) (by kernel_rfl) (by kernel_rfl) (drew _ OK1) ?_
        repeat (go_big_quiet_step (fail))
        refine wpQuiet_load_onx rfl 38 (.tmp 3) rfl (h + 1) 0 rfl (outV b) _ (unhide RB') Try.underlying38 rfl (by kernel_rfl) ?_
        go_simp
        repeat (go_big_quiet_step (fail))
        refine wpQuiet_load_onx rfl 38 (.tmp 34) rfl g (o + j * 10) rfl (outV y) _ (unhide RY) Try.underlying38 rfl (by kernel_rfl) ?_
        go_simp
        repeat (go_big_quiet_step (first | (go_at_call 90; exact unhide sL b y (unhide HB) _)))
        refine wpQuiet_nil ?_
        intro p2
        have OK2 := p2.ok
        generalize p2.w = v2 at OK2 ⊢
        clear OK1 RY RB'
        try dsimp only
        rw [← unhide ho]
        go_wp2_with fail
        go_ret2
        exact ⟨by rw [← unhide HP]; rfl, unhide FIN _ OK2⟩
    · have g1 : ¬ (j : Int) < (l.length : Int) := by omega
      have hp : j = pos b l := pos_is (by omega) (fun i' x h0 hx => unhide HA i' x h0 hx) (fun x hx => by rw [List.getElem?_eq_none (by omega)] at hx; cases hx)
      have ho : Hid (opens b l = false) := hide (pos_end b l (by omega))
      have HP := hide hp
      clear hp
      go_upto_region 2 with fail
      refine wp_region_sx (St := CL) (by kernel_rfl) (by kernel_rfl) (drew _ OK) ?_
      repeat (go_big_quiet_step (fail))
      refine wpQuiet_nil ?_
      rintro v1 ⟨p1, e1⟩
      have OK1 := p1.ok
      rw [← e1] at OK1
      clear e1 OK
      try dsimp only
      go_upto_region 4 with fail
      refine wp_region_sx (St := CL) (by kernel_rfl) (by kernel_rfl) (drew _ OK1) ?_
      repeat (go_big_quiet_step (fail))
      refine wpQuiet_nil ?_
      rintro v2 ⟨p2, e2⟩
      have OK2 := p2.ok
      rw [← e2] at OK2
      clear e2
      try dsimp only
      go_wp2_with fail
      go_ret2
      exact ⟨by rw [unhide ho, ← unhide HP]; rfl, unhide FIN _ OK2⟩
end Go.Proofs.Ytmgmkdkdpeljmaa

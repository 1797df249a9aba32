/- The document's own Same, over rows of any length up to a million. Conditions: the rows lie in memory. -/
import Derived.Test.YtigmhljaoicdbaaGreatShSame
namespace Go.Proofs.YtigmhljaoicdbaaGreat
open Go.RowKit
set_option maxRecDepth 100000 in
set_option maxHeartbeats 4000000 in
theorem same9_any {w : World} {a b : Option Addr} {c d : Nat} {l m : List (Win AggV)} (hl : OutK.At w a l) (hm : OutK.At w b m) (hs : l.length ≤ 1000000) :
    Calls Tryz.prog 14 #[.slice a l.length c, .slice b m.length d] w fun e w' => e = .returned (.bool (decide (l = m))) ∧ Moved (fun _ => False) w w' := by
  have HL := hide hl
  have HM := hide hm
  clear hl hm
  by_cases hn : ((l.length : Nat) : Int) = ((m.length : Nat) : Int)
  · have hnn : l.length = m.length := by omega
    have HNN := hide hnn
    rw [← hnn]
    obtain ⟨CL, hCL⟩ : ∃ CL : World → Prop, CL = fun v => Moved (fun _ => False) w v := ⟨_, rfl⟩
    have un : ∀ v, CL v → Moved (fun _ => False) w v := fun v k => by rw [hCL] at k; exact k
    have drew : ∀ v, CL v → CL v.drew := fun v k => by rw [hCL] at k ⊢; exact k.drew
    have BS : Hid (CL w) := hide (by rw [hCL]; exact Moved.refl _ _)
    have ne : Nonempty (SX CL) := ⟨⟨w, unhide BS⟩⟩
    clear hn hnn hCL
    go_enter Tryz.func14, Tryz.ntmps14
    go_wp2_with fail
    go_loopw [5] (fun i wr => ∃ k : Nat, i = .int .i64 (k : Int) ∧ k ≤ l.length ∧ CL wr ∧ Hid (∀ j x y, j < k → l[j]? = some x → m[j]? = some y → x = y)) (fun i _ => l.length - (intOf i).toNat)
    case atStart => exact ⟨0, rfl, Nat.zero_le _, unhide BS, hide fun j _ _ hj => absurd hj (Nat.not_lt_zero _)⟩
    case round =>
      obtain ⟨k, rfl, hk, hmv, HA⟩ := hrel
      by_cases hlt : k < l.length
      · have g1 : (k : Int) < (l.length : Int) := by omega
        have hk0 : (0 : Int) ≤ (k : Int) := by omega
        have hwk : IntKind.i64.wrap ((k : Int) + 1) = (k : Int) + 1 := Go.IntWalk.i64_in _ (by omega)
        obtain ⟨x, hx⟩ : ∃ x, l[k]? = some x := ⟨_, List.getElem?_eq_getElem hlt⟩
        obtain ⟨y, hy⟩ : ∃ y, m[k]? = some y := ⟨_, List.getElem?_eq_getElem (by rw [← unhide HNN]; exact hlt)⟩
        obtain ⟨ga, oa, rfl, hga, hra⟩ := (unhide HL).cell outK_law hx
        obtain ⟨gb, ob, rfl, hgb, hrb⟩ := (unhide HM).cell outK_law hy
        have SNO : Hid (decide (x = y) = false → decide (l = m) = false) := hide (fun h => list_no hx hy h)
        have SYES : Hid (decide (x = y) = true → ∀ j x y, j < k + 1 → l[j]? = some x → m[j]? = some y → x = y) := hide fun h j x' y' hj hx' hy' => by
          by_cases e : j = k
          · subst e
            rw [hx] at hx'; cases hx'
            rw [hy] at hy'; cases hy'
            exact of_decide_eq_true h
          · exact unhide HA j x' y' (by omega) hx' hy'
        have RA0 : w.heap.size = w.heap.size := rfl
        have RY : Hid (∀ v, (∃ p : SX CL, v = p.w) → v.rangeAt ga (oa + k * 10) (OutK.f x)) := hide (by rintro v ⟨p, rfl⟩; exact range_keep hra hga (un _ p.ok))
        have RZ : Hid (∀ v, (∃ p : SX CL, v = p.w) → v.rangeAt gb (ob + k * 10) (OutK.f y)) := hide (by rintro v ⟨p, rfl⟩; exact range_keep hrb hgb (un _ p.ok))
        clear hra hrb hga hgb hx hy HA
        obtain ⟨pk, ps, ⟨p0, p1, p2, p3, p4, p5, p6, p7⟩⟩ := x
        obtain ⟨qk, qs, ⟨q0, q1, q2, q3, q4, q5, q6, q7⟩⟩ := y
        simp only [OutK, outV_eq] at RY RZ
        go_upto_region 6 with fail
        refine wp_region_sx (St := CL) (by kernel_rfl) (by kernel_rfl) (drew _ hmv) ?_
        go_big_quiet_step (fail)
        go_big_quiet_step (fail)
        go_big_quiet_step (fail)
        refine wpQuiet_load_onx rfl 52 (.tmp 19) rfl ga (oa + k * 10) (by simp [go_sem]) [.string ⟨pk.toArray⟩, .int .i64 ps, .int .i64 p0, .int .i64 p1, .int .i64 p2, .int .i64 p3, .int .i64 p4, .int .i64 p5, .int .i64 p6, .int .i64 p7] _ (unhide RY) Tryz.underlying52 rfl (by kernel_rfl) ?_
        go_simp
        go_big_quiet_step (fail)
        go_big_quiet_step (fail)
        go_big_quiet_step (fail)
        refine wpQuiet_load_onx rfl 52 (.tmp 23) rfl gb (ob + k * 10) (by simp [go_sem]) [.string ⟨qk.toArray⟩, .int .i64 qs, .int .i64 q0, .int .i64 q1, .int .i64 q2, .int .i64 q3, .int .i64 q4, .int .i64 q5, .int .i64 q6, .int .i64 q7] _ (unhide RZ) Tryz.underlying52 rfl (by kernel_rfl) ?_
        go_simp
        repeat (go_big_quiet_step (fail))
        refine wpQuiet_nil ?_
        intro pw
        have OK1 := pw.ok
        generalize pw.w = v1 at OK1 ⊢
        clear RY RZ hmv
        try dsimp only
        by_cases e : sameW ⟨pk, ps, ⟨p0, p1, p2, p3, p4, p5, p6, p7⟩⟩ ⟨qk, qs, ⟨q0, q1, q2, q3, q4, q5, q6, q7⟩⟩ = true
        · have SY := hide (unhide SYES e)
          rw [e]
          clear SNO SYES e
          go_wp2_with fail
          go_roundw
          case rel => exact ⟨k + 1, rfl, by omega, OK1, SY⟩
          case measure => simp [intOf]; omega
        · have e' := Bool.eq_false_iff.2 e
          have SN := hide (unhide SNO e')
          rw [e']
          clear SNO SYES e e'
          go_wp2_with fail
          go_ret
          exact ⟨by rw [unhide SN]; rfl, un _ OK1⟩
      · have g1 : ¬ (k : Int) < (l.length : Int) := by omega
        have hke : k = l.length := by omega
        have SY : Hid (decide (l = m) = true) := hide (decide_eq_true (list_yes (unhide HNN) (fun j x y hx hy => unhide HA j x y (by rw [hke]; exact (List.getElem?_eq_some_iff.1 hx).1) hx hy)))
        go_wp2_with fail
        go_ret
        exact ⟨by rw [unhide SY]; rfl, un _ hmv⟩
  · have SN : Hid (decide (l = m) = false) := hide (decide_eq_false fun e => hn (by rw [e]))
    go_enter Tryz.func14, Tryz.ntmps14
    go_wp2_with fail
    go_ret
    exact ⟨by rw [unhide SN]; rfl, Moved.refl _ _⟩
theorem same9_hr {w0 v : World} {R : List Sn.Held} (h : Sn.HR w0 v R) {a b : Option Addr} {c d : Nat} {l m : List (Win AggV)} (hl : hOuts a c l ∈ R) (hm : hOuts b d m ∈ R) (hs : l.length ≤ 1000000) :
    Calls Tryz.prog 14 #[.slice a l.length c, .slice b m.length d] v fun e v' => e = .returned (.bool (decide (l = m))) ∧ Sn.HR w0 v' R :=
  (same9_any (Sn.HR.row h hl) (Sn.HR.row h hm) hs).mono fun _ _ ⟨h1, h2⟩ => ⟨h1, h.below (below_of_none h2)⟩
end Go.Proofs.YtigmhljaoicdbaaGreat

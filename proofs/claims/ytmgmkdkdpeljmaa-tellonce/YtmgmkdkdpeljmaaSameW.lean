/- The document's own Same: two rows of windows held against each other. Conditions: the rows lie in memory. -/
import Derived.Test.YtmgmkdkdpeljmaaEqW
import Derived.Test.YtmgmkdkdpeljmaaHere
namespace Go.Proofs.Ytmgmkdkdpeljmaa
open Go.RowKit
/-- A row that lies somewhere. -/
structure Lay (w : World) (a : Option Addr) (l : List (Win AggV)) : Prop where
  lies : OutK.Lies w a l
  flat : (∃ g, a = some ⟨g, 0, none⟩ ∧ g < w.heap.size) ∨ l = []
  most : l.length ≤ 1000
theorem Held.lay {w0 v : World} {r : Held} (h : r.is w0 v) (hl : r.2.2.length ≤ 1000) : Lay v r.1 r.2.2 := by
  have h' : OutK.Row v w0.heap.size r.1 r.2.1 r.2.2 := h
  refine ⟨row_lies h', ?_, hl⟩
  rcases h'.2 with ⟨_, h0⟩ | ⟨g, cap, cur, hv, _⟩
  · exact .inr (List.length_eq_zero_iff.1 h0)
  · refine .inl ⟨g, ?_, (row_lt h' g (by rw [hv]; rfl)).2⟩
    simp only [Value.slice.injEq] at hv; exact hv.1
theorem Lay.at {w : World} {a : Option Addr} {l : List (Win AggV)} (h : Lay w a l) {j : Nat} {x : Win AggV} (hx : l[j]? = some x) : ∃ g, a = some ⟨g, 0, none⟩ ∧ w.rangeAt g (j * 10) (outV x) ∧ g < w.heap.size := by
  rcases h.flat with ⟨g, rfl, hg⟩ | rfl
  · refine ⟨g, rfl, ?_, hg⟩
    have := lies_at outK_law h.lies hx
    rw [Nat.zero_add] at this; exact this
  · cases hx
theorem range_keep {w w' : World} {g o : Nat} {cs : List Value} (h : w.rangeAt g o cs) (hg : g < w.heap.size) (m : Moved (fun _ => False) w w') : w'.rangeAt g o cs := fun j u hu => (m.cell (p := ⟨g, o + j, none⟩) hg id).trans (h j u hu)
theorem sameL_no {l m : List (Win AggV)} {j : Nat} {x y : Win AggV} (hx : l[j]? = some x) (hy : m[j]? = some y) (h : sameW x y = false) : decide (l = m) = false := by
  refine decide_eq_false fun e => ?_
  subst e
  rw [hx] at hy; cases hy
  unfold sameW at h; simp at h
theorem sameL_yes {l m : List (Win AggV)} (hl : l.length = m.length) (h : ∀ (j : Nat) (x y : Win AggV), l[j]? = some x → m[j]? = some y → x = y) : l = m := by
  refine List.ext_getElem? fun j => ?_
  by_cases hj : j < l.length
  · rw [List.getElem?_eq_getElem hj, List.getElem?_eq_getElem (hl ▸ hj)]
    exact congrArg some (h j _ _ (List.getElem?_eq_getElem hj) (List.getElem?_eq_getElem (hl ▸ hj)))
  · rw [List.getElem?_eq_none (by omega), List.getElem?_eq_none (by omega)]
set_option maxRecDepth 100000 in
set_option maxHeartbeats 4000000 in
theorem same_any {w : World} {a b : Option Addr} {c d : Nat} {l m : List (Win AggV)} (hl : Lay w a l) (hm : Lay w b m) :
    Calls Try.prog 18 #[.slice a l.length c, .slice b m.length d] w fun e w' => e = .returned (.bool (decide (l = m))) ∧ Moved (fun _ => False) w w' := by
  have HL := hide hl
  have HM := hide hm
  have hl0 := hl.most
  have hm0 := hm.most
  clear hl hm
  by_cases hn : ((l.length : Nat) : Int) = ((m.length : Nat) : Int)
  · have hnn : l.length = m.length := by omega
    have HNN := hide hnn
    rw [← hnn]
    obtain ⟨CL, hCL⟩ : ∃ CL : World → Prop, CL = fun v => Moved (fun _ => False) w v := ⟨_, rfl⟩
    have un : ∀ v, CL v → Moved (fun _ => False) w v := fun v k => by rw [hCL] at k; exact k
    have drew : ∀ v, CL v → CL v.drew := fun v k => by rw [hCL] at k ⊢; exact k.drew
    have BS : Hid (CL w) := hide (by rw [hCL]; exact Moved.refl _ _)
    have ne : Nonempty (SX CL) := ⟨⟨w, unhide BS⟩⟩
    clear hn hnn hm0 hCL
    go_enter Try.func18, Try.ntmps18
    go_wp2_with fail
    go_loopw [5] (fun i wr => ∃ k : Nat, i = .int .i64 (k : Int) ∧ k ≤ l.length ∧ CL wr ∧ Hid (∀ j x y, j < k → l[j]? = some x → m[j]? = some y → x = y)) (fun i _ => l.length - (intOf i).toNat)
    case atStart => exact ⟨0, rfl, Nat.zero_le _, unhide BS, hide fun j _ _ hj => absurd hj (Nat.not_lt_zero _)⟩
    case round =>
      obtain ⟨k, rfl, hk, hmv, HA⟩ := hrel
      by_cases hlt : k < l.length
      · have g1 : (k : Int) < (l.length : Int) := by omega
        have hk0 : (0 : Int) ≤ (k : Int) := by omega
        have hwk : IntKind.i64.wrap ((k : Int) + 1) = (k : Int) + 1 := Go.IntWalk.i64_in _ (by omega)
        obtain ⟨x, hx⟩ : ∃ x, l[k]? = some x := ⟨_, List.getElem?_eq_getElem hlt⟩
        obtain ⟨y, hy⟩ : ∃ y, m[k]? = some y := ⟨_, List.getElem?_eq_getElem (by rw [← unhide HNN]; exact hlt)⟩
        obtain ⟨ga, rfl, hra, hga⟩ := (unhide HL).at hx
        obtain ⟨gb, rfl, hrb, hgb⟩ := (unhide HM).at hy
        have RY : Hid (∀ v, (∃ p : SX CL, v = p.w) → v.rangeAt ga (k * 10) (outV x)) := hide (by rintro v ⟨p, rfl⟩; exact range_keep hra hga (un _ p.ok))
        have RZ : Hid (∀ v, (∃ p : SX CL, v = p.w) → v.rangeAt gb (k * 10) (outV y)) := hide (by rintro v ⟨p, rfl⟩; exact range_keep hrb hgb (un _ p.ok))
        have SNO : Hid (sameW x y = false → decide (l = m) = false) := hide (fun h => sameL_no hx hy h)
        have SYES : Hid (sameW x y = true → ∀ j x y, j < k + 1 → l[j]? = some x → m[j]? = some y → x = y) := hide fun h j x' y' hj hx' hy' => by
          by_cases e : j = k
          · subst e
            rw [hx] at hx'; cases hx'
            rw [hy] at hy'; cases hy'
            unfold sameW at h; exact of_decide_eq_true h
          · exact unhide HA j x' y' (by omega) hx' hy'
        clear hra hrb hga hgb hx hy HA
        obtain ⟨pk, ps, ⟨p0, p1, p2, p3, p4, p5, p6, p7⟩⟩ := x
        obtain ⟨qk, qs, ⟨q0, q1, q2, q3, q4, q5, q6, q7⟩⟩ := y
        simp only [outV_eq] at RY RZ
        go_upto_region 6 with fail
        refine wp_region_sx (St := CL) (by kernel_rfl) (by kernel_rfl) (drew _ hmv) ?_
        go_big_quiet_step (fail)
        go_big_quiet_step (fail)
        go_big_quiet_step (fail)
        refine wpQuiet_load_onx rfl 38 (.tmp 19) rfl ga (k * 10) (by simp [go_sem]) [.string ⟨pk.toArray⟩, .int .i64 ps, .int .i64 p0, .int .i64 p1, .int .i64 p2, .int .i64 p3, .int .i64 p4, .int .i64 p5, .int .i64 p6, .int .i64 p7] _ (unhide RY) Try.underlying38 rfl (by kernel_rfl) ?_
        go_simp
        go_big_quiet_step (fail)
        go_big_quiet_step (fail)
        go_big_quiet_step (fail)
        refine wpQuiet_load_onx rfl 38 (.tmp 23) rfl gb (k * 10) (by simp [go_sem]) [.string ⟨qk.toArray⟩, .int .i64 qs, .int .i64 q0, .int .i64 q1, .int .i64 q2, .int .i64 q3, .int .i64 q4, .int .i64 q5, .int .i64 q6, .int .i64 q7] _ (unhide RZ) Try.underlying38 rfl (by kernel_rfl) ?_
        go_simp
        repeat (go_big_quiet_step (fail))
        refine wpQuiet_nil ?_
        intro pw
        have OK1 := pw.ok
        generalize pw.w = v1 at OK1 ⊢
        clear RY RZ hmv
        try dsimp only
        by_cases e : sameW ⟨pk, ps, ⟨p0, p1, p2, p3, p4, p5, p6, p7⟩⟩ ⟨qk, qs, ⟨q0, q1, q2, q3, q4, q5, q6, q7⟩⟩ = true
        · have SY := hide (unhide SYES e)
          rw [e]
          clear SNO SYES e
          go_wp2_with fail
          go_roundw
          case rel => exact ⟨k + 1, rfl, by omega, OK1, SY⟩
          case measure => simp [intOf]; omega
        · have e' := Bool.eq_false_iff.2 e
          have SN := hide (unhide SNO e')
          rw [e']
          clear SNO SYES e e'
          go_wp2_with fail
          go_ret
          exact ⟨by rw [unhide SN]; rfl, un _ OK1⟩
      · have g1 : ¬ (k : Int) < (l.length : Int) := by omega
        have hke : k = l.length := by omega
        have SY : Hid (decide (l = m) = true) := hide (decide_eq_true (sameL_yes (unhide HNN) (fun j x y hx hy => unhide HA j x y (by rw [hke]; exact (List.getElem?_eq_some_iff.1 hx).1) hx hy)))
        go_wp2_with fail
        go_ret
        exact ⟨by rw [unhide SY]; rfl, un _ hmv⟩
  · have SN : Hid (decide (l = m) = false) := hide (decide_eq_false fun e => hn (by rw [e]))
    go_enter Try.func18, Try.ntmps18
    go_wp2_with fail
    go_ret
    exact ⟨by rw [unhide SN]; rfl, Moved.refl _ _⟩
end Go.Proofs.Ytmgmkdkdpeljmaa

/- Whether two rows of entries are the same, as the statements' own helper tells. Condition: the first has at most 1000. -/
import Derived.Test.YtoofaldblldncabLaws
namespace Go.Proofs.Ytoofaldblldncab
open Go.RowKit

theorem take_eq_succ {l m : List Ent} {k : Nat} (h : l.take k = m.take k) {x y : Ent} (hx : l[k]? = some x) (hy : m[k]? = some y) : l.take (k + 1) = m.take (k + 1) ↔ x = y := by
  rw [take_snoc hx, take_snoc hy, h]
  simp
theorem entV_inj {x y : Ent} (h : entV x = entV y) : x = y := by
  simp [entV] at h
  exact ent_ext h.1 h.2.1 h.2.2
theorem eq53 (x0 x1 x2 y0 y1 y2 : Int) (w : World) : (Op.equalIn 10000 48 (.agg #[.int .i64 x0, .int .i64 x1, .int .i64 x2]) (.agg #[.int .i64 y0, .int .i64 y1, .int .i64 y2])).run Try.prog w = .ok (decide (x0 = y0 ∧ x1 = y1 ∧ x2 = y2)) w := by
  have u3 := Try.underlying3
  have a3 := Try.isAgg3
  have z3 := Try.sizeOf3
  have hS : Try.prog.underlying 48 = some (.struct (Try.prog.fieldsOf 48)) := by kernel_rfl
  have hp : Try.prog.stoodInHeld 48 = false := by kernel_rfl
  rw [show (10000 : Nat) = 9999 + 1 from rfl, run_equalIn_agg w 9999 48 _ _ hS hp]
  simp only [Program.fieldsOf, Try.underlying48]
  go_simp
  by_cases h0 : x0 = y0 <;> by_cases h1 : x1 = y1 <;> by_cases h2 : x2 = y2 <;> simp [h0, h1, h2]
@[go_sem high] theorem neq53 (x0 x1 x2 y0 y1 y2 : Int) (w : World) : (binOp .neq 48 (.agg #[.int .i64 x0, .int .i64 x1, .int .i64 x2]) (.agg #[.int .i64 y0, .int .i64 y1, .int .i64 y2])).run Try.prog w = .ok (.bool (!decide (x0 = y0 ∧ x1 = y1 ∧ x2 = y2))) w := by
  rw [run_neq_struct, eq53]; rfl
@[go_sem] theorem guard53 (op : BinOp) (x y : Operand) (xs ys : Array Value) (w : World) : (eqGuard op 48 x y (.agg xs) (.agg ys)).run Try.prog w = .ok () w := run_eqGuard_agg w op 48 x y _ _ (by kernel_rfl)
set_option maxRecDepth 100000 in
set_option maxHeartbeats 2000000 in
theorem same_any {w : World} {a b : Option Addr} {c d : Nat} {l m : List Ent} (hl : EntK.At w a l) (hm : EntK.At w b m) (hz : l.length ≤ 1000) :
    Calls Try.prog 9 #[.slice a l.length c, .slice b m.length d] w fun e w' => e = .returned (.bool (sameL l m)) ∧ Below w.heap.size w w' := by
  have HL := hide hl
  have HM := hide hm
  have HZ := hide hz
  clear hl hm hz
  by_cases hlen : l.length = m.length
  · have HLE := hide hlen
    have gl : (l.length : Int) = (m.length : Int) := by omega
    clear hlen
    go_enter Try.func9, Try.ntmps9
    go_wp2_with fail
    go_loopw [5] (fun i wr => ∃ k : Nat, i = .int .i64 (k : Int) ∧ k ≤ l.length ∧ l.take k = m.take k ∧ Below w.heap.size w wr) (fun i _ => l.length - (intOf i).toNat)
    case atStart => exact ⟨0, rfl, Nat.zero_le _, by rw [List.take_zero, List.take_zero], Below.refl _ _⟩
    case round =>
      obtain ⟨k, rfl, hk, htk, hb⟩ := hrel
      have HTK := hide htk
      have HB := hide hb
      clear htk hb
      by_cases hlt : k < l.length
      · have g0 : (0 : Int) ≤ (k : Int) := by omega
        have g1 : (k : Int) < (l.length : Int) := by omega
        have g2 : (k : Int) < (m.length : Int) := by omega
        have hwk : IntKind.i64.wrap ((k : Int) + 1) = (k : Int) + 1 := Go.IntWalk.i64_in _ (by have := unhide HZ; omega)
        obtain ⟨x, hx⟩ : ∃ x, l[k]? = some x := ⟨_, List.getElem?_eq_getElem hlt⟩
        obtain ⟨y, hy⟩ : ∃ y, m[k]? = some y := ⟨_, List.getElem?_eq_getElem (by have := unhide HLE; omega)⟩
        obtain ⟨g, o, rfl, hg, hrg⟩ := ((unhide HL).below (Nat.le_refl _) (unhide HB)).cell entK_law hx
        obtain ⟨g', o', rfl, hg', hrg'⟩ := ((unhide HM).below (Nat.le_refl _) (unhide HB)).cell entK_law hy
        have NEXT := hide (take_eq_succ (unhide HTK) hx hy)
        have DIFF : Hid (x ≠ y → sameL l m = false) := hide fun hne => sameL_false fun e => hne (by rw [e, hy] at hx; exact (Option.some.inj hx).symm)
        obtain ⟨CL, hCL⟩ : ∃ CL : World → Prop, CL = fun v => Below w.heap.size w v ∧ v.rangeAt g (o + k * 3) (entV x) ∧ v.rangeAt g' (o' + k * 3) (entV y) := ⟨_, rfl⟩
        have base : CL wr.drew := by rw [hCL]; exact ⟨(unhide HB).drew, (World.rangeAt_drew _ _ _ _).2 hrg, (World.rangeAt_drew _ _ _ _).2 hrg'⟩
        have un : ∀ v, CL v → Below w.heap.size w v ∧ v.rangeAt g (o + k * 3) (entV x) ∧ v.rangeAt g' (o' + k * 3) (entV y) := fun v k => by rw [hCL] at k; exact k
        have Q1 : Hid (∀ v, (∃ p : SX CL, v = p.w) → v.rangeAt g (o + k * 3) (entV x)) := hide (by rintro v ⟨q, rfl⟩; exact (un _ q.ok).2.1)
        have Q2 : Hid (∀ v, (∃ p : SX CL, v = p.w) → v.rangeAt g' (o' + k * 3) (entV y)) := hide (by rintro v ⟨q, rfl⟩; exact (un _ q.ok).2.2)
        have UN := hide fun v hv => (un v hv).1
        have ne : Nonempty (SX CL) := ⟨⟨_, base⟩⟩
        have BS := hide base
        clear hx hy hg hrg hg' hrg' hCL base un
        obtain ⟨x0, x1, x2⟩ := x
        obtain ⟨y0, y1, y2⟩ := y
        have EQ : Hid (((⟨x0, x1, x2⟩ : Ent) = ⟨y0, y1, y2⟩) ↔ (x0 = y0 ∧ x1 = y1 ∧ x2 = y2)) := hide (by simp)
        simp only [entV] at Q1 Q2
        by_cases he : x0 = y0 ∧ x1 = y1 ∧ x2 = y2
        · have hd : decide (x0 = y0 ∧ x1 = y1 ∧ x2 = y2) = true := decide_eq_true he
          have HE := hide ((unhide EQ).2 he)
          clear he
          go_upto_region 6 with fail
          refine wp_region_sx (St := CL) (by kernel_rfl) (by kernel_rfl) (unhide BS) ?_
          repeat (go_big_quiet_step (fail))
          refine wpQuiet_load_on rfl 48 (.tmp 19) rfl g (o + k * 3) rfl [.int .i64 x0, .int .i64 x1, .int .i64 x2] _ (unhide Q1) Try.underlying48 rfl (by kernel_rfl) ?_
          go_simp
          repeat (go_big_quiet_step (fail))
          refine wpQuiet_load_on rfl 48 (.tmp 23) rfl g' (o' + k * 3) rfl [.int .i64 y0, .int .i64 y1, .int .i64 y2] _ (unhide Q2) Try.underlying48 rfl (by kernel_rfl) ?_
          go_simp
          repeat (go_big_quiet_step (fail))
          refine wpQuiet_nil ?_
          first | (rintro v1 ⟨⟨v1', OK1⟩, e1⟩; subst e1) | rintro ⟨v1, OK1⟩
          try dsimp only
          have B1 := hide (unhide UN _ OK1)
          clear OK1 Q1 Q2
          try simp only [hd]
          go_wp2_with fail
          exact ⟨⟨k + 1, rfl, by omega, (unhide NEXT).2 (unhide HE), unhide B1⟩, by simp [intOf]; omega⟩
        · have hd : decide (x0 = y0 ∧ x1 = y1 ∧ x2 = y2) = false := decide_eq_false he
          have HE := hide (unhide DIFF (fun e => he ((unhide EQ).1 e)))
          clear he
          go_upto_region 6 with fail
          refine wp_region_sx (St := CL) (by kernel_rfl) (by kernel_rfl) (unhide BS) ?_
          repeat (go_big_quiet_step (fail))
          refine wpQuiet_load_on rfl 48 (.tmp 19) rfl g (o + k * 3) rfl [.int .i64 x0, .int .i64 x1, .int .i64 x2] _ (unhide Q1) Try.underlying48 rfl (by kernel_rfl) ?_
          go_simp
          repeat (go_big_quiet_step (fail))
          refine wpQuiet_load_on rfl 48 (.tmp 23) rfl g' (o' + k * 3) rfl [.int .i64 y0, .int .i64 y1, .int .i64 y2] _ (unhide Q2) Try.underlying48 rfl (by kernel_rfl) ?_
          go_simp
          repeat (go_big_quiet_step (fail))
          refine wpQuiet_nil ?_
          first | (rintro v1 ⟨⟨v1', OK1⟩, e1⟩; subst e1) | rintro ⟨v1, OK1⟩
          try dsimp only
          have B1 := hide (unhide UN _ OK1)
          clear OK1 Q1 Q2
          try simp only [hd]
          go_wp2_with fail
          go_ret
          exact ⟨by rw [unhide HE]; rfl, unhide B1⟩
      · have hke : k = l.length := by omega
        have HEQ : Hid (sameL l m = true) := hide (sameL_iff.2 (by
          have := unhide HTK
          rw [hke, List.take_length, unhide HLE, List.take_length] at this
          exact this))
        clear hke
        go_wp2_with fail
        go_ret
        exact ⟨by rw [unhide HEQ]; rfl, unhide HB⟩
  · have hne : Hid (sameL l m = false) := hide (sameL_false fun e => hlen (by rw [e]))
    have hl2 : ¬ (l.length : Int) = (m.length : Int) := by omega
    clear hlen
    go_enter Try.func9, Try.ntmps9
    go_wp2_with fail
    go_ret
    exact ⟨by rw [unhide hne]; rfl, Below.refl _ _⟩
end Go.Proofs.Ytoofaldblldncab

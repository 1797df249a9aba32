/- Two windows held against each other. No conditions. -/
import Derived.Test.YtigmhljaoicdbaaGreatEq
import Derived.Test.YtigmhljaoicdbaaGreatGKeys
import Derived.Test.YtigmhljaoicdbaaGreatGWith
import Derived.Test.YtigmhljaoicdbaaGreatGPut
namespace Go.Proofs.YtigmhljaoicdbaaGreat
open Go.RowKit
deriving instance DecidableEq for Win
def sameW (x y : Win AggV) : Bool := decide (x = y)
set_option maxRecDepth 100000 in
theorem eq34l (xk yk : List UInt8) (xs ys a0 a1 a2 a3' a4 a5 a6 a7 b0 b1 b2 b3 b4 b5 b6 b7 : Int) (w : World) : (Op.equalIn 10000 52 (.agg #[.string ⟨xk.toArray⟩, .int .i64 xs, .int .i64 a0, .int .i64 a1, .int .i64 a2, .int .i64 a3', .int .i64 a4, .int .i64 a5, .int .i64 a6, .int .i64 a7]) (.agg #[.string ⟨yk.toArray⟩, .int .i64 ys, .int .i64 b0, .int .i64 b1, .int .i64 b2, .int .i64 b3, .int .i64 b4, .int .i64 b5, .int .i64 b6, .int .i64 b7])).run Tryz.prog w = .ok (sameW ⟨xk, xs, ⟨a0, a1, a2, a3', a4, a5, a6, a7⟩⟩ ⟨yk, ys, ⟨b0, b1, b2, b3, b4, b5, b6, b7⟩⟩) w := by
  have u2 := Tryz.underlying2
  have g2 := Tryz.isAgg2
  have z2 := Tryz.sizeOf2
  have u9 := Tryz.underlying9
  have g9 := Tryz.isAgg9
  have z9 := Tryz.sizeOf9
  have u32 := Tryz.underlying50
  have g32 := Tryz.isAgg50
  have z32 := Tryz.sizeOf50
  have hS : Tryz.prog.underlying 52 = some (.struct (Tryz.prog.fieldsOf 52)) := by kernel_rfl
  have hp : Tryz.prog.stoodInHeld 52 = false := by kernel_rfl
  rw [show (10000 : Nat) = 9999 + 1 from rfl, run_equalIn_agg w 9999 52 _ _ hS hp]
  simp only [Program.fieldsOf, Tryz.underlying52]
  go_simp
  rw [show (9998 : Nat) = 9996 + 2 from rfl, eq22]
  unfold sameW
  by_cases k0 : xk = yk <;> by_cases k1 : xs = ys <;> by_cases h0 : a0 = b0 <;> by_cases h1 : a1 = b1 <;> by_cases h2 : a2 = b2 <;> by_cases h3 : a3' = b3 <;> simp [k0, k1, h0, h1, h2, h3]
  by_cases h4 : a4 = b4 <;> by_cases h5 : a5 = b5 <;> by_cases h6 : a6 = b6 <;> by_cases h7 : a7 = b7 <;> simp [h4, h5, h6, h7]
@[go_sem high] theorem neq34 (xk yk : List UInt8) (xs ys a0 a1 a2 a3' a4 a5 a6 a7 b0 b1 b2 b3 b4 b5 b6 b7 : Int) (w : World) : (binOp .neq 52 (.agg #[.string ⟨xk.toArray⟩, .int .i64 xs, .int .i64 a0, .int .i64 a1, .int .i64 a2, .int .i64 a3', .int .i64 a4, .int .i64 a5, .int .i64 a6, .int .i64 a7]) (.agg #[.string ⟨yk.toArray⟩, .int .i64 ys, .int .i64 b0, .int .i64 b1, .int .i64 b2, .int .i64 b3, .int .i64 b4, .int .i64 b5, .int .i64 b6, .int .i64 b7])).run Tryz.prog w = .ok (.bool (!sameW ⟨xk, xs, ⟨a0, a1, a2, a3', a4, a5, a6, a7⟩⟩ ⟨yk, ys, ⟨b0, b1, b2, b3, b4, b5, b6, b7⟩⟩)) w := by
  rw [run_neq_struct, eq34l]; rfl
@[go_sem] theorem guard34 (op : BinOp) (x y : Operand) (xs ys : Array Value) (w : World) : (eqGuard op 52 x y (.agg xs) (.agg ys)).run Tryz.prog w = .ok () w := run_eqGuard_agg w op 52 x y _ _ (by kernel_rfl)
end Go.Proofs.YtigmhljaoicdbaaGreat

namespace Go.Proofs.YtigmhljaoicdbaaGreat
open Go.RowKit
/-- A row that lies somewhere. -/
structure Lay (w : World) (a : Option Addr) (l : List (Win AggV)) : Prop where
  lies : OutK.Lies w a l
  flat : (∃ g, a = some ⟨g, 0, none⟩ ∧ g < w.heap.size) ∨ l = []
  most : l.length ≤ 1000
theorem Held.lay {w0 v : World} {r : Held} (h : r.is w0 v) (hl : r.2.2.length ≤ 1000) : Lay v r.1 r.2.2 := by
  have h' : OutK.Row v w0.heap.size r.1 r.2.1 r.2.2 := h
  refine ⟨row_lies h', ?_, hl⟩
  rcases h'.2 with ⟨_, h0⟩ | ⟨g, cap, cur, hv, _⟩
  · exact .inr (List.length_eq_zero_iff.1 h0)
  · refine .inl ⟨g, ?_, (row_lt h' g (by rw [hv]; rfl)).2⟩
    simp only [Value.slice.injEq] at hv; exact hv.1
theorem Lay.at {w : World} {a : Option Addr} {l : List (Win AggV)} (h : Lay w a l) {j : Nat} {x : Win AggV} (hx : l[j]? = some x) : ∃ g, a = some ⟨g, 0, none⟩ ∧ w.rangeAt g (j * 10) (outV x) ∧ g < w.heap.size := by
  rcases h.flat with ⟨g, rfl, hg⟩ | rfl
  · refine ⟨g, rfl, ?_, hg⟩
    have := lies_at outK_law h.lies hx
    rw [Nat.zero_add] at this; exact this
  · cases hx
theorem range_keep {w w' : World} {g o : Nat} {cs : List Value} (h : w.rangeAt g o cs) (hg : g < w.heap.size) (m : Moved (fun _ => False) w w') : w'.rangeAt g o cs := fun j u hu => (m.cell (p := ⟨g, o + j, none⟩) hg id).trans (h j u hu)
theorem sameL_no {l m : List (Win AggV)} {j : Nat} {x y : Win AggV} (hx : l[j]? = some x) (hy : m[j]? = some y) (h : sameW x y = false) : decide (l = m) = false := by
  refine decide_eq_false fun e => ?_
  subst e
  rw [hx] at hy; cases hy
  unfold sameW at h; simp at h
theorem sameL_yes {l m : List (Win AggV)} (hl : l.length = m.length) (h : ∀ (j : Nat) (x y : Win AggV), l[j]? = some x → m[j]? = some y → x = y) : l = m := by
  refine List.ext_getElem? fun j => ?_
  by_cases hj : j < l.length
  · rw [List.getElem?_eq_getElem hj, List.getElem?_eq_getElem (hl ▸ hj)]
    exact congrArg some (h j _ _ (List.getElem?_eq_getElem hj) (List.getElem?_eq_getElem (hl ▸ hj)))
  · rw [List.getElem?_eq_none (by omega), List.getElem?_eq_none (by omega)]
set_option maxRecDepth 100000 in
set_option maxHeartbeats 4000000 in
theorem same_any {w : World} {a b : Option Addr} {c d : Nat} {l m : List (Win AggV)} (hl : Lay w a l) (hm : Lay w b m) :
    Calls Tryz.prog 14 #[.slice a l.length c, .slice b m.length d] w fun e w' => e = .returned (.bool (decide (l = m))) ∧ Moved (fun _ => False) w w' := by
  have HL := hide hl
  have HM := hide hm
  have hl0 := hl.most
  have hm0 := hm.most
  clear hl hm
  by_cases hn : ((l.length : Nat) : Int) = ((m.length : Nat) : Int)
  · have hnn : l.length = m.length := by omega
    have HNN := hide hnn
    rw [← hnn]
    obtain ⟨CL, hCL⟩ : ∃ CL : World → Prop, CL = fun v => Moved (fun _ => False) w v := ⟨_, rfl⟩
    have un : ∀ v, CL v → Moved (fun _ => False) w v := fun v k => by rw [hCL] at k; exact k
    have drew : ∀ v, CL v → CL v.drew := fun v k => by rw [hCL] at k ⊢; exact k.drew
    have BS : Hid (CL w) := hide (by rw [hCL]; exact Moved.refl _ _)
    have ne : Nonempty (SX CL) := ⟨⟨w, unhide BS⟩⟩
    clear hn hnn hm0 hCL
    go_enter Tryz.func14, Tryz.ntmps14
    go_wp2_with fail
    go_loopw [5] (fun i wr => ∃ k : Nat, i = .int .i64 (k : Int) ∧ k ≤ l.length ∧ CL wr ∧ Hid (∀ j x y, j < k → l[j]? = some x → m[j]? = some y → x = y)) (fun i _ => l.length - (intOf i).toNat)
    case atStart => exact ⟨0, rfl, Nat.zero_le _, unhide BS, hide fun j _ _ hj => absurd hj (Nat.not_lt_zero _)⟩
    case round =>
      obtain ⟨k, rfl, hk, hmv, HA⟩ := hrel
      by_cases hlt : k < l.length
      · have g1 : (k : Int) < (l.length : Int) := by omega
        have hk0 : (0 : Int) ≤ (k : Int) := by omega
        have hwk : IntKind.i64.wrap ((k : Int) + 1) = (k : Int) + 1 := Go.IntWalk.i64_in _ (by omega)
        obtain ⟨x, hx⟩ : ∃ x, l[k]? = some x := ⟨_, List.getElem?_eq_getElem hlt⟩
        obtain ⟨y, hy⟩ : ∃ y, m[k]? = some y := ⟨_, List.getElem?_eq_getElem (by rw [← unhide HNN]; exact hlt)⟩
        obtain ⟨ga, rfl, hra, hga⟩ := (unhide HL).at hx
        obtain ⟨gb, rfl, hrb, hgb⟩ := (unhide HM).at hy
        have RY : Hid (∀ v, (∃ p : SX CL, v = p.w) → v.rangeAt ga (k * 10) (outV x)) := hide (by rintro v ⟨p, rfl⟩; exact range_keep hra hga (un _ p.ok))
        have RZ : Hid (∀ v, (∃ p : SX CL, v = p.w) → v.rangeAt gb (k * 10) (outV y)) := hide (by rintro v ⟨p, rfl⟩; exact range_keep hrb hgb (un _ p.ok))
        have SNO : Hid (sameW x y = false → decide (l = m) = false) := hide (fun h => sameL_no hx hy h)
        have SYES : Hid (sameW x y = true → ∀ j x y, j < k + 1 → l[j]? = some x → m[j]? = some y → x = y) := hide fun h j x' y' hj hx' hy' => by
          by_cases e : j = k
          · subst e
            rw [hx] at hx'; cases hx'
            rw [hy] at hy'; cases hy'
            unfold sameW at h; exact of_decide_eq_true h
          · exact unhide HA j x' y' (by omega) hx' hy'
        clear hra hrb hga hgb hx hy HA
        obtain ⟨pk, ps, ⟨p0, p1, p2, p3, p4, p5, p6, p7⟩⟩ := x
        obtain ⟨qk, qs, ⟨q0, q1, q2, q3, q4, q5, q6, q7⟩⟩ := y
        simp only [outV_eq] at RY RZ
        go_upto_region 6 with fail
        refine wp_region_sx (St := CL) (by kernel_rfl) (by kernel_rfl) (drew _ hmv) ?_
        go_big_quiet_step (fail)
        go_big_quiet_step (fail)
        go_big_quiet_step (fail)
        refine wpQuiet_load_onx rfl 52 (.tmp 19) rfl ga (k * 10) (by simp [go_sem]) [.string ⟨pk.toArray⟩, .int .i64 ps, .int .i64 p0, .int .i64 p1, .int .i64 p2, .int .i64 p3, .int .i64 p4, .int .i64 p5, .int .i64 p6, .int .i64 p7] _ (unhide RY) Tryz.underlying52 rfl (by kernel_rfl) ?_
        go_simp
        go_big_quiet_step (fail)
        go_big_quiet_step (fail)
        go_big_quiet_step (fail)
        refine wpQuiet_load_onx rfl 52 (.tmp 23) rfl gb (k * 10) (by simp [go_sem]) [.string ⟨qk.toArray⟩, .int .i64 qs, .int .i64 q0, .int .i64 q1, .int .i64 q2, .int .i64 q3, .int .i64 q4, .int .i64 q5, .int .i64 q6, .int .i64 q7] _ (unhide RZ) Tryz.underlying52 rfl (by kernel_rfl) ?_
        go_simp
        repeat (go_big_quiet_step (fail))
        refine wpQuiet_nil ?_
        intro pw
        have OK1 := pw.ok
        generalize pw.w = v1 at OK1 ⊢
        clear RY RZ hmv
        try dsimp only
        by_cases e : sameW ⟨pk, ps, ⟨p0, p1, p2, p3, p4, p5, p6, p7⟩⟩ ⟨qk, qs, ⟨q0, q1, q2, q3, q4, q5, q6, q7⟩⟩ = true
        · have SY := hide (unhide SYES e)
          rw [e]
          clear SNO SYES e
          go_wp2_with fail
          go_roundw
          case rel => exact ⟨k + 1, rfl, by omega, OK1, SY⟩
          case measure => simp [intOf]; omega
        · have e' := Bool.eq_false_iff.2 e
          have SN := hide (unhide SNO e')
          rw [e']
          clear SNO SYES e e'
          go_wp2_with fail
          go_ret
          exact ⟨by rw [unhide SN]; rfl, un _ OK1⟩
      · have g1 : ¬ (k : Int) < (l.length : Int) := by omega
        have hke : k = l.length := by omega
        have SY : Hid (decide (l = m) = true) := hide (decide_eq_true (sameL_yes (unhide HNN) (fun j x y hx hy => unhide HA j x y (by rw [hke]; exact (List.getElem?_eq_some_iff.1 hx).1) hx hy)))
        go_wp2_with fail
        go_ret
        exact ⟨by rw [unhide SY]; rfl, un _ hmv⟩
  · have SN : Hid (decide (l = m) = false) := hide (decide_eq_false fun e => hn (by rw [e]))
    go_enter Tryz.func14, Tryz.ntmps14
    go_wp2_with fail
    go_ret
    exact ⟨by rw [unhide SN]; rfl, Moved.refl _ _⟩
end Go.Proofs.YtigmhljaoicdbaaGreat

namespace Go.Proofs.YtigmhljaoicdbaaGreat
open Go.RowKit
theorem Here.all2 {w0 v : World} {p : Nat} {l : List (Win AggV)} {R : List Held} (h : Here w0 v p l R) (hl : l.length ≤ 1000) :
    Calls Tryz.prog 71 #[.pointer (some ⟨p, 0, none⟩)] v fun e v' => ∃ a c, e = .returned (.slice a l.length c) ∧ Here w0 v' p l ((a, c, l) :: R) ∧ Below v.heap.size v v' := by
  obtain ⟨F, h⟩ := h
  exact (all_any h.st hl).mono fun e v' ⟨a, c, h1, h2, h3⟩ => ⟨a, c, h1, ⟨F, h.take (h.below h3).st (fun _ f => f) (Moved.of_below h3) h2⟩, h3⟩
theorem Here.twin {w0 v : World} {p : Nat} {l : List (Win AggV)} {R : List Held} (h : Here w0 v p l R) :
    Calls Tryz.prog 75 #[.pointer (some ⟨p, 0, none⟩)] v fun e v' => ∃ q, e = .returned (.pointer (some ⟨q, 0, none⟩)) ∧ Here v v' q l [] ∧ Below v.heap.size v v' := by
  obtain ⟨F, h⟩ := h
  exact (twin_any h.st).mono fun e v' ⟨q, F', h1, h2, h3, h4⟩ => ⟨q, h1, ⟨F', h2, h3, h4, fun r hr => by cases hr⟩, h4⟩
theorem same_self {w : World} {a b : Option Addr} {c d : Nat} {l : List (Win AggV)} (hl : Lay w a l) (hm : Lay w b l) :
    Calls Tryz.prog 14 #[.slice a l.length c, .slice b l.length d] w fun e w' => e = .returned (.bool true) ∧ Below w.heap.size w w' :=
  (same_any hl hm).mono fun e w' ⟨h1, h2⟩ => ⟨by rw [h1, show decide (l = l) = true from decide_eq_true rfl], h2.below (fun _ f => f.elim) (Nat.le_refl _)⟩
theorem good_drop {l : List (Win AggV)} (h : Good SO l) (n : Nat) : Good SO (l.drop n) :=
  ⟨h.rise.sublist (List.drop_sublist n l), Nat.le_trans (by rw [List.length_drop]; omega) h.most, fun a ha => h.all a (List.mem_of_mem_drop ha)⟩
theorem good_plays {w : World} {a : Option Addr} {len cap : Nat} {z : List ActZ} (h : IsActs w a len cap z) : Good SO (playS SO [] z) := play_good so_law good_nil (fun p hp => (h.ok p hp).n)
theorem Here.setNext {w0 v : World} {p : Nat} {l : List (Win AggV)} {j : Nat} {x : Win AggV} (hx : l[j]? = some x) (hg : Good SO l) (hm : Mild l) (hf : Fine l) (h : Here w0 v p (l.drop (j + 1)) []) :
    Calls Tryz.prog 66 #[.pointer (some ⟨p, 0, none⟩), .agg (outV x).toArray] v fun e v' => e = .returned (.int .i64 0) ∧ Here w0 v' p (l.drop j) [] := by
  obtain ⟨hj, rfl⟩ := List.getElem?_eq_some_iff.1 hx
  have hmem : l[j] ∈ l := List.getElem_mem hj
  have := h.set (good_drop hg (j + 1)).most l[j] (hm.ins_ _ hmem) (hf.oks _ hmem)
  rw [set_next (by rw [← List.drop_eq_getElem_cons hj]; exact good_drop hg j), ← List.drop_eq_getElem_cons hj] at this
  exact this
theorem row_at {w : World} {B g c : Nat} {l : List (Win AggV)} (h : OutK.Row w B (some ⟨g, 0, none⟩) c l) : RowAt w g (OutK.cells l) := by
  refine ⟨(row_lt h g rfl).2, fun i hi => ?_, fun i _ => ?_⟩
  · have := (row_lies h).2 _ rfl i _ (List.getElem?_eq_getElem hi)
    rw [Addr.add_mid, Nat.zero_add] at this
    rw [this, List.getD_eq_getElem?_getD, List.getElem?_eq_getElem hi]; rfl
  · rcases h.2 with ⟨hv, _⟩ | ⟨g', cap, cur, hv, _, hg, _⟩
    · simp at hv
    · simp only [Value.slice.injEq, Option.some.injEq, Addr.mk.injEq] at hv
      obtain ⟨⟨rfl, _⟩, _⟩ := hv
      simp [World.frozen?, hg]
end Go.Proofs.YtigmhljaoicdbaaGreat

namespace Go.Proofs.YtigmhljaoicdbaaGreat
open Go.RowKit
theorem tlate_any (a m : Int) (w : World) : Calls Tryz.prog 79 #[.int .i64 a, .int .i64 m] w fun e w' => e = .returned (.bool (Sp.lateI a m)) ∧ w' = w := by
  have C1 := hide (fun v => Sp.start_any a v)
  have C2 := hide (fun v => Sp.over_any (Sp.startI a) m v)
  have HL : Hid (Sp.lateI a m = Sp.overI (Sp.startI a) m) := hide rfl
  generalize Sp.startI a = s at *
  go_enter Tryz.func79, Tryz.ntmps79
  go_wp2_with fail
  refine (unhide C1 _).mono ?_
  rintro e v' ⟨rfl, hw⟩
  rw [hw]
  clear hw v'
  go_wp2_with fail
  refine (unhide C2 _).mono ?_
  rintro e v' ⟨rfl, hw⟩
  rw [hw]
  clear hw v'
  go_wp2_with fail
  go_ret
  exact ⟨by rw [unhide HL]; rfl, rfl⟩
/-- Block p holds a line: a store at q, of the blocks G, and the mark. -/
structure LineF (v : World) (p q : Nat) (G : Nat → Prop) (L : LineV) : Prop where
  row : RowAt v p [.pointer (some ⟨q, 0, none⟩), .int .i64 L.mark]
  st : StIs v q G L.row
  off : ¬ G p
/-- A line at p, of the blocks F. -/
def LineIs (v : World) (p : Nat) (F : Nat → Prop) (L : LineV) : Prop := ∃ q G, LineF v p q G L ∧ F = fun k => k = p ∨ G k
theorem LineIs.lt {v : World} {p : Nat} {F : Nat → Prop} {L : LineV} (h : LineIs v p F L) : ∀ k, F k → k < v.heap.size := by
  obtain ⟨q, G, h, rfl⟩ := h
  rintro k (rfl | hk)
  · exact h.row.lt
  · exact h.st.lt k hk
theorem LineIs.keep {G F : Nat → Prop} {v v' : World} {p : Nat} {L : LineV} (h : LineIs v p F L) (k : Moved G v v') (hG : ∀ i, G i → ¬ F i) : LineIs v' p F L := by
  obtain ⟨q, G', h, rfl⟩ := h
  exact ⟨q, G', ⟨h.row.keep k (fun g => hG p g (.inl rfl)), h.st.keep k (fun i g f => hG i g (.inr f)), h.off⟩, rfl⟩
theorem LineIs.fine {v : World} {p : Nat} {F : Nat → Prop} {L : LineV} (h : LineIs v p F L) : Fine L.row := by obtain ⟨q, G, h, rfl⟩ := h; exact h.st.fine
/-- A step of a line. -/
def DidL (v v' : World) (p : Nat) (F : Nat → Prop) (L : LineV) : Prop := ∃ F', LineIs v' p F' L ∧ (∀ k, F' k → F k ∨ v.heap.size ≤ k) ∧ Moved F v v'
theorem DidL.same {v : World} {p : Nat} {F : Nat → Prop} {L : LineV} (h : LineIs v p F L) : DidL v v p F L := ⟨F, h, fun _ f => .inl f, Moved.refl _ _⟩
theorem LineF.did {v v' : World} {p q : Nat} {G : Nat → Prop} {L : LineV} {l : List (Win AggV)} (h : LineF v p q G L) (hd : Did v v' q G l) : DidL v v' p (fun k => k = p ∨ G k) ⟨L.mark, l⟩ := by
  obtain ⟨G', h1, h2, h3⟩ := hd
  refine ⟨_, ⟨q, G', ⟨h.row.keep h3 h.off, h1, fun f => ?_⟩, rfl⟩, fun k hk => ?_, h3.mono fun _ g => .inl (.inr g)⟩
  · rcases h2 p f with f | f
    · exact h.off f
    · have := h.row.lt; omega
  · rcases hk with rfl | hk
    · exact .inl (.inl rfl)
    · exact (h2 k hk).imp .inr id
theorem LineF.same {v v' : World} {p q : Nat} {G : Nat → Prop} {L : LineV} {l : List (Win AggV)} (h : LineF v p q G L) (hs : StIs v' q G l) (m : Moved G v v') : LineIs v' p (fun k => k = p ∨ G k) ⟨L.mark, l⟩ ∧ Moved (fun k => k = p ∨ G k) v v' :=
  ⟨⟨q, G, ⟨h.row.keep m h.off, hs, h.off⟩, rfl⟩, m.mono fun _ g => .inl (.inr g)⟩
theorem tnew_any (v : World) : Calls Tryz.prog 27 #[] v fun e v' => ∃ p F, e = .returned (.pointer (some ⟨p, 0, none⟩)) ∧ LineIs v' p F newL ∧ (∀ k, F k → v.heap.size ≤ k) ∧ Below v.heap.size v v' := by
  have C := hide (new_any v)
  go_enter Tryz.func27, Tryz.ntmps27
  go_wp2_with fail
  refine (unhide C).mono ?_
  rintro e v1 ⟨rfl, hb, hs⟩
  have HB := hide hb
  have HS := hide hs
  clear hb hs C
  go_wp2_with fail
  go_ret
  have b2 : Below v1.heap.size v1 (v1.alloc (.cells #[.pointer (some ⟨v.heap.size, 0, none⟩), .int .i64 0] 78)) := (Below.refl _ _).alloc (Nat.le_refl _) _
  refine ⟨v1.heap.size, _, rfl, ⟨v.heap.size, foot v.heap.size none, ⟨row_new v1 _ _, (unhide HS).keep (Moved.of_below (F := fun _ => False) b2) (fun _ f => f.elim), fun f => Nat.lt_irrefl _ ((unhide HS).lt _ f)⟩, rfl⟩, ?_, (unhide HB).trans (b2.mono (unhide HB).size)⟩
  rintro k (rfl | rfl | f)
  · exact (unhide HB).size
  · exact Nat.le_refl _
  · cases f
theorem tat_any {v : World} {p : Nat} {F : Nat → Prop} {L : LineV} (h : LineIs v p F L) : Calls Tryz.prog 42 #[.pointer (some ⟨p, 0, none⟩)] v fun e v' => e = .returned (.int .i64 L.mark) ∧ v' = v := by
  obtain ⟨q, G, h, rfl⟩ := h
  have c1 : v.cell? ⟨p, 1, none⟩ = some (.int .i64 L.mark) := h.row.cell 1 (Nat.lt_of_sub_pos (Nat.succ_pos _))
  clear h
  go_enter Tryz.func42, Tryz.ntmps42
  go_wp2_with fail
  go_ret
  exact ⟨rfl, rfl⟩
theorem topen_any {v : World} {p : Nat} {F : Nat → Prop} {L : LineV} (h : LineIs v p F L) (hl : L.row.length ≤ 1000) :
    Calls Tryz.prog 43 #[.pointer (some ⟨p, 0, none⟩)] v fun e v' => ∃ a c, e = .returned (.slice a L.row.length c) ∧ OutK.Row v' v.heap.size a c L.row ∧ Below v.heap.size v v' := by
  obtain ⟨q, G, h, rfl⟩ := h
  have c0 : v.cell? ⟨p, 0, none⟩ = some (.pointer (some ⟨q, 0, none⟩)) := h.row.cell 0 (Nat.succ_pos _)
  have C := hide (all_any h.st hl)
  clear h
  go_enter Tryz.func43, Tryz.ntmps43
  go_wp2_with fail
  refine (unhide C).mono ?_
  rintro e v1 ⟨a, c, rfl, h1, h2⟩
  have H1 := hide h1
  have H2 := hide h2
  clear h1 h2 C c0
  go_wp2_with fail
  go_ret
  exact ⟨a, c, rfl, unhide H1, unhide H2⟩
theorem put_code {l : List (Win AggV)} {k : List UInt8} {a v : Int} (hk : keyOk k = true ∧ Sp.rightI a = true) : (putS SO l k a v).2 = 0 ∨ ((putS SO l k a v).2 = 6 ∧ (putS SO l k a v).1 = l) := by
  rcases put_ways (O := SO) l k a v with ⟨hn, _⟩ | ⟨_, ⟨x, hx, e⟩ | ⟨hx, ⟨_, e⟩ | ⟨hl, e⟩⟩⟩
  · exact absurd hk hn
  · rw [e]; exact .inl rfl
  · rw [e]; exact .inr ⟨rfl, rfl⟩
  · rw [e]; exact .inl rfl
set_option maxRecDepth 100000 in
set_option maxHeartbeats 4000000 in
theorem tput_any {v : World} {p : Nat} {F : Nat → Prop} {L : LineV} (h : LineIs v p F L) (hl : L.row.length ≤ 32) (hIn : ∀ a ∈ L.row, a.agg.In) (k : List UInt8) (a n : Int) (hn : i64 n) :
    Calls Tryz.prog 54 #[.pointer (some ⟨p, 0, none⟩), .string ⟨k.toArray⟩, .int .i64 a, .int .i64 n] v fun e v' => e = .returned (.int .i64 ((putL L k a n).2 : Int)) ∧ DidL v v' p F (putL L k a n).1 := by
  have SAME := hide (DidL.same h)
  obtain ⟨q, G, h, rfl⟩ := h
  have c0 : v.cell? ⟨p, 0, none⟩ = some (.pointer (some ⟨q, 0, none⟩)) := h.row.cell 0 (Nat.succ_pos _)
  have c1 : v.cell? ⟨p, 1, none⟩ = some (.int .i64 L.mark) := h.row.cell 1 (Nat.lt_of_sub_pos (Nat.succ_pos _))
  have CK := hide (fun u => key_any k u)
  have CR := hide (fun u => Sp.right_any a u)
  have CL := hide (fun u => tlate_any a L.mark u)
  have CP := hide (sput_any h.st hl hIn k a n hn)
  have H := hide h
  clear h
  rcases putL_ways L k a n with ⟨hk, e⟩ | ⟨hk, ⟨hlt, e⟩ | ⟨hlt, hz⟩⟩
  · rw [e]
    have HE := hide e
    clear e
    by_cases hko : keyOk k = true
    · have hro : Sp.rightI a = false := Bool.eq_false_iff.2 (fun h => hk ⟨hko, h⟩)
      rw [hko] at CK
      rw [hro] at CR
      clear hk hko hro
      go_enter Tryz.func54, Tryz.ntmps54
      go_wp2_with fail
      refine (unhide CK _).mono ?_
      rintro e v' ⟨rfl, hw⟩
      rw [hw]
      clear hw v'
      go_wp2_with fail
      refine (unhide CR _).mono ?_
      rintro e v' ⟨rfl, hw⟩
      rw [hw]
      clear hw v'
      go_wp2_with fail
      go_ret
      exact ⟨rfl, unhide SAME⟩
    · rw [Bool.eq_false_iff.2 hko] at CK
      clear hk hko
      go_enter Tryz.func54, Tryz.ntmps54
      go_wp2_with fail
      refine (unhide CK _).mono ?_
      rintro e v' ⟨rfl, hw⟩
      rw [hw]
      clear hw v'
      go_wp2_with fail
      go_ret
      exact ⟨rfl, unhide SAME⟩
  · rw [e]
    rw [hk.1] at CK
    rw [hk.2] at CR
    rw [hlt] at CL
    clear hk hlt e
    go_enter Tryz.func54, Tryz.ntmps54
    go_wp2_with fail
    refine (unhide CK _).mono ?_
    rintro e v' ⟨rfl, hw⟩
    rw [hw]
    clear hw v'
    go_wp2_with fail
    refine (unhide CR _).mono ?_
    rintro e v' ⟨rfl, hw⟩
    rw [hw]
    clear hw v'
    go_wp2_with fail
    refine (unhide CL _).mono ?_
    rintro e v' ⟨rfl, hw⟩
    rw [hw]
    clear hw v'
    go_wp2_with fail
    go_ret
    exact ⟨rfl, unhide SAME⟩
  · have HC := hide (put_code (l := L.row) (v := n) hk)
    rw [hk.1] at CK
    rw [hk.2] at CR
    rw [hlt] at CL
    rcases hz with ⟨h0, e⟩ | ⟨h0, e⟩
    · rw [e]
      rw [h0] at CP
      clear e h0 HC
      
      clear hk hlt
      go_enter Tryz.func54, Tryz.ntmps54
      go_wp2_with fail
      refine (unhide CK _).mono ?_
      rintro e v' ⟨rfl, hw⟩
      rw [hw]
      clear hw v'
      go_wp2_with fail
      refine (unhide CR _).mono ?_
      rintro e v' ⟨rfl, hw⟩
      rw [hw]
      clear hw v'
      go_wp2_with fail
      refine (unhide CL _).mono ?_
      rintro e v' ⟨rfl, hw⟩
      rw [hw]
      clear hw v'
      go_upto_region 8 with fail
      refine (unhide CP).mono ?_
      rintro e v1 ⟨rfl, hd⟩
      have HD := hide hd
      clear hd CP c0 c1
      go_wp2_with fail
      go_ret
      exact ⟨rfl, (unhide H).did (unhide HD)⟩
    · have h6 := (unhide HC).resolve_left h0
      rw [e]
      rw [h6.1, h6.2] at CP
      clear e h0 HC h6
      
      clear hk hlt
      go_enter Tryz.func54, Tryz.ntmps54
      go_wp2_with fail
      refine (unhide CK _).mono ?_
      rintro e v' ⟨rfl, hw⟩
      rw [hw]
      clear hw v'
      go_wp2_with fail
      refine (unhide CR _).mono ?_
      rintro e v' ⟨rfl, hw⟩
      rw [hw]
      clear hw v'
      go_wp2_with fail
      refine (unhide CL _).mono ?_
      rintro e v' ⟨rfl, hw⟩
      rw [hw]
      clear hw v'
      go_upto_region 8 with fail
      refine (unhide CP).mono ?_
      rintro e v1 ⟨rfl, hd⟩
      have HD := hide hd
      clear hd CP c0 c1
      go_wp2_with fail
      go_ret
      exact ⟨rfl, (unhide H).did (unhide HD)⟩
set_option maxRecDepth 100000 in
set_option maxHeartbeats 4000000 in
theorem tmark_any {v : World} {p : Nat} {F : Nat → Prop} {L : LineV} (h : LineIs v p F L) (hl : L.row.length ≤ 1000) (a : Int) :
    Calls Tryz.prog 55 #[.pointer (some ⟨p, 0, none⟩), .int .i64 a] v fun e v' => ∃ a1 c1, e = .returned (.tuple #[.int .i64 ((markL L a).2.1 : Int), .slice a1 (markL L a).2.2.length c1]) ∧ OutK.Row v' v.heap.size a1 c1 (markL L a).2.2 ∧ LineIs v' p F (markL L a).1 ∧ Moved F v v' := by
  have SAME := hide (⟨h, Moved.refl F v⟩ : LineIs v p F L ∧ Moved F v v)
  obtain ⟨q, G, h, rfl⟩ := h
  have c0 : v.cell? ⟨p, 0, none⟩ = some (.pointer (some ⟨q, 0, none⟩)) := h.row.cell 0 (Nat.succ_pos _)
  have c1 : v.cell? ⟨p, 1, none⟩ = some (.int .i64 L.mark) := h.row.cell 1 (Nat.lt_of_sub_pos (Nat.succ_pos _))
  have CR := hide (fun u => Sp.right_any a u)
  have H := hide h
  clear h
  rcases markL_ways L a with ⟨hr, e⟩ | ⟨hr, ⟨hle, e⟩ | ⟨hle, e⟩⟩
  · rw [e]
    rw [hr] at CR
    clear e hr
    go_enter Tryz.func55, Tryz.ntmps55
    go_wp2_with fail
    refine (unhide CR _).mono ?_
    rintro e v' ⟨rfl, hw⟩
    rw [hw]
    clear hw v'
    go_wp2_with fail
    go_ret2
    exact ⟨none, 0, rfl, row_none _ _, (unhide SAME).1, (unhide SAME).2⟩
  · rw [e]
    rw [hr] at CR
    clear e hr
    go_enter Tryz.func55, Tryz.ntmps55
    go_wp2_with fail
    refine (unhide CR _).mono ?_
    rintro e v' ⟨rfl, hw⟩
    rw [hw]
    clear hw v'
    go_wp2_with fail
    go_ret2
    exact ⟨none, 0, rfl, row_none _ _, (unhide SAME).1, (unhide SAME).2⟩
  · rw [e]
    rw [hr] at CR
    have f1 : v.frozen? ⟨p, 1, none⟩ = false := (unhide H).row.free 1 (Nat.lt_of_sub_pos (Nat.succ_pos _))
    obtain ⟨v1, hv1⟩ : ∃ v1, v1 = v.setCell ⟨p, 1, none⟩ (.int .i64 a) := ⟨_, rfl⟩
    have m1 : Moved (fun k => k = p) v v1 := by rw [hv1]; exact moved_set v p 1 _
    have r1 : RowAt v1 p [.pointer (some ⟨q, 0, none⟩), .int .i64 a] := by rw [hv1]; exact (unhide H).row.set 1 (Nat.lt_of_sub_pos (Nat.succ_pos _)) _
    have H1 : LineF v1 p q G ⟨a, L.row⟩ := ⟨r1, (unhide H).st.keep m1 (fun i hi g => (unhide H).off (hi ▸ g)), (unhide H).off⟩
    have CT := hide (take_any H1.st hl a)
    have c2 : v1.cell? ⟨p, 0, none⟩ = some (.pointer (some ⟨q, 0, none⟩)) := r1.cell 0 (Nat.succ_pos _)
    have HV := hide hv1
    have M1 := hide m1
    have HH1 := hide H1
    clear e hr m1 hv1 r1 H1
    go_enter Tryz.func55, Tryz.ntmps55
    go_wp2_with fail
    refine (unhide CR _).mono ?_
    rintro e v' ⟨rfl, hw⟩
    rw [hw]
    clear hw v'
    go_upto_region 6 with fail
    rw [← unhide HV]
    clear c0 c1 f1
    go_wp2_with fail
    refine (unhide CT).mono ?_
    rintro e v2 ⟨a1, cp, rfl, hro, hst, hmv⟩
    have HRO := hide hro
    have HST := hide hst
    have HMV := hide hmv
    clear hro hst hmv CT c2
    go_wp2_with fail
    go_ret2
    obtain ⟨l1, l2⟩ := (unhide HH1).same (unhide HST) (unhide HMV)
    exact ⟨a1, cp, rfl, row_mono (unhide HRO) (unhide M1).size, l1, ((unhide M1).mono (fun k e => .inl (.inl e))).trans l2 (fun _ f => .inl f)⟩
set_option maxRecDepth 100000 in
set_option maxHeartbeats 4000000 in
theorem ttwin_any {v : World} {p : Nat} {F : Nat → Prop} {L : LineV} (h : LineIs v p F L) :
    Calls Tryz.prog 46 #[.pointer (some ⟨p, 0, none⟩)] v fun e v' => ∃ p2 F2, e = .returned (.pointer (some ⟨p2, 0, none⟩)) ∧ LineIs v' p2 F2 L ∧ (∀ k, F2 k → v.heap.size ≤ k) ∧ Below v.heap.size v v' := by
  obtain ⟨q, G, h, rfl⟩ := h
  obtain ⟨CL, hCL⟩ : ∃ CL : World → Prop, CL = fun u => Below v.heap.size v u := ⟨_, rfl⟩
  have un : ∀ u, CL u → Below v.heap.size v u := fun u k => by rw [hCL] at k; exact k
  have to_ : Hid (∀ u, Below v.heap.size v u → CL u) := hide fun u k => by rw [hCL]; exact k
  have base : CL v.drew := unhide to_ _ ((Below.refl _ _).drew)
  have q0 : ∀ u : SW CL, u.w.cell? ⟨p, 0, none⟩ = some (.pointer (some ⟨q, 0, none⟩)) := fun u => (h.row.below (un _ u.ok)).cell 0 (Nat.succ_pos _)
  have q1 : ∀ u : SW CL, u.w.cell? ⟨p, 1, none⟩ = some (.int .i64 L.mark) := fun u => (h.row.below (un _ u.ok)).cell 1 (Nat.lt_of_sub_pos (Nat.succ_pos _))
  have C := hide (twin_any (h.st.keep ((Moved.refl (fun _ => False) v).drew) (fun _ f => f.elim)))
  clear h hCL un
  go_enter Tryz.func46, Tryz.ntmps46
  go_upto_region 3 with fail
  refine wp_region_chain (S := CL) [true, true, true, true, false, true, true, true, true, false, false, false] [false, false, false, false, true, false, false, false, false, true, true, true] (by kernel_rfl) (by kernel_rfl) (by kernel_rfl) base ?_
  apply Exists.intro
  apply And.intro
  · intro q
    have n0 : Nonempty (SK CL q.w) := ⟨⟨q, rfl⟩⟩
    simp only [pickM]
    repeat (go_big_quiet_step (fail))
    exact wpQuiet_nil rfl
  · simp only [pickZ]
    refine chain_call 75 #[.pointer (some ⟨q, 0, none⟩)] rfl (by simp [go_sem]) ?_
    refine (unhide C).mono ?_
    rintro e v1 ⟨q2, G2, rfl, hs, hg, hb⟩
    have hb' : Below v.heap.size v v1 := ((Below.refl v.heap.size v).drew).trans (hb.mono (Nat.le_refl _))
    refine ⟨_, rfl, unhide to_ _ hb', ?_⟩
    have HS := hide hs
    have HG := hide hg
    have HB := hide hb'
    clear hs hg hb hb' C base q0 q1
    go_simp
    have hb3 : Below v1.heap.size v1 (v1.alloc (.cells #[.pointer (some ⟨q2, 0, none⟩), .int .i64 L.mark] 78)) := (Below.refl _ _).alloc (Nat.le_refl _) _
    have hb4 : Below v.heap.size v (v1.alloc (.cells #[.pointer (some ⟨q2, 0, none⟩), .int .i64 L.mark] 78)) := (unhide HB).trans (hb3.mono (unhide HB).size)
    have CL4 := hide (unhide to_ _ hb4)
    have HB3 := hide hb3
    have HB4 := hide hb4
    clear hb3 hb4
    refine chain_step (.agg #[.pointer (some ⟨q2, 0, none⟩), .int .i64 L.mark]) v1 rfl (by simp [go_sem]) (unhide to_ _ (unhide HB)) ?_
    go_simp
    refine chain_step (.pointer (some ⟨v1.heap.size, 0, none⟩)) (v1.alloc (.cells #[.pointer (some ⟨q2, 0, none⟩), .int .i64 L.mark] 78)) rfl (by simp [go_sem]) (unhide CL4) ?_
    go_simp
    refine chain_step (.pointer (some ⟨v1.heap.size, 0, none⟩)) (v1.alloc (.cells #[.pointer (some ⟨q2, 0, none⟩), .int .i64 L.mark] 78)) rfl (by simp [go_sem]) (unhide CL4) ?_
    simp only [chainM]
    go_simp
    go_wp2_with fail
    go_ret
    refine ⟨v1.heap.size, _, rfl, ⟨q2, G2, ⟨row_new v1 _ _, (unhide HS).keep (Moved.of_below (F := fun _ => False) (unhide HB3)) (fun _ f => f.elim), fun f => Nat.lt_irrefl _ ((unhide HS).lt _ f)⟩, rfl⟩, ?_, unhide HB4⟩
    rintro k (rfl | f)
    · exact (unhide HB).size
    · exact unhide HG k f
end Go.Proofs.YtigmhljaoicdbaaGreat

namespace Go.Proofs.YtigmhljaoicdbaaGreat
open Go.RowKit
/-- Cells 0 and 1 of block p are a line: a store at q, of the blocks G, and the mark. -/
structure LineC (v : World) (p q : Nat) (G : Nat → Prop) (L : LineV) : Prop where
  c0 : v.cell? ⟨p, 0, none⟩ = some (.pointer (some ⟨q, 0, none⟩))
  c1 : v.cell? ⟨p, 1, none⟩ = some (.int .i64 L.mark)
  f0 : v.frozen? ⟨p, 0, none⟩ = false
  f1 : v.frozen? ⟨p, 1, none⟩ = false
  st : StIs v q G L.row
  off : ¬ G p
theorem LineC.lt {v : World} {p q : Nat} {G : Nat → Prop} {L : LineV} (h : LineC v p q G L) : p < v.heap.size := World.block_lt_of_cell? _ _ h.c0
theorem LineC.keep {v v' : World} {p q : Nat} {G K : Nat → Prop} {L : LineV} (h : LineC v p q G L) (m : Moved K v v') (hp : ¬ K p) (hG : ∀ i, K i → ¬ G i) : LineC v' p q G L :=
  ⟨(m.cell (p := ⟨p, 0, none⟩) h.lt hp).trans h.c0, (m.cell (p := ⟨p, 1, none⟩) h.lt hp).trans h.c1, (m.frozen (p := ⟨p, 0, none⟩) h.lt hp).trans h.f0, (m.frozen (p := ⟨p, 1, none⟩) h.lt hp).trans h.f1, h.st.keep m hG, h.off⟩
/-- Of block p nothing has turned from cell 2 on. -/
def Behind (v v' : World) (p : Nat) : Prop := ∀ n, 2 ≤ n → v'.cell? ⟨p, n, none⟩ = v.cell? ⟨p, n, none⟩ ∧ v'.frozen? ⟨p, n, none⟩ = v.frozen? ⟨p, n, none⟩
theorem Behind.refl (v : World) (p : Nat) : Behind v v p := fun _ _ => ⟨rfl, rfl⟩
theorem Behind.trans {a b c : World} {p : Nat} (h : Behind a b p) (k : Behind b c p) : Behind a c p := fun n hn => ⟨(k n hn).1.trans (h n hn).1, (k n hn).2.trans (h n hn).2⟩
theorem Behind.moved {K : Nat → Prop} {v v' : World} {p : Nat} (m : Moved K v v') (hp : ¬ K p) (hl : p < v.heap.size) : Behind v v' p := fun n _ => ⟨m.cell (p := ⟨p, n, none⟩) hl hp, m.frozen (p := ⟨p, n, none⟩) hl hp⟩
theorem Behind.set (v : World) (p : Nat) (u : Value) : Behind v (v.setCell ⟨p, 1, none⟩ u) p := fun n hn =>
  ⟨by rw [World.cell?_setCell_other (h := fun e => by have := congrArg Addr.off e; simp only at this; omega)], by rw [World.frozen?_setCell]⟩
/-- A step of it. -/
def DidC (v v' : World) (p q : Nat) (G : Nat → Prop) (L : LineV) : Prop := ∃ G', LineC v' p q G' L ∧ (∀ k, G' k → G k ∨ v.heap.size ≤ k) ∧ Moved (fun k => k = p ∨ G k) v v' ∧ Behind v v' p
theorem DidC.same {v : World} {p q : Nat} {G : Nat → Prop} {L : LineV} (h : LineC v p q G L) : DidC v v p q G L := ⟨G, h, fun _ f => .inl f, Moved.refl _ _, Behind.refl _ _⟩
theorem LineC.did {v v' : World} {p q : Nat} {G : Nat → Prop} {L : LineV} {l : List (Win AggV)} (h : LineC v p q G L) (hd : Did v v' q G l) : DidC v v' p q G ⟨L.mark, l⟩ := by
  obtain ⟨G', h1, h2, h3⟩ := hd
  refine ⟨G', ⟨(h3.cell (p := ⟨p, 0, none⟩) h.lt h.off).trans h.c0, (h3.cell (p := ⟨p, 1, none⟩) h.lt h.off).trans h.c1, (h3.frozen (p := ⟨p, 0, none⟩) h.lt h.off).trans h.f0, (h3.frozen (p := ⟨p, 1, none⟩) h.lt h.off).trans h.f1, h1, fun f => ?_⟩, h2, h3.mono fun _ g => .inl (.inr g), Behind.moved h3 h.off h.lt⟩
  rcases h2 p f with f | f
  · exact h.off f
  · have := h.lt; omega
theorem LineC.same {v v' : World} {p q : Nat} {G : Nat → Prop} {L : LineV} {l : List (Win AggV)} (h : LineC v p q G L) (hs : StIs v' q G l) (m : Moved G v v') : LineC v' p q G ⟨L.mark, l⟩ ∧ Behind v v' p :=
  ⟨⟨(m.cell (p := ⟨p, 0, none⟩) h.lt h.off).trans h.c0, (m.cell (p := ⟨p, 1, none⟩) h.lt h.off).trans h.c1, (m.frozen (p := ⟨p, 0, none⟩) h.lt h.off).trans h.f0, (m.frozen (p := ⟨p, 1, none⟩) h.lt h.off).trans h.f1, hs, h.off⟩, Behind.moved m h.off h.lt⟩
theorem cat_any {v : World} {p : Nat} {q : Nat} {G : Nat → Prop} {L : LineV} (h : LineC v p q G L) : Calls Tryz.prog 42 #[.pointer (some ⟨p, 0, none⟩)] v fun e v' => e = .returned (.int .i64 L.mark) ∧ v' = v := by
  have c1 : v.cell? ⟨p, 1, none⟩ = some (.int .i64 L.mark) := h.c1
  clear h
  go_enter Tryz.func42, Tryz.ntmps42
  go_wp2_with fail
  go_ret
  exact ⟨rfl, rfl⟩
theorem copen_any {v : World} {p : Nat} {q : Nat} {G : Nat → Prop} {L : LineV} (h : LineC v p q G L) (hl : L.row.length ≤ 1000) :
    Calls Tryz.prog 43 #[.pointer (some ⟨p, 0, none⟩)] v fun e v' => ∃ a c, e = .returned (.slice a L.row.length c) ∧ OutK.Row v' v.heap.size a c L.row ∧ Below v.heap.size v v' := by
  have c0 : v.cell? ⟨p, 0, none⟩ = some (.pointer (some ⟨q, 0, none⟩)) := h.c0
  have C := hide (all_any h.st hl)
  clear h
  go_enter Tryz.func43, Tryz.ntmps43
  go_wp2_with fail
  refine (unhide C).mono ?_
  rintro e v1 ⟨a, c, rfl, h1, h2⟩
  have H1 := hide h1
  have H2 := hide h2
  clear h1 h2 C c0
  go_wp2_with fail
  go_ret
  exact ⟨a, c, rfl, unhide H1, unhide H2⟩
set_option maxRecDepth 100000 in
set_option maxHeartbeats 4000000 in
theorem cput_any {v : World} {p : Nat} {q : Nat} {G : Nat → Prop} {L : LineV} (h : LineC v p q G L) (hl : L.row.length ≤ 32) (hIn : ∀ a ∈ L.row, a.agg.In) (k : List UInt8) (a n : Int) (hn : i64 n) :
    Calls Tryz.prog 54 #[.pointer (some ⟨p, 0, none⟩), .string ⟨k.toArray⟩, .int .i64 a, .int .i64 n] v fun e v' => e = .returned (.int .i64 ((putL L k a n).2 : Int)) ∧ DidC v v' p q G (putL L k a n).1 := by
  have SAME := hide (DidC.same h)
  have c0 : v.cell? ⟨p, 0, none⟩ = some (.pointer (some ⟨q, 0, none⟩)) := h.c0
  have c1 : v.cell? ⟨p, 1, none⟩ = some (.int .i64 L.mark) := h.c1
  have CK := hide (fun u => key_any k u)
  have CR := hide (fun u => Sp.right_any a u)
  have CL := hide (fun u => tlate_any a L.mark u)
  have CP := hide (sput_any h.st hl hIn k a n hn)
  have H := hide h
  clear h
  rcases putL_ways L k a n with ⟨hk, e⟩ | ⟨hk, ⟨hlt, e⟩ | ⟨hlt, hz⟩⟩
  · rw [e]
    have HE := hide e
    clear e
    by_cases hko : keyOk k = true
    · have hro : Sp.rightI a = false := Bool.eq_false_iff.2 (fun h => hk ⟨hko, h⟩)
      rw [hko] at CK
      rw [hro] at CR
      clear hk hko hro
      go_enter Tryz.func54, Tryz.ntmps54
      go_wp2_with fail
      refine (unhide CK _).mono ?_
      rintro e v' ⟨rfl, hw⟩
      rw [hw]
      clear hw v'
      go_wp2_with fail
      refine (unhide CR _).mono ?_
      rintro e v' ⟨rfl, hw⟩
      rw [hw]
      clear hw v'
      go_wp2_with fail
      go_ret
      exact ⟨rfl, unhide SAME⟩
    · rw [Bool.eq_false_iff.2 hko] at CK
      clear hk hko
      go_enter Tryz.func54, Tryz.ntmps54
      go_wp2_with fail
      refine (unhide CK _).mono ?_
      rintro e v' ⟨rfl, hw⟩
      rw [hw]
      clear hw v'
      go_wp2_with fail
      go_ret
      exact ⟨rfl, unhide SAME⟩
  · rw [e]
    rw [hk.1] at CK
    rw [hk.2] at CR
    rw [hlt] at CL
    clear hk hlt e
    go_enter Tryz.func54, Tryz.ntmps54
    go_wp2_with fail
    refine (unhide CK _).mono ?_
    rintro e v' ⟨rfl, hw⟩
    rw [hw]
    clear hw v'
    go_wp2_with fail
    refine (unhide CR _).mono ?_
    rintro e v' ⟨rfl, hw⟩
    rw [hw]
    clear hw v'
    go_wp2_with fail
    refine (unhide CL _).mono ?_
    rintro e v' ⟨rfl, hw⟩
    rw [hw]
    clear hw v'
    go_wp2_with fail
    go_ret
    exact ⟨rfl, unhide SAME⟩
  · have HC := hide (put_code (l := L.row) (v := n) hk)
    rw [hk.1] at CK
    rw [hk.2] at CR
    rw [hlt] at CL
    rcases hz with ⟨h0, e⟩ | ⟨h0, e⟩
    · rw [e]
      rw [h0] at CP
      clear e h0 HC
      
      clear hk hlt
      go_enter Tryz.func54, Tryz.ntmps54
      go_wp2_with fail
      refine (unhide CK _).mono ?_
      rintro e v' ⟨rfl, hw⟩
      rw [hw]
      clear hw v'
      go_wp2_with fail
      refine (unhide CR _).mono ?_
      rintro e v' ⟨rfl, hw⟩
      rw [hw]
      clear hw v'
      go_wp2_with fail
      refine (unhide CL _).mono ?_
      rintro e v' ⟨rfl, hw⟩
      rw [hw]
      clear hw v'
      go_upto_region 8 with fail
      refine (unhide CP).mono ?_
      rintro e v1 ⟨rfl, hd⟩
      have HD := hide hd
      clear hd CP c0 c1
      go_wp2_with fail
      go_ret
      exact ⟨rfl, (unhide H).did (unhide HD)⟩
    · have h6 := (unhide HC).resolve_left h0
      rw [e]
      rw [h6.1, h6.2] at CP
      clear e h0 HC h6
      
      clear hk hlt
      go_enter Tryz.func54, Tryz.ntmps54
      go_wp2_with fail
      refine (unhide CK _).mono ?_
      rintro e v' ⟨rfl, hw⟩
      rw [hw]
      clear hw v'
      go_wp2_with fail
      refine (unhide CR _).mono ?_
      rintro e v' ⟨rfl, hw⟩
      rw [hw]
      clear hw v'
      go_wp2_with fail
      refine (unhide CL _).mono ?_
      rintro e v' ⟨rfl, hw⟩
      rw [hw]
      clear hw v'
      go_upto_region 8 with fail
      refine (unhide CP).mono ?_
      rintro e v1 ⟨rfl, hd⟩
      have HD := hide hd
      clear hd CP c0 c1
      go_wp2_with fail
      go_ret
      exact ⟨rfl, (unhide H).did (unhide HD)⟩
set_option maxRecDepth 100000 in
set_option maxHeartbeats 4000000 in
theorem cmark_any {v : World} {p : Nat} {q : Nat} {G : Nat → Prop} {L : LineV} (h : LineC v p q G L) (hl : L.row.length ≤ 1000) (a : Int) :
    Calls Tryz.prog 55 #[.pointer (some ⟨p, 0, none⟩), .int .i64 a] v fun e v' => ∃ a1 c1, e = .returned (.tuple #[.int .i64 ((markL L a).2.1 : Int), .slice a1 (markL L a).2.2.length c1]) ∧ OutK.Row v' v.heap.size a1 c1 (markL L a).2.2 ∧ LineC v' p q G (markL L a).1 ∧ Moved (fun k => k = p ∨ G k) v v' ∧ Behind v v' p := by
  have SAME := hide (⟨h, Moved.refl _ v, Behind.refl v p⟩ : LineC v p q G L ∧ Moved (fun k => k = p ∨ G k) v v ∧ Behind v v p)
  have c0 : v.cell? ⟨p, 0, none⟩ = some (.pointer (some ⟨q, 0, none⟩)) := h.c0
  have c1 : v.cell? ⟨p, 1, none⟩ = some (.int .i64 L.mark) := h.c1
  have CR := hide (fun u => Sp.right_any a u)
  have H := hide h
  clear h
  rcases markL_ways L a with ⟨hr, e⟩ | ⟨hr, ⟨hle, e⟩ | ⟨hle, e⟩⟩
  · rw [e]
    rw [hr] at CR
    clear e hr
    go_enter Tryz.func55, Tryz.ntmps55
    go_wp2_with fail
    refine (unhide CR _).mono ?_
    rintro e v' ⟨rfl, hw⟩
    rw [hw]
    clear hw v'
    go_wp2_with fail
    go_ret2
    exact ⟨none, 0, rfl, row_none _ _, unhide SAME⟩
  · rw [e]
    rw [hr] at CR
    clear e hr
    go_enter Tryz.func55, Tryz.ntmps55
    go_wp2_with fail
    refine (unhide CR _).mono ?_
    rintro e v' ⟨rfl, hw⟩
    rw [hw]
    clear hw v'
    go_wp2_with fail
    go_ret2
    exact ⟨none, 0, rfl, row_none _ _, unhide SAME⟩
  · rw [e]
    rw [hr] at CR
    have f1 : v.frozen? ⟨p, 1, none⟩ = false := (unhide H).f1
    obtain ⟨v1, hv1⟩ : ∃ v1, v1 = v.setCell ⟨p, 1, none⟩ (.int .i64 a) := ⟨_, rfl⟩
    have m1 : Moved (fun k => k = p) v v1 := by rw [hv1]; exact moved_set v p 1 _
    have k1 : v1.cell? ⟨p, 1, none⟩ = some (.int .i64 a) := by rw [hv1, World.cell?_setCell_same (h := (unhide H).c1)]
    have b1 : Behind v v1 p := by rw [hv1]; exact Behind.set v p _
    have k0 : v1.cell? ⟨p, 0, none⟩ = some (.pointer (some ⟨q, 0, none⟩)) := by rw [hv1, World.cell?_setCell_other (h := fun e => by have := congrArg Addr.off e; simp only at this; omega)]; exact (unhide H).c0
    have g0 : v1.frozen? ⟨p, 0, none⟩ = false := by rw [hv1, World.frozen?_setCell]; exact (unhide H).f0
    have g1 : v1.frozen? ⟨p, 1, none⟩ = false := by rw [hv1, World.frozen?_setCell]; exact (unhide H).f1
    have H1 : LineC v1 p q G ⟨a, L.row⟩ := ⟨k0, k1, g0, g1, (unhide H).st.keep m1 (fun i hi g => (unhide H).off (hi ▸ g)), (unhide H).off⟩
    have CT := hide (take_any H1.st hl a)
    have c2 : v1.cell? ⟨p, 0, none⟩ = some (.pointer (some ⟨q, 0, none⟩)) := k0
    have HV := hide hv1
    have M1 := hide m1
    have HH1 := hide H1
    have B1 := hide b1
    clear e hr m1 hv1 k0 k1 g0 g1 b1 H1
    go_enter Tryz.func55, Tryz.ntmps55
    go_wp2_with fail
    refine (unhide CR _).mono ?_
    rintro e v' ⟨rfl, hw⟩
    rw [hw]
    clear hw v'
    go_upto_region 6 with fail
    rw [← unhide HV]
    clear c0 c1 f1
    go_wp2_with fail
    refine (unhide CT).mono ?_
    rintro e v2 ⟨a1, cp, rfl, hro, hst, hmv⟩
    have HRO := hide hro
    have HST := hide hst
    have HMV := hide hmv
    clear hro hst hmv CT c2
    go_wp2_with fail
    go_ret2
    obtain ⟨l1, l4⟩ := (unhide HH1).same (unhide HST) (unhide HMV)
    exact ⟨a1, cp, rfl, row_mono (unhide HRO) (unhide M1).size, l1, ((unhide M1).mono (fun k e => .inl (.inl e))).trans (unhide HMV) (fun _ f => .inl (.inr f)), (unhide B1).trans l4⟩
set_option maxRecDepth 100000 in
set_option maxHeartbeats 4000000 in
theorem ctwin_any {v : World} {p : Nat} {q : Nat} {G : Nat → Prop} {L : LineV} (h : LineC v p q G L) :
    Calls Tryz.prog 46 #[.pointer (some ⟨p, 0, none⟩)] v fun e v' => ∃ p2 F2, e = .returned (.pointer (some ⟨p2, 0, none⟩)) ∧ LineIs v' p2 F2 L ∧ (∀ k, F2 k → v.heap.size ≤ k) ∧ Below v.heap.size v v' := by
  obtain ⟨CL, hCL⟩ : ∃ CL : World → Prop, CL = fun u => Below v.heap.size v u := ⟨_, rfl⟩
  have un : ∀ u, CL u → Below v.heap.size v u := fun u k => by rw [hCL] at k; exact k
  have to_ : Hid (∀ u, Below v.heap.size v u → CL u) := hide fun u k => by rw [hCL]; exact k
  have base : CL v.drew := unhide to_ _ ((Below.refl _ _).drew)
  have q0 : ∀ u : SW CL, u.w.cell? ⟨p, 0, none⟩ = some (.pointer (some ⟨q, 0, none⟩)) := fun u => ((un _ u.ok).cell (p := ⟨p, 0, none⟩) h.lt).trans h.c0
  have q1 : ∀ u : SW CL, u.w.cell? ⟨p, 1, none⟩ = some (.int .i64 L.mark) := fun u => ((un _ u.ok).cell (p := ⟨p, 1, none⟩) h.lt).trans h.c1
  have C := hide (twin_any (h.st.keep ((Moved.refl (fun _ => False) v).drew) (fun _ f => f.elim)))
  clear h hCL un
  go_enter Tryz.func46, Tryz.ntmps46
  go_upto_region 3 with fail
  refine wp_region_chain (S := CL) [true, true, true, true, false, true, true, true, true, false, false, false] [false, false, false, false, true, false, false, false, false, true, true, true] (by kernel_rfl) (by kernel_rfl) (by kernel_rfl) base ?_
  apply Exists.intro
  apply And.intro
  · intro q
    have n0 : Nonempty (SK CL q.w) := ⟨⟨q, rfl⟩⟩
    simp only [pickM]
    repeat (go_big_quiet_step (fail))
    exact wpQuiet_nil rfl
  · simp only [pickZ]
    refine chain_call 75 #[.pointer (some ⟨q, 0, none⟩)] rfl (by simp [go_sem]) ?_
    refine (unhide C).mono ?_
    rintro e v1 ⟨q2, G2, rfl, hs, hg, hb⟩
    have hb' : Below v.heap.size v v1 := ((Below.refl v.heap.size v).drew).trans (hb.mono (Nat.le_refl _))
    refine ⟨_, rfl, unhide to_ _ hb', ?_⟩
    have HS := hide hs
    have HG := hide hg
    have HB := hide hb'
    clear hs hg hb hb' C base q0 q1
    go_simp
    have hb3 : Below v1.heap.size v1 (v1.alloc (.cells #[.pointer (some ⟨q2, 0, none⟩), .int .i64 L.mark] 78)) := (Below.refl _ _).alloc (Nat.le_refl _) _
    have hb4 : Below v.heap.size v (v1.alloc (.cells #[.pointer (some ⟨q2, 0, none⟩), .int .i64 L.mark] 78)) := (unhide HB).trans (hb3.mono (unhide HB).size)
    have CL4 := hide (unhide to_ _ hb4)
    have HB3 := hide hb3
    have HB4 := hide hb4
    clear hb3 hb4
    refine chain_step (.agg #[.pointer (some ⟨q2, 0, none⟩), .int .i64 L.mark]) v1 rfl (by simp [go_sem]) (unhide to_ _ (unhide HB)) ?_
    go_simp
    refine chain_step (.pointer (some ⟨v1.heap.size, 0, none⟩)) (v1.alloc (.cells #[.pointer (some ⟨q2, 0, none⟩), .int .i64 L.mark] 78)) rfl (by simp [go_sem]) (unhide CL4) ?_
    go_simp
    refine chain_step (.pointer (some ⟨v1.heap.size, 0, none⟩)) (v1.alloc (.cells #[.pointer (some ⟨q2, 0, none⟩), .int .i64 L.mark] 78)) rfl (by simp [go_sem]) (unhide CL4) ?_
    simp only [chainM]
    go_simp
    go_wp2_with fail
    go_ret
    refine ⟨v1.heap.size, _, rfl, ⟨q2, G2, ⟨row_new v1 _ _, (unhide HS).keep (Moved.of_below (F := fun _ => False) (unhide HB3)) (fun _ f => f.elim), fun f => Nat.lt_irrefl _ ((unhide HS).lt _ f)⟩, rfl⟩, ?_, unhide HB4⟩
    rintro k (rfl | f)
    · exact (unhide HB).size
    · exact unhide HG k f
end Go.Proofs.YtigmhljaoicdbaaGreat

namespace Go.Proofs.YtigmhljaoicdbaaGreat
open Go.RowKit
variable {β : Type} {K : RowK β} {P : Program}
theorem append_block (hK : K.Law P) {w : World} {base : Nat} {a : Option Addr} {c : Nat} {l : List β} (h : K.Row w base a c l) (x : Addr) (cb : Nat) (m : List β) (hm : K.Lies w (some x) m) (hb : l.length + m.length ≤ 1000000000000) (ty : TypeId) {v' : Value} {w' : World}
    (hr : (Builtin.append_ #[K.t, K.t] ty #[.slice a l.length c, .slice (some x) m.length cb]).run P w = .ok v' w') : v'.ownBlock = (Value.slice a l.length c).ownBlock ∨ v'.ownBlock = some w.heap.size := by
  obtain ⟨i0, hi, hz0, hz1, hz2⟩ := hK.info
  have h1 : K.by_ * (l.length + m.length) ≤ 128 * 1000000000000 := Nat.mul_le_mul hK.small hb
  have hcl : (K.cells m).length = m.length * i0.size := by rw [hz1]; exact cells_length hK m
  have hbb : (l.length + m.length) * i0.bytes ≤ 140737488355328 := by rw [hz2, Nat.mul_comm]; omega
  rcases h.2 with ⟨hv, h0⟩ | ⟨g, cap, cur, hv, hbg, hg, hnc, hcm, hcs, htake⟩
  · have hl : l = [] := List.length_eq_zero_iff.1 h0
    subst hl
    simp only [Value.slice.injEq] at hv
    obtain ⟨rfl, _, rfl⟩ := hv
    by_cases hm0 : m.length = 0
    · have hml : m = [] := List.length_eq_zero_iff.1 hm0
      subst hml
      have hs' : Src P i0.size K.t (.slice (some x) ([] : List β).length cb) 0 [] w := Src.ofSlice w hK.und x 0 cb [] (by simp) (fun j u hu => by simp at hu) (fun u hu => by cases hu)
      have e := run_append_nothing (P := P) w K.t K.t ty K.e i0 hK.und hi none 0 0 (Nat.le_refl _) _ hs'
      rw [show ([] : List β).length = 0 from rfl] at hr e
      rw [e] at hr
      cases hr
      exact .inl rfl
    · have e := run_append_nil (P := P) w K.t ty K.e i0 K.z hK.und hi hz0 x m.length cb (K.cells m) hcl (hm.2 x rfl) (by omega) (by omega) (by simp at hbb; omega)
      rw [show ([] : List β).length = 0 from rfl] at hr
      rw [e] at hr
      cases hr
      exact .inr rfl
  · simp only [Value.slice.injEq] at hv
    obtain ⟨rfl, _, rfl⟩ := hv
    by_cases hroom : l.length + m.length ≤ c
    · have e := run_append_room (P := P) w K.t ty K.e i0 hK.und hi g l.length c cur hg x m.length cb (K.cells m) hcl (hm.2 x rfl) (cells_one hK m) hroom (by rw [hcl, hz1, hcs, ← Nat.add_mul]; exact Nat.mul_le_mul_right _ hroom)
      rw [e] at hr
      cases hr
      exact .inl rfl
    · have hlc : (K.cells l).length = l.length * i0.size := by rw [hz1]; exact cells_length hK l
      have holds : ∀ j u, (K.cells l)[j]? = some u → w.cell? ((⟨g, 0, none⟩ : Addr).add j) = some u := h.cells (g := g) rfl
      have e := run_append_grow (P := P) w K.t ty K.e i0 K.z hK.und hi hz0 ⟨g, 0, none⟩ l.length c (K.cells l) hlc holds x m.length cb (K.cells m) hcl (hm.2 x rfl) (by omega) (by omega) (growslice_fits (by omega) hbb)
      rw [e] at hr
      cases hr
      exact .inr rfl
/-- What an append comes to, and in which block the row lies then. -/
theorem grow_at (hK : K.Law P) {w : World} {base : Nat} {a : Option Addr} {c : Nat} {l : List β} (h : K.Row w base a c l) (x : Addr) (cb : Nat) (m : List β) (hm : K.Lies w (some x) m) (hb : l.length + m.length ≤ 1000000000000) (hbase : base ≤ w.heap.size) :
    ∀ ty, ∃ a' c' w', (Builtin.append_ #[K.t, K.t] ty #[.slice a l.length c, .slice (some x) m.length cb]).run P w = .ok (.slice a' (l ++ m).length c') w' ∧
      K.Row w' base a' c' (l ++ m) ∧ w.grownBy w' (Value.slice a l.length c).ownBlock ∧
      ((Value.slice a' (l ++ m).length c').ownBlock = (Value.slice a l.length c).ownBlock ∨ (Value.slice a' (l ++ m).length c').ownBlock = some w.heap.size) := fun ty => by
  obtain ⟨a', c', w', h1, h2, h3⟩ := grow_app hK h (some x) cb m hm hb hbase ty
  exact ⟨a', c', w', h1, h2, h3, append_block hK h x cb m hm hb ty h1⟩
end Go.Proofs.YtigmhljaoicdbaaGreat

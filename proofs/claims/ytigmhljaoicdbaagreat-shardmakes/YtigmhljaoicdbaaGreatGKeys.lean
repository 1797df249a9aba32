/- The program's map of windows: what its keys and elements read as, and what looking up, storing, deleting and asking its length come to. Conditions: keys are no longer than a machine's texts; the windows are in their row. -/
import Derived.Test.YtigmhljaoicdbaaGreatSortD
import Derived.Test.YtigmhljaoicdbaaGreatCalls
import Derived.DeepKeys5
import Derived.WalkArith
import Derived.Maps.RangeWalk
import Derived.Test.YtigmhljaoicdbaaGreatGShelf
import Derived.WalkKit
import Derived.Below
import Derived.BigQuiet
import Derived.Deep.QuietTactic
import Derived.RegionTactic
import Derived.WalkSmall
import Derived.LoopTactic
import Derived.IntWalk
import Derived.Outline
import Derived.Deep.Cut
import Derived.WalkSpells
import Derived.Deep.RegionWith
import Derived.Laws.IdiomStrings
import Derived.Test.YtigmhljaoicdbaaGreatChecked
import Derived.Deep.MidRow
import Derived.Lib.SliceRun
import Derived.Deep.AppendSrc
import Derived.Deep.Upon
import Derived.Laws.AppendOwn
namespace Go.Proofs.YtigmhljaoicdbaaGreat
open Go.RowKit Go.Maps Go.WideMaps Go.MapKept

theorem aggV_inj {a b : AggV} (h : aggV a = aggV b) : a = b := by
  have e : cellsA a = cellsA b := congrArg Array.toList (Value.agg.inj h)
  cases a; cases b
  simp only [cellsA, I, List.cons.injEq, Value.int.injEq, true_and, and_true] at e
  obtain ⟨h0, h1, h2, h3, h4, h5, h6, h7⟩ := e
  subst h0 h1 h2 h3 h4 h5 h6 h7
  rfl
open Classical in
/-- How an aggregate reads. -/
noncomputable def Rw (v : Value) : Option (DataW AggV × List MemPlace) := if h : ∃ a, v = aggV a then some (.held h.choose, []) else none
theorem Rw_mk (a : AggV) : Rw (aggV a) = some (.held a, []) := by
  have h : ∃ b, aggV a = aggV b := ⟨a, rfl⟩
  unfold Rw
  rw [dif_pos h, ← aggV_inj h.choose_spec]
theorem Rw_inv {v : Value} {y : DataW AggV × List MemPlace} (h : Rw v = some y) : ∃ a, v = aggV a ∧ y = (.held a, []) := by
  unfold Rw at h
  split at h
  · rename_i he
    exact ⟨he.choose, he.choose_spec, (Option.some.inj h).symm⟩
  · cases h
/-- A key of the map. -/
def kv (k : List UInt8) (s : Int) : Value := .agg #[.int .i64 s, .string ⟨k.toArray⟩]
def okk (k : List UInt8) (s : Int) : Prop := k.length ≤ maxLen ∧ i64 s
def klw (k : List UInt8) (s : Int) : Lit := .string (keyBytes [.int .i64 s, .string k])
theorem wf_i64 {s : Int} (h : i64 s) : (Lit.int .i64 s).wf = true := WalkArith.wf_i64 h
theorem keyOf_kv {k : List UInt8} {s : Int} (h : okk k s) : keyOf Tryz.prog 151 (kv k s) = some (klw k s) := by
  have hw := wf_i64 h.2
  have hk : (⟨k.toArray⟩ : ByteArray).size ≤ maxLen := by simpa [ByteArray.size] using h.1
  have ht : Tryz.prog.keyType 151 = true := by kernel_rfl
  have hc : Tryz.prog.cellsOf 151 = 2 := by kernel_rfl
  have hc2 : Tryz.prog.cellsOf 2 = 1 := by kernel_rfl
  have hc9 : Tryz.prog.cellsOf 9 = 1 := by kernel_rfl
  obtain ⟨m, hm⟩ : ∃ m, Tryz.prog.types.size + 1 = m + 2 := ⟨Tryz.prog.types.size - 1, by have : 2 ≤ Tryz.prog.types.size := of_decide_eq_true (by kernel_rfl); omega⟩
  unfold keyOf
  simp only [Tryz.underlying151]
  rw [if_pos (by simp [ht, Value.formed, kv, Tryz.underlying151, hc]), hm]
  unfold Program.keyLits
  simp only [Tryz.underlying151, Value.cells, kv]
  rw [if_pos (by simp [hc])]
  simp [hc2, hc9, Program.keyLits, Tryz.underlying2, Tryz.underlying9, hw, hk, klw]
theorem klaw : KeyLaw Tryz.prog 151 := deep_law_gate (by kernel_rfl) (of_decide_eq_true (by kernel_rfl)) (of_decide_eq_true (by kernel_rfl)) (by kernel_rfl) (by kernel_rfl)
theorem keyed : Keyed Tryz.prog 151 := Keyed.of_law klaw
theorem kv_inj {k k' : List UInt8} {s s' : Int} (h : kv k s = kv k' s') : k = k' ∧ s = s' := by
  simp only [kv, Value.agg.injEq] at h
  have h' := congrArg Array.toList h
  simp only [List.cons.injEq, Value.int.injEq, Value.string.injEq, ByteArray.mk.injEq, true_and, and_true] at h'
  exact ⟨List.toArray_inj h'.2, h'.1⟩
theorem keyL : KeyL klw okk where
  inj h h' e := kv_inj (klaw.inj (keyOf_kv h) (e ▸ keyOf_kv h'))
  key h := keyed.key (keyOf_kv h)
theorem zero32 (w : World) : (zeroValue 50).run Tryz.prog w = .ok (aggV zero) w := by
  have h : (Tryz.prog.info? 50).map (fun i => (i.zero, i.size)) = some (some (aggV zero), 8) := by kernel_rfl
  obtain ⟨i, hi, he⟩ := Option.map_eq_some_iff.1 h
  simp only [Prod.mk.injEq] at he
  simp [zeroValue, typeInfo, hi, he.1]

/-- A row of windows that a map can have. -/
structure Fine (l : List (Win AggV)) : Prop where
  rise : Rise l
  oks : Oks okk l
/-- Block b is a map that has these windows. -/
def MapIs (w : World) (b : Nat) (l : List (Win AggV)) : Prop := ∃ D : DataW AggV, w.ownsMap Tryz.prog 151 Rw b l.length D ∧ DIs klw D l
theorem owns_n {w : World} {b n : Nat} {D : DataW AggV} (h : w.ownsMap Tryz.prog 151 Rw b n D) : w.ownsMap Tryz.prog 151 Rw b (size D) D := by
  obtain ⟨es, clock, hb, F, _, rfl⟩ := h
  exact ⟨es, clock, hb, F, by simp [size, length_sorted], rfl⟩
theorem MapIs.of {w : World} {b n : Nat} {D : DataW AggV} {l : List (Win AggV)} (h : w.ownsMap Tryz.prog 151 Rw b n D) (hD : DIs klw D l) : MapIs w b l := ⟨D, by rw [← dis_size hD]; exact owns_n h, hD⟩
theorem MapIs.lt {w : World} {b : Nat} {l : List (Win AggV)} (h : MapIs w b l) : b < w.heap.size := by obtain ⟨D, h, _⟩ := h; exact h.lt
theorem MapIs.keep {w w' : World} {b : Nat} {l : List (Win AggV)} (h : MapIs w b l) (hb : w'.heap[b]? = w.heap[b]?) : MapIs w' b l := by
  obtain ⟨D, ⟨es, clock, h1, h2⟩, hD⟩ := h
  exact ⟨D, ⟨es, clock, hb.trans h1, h2⟩, hD⟩
theorem MapIs.made (w : World) : MapIs (w.alloc (.map #[] 0)) w.heap.size [] := .of (World.ownsMap_made w Tryz.prog 151 Rw) dis_empty
/-- 'm[k]' with 'ok'. -/
theorem MapIs.look {w : World} {b : Nat} {l : List (Win AggV)} (h : MapIs w b l) (hl : Fine l) {k : List UInt8} {s : Int} (hk : okk k s) :
    (Instr.lookup 135 (.map (some b)) (kv k s) true).run Tryz.prog w = .ok (.tuple #[aggV ((look l k s).getD zero), .bool (look l k s).isSome]) w := by
  obtain ⟨D, h, hD⟩ := h
  obtain ⟨v, ps, hrun, hv⟩ := h.look_ok keyed Tryz.underlying135 (zero32 w) (Rw_mk zero) (keyOf_kv hk)
  rw [hrun, dis_has keyL hD hl.oks hk]
  cases hx : YtigmhljaoicdbaaGreat.look l k s with
  | none =>
    rw [dis_none keyL hD hl.oks hk hx] at hv
    obtain ⟨a, rfl, e⟩ := Rw_inv hv
    cases e; rfl
  | some x =>
    rw [dis_at keyL hD hl.oks hl.rise hx] at hv
    obtain ⟨a, rfl, e⟩ := Rw_inv hv
    cases e; rfl
theorem look_nilmap {w : World} {k : List UInt8} {s : Int} (hk : okk k s) : (Instr.lookup 135 (.map none) (kv k s) true).run Tryz.prog w = .ok (.tuple #[aggV zero, .bool false]) w := Maps.look_nil true keyed Tryz.underlying135 (zero32 w) (keyOf_kv hk)
/-- 'm[k] = v'. -/
theorem MapIs.put {w : World} {b : Nat} {l : List (Win AggV)} (h : MapIs w b l) (hl : Fine l) (hn : l.length < maxLen) {x : Win AggV} (hk : okk x.key x.start) :
    ∃ w', (Instr.mapUpdate 135 (.map (some b)) (kv x.key x.start) (aggV x.agg)).run Tryz.prog w = .ok () w' ∧ MapIs w' b (ins x l) ∧ w.mapTurned w' b := by
  obtain ⟨D, h, hD⟩ := h
  obtain ⟨w', hrun, h', ht⟩ := h.store keyed Tryz.underlying135 hn (keyOf_kv hk) (Rw_mk x.agg)
  exact ⟨w', hrun, .of h' (dis_put keyL hD hl.oks hl.rise hk), ht⟩
/-- 'delete(m, k)'. -/
theorem MapIs.drop {w : World} {b : Nat} {l : List (Win AggV)} (h : MapIs w b l) (hl : Fine l) {k : List UInt8} {s : Int} (hk : okk k s) (ty : TypeId) :
    ∃ w', (Builtin.delete_ #[135, 151] ty #[.map (some b), kv k s]).run Tryz.prog w = .ok (.tuple #[]) w' ∧ MapIs w' b (l.filter (fun a => !decide (at_ k s a))) ∧ w.mapTurned w' b := by
  obtain ⟨D, h, hD⟩ := h
  obtain ⟨w', hrun, h', ht⟩ := h.drop keyed Tryz.underlying135 (keyOf_kv hk) ty
  exact ⟨w', hrun, .of h' (dis_del keyL hD hl.oks hk), ht⟩
theorem drop_nilmap {w : World} {k : List UInt8} {s : Int} (hk : okk k s) (ty : TypeId) : (Builtin.delete_ #[135, 151] ty #[.map none, kv k s]).run Tryz.prog w = .ok (.tuple #[]) w := Maps.drop_nil keyed Tryz.underlying135 (keyOf_kv hk) ty
/-- 'len(m)'. -/
theorem MapIs.len {w : World} {b : Nat} {l : List (Win AggV)} (h : MapIs w b l) (ty : TypeId) : (Builtin.len_ #[135] ty #[.map (some b)]).run Tryz.prog w = .ok (.int .i64 (l.length : Int)) w := by
  obtain ⟨D, h, hD⟩ := h
  rw [← dis_size hD]
  exact h.len Tryz.underlying135 ty
theorem len_nilmap {w : World} (ty : TypeId) : (Builtin.len_ #[135] ty #[.map none]).run Tryz.prog w = .ok (.int .i64 0) w := Maps.len_nil Tryz.underlying135 ty
theorem ins_len_le {w : Win AggV} {l : List (Win AggV)} (h : Rise l) : (ins w l).length ≤ l.length + 1 := by rw [ins_len h]; split <;> omega
theorem Fine.ins {l : List (Win AggV)} (h : Fine l) {x : Win AggV} (hk : okk x.key x.start) : Fine (ins x l) :=
  ⟨ins_rise h.rise, fun a ha => (ins_mem ha).elim (fun e => by rw [e]; exact hk) (fun ha => h.oks a ha)⟩
theorem Fine.filter {l : List (Win AggV)} (h : Fine l) (p : Win AggV → Bool) : Fine (l.filter p) := ⟨rise_filter h.rise, fun a ha => h.oks a (List.mem_filter.1 ha).1⟩
theorem Fine.nil : Fine [] := ⟨List.Pairwise.nil, fun _ h => by cases h⟩
end Go.Proofs.YtigmhljaoicdbaaGreat

namespace Go.Proofs.YtigmhljaoicdbaaGreat

/-- Two keys are the same up to a place. -/
def sameTo (a b : List UInt8) (i : Nat) : Prop := a.take i = b.take i
theorem sameTo_zero (a b : List UInt8) : sameTo a b 0 := by simp [sameTo]
theorem sameTo_succ {a b : List UInt8} {i : Nat} (h : sameTo a b i) (ha : i < a.length) (hb : i < b.length) (e : a.getD i 0 = b.getD i 0) : sameTo a b (i + 1) := by
  unfold sameTo at *
  rw [List.take_succ_eq_append_getElem ha, List.take_succ_eq_append_getElem hb, h]
  simp only [List.getD_eq_getElem?_getD, List.getElem?_eq_getElem ha, List.getElem?_eq_getElem hb, Option.getD_some] at e
  rw [e]
/-- The first byte in which they differ tells. -/
theorem keyLt_differ : ∀ {a b : List UInt8} {i : Nat}, sameTo a b i → i < a.length → i < b.length → ¬ a.getD i 0 = b.getD i 0 → keyLt a b = decide (a.getD i 0 < b.getD i 0)
  | [], _, _, _, h, _, _ => by simp at h
  | _ :: _, [], _, _, _, h, _ => by simp at h
  | x :: a, y :: b, 0, _, _, _, hn => by
    simp only [List.getD_cons_zero] at hn ⊢
    rw [keyLt, if_neg hn]
  | x :: a, y :: b, i + 1, hs, ha, hb, hn => by
    unfold sameTo at hs
    simp only [List.take_succ_cons, List.cons.injEq] at hs
    obtain ⟨rfl, hs⟩ := hs
    simp only [List.getD_cons_succ] at hn ⊢
    rw [keyLt, if_pos rfl]
    exact keyLt_differ hs (by simpa using ha) (by simpa using hb) hn
/-- If they don't differ, the shorter one stands ahead. -/
theorem keyLt_short : ∀ {a b : List UInt8} {i : Nat}, sameTo a b i → (i = a.length ∨ i = b.length) → i ≤ a.length → i ≤ b.length → keyLt a b = decide (a.length < b.length)
  | [], [], _, _, _, _, _ => rfl
  | [], _ :: _, _, _, _, _, _ => by simp [keyLt]
  | _ :: _, [], _, _, _, _, _ => by simp [keyLt]
  | x :: a, y :: b, 0, _, h, _, _ => by simp at h
  | x :: a, y :: b, i + 1, hs, h, ha, hb => by
    unfold sameTo at hs
    simp only [List.take_succ_cons, List.cons.injEq] at hs
    obtain ⟨rfl, hs⟩ := hs
    rw [keyLt, if_pos rfl, keyLt_short hs (by simpa using h) (by simpa using ha) (by simpa using hb)]
    simp
end Go.Proofs.YtigmhljaoicdbaaGreat

namespace Go.Proofs.YtigmhljaoicdbaaGreat
open Go.RowKit

/-- A world of which St holds. -/
structure SX (St : World → Prop) where
  w : World
  ok : St w
theorem wp_region_sx {P : Program} {St : World → Prop} {id : Nat} {Q : Exit → Act → World → Prop} {a : Act} {w : World} {l : List Oper} (hm : P.follows .mixedOrders = true) (hB : Region.lexB .any l.toArray = true) (hS : St w.drew)
    (h : wpQuiet P l.toArray (fun w' => ∃ p : SX St, w' = p.w) (fun a' => ∀ w', (∃ p : SX St, w' = p.w) → Q .normal a' w') l a) : (Code.region id l.toArray true).wp P Q a w :=
  wp_region_quiet (C := fun w' => ∃ p : SX St, w' = p.w) hm hB ⟨⟨_, hS⟩, rfl⟩ (by simpa using h)

/-- A window's cells; c: its aggregate's. -/
def outC (k : List UInt8) (s : Int) (c : List Value) : List Value := .string ⟨k.toArray⟩ :: .int .i64 s :: c
theorem byte_is (k : List UInt8) (j : Nat) (h : j < (⟨k.toArray⟩ : ByteArray).size) : (⟨k.toArray⟩ : ByteArray)[j]'h = k.getD j 0 := by
  have hj : j < k.length := by simpa [ByteArray.size] using h
  rw [List.getD_eq_getElem?_getD, List.getElem?_eq_getElem hj]
  rfl
theorem u8_lt_nat (a b : UInt8) : decide (a.toNat < b.toNat) = decide (a < b) := by rw [decide_eq_decide, UInt8.lt_iff_toNat_lt]
theorem u8_ne_int {a b : UInt8} (h : ¬ a = b) : ¬ (a.toNat : Int) = (b.toNat : Int) := fun e => h (UInt8.toNat_inj.1 (by omega))

set_option maxRecDepth 100000 in
set_option maxHeartbeats 2000000 in
theorem less_any (ka kb : List UInt8) (sa sb : Int) (ca cb : List Value) (w : World) (la : ka.length ≤ 1099511627776) :
    Calls Tryz.prog 106 #[.agg (outC ka sa ca).toArray, .agg (outC kb sb cb).toArray] w fun e w' =>
      e = .returned (.bool (ahead (⟨ka, sa, ()⟩ : Win Unit) ⟨kb, sb, ()⟩)) ∧ Below w.heap.size w w' := by
  obtain ⟨W, hW⟩ : ∃ W, W = (w.alloc (.cells (outC ka sa ca).toArray 52)).alloc (.cells (outC kb sb cb).toArray 52) := ⟨_, rfl⟩
  obtain ⟨h, hh⟩ : ∃ h, h = w.heap.size := ⟨_, rfl⟩
  have bW : Below w.heap.size w W := by rw [hW]; exact ((Below.refl _ _).alloc (Nat.le_refl _) _).alloc (by simp) _
  have hsz : W.heap.size = h + 2 := by rw [hW, hh]; simp
  obtain ⟨CL, hCL⟩ : ∃ CL : World → Prop, CL = fun v => Below W.heap.size W v := ⟨_, rfl⟩
  have un : ∀ v, CL v → Below W.heap.size W v := fun v k => by rw [hCL] at k; exact k
  have base : CL W := by rw [hCL]; exact Below.refl _ _
  have drew : ∀ v, CL v → CL v.drew := fun v k => by rw [hCL] at k ⊢; exact k.drew
  have ne : Nonempty (SX CL) := ⟨⟨W, base⟩⟩
  have c0 : W.cell? ⟨h, 0, none⟩ = some (.string ⟨ka.toArray⟩) ∧ W.cell? ⟨h, 1, none⟩ = some (.int .i64 sa) := by
    have e : ∀ i, W.cell? ⟨h, i, none⟩ = (w.alloc (.cells (outC ka sa ca).toArray 52)).cell? ⟨h, i, none⟩ := fun i => by
      rw [hW]; exact ((Below.refl _ _).alloc (Nat.le_refl _) _).cell (p := ⟨h, i, none⟩) (by rw [hh]; simp)
    rw [e, e, hh, World.cell?_alloc_new, World.cell?_alloc_new]; exact ⟨rfl, rfl⟩
  have c1 : W.cell? ⟨h + 1, 0, none⟩ = some (.string ⟨kb.toArray⟩) ∧ W.cell? ⟨h + 1, 1, none⟩ = some (.int .i64 sb) := by
    have e : h + 1 = (w.alloc (.cells (outC ka sa ca).toArray 52)).heap.size := by rw [hh]; simp
    rw [hW, e, World.cell?_alloc_new, World.cell?_alloc_new]; exact ⟨rfl, rfl⟩
  have kc : ∀ (p : SX CL) (b i : Nat) (v : Value), b < h + 2 → W.cell? ⟨b, i, none⟩ = some v → p.w.cell? ⟨b, i, none⟩ = some v := fun p b i v hb hv => ((un _ p.ok).cell (p := ⟨b, i, none⟩) (by rw [hsz]; exact hb)).trans hv
  have a0 : ∀ p : SX CL, p.w.cell? ⟨h, 0, none⟩ = some (.string ⟨ka.toArray⟩) := fun p => kc p _ _ _ (by omega) c0.1
  have a1 : ∀ p : SX CL, p.w.cell? ⟨h, 1, none⟩ = some (.int .i64 sa) := fun p => kc p _ _ _ (by omega) c0.2
  have b0 : ∀ p : SX CL, p.w.cell? ⟨h + 1, 0, none⟩ = some (.string ⟨kb.toArray⟩) := fun p => kc p _ _ _ (by omega) c1.1
  have b1 : ∀ p : SX CL, p.w.cell? ⟨h + 1, 1, none⟩ = some (.int .i64 sb) := fun p => kc p _ _ _ (by omega) c1.2
  have FIN := hide (fun v (k : CL v) => bW.trans ((un v k).mono bW.size))
  have HW := hide hW
  have HH := hide hh
  have BS := hide base
  clear hW hh bW hsz hCL un c0 c1 kc base
  have za : (⟨ka.toArray⟩ : ByteArray).size = ka.length := by simp [ByteArray.size]
  have zb : (⟨kb.toArray⟩ : ByteArray).size = kb.length := by simp [ByteArray.size]
  go_enter Tryz.func106, Tryz.ntmps106
  go_upto_region 1 with fail
  rw [← unhide HH]
  try change Code.wp _ _ _ _ ((w.alloc (.cells (outC ka sa ca).toArray 52)).alloc (.cells (outC kb sb cb).toArray 52))
  rw [← unhide HW]
  have x0 := a0 ⟨W, unhide BS⟩
  have x1 := a1 ⟨W, unhide BS⟩
  have y0 := b0 ⟨W, unhide BS⟩
  have y1 := b1 ⟨W, unhide BS⟩
  dsimp only at x0 x1 y0 y1
  by_cases hs : sa = sb
  · subst hs
    have he : Hid (ahead (⟨ka, sa, ()⟩ : Win Unit) ⟨kb, sa, ()⟩ = keyLt ka kb) := hide (by unfold ahead; simp)
    go_wp2_with fail
    go_loopw [5] (fun i wr => ∃ j : Nat, i = .int .i64 (j : Int) ∧ j ≤ ka.length ∧ j ≤ kb.length ∧ sameTo ka kb j ∧ CL wr) (fun i _ => ka.length - (intOf i).toNat)
    case atStart => exact ⟨0, rfl, Nat.zero_le _, Nat.zero_le _, sameTo_zero _ _, unhide BS⟩
    case round =>
      obtain ⟨j, rfl, hja, hjb, hsm, OK⟩ := hrel
      clear x0 x1 y0 y1
      have x0 := a0 ⟨wr, OK⟩
      have y0 := b0 ⟨wr, OK⟩
      dsimp only at x0 y0
      have HS := hide hsm
      have hj0 : (0 : Int) ≤ (j : Int) := by omega
      by_cases h1 : j < ka.length
      · by_cases h2 : j < kb.length
        · have g1 : (j : Int) < (ka.length : Int) := by omega
          have g2 : (j : Int) < (kb.length : Int) := by omega
          have hw : IntKind.i64.wrap ((j : Int) + 1) = (j : Int) + 1 := Go.IntWalk.i64_in _ (by omega)
          go_upto_region 6 with fail
          refine wp_region_sx (St := CL) (by kernel_rfl) (by kernel_rfl) (drew _ OK) ?_
          repeat (go_big_quiet_step (fail))
          refine wpQuiet_nil ?_
          rintro v1 ⟨p1, e1⟩
          have OK1 := p1.ok
          rw [← e1] at OK1
          clear e1 x0 y0 OK
          try dsimp only
          simp only [byte_is]
          by_cases e : ka.getD j 0 = kb.getD j 0
          · have S1 := hide (sameTo_succ hsm h1 h2 e)
            rw [e]
            clear hsm e
            generalize kb.getD j 0 = u at *
            go_wp2_with fail
            go_roundw
            case rel => exact ⟨j + 1, rfl, by omega, by omega, unhide S1, OK1⟩
            case measure => simp [intOf]; omega
          · have K1 := hide (keyLt_differ hsm h1 h2 e)
            have hne := u8_ne_int e
            have x0 := a0 ⟨v1, OK1⟩
            have y0 := b0 ⟨v1, OK1⟩
            dsimp only at x0 y0
            clear hsm e
            go_upto_region 7 with fail
            refine wp_region_sx (St := CL) (by kernel_rfl) (by kernel_rfl) (drew _ OK1) ?_
            repeat (go_big_quiet_step (fail))
            refine wpQuiet_nil ?_
            rintro v2 ⟨p2, e2⟩
            have OK2 := p2.ok
            rw [← e2] at OK2
            clear e2
            try dsimp only
            simp only [byte_is]
            go_wp2_with fail
            go_ret
            exact ⟨by rw [unhide he, unhide K1, ← u8_lt_nat]; rfl, unhide FIN _ OK2⟩
        · have g1 : (j : Int) < (ka.length : Int) := by omega
          have g2 : ¬ (j : Int) < (kb.length : Int) := by omega
          have K1 := hide (keyLt_short hsm (.inr (by omega)) hja hjb)
          have OKH := hide OK
          clear hsm OK
          go_wp2_with fail
          go_ret
          exact ⟨by rw [unhide he, unhide K1]; simp, unhide FIN _ (unhide OKH)⟩
      · have g1 : ¬ (j : Int) < (ka.length : Int) := by omega
        have K1 := hide (keyLt_short hsm (.inl (by omega)) hja hjb)
        have OKH := hide OK
        clear hsm OK
        go_wp2_with fail
        go_ret
        exact ⟨by rw [unhide he, unhide K1]; simp, unhide FIN _ (unhide OKH)⟩
  · have he : Hid (ahead (⟨ka, sa, ()⟩ : Win Unit) ⟨kb, sb, ()⟩ = decide (sa < sb)) := hide (by unfold ahead; simp [hs])
    go_wp2_with fail
    go_ret
    exact ⟨by rw [unhide he]; rfl, unhide FIN _ (unhide BS)⟩
end Go.Proofs.YtigmhljaoicdbaaGreat

namespace Go.Proofs.YtigmhljaoicdbaaGreat
variable {α : Type}

def pos (w : Win α) : List (Win α) → Nat
  | [] => 0
  | a :: l => if ahead a w = true then pos w l + 1 else 0
def opens (w : Win α) : List (Win α) → Bool
  | [] => false
  | a :: l => if ahead a w = true then opens w l else !ahead w a
theorem pos_le (w : Win α) : ∀ l : List (Win α), pos w l ≤ l.length
  | [] => Nat.le_refl _
  | a :: l => by rw [pos]; split <;> simp [pos_le w l]
theorem pos_ahead (w : Win α) : ∀ (l : List (Win α)) (i : Nat) (a : Win α), i < pos w l → l[i]? = some a → ahead a w = true
  | [], _, _, h, _ => by simp [pos] at h
  | b :: l, i, a, h, ha => by
    rw [pos] at h
    split at h
    · rename_i e
      cases i with
      | zero => cases ha; exact e
      | succ i => exact pos_ahead w l i a (by omega) ha
    · omega
theorem pos_stop (w : Win α) : ∀ (l : List (Win α)) (a : Win α), l[pos w l]? = some a → ahead a w = false ∧ opens w l = !ahead w a
  | [], _, h => by simp at h
  | b :: l, a, h => by
    rw [pos] at h
    rw [opens]
    split
    · rename_i e
      rw [if_pos e, List.getElem?_cons_succ] at h
      exact pos_stop w l a h
    · rename_i e
      rw [if_neg e] at h
      cases h
      exact ⟨by simpa using e, rfl⟩
theorem pos_end (w : Win α) : ∀ (l : List (Win α)), pos w l = l.length → opens w l = false
  | [], _ => rfl
  | b :: l, h => by
    rw [pos] at h
    rw [opens]
    split
    · rename_i e
      rw [if_pos e] at h
      exact pos_end w l (by simpa using h)
    · rename_i e
      rw [if_neg e] at h
      simp at h
/-- A count that goes up as long as what stands there is ahead ends at the place. -/
theorem pos_is {w : Win α} : ∀ {l : List (Win α)} {i : Nat}, i ≤ l.length → (∀ j a, j < i → l[j]? = some a → ahead a w = true) → (∀ a, l[i]? = some a → ahead a w = false) → i = pos w l
  | [], i, h, _, _ => by simp at h; rw [h]; rfl
  | b :: l, 0, _, _, h => by rw [pos, if_neg (by rw [h b rfl]; simp)]
  | b :: l, i + 1, hi, h1, h2 => by
    rw [pos, if_pos (h1 0 b (by omega) rfl)]
    rw [pos_is (l := l) (i := i) (by simpa using hi) (fun j a hj ha => h1 (j + 1) a (by omega) ha) (fun a ha => h2 a ha)]
theorem ins_pos (w : Win α) : ∀ l : List (Win α), ins w l = l.take (pos w l) ++ w :: l.drop (if opens w l = true then pos w l + 1 else pos w l)
  | [] => by simp [ins, pos, opens]
  | a :: l => by
    rw [ins, pos, opens]
    by_cases e : ahead a w = true
    · rw [if_pos e, if_pos e, if_pos e, ins_pos w l]
      split <;> simp
    · rw [if_neg e, if_neg e, if_neg e]
      by_cases e2 : ahead w a = true
      · rw [if_pos e2, e2]; simp
      · rw [if_neg e2, Bool.eq_false_iff.2 e2]; simp
theorem look_pos {w : Win α} : ∀ {l : List (Win α)}, Rise l → look l w.key w.start = if opens w l = true then (l[pos w l]?).map Win.agg else none
  | [], _ => by simp [look, opens]
  | a :: l, h => by
    obtain ⟨h1, h2⟩ := List.pairwise_cons.1 h
    rw [look, pos, opens]
    by_cases e : ahead a w = true
    · rw [if_pos e, if_pos e, if_neg (ahead_not e), look_pos h2, List.getElem?_cons_succ]
    · rw [if_neg e, if_neg e]
      by_cases e2 : ahead w a = true
      · have hn : ¬ at_ w.key w.start a := fun hx => by rw [ahead_irrefl ⟨hx.1.symm, hx.2.symm⟩] at e2; cases e2
        rw [if_neg hn, look_none (fun b hb hx => ahead_not (ahead_trans e2 (h1 b hb)) ⟨hx.1.symm, hx.2.symm⟩), e2]
        simp
      · rw [if_pos (same_place e e2), Bool.eq_false_iff.2 e2]
        simp
theorem look_open {w : Win α} {l : List (Win α)} (h : Rise l) : (look l w.key w.start).isSome = opens w l := by
  rw [look_pos h]
  cases ho : opens w l with
  | false => rfl
  | true =>
    have : pos w l < l.length := by
      rcases Nat.lt_or_ge (pos w l) l.length with k | k
      · exact k
      · rw [pos_end w l (Nat.le_antisymm (pos_le w l) k)] at ho; cases ho
    simp [this]
end Go.Proofs.YtigmhljaoicdbaaGreat

namespace Go.Proofs.YtigmhljaoicdbaaGreat
open Go.RowKit

/-- A kind of rows: the slice's type, the element's, how many cells and bytes that has, its zero value, and what cells a datum has. -/
structure RowK (β : Type) where
  t : TypeId
  e : TypeId
  sz : Nat
  by_ : Nat
  z : Value
  f : β → List Value
structure RowK.Law {β : Type} (K : RowK β) (P : Program) : Prop where
  und : P.underlying K.t = some (.slice K.e)
  info : ∃ i, P.info? K.e = some i ∧ i.zero = some K.z ∧ i.size = K.sz ∧ i.bytes = K.by_
  zc : K.z.cells.size = K.sz
  pos : 0 < K.sz
  len : ∀ b, (K.f b).length = K.sz
  one : ∀ b, ∀ u ∈ K.f b, u.oneCell' = true
  small : K.by_ ≤ 128
variable {β : Type} {K : RowK β} {P : Program}

def RowK.cells (K : RowK β) (l : List β) : List Value := l.flatMap K.f
theorem cells_length (hK : K.Law P) (l : List β) : (K.cells l).length = l.length * K.sz := by
  induction l with
  | nil => simp [RowK.cells]
  | cons b l ih =>
    simp only [RowK.cells, List.flatMap_cons, List.length_append, List.length_cons] at ih ⊢
    rw [ih, hK.len, Nat.add_mul, Nat.one_mul, Nat.add_comm]
theorem cells_append (l m : List β) : K.cells (l ++ m) = K.cells l ++ K.cells m := by simp [RowK.cells]
theorem cells_one (hK : K.Law P) (l : List β) : ∀ u ∈ K.cells l, u.oneCell' = true := fun u hu => by
  simp only [RowK.cells, List.mem_flatMap] at hu
  obtain ⟨b, _, hb⟩ := hu
  exact hK.one b u hb
theorem cells_take (hK : K.Law P) : ∀ (l : List β) (i : Nat), (K.cells l).take (i * K.sz) = K.cells (l.take i)
  | [], i => by simp [RowK.cells]
  | b :: l, 0 => by simp [RowK.cells]
  | b :: l, i + 1 => by
    have e : K.cells (b :: l) = K.f b ++ K.cells l := List.flatMap_cons
    have e2 : K.cells ((b :: l).take (i + 1)) = K.f b ++ K.cells (l.take i) := List.flatMap_cons
    rw [e, e2, ← cells_take hK l i, List.take_append, List.take_of_length_le (by rw [hK.len, Nat.add_mul]; omega), hK.len]
    congr 2
    rw [Nat.add_mul]; omega
theorem cells_drop (hK : K.Law P) : ∀ (l : List β) (i : Nat), (K.cells l).drop (i * K.sz) = K.cells (l.drop i)
  | [], i => by simp [RowK.cells]
  | b :: l, 0 => by simp
  | b :: l, i + 1 => by
    have e : K.cells (b :: l) = K.f b ++ K.cells l := List.flatMap_cons
    rw [e, List.drop_succ_cons, ← cells_drop hK l i, List.drop_append, List.drop_of_length_le (by rw [hK.len, Nat.add_mul]; omega), hK.len, List.nil_append]
    congr 1
    rw [Nat.add_mul]; omega
theorem cells_at (hK : K.Law P) {l : List β} {i : Nat} {b : β} (h : l[i]? = some b) {j : Nat} (hj : j < K.sz) : (K.cells l)[i * K.sz + j]? = (K.f b)[j]? := by
  obtain ⟨hi, hb⟩ := List.getElem?_eq_some_iff.1 h
  have h1 : (K.cells l)[i * K.sz + j]? = ((K.cells l).drop (i * K.sz))[j]? := by rw [List.getElem?_drop]
  rw [h1, cells_drop hK, List.drop_eq_getElem_cons hi, hb]
  have e : K.cells (b :: l.drop (i + 1)) = K.f b ++ K.cells (l.drop (i + 1)) := List.flatMap_cons
  rw [e, List.getElem?_append_left (by rw [hK.len]; exact hj)]

/-- A slice at a, with room for c, whose data are l, of memory of its own, from block base on. -/
def RowK.Row (K : RowK β) (w : World) (base : Nat) (a : Option Addr) (c : Nat) (l : List β) : Prop := w.ownsRow base K.e K.sz (.slice a l.length c) l.length (K.cells l)
/-- A slice whose data are m, wherever they lie. -/
def RowK.Lies (K : RowK β) (w : World) (a : Option Addr) (m : List β) : Prop := (a = none → m = []) ∧ ∀ x, a = some x → ∀ j u, (K.cells m)[j]? = some u → w.cell? (x.add j) = some u
theorem row_none (w : World) (base : Nat) : K.Row w base none 0 [] := World.ownsRow_nil w base K.e K.sz
theorem row_lies {w : World} {base : Nat} {a : Option Addr} {c : Nat} {l : List β} (h : K.Row w base a c l) : K.Lies w a l := by
  refine ⟨fun e => ?_, fun x e j u hu => ?_⟩
  · subst e
    rcases h.2 with ⟨_, h0⟩ | ⟨g, cap, cur, hv, _⟩
    · exact List.length_eq_zero_iff.1 h0
    · simp at hv
  · subst e
    rcases h.2 with ⟨hv, h0⟩ | ⟨g, cap, cur, hv, _⟩
    · simp at hv
    · simp only [Value.slice.injEq, Option.some.injEq] at hv
      obtain ⟨rfl, _, rfl⟩ := hv
      exact h.cells (g := g) rfl j u hu
theorem row_cap {w : World} {base : Nat} {a : Option Addr} {c : Nat} {l : List β} (h : K.Row w base a c l) : l.length ≤ c := by
  rcases h.2 with ⟨hv, h0⟩ | ⟨g, cap, cur, hv, _, _, hc, _⟩
  · omega
  · simp only [Value.slice.injEq] at hv
    omega
theorem lies_keep {w w' : World} {a : Option Addr} {m : List β} (h : K.Lies w a m) (hb : Below w.heap.size w w') : K.Lies w' a m :=
  ⟨h.1, fun x e j u hu => by
    have hc := h.2 x e j u hu
    exact (hb.cell (World.block_lt_of_cell? _ _ hc)).trans hc⟩
theorem lies_take (hK : K.Law P) {w : World} {a : Option Addr} {m : List β} (h : K.Lies w a m) (i : Nat) : K.Lies w a (m.take i) :=
  ⟨fun e => by rw [h.1 e, List.take_nil], fun x e j u hu => by
    rw [← cells_take hK] at hu
    refine h.2 x e j u ?_
    rw [List.getElem?_take] at hu
    split at hu
    · exact hu
    · cases hu⟩
theorem lies_drop (hK : K.Law P) {w : World} {x : Addr} {m : List β} (h : K.Lies w (some x) m) (i : Nat) : K.Lies w (some (x.add (i * K.sz))) (m.drop i) :=
  ⟨fun e => (by cases e), fun y e j u hu => by
    cases e
    rw [← cells_drop hK, List.getElem?_drop] at hu
    have := h.2 x rfl _ u hu
    have e2 : (x.add (i * K.sz)).add j = x.add (i * K.sz + j) := by
      unfold Addr.add
      by_cases h1 : i * K.sz = 0 <;> by_cases h2 : j = 0 <;> simp [h1, h2, Nat.add_assoc]
    rw [e2]; exact this⟩
/-- One element, as a range of cells. -/
theorem lies_at (hK : K.Law P) {w : World} {g o : Nat} {m : List β} (h : K.Lies w (some ⟨g, o, none⟩) m) {i : Nat} {b : β} (hi : m[i]? = some b) : w.rangeAt g (o + i * K.sz) (K.f b) := fun j u hu => by
  obtain ⟨hj, _⟩ := List.getElem?_eq_some_iff.1 hu
  rw [hK.len] at hj
  have := h.2 _ rfl (i * K.sz + j) u (by rw [cells_at hK hi hj]; exact hu)
  rw [Addr.add_mid, ← Nat.add_assoc] at this
  exact this
/-- What an append of data to a row of one's own comes to, from a slice wherever it lies. -/
theorem grow_app (hK : K.Law P) {w : World} {base : Nat} {a : Option Addr} {c : Nat} {l : List β} (h : K.Row w base a c l) (b : Option Addr) (cb : Nat) (m : List β) (hm : K.Lies w b m) (hb : l.length + m.length ≤ 1000000000000) (hbase : base ≤ w.heap.size) :
    ∀ ty, ∃ a' c' w', (Builtin.append_ #[K.t, K.t] ty #[.slice a l.length c, .slice b m.length cb]).run P w = .ok (.slice a' (l ++ m).length c') w' ∧
      K.Row w' base a' c' (l ++ m) ∧ w.grownBy w' (Value.slice a l.length c).ownBlock := fun ty => by
  obtain ⟨i0, hi, hz0, hz1, hz2⟩ := hK.info
  have hlen : (l ++ m).length = l.length + m.length := List.length_append
  cases b with
  | none =>
    have := hm.1 rfl
    subst this
    have hs' : Src P i0.size K.t (.slice none ([] : List β).length cb) 0 [] w := Src.ofNil w hK.und cb
    refine ⟨a, c, w, ?_, ?_, ⟨rfl, rfl, rfl, Nat.le_refl _, fun _ _ _ => rfl⟩⟩
    · rw [List.append_nil]
      exact run_append_nothing (P := P) w K.t K.t ty K.e i0 hK.und hi a l.length c (row_cap h) _ hs'
    · rw [List.append_nil]; exact h
  | some x =>
    have h1 : K.by_ * (l.length + m.length) ≤ 128 * 1000000000000 := Nat.mul_le_mul hK.small hb
    obtain ⟨v', w', h2, h3, h4, h5⟩ := run_append_own (P := P) w base K.t ty K.e i0 _ K.sz K.by_ hK.und hi hz0 hz1 hz2 hK.zc hK.pos _ _ _ h x m.length cb (K.cells m) (cells_length hK m) (hm.2 x rfl) (cells_one hK m) (by unfold maxLen; omega) (by rw [Nat.mul_comm]; omega) hbase
    have hf : ∃ a' c', v' = .slice a' (l.length + m.length) c' := by
      rcases h3.2 with ⟨e, h0⟩ | ⟨g, cap, cur, e, _⟩
      · exact ⟨none, 0, by rw [e, h0]⟩
      · exact ⟨_, cap, e⟩
    obtain ⟨a', c', rfl⟩ := hf
    refine ⟨a', c', w', by rw [hlen]; exact h2, ?_, h4⟩
    unfold RowK.Row
    rw [hlen, cells_append]
    exact h3
end Go.Proofs.YtigmhljaoicdbaaGreat

namespace Go.Proofs.YtigmhljaoicdbaaGreat
open Go.RowKit

/-- A window's cells. -/
def outV (b : Win AggV) : List Value := outC b.key b.start (cellsA b.agg)
/-- Rows of windows. -/
def OutK : RowK (Win AggV) := ⟨27, 52, 10, 88, .agg #[.string ⟨#[]⟩, .int .i64 0, .int .i64 0, .int .i64 0, .int .i64 0, .int .i64 0, .int .i64 0, .int .i64 0, .int .i64 0, .int .i64 0], outV⟩
theorem info34 : (Tryz.prog.info? 52).map (fun i => (i.zero, i.size, i.bytes)) = some (some OutK.z, 10, 88) := by kernel_rfl
theorem outK_law : OutK.Law Tryz.prog where
  und := Tryz.underlying27
  info := by obtain ⟨i0, hi, hz0, hz1, hz2⟩ := info_parts info34; exact ⟨i0, hi, hz0, hz1, hz2⟩
  zc := rfl
  pos := by decide
  len := fun _ => rfl
  one := fun b u hu => by
    simp [OutK, outV, outC, cellsA, I] at hu
    rcases hu with rfl | rfl | rfl | rfl | rfl | rfl | rfl | rfl | rfl | rfl <;> rfl
  small := by decide
/-- A load of a whole struct in a region that draws. -/
theorem wpQuiet_load_onx {P : Program} {ops : Array Oper} {C : World → Prop} {Q : Act → Prop} {rest : List Oper} {op : Oper} {a : Act} (hw : Region.wanted op (yielded ops a.tmps) = true) (ty : TypeId) (x : Operand) (ho : op.op = .load ty x)
    (b o : Nat) (hx : a.eval x = .pointer (some ⟨b, o, none⟩)) (cs : List Value) (d : TypeDesc) (hc : ∀ w, C w → w.rangeAt b o cs)
    (hu : P.underlying ty = some d) (hd : d.isRow = true) (hi : (P.info? ty).map (·.size) = some cs.length)
    (h : wpQuiet P ops C Q rest (a.put op.dst (.agg cs.toArray))) : wpQuiet P ops C Q (op :: rest) a := by
  unfold wpQuiet
  rw [if_pos hw]
  refine ⟨_, fun w hw' => ?_, h⟩
  unfold Oper.quietAt execOp
  simp only [ho, hx, Instr.loadAt, Instr.sureAddr, Sem.run_bind, Sem.run_pure, Result.andThen_ok, run_loadVar_mid w b o ty cs d (hc w hw') hu hd hi]
  exact ⟨rfl, rfl⟩

set_option maxRecDepth 100000 in
set_option maxHeartbeats 2000000 in
theorem find_any (l : List (Win AggV)) (b : Win AggV) (a : Option Addr) (c : Nat) (w : World) (hL : OutK.Lies w a l) (hl : l.length ≤ c) (hc : c ≤ maxLen) (hk : ∀ x ∈ l, x.key.length ≤ 1099511627776) (hb : b.key.length ≤ 1099511627776) (g o : Nat) (ha : a = some ⟨g, o, none⟩ ∨ l = []) :
    Calls Tryz.prog 83 #[.agg #[.slice a l.length c], .agg (outV b).toArray] w fun e w' => e = .returned (.tuple #[.int .i64 (pos b l : Int), .bool (opens b l)]) ∧ Below w.heap.size w w' := by
  obtain ⟨W, hW⟩ : ∃ W, W = (w.alloc (.cells #[.slice a l.length c] 29)).alloc (.cells (outV b).toArray 52) := ⟨_, rfl⟩
  obtain ⟨h, hh⟩ : ∃ h, h = w.heap.size := ⟨_, rfl⟩
  have bW : Below w.heap.size w W := by rw [hW]; exact ((Below.refl _ _).alloc (Nat.le_refl _) _).alloc (by simp) _
  have hsz : W.heap.size = h + 2 := by rw [hW, hh]; simp
  obtain ⟨CL, hCL⟩ : ∃ CL : World → Prop, CL = fun v => Below W.heap.size W v := ⟨_, rfl⟩
  have un : ∀ v, CL v → Below W.heap.size W v := fun v k => by rw [hCL] at k; exact k
  have re : ∀ v v', CL v → Below v.heap.size v v' → CL v' := fun v v' k k' => by rw [hCL] at k ⊢; exact k.trans (k'.mono k.size)
  have base : CL W := by rw [hCL]; exact Below.refl _ _
  have drew : ∀ v, CL v → CL v.drew := fun v k => by rw [hCL] at k ⊢; exact k.drew
  have ne : Nonempty (SX CL) := ⟨⟨W, base⟩⟩
  have c0 : W.cell? ⟨h, 0, none⟩ = some (.slice a l.length c) := by
    have e : W.cell? ⟨h, 0, none⟩ = (w.alloc (.cells #[.slice a l.length c] 29)).cell? ⟨h, 0, none⟩ := by
      rw [hW]; exact ((Below.refl _ _).alloc (Nat.le_refl _) _).cell (p := ⟨h, 0, none⟩) (by rw [hh]; simp)
    rw [e, hh, World.cell?_alloc_new]; rfl
  have RB : ∀ p : SX CL, p.w.rangeAt (h + 1) 0 (outV b) := fun p j u hu => by
    have hu' : (outV b).toArray[j]? = some u := by simpa using hu
    have e : h + 1 = (w.alloc (.cells #[.slice a l.length c] 29)).heap.size := by rw [hh]; simp
    rw [Nat.zero_add, (un _ p.ok).cell (p := ⟨h + 1, j, none⟩) (by rw [hsz]; show h + 1 < h + 2; omega), hW, e, World.cell?_alloc_new]
    exact hu'
  have s0 : ∀ p : SX CL, p.w.cell? ⟨h, 0, none⟩ = some (.slice a l.length c) := fun p => ((un _ p.ok).cell (p := ⟨h, 0, none⟩) (by rw [hsz]; show h < h + 2; omega)).trans c0
  have LL : ∀ p : SX CL, OutK.Lies p.w a l := fun p => lies_keep (lies_keep hL bW) (un _ p.ok)
  have sL := hide (fun (x y : Win AggV) (hx : x.key.length ≤ 1099511627776) (p : SX CL) => ((less_any x.key y.key x.start y.start (cellsA x.agg) (cellsA y.agg) p.w hx).mono fun e w'' ⟨he, hb⟩ => ⟨he, ⟨w'', re _ _ p.ok hb⟩, rfl⟩ :
    Calls Tryz.prog 106 #[.agg (outV x).toArray, .agg (outV y).toArray] p.w fun e w'' => e = .returned (.bool (ahead x y)) ∧ ∃ q : SX CL, w'' = q.w))
  have FIN := hide (fun v (k : CL v) => bW.trans ((un v k).mono bW.size))
  have HW := hide hW
  have HH := hide hh
  have BS := hide base
  have HK := hide hk
  have HB := hide hb
  clear hW hh bW hsz hCL un re c0 base hL hk hb
  go_enter Tryz.func83, Tryz.ntmps83
  go_upto_region 1 with fail
  rw [← unhide HH]
  try change Code.wp _ _ _ _ ((w.alloc (.cells #[.slice a l.length c] 29)).alloc (.cells (outV b).toArray 52))
  rw [← unhide HW]
  go_wp2_with fail
  go_loopw [6] (fun i wr => ∃ j : Nat, i = .int .i64 (j : Int) ∧ j ≤ l.length ∧ (∀ i' x, i' < j → l[i']? = some x → ahead x b = true) ∧ CL wr) (fun i _ => l.length - (intOf i).toNat)
  case atStart => exact ⟨0, rfl, Nat.zero_le _, fun i' x h0 => by omega, unhide BS⟩
  case round =>
    obtain ⟨j, rfl, hj, hall, OK⟩ := hrel
    have HA := hide hall
    clear hall
    have hj0 : (0 : Int) ≤ (j : Int) := by omega
    by_cases h1 : j < l.length
    · have g1 : (j : Int) < (l.length : Int) := by omega
      obtain ⟨y, hy⟩ : ∃ y, l[j]? = some y := ⟨_, List.getElem?_eq_getElem h1⟩
      rcases ha with rfl | rfl
      rotate_left
      · simp at h1
      have RY : Hid (∀ v, (∃ p : SX CL, v = p.w) → v.rangeAt g (o + j * 10) (outV y)) := hide (by rintro v ⟨p, rfl⟩; exact lies_at outK_law (LL p) hy)
      have RB' : Hid (∀ v, (∃ p : SX CL, v = p.w) → v.rangeAt (h + 1) 0 (outV b)) := hide (by rintro v ⟨p, rfl⟩; exact RB p)
      go_upto_region 2 with fail
      refine wp_region_sx (St := CL) (by kernel_rfl) (by kernel_rfl) (drew _ OK) ?_
      repeat (go_big_quiet_step (fail))
      refine wpQuiet_load_onx rfl 52 (.tmp 16) rfl g (o + j * 10) rfl (outV y) _ (unhide RY) Tryz.underlying52 rfl (by kernel_rfl) ?_
      go_simp
      refine wpQuiet_load_onx rfl 52 (.tmp 3) rfl (h + 1) 0 rfl (outV b) _ (unhide RB') Tryz.underlying52 rfl (by kernel_rfl) ?_
      go_simp
      repeat (go_big_quiet_step (first | (go_at_call 106; exact unhide sL y b (unhide HK y (List.mem_of_getElem? hy)) _)))
      refine wpQuiet_nil ?_
      intro p1
      have OK1 := p1.ok
      generalize p1.w = v1 at OK1 ⊢
      clear OK RY RB'
      try dsimp only
      by_cases e : ahead y b = true
      · have hw : IntKind.i64.wrap ((j : Int) + 1) = (j : Int) + 1 := Go.IntWalk.i64_in _ (by simp [maxLen] at hc; omega)
        have A1 : Hid (∀ i' x, i' < j + 1 → l[i']? = some x → ahead x b = true) := hide (fun i' x h0 hx => by
          by_cases h2 : i' = j
          · subst h2; rw [hy] at hx; cases hx; exact e
          · exact unhide HA i' x (by omega) hx)
        rw [e]
        go_wp2_with fail
        go_roundw
        case rel => exact ⟨j + 1, rfl, by omega, unhide A1, OK1⟩
        case measure => simp [intOf]; omega
      · have e' := Bool.eq_false_iff.2 e
        rw [e']
        have hp : j = pos b l := pos_is (by omega) (fun i' x h0 hx => unhide HA i' x h0 hx) (fun x hx => by rw [hy] at hx; cases hx; exact e')
        have ho : Hid (opens b l = !ahead b y) := hide ((pos_stop b l y (by rw [← hp]; exact hy)).2)
        have HP := hide hp
        clear hp
        have RY : Hid (∀ v, (∃ p : SX CL, v = p.w) → v.rangeAt g (o + j * 10) (outV y)) := hide (by rintro v ⟨p, rfl⟩; exact lies_at outK_law (LL p) hy)
        have RB' : Hid (∀ v, (∃ p : SX CL, v = p.w) → v.rangeAt (h + 1) 0 (outV b)) := hide (by rintro v ⟨p, rfl⟩; exact RB p)
        go_upto_region 4 with fail
        refine wp_region_sx (St := CL) (by kernel_rfl) (by kernel_rfl) (drew _ OK1) ?_
        repeat (go_big_quiet_step (fail))
        refine wpQuiet_load_onx rfl 52 (.tmp 3) rfl (h + 1) 0 rfl (outV b) _ (unhide RB') Tryz.underlying52 rfl (by kernel_rfl) ?_
        go_simp
        repeat (go_big_quiet_step (fail))
        refine wpQuiet_load_onx rfl 52 (.tmp 34) rfl g (o + j * 10) rfl (outV y) _ (unhide RY) Tryz.underlying52 rfl (by kernel_rfl) ?_
        go_simp
        repeat (go_big_quiet_step (first | (go_at_call 106; exact unhide sL b y (unhide HB) _)))
        refine wpQuiet_nil ?_
        intro p2
        have OK2 := p2.ok
        generalize p2.w = v2 at OK2 ⊢
        clear OK1 RY RB'
        try dsimp only
        rw [← unhide ho]
        go_wp2_with fail
        go_ret2
        exact ⟨by rw [← unhide HP]; rfl, unhide FIN _ OK2⟩
    · have g1 : ¬ (j : Int) < (l.length : Int) := by omega
      have hp : j = pos b l := pos_is (by omega) (fun i' x h0 hx => unhide HA i' x h0 hx) (fun x hx => by rw [List.getElem?_eq_none (by omega)] at hx; cases hx)
      have ho : Hid (opens b l = false) := hide (pos_end b l (by omega))
      have HP := hide hp
      clear hp
      go_upto_region 2 with fail
      refine wp_region_sx (St := CL) (by kernel_rfl) (by kernel_rfl) (drew _ OK) ?_
      repeat (go_big_quiet_step (fail))
      refine wpQuiet_nil ?_
      rintro v1 ⟨p1, e1⟩
      have OK1 := p1.ok
      rw [← e1] at OK1
      clear e1 OK
      try dsimp only
      go_upto_region 4 with fail
      refine wp_region_sx (St := CL) (by kernel_rfl) (by kernel_rfl) (drew _ OK1) ?_
      repeat (go_big_quiet_step (fail))
      refine wpQuiet_nil ?_
      rintro v2 ⟨p2, e2⟩
      have OK2 := p2.ok
      rw [← e2] at OK2
      clear e2
      try dsimp only
      go_wp2_with fail
      go_ret2
      exact ⟨by rw [unhide ho, ← unhide HP]; rfl, unhide FIN _ OK2⟩
end Go.Proofs.YtigmhljaoicdbaaGreat

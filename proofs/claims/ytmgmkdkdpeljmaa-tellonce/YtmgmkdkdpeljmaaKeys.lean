/- The program's map of windows: what its keys and elements read as, and what looking up, storing, deleting and asking its length come to. Conditions: keys are no longer than a machine's texts; the windows are in their row. -/
import Derived.Test.YtmgmkdkdpeljmaaSortD
import Derived.Test.YtmgmkdkdpeljmaaCalls
import Derived.DeepKeys5
import Derived.WalkArith
import Derived.Maps.RangeWalk
namespace Go.Proofs.Ytmgmkdkdpeljmaa
open Go.RowKit Go.Maps Go.WideMaps Go.MapKept

theorem aggV_inj {a b : AggV} (h : aggV a = aggV b) : a = b := by
  have e : cellsA a = cellsA b := congrArg Array.toList (Value.agg.inj h)
  cases a; cases b
  simp only [cellsA, I, List.cons.injEq, Value.int.injEq, true_and, and_true] at e
  obtain ⟨h0, h1, h2, h3, h4, h5, h6, h7⟩ := e
  subst h0 h1 h2 h3 h4 h5 h6 h7
  rfl
open Classical in
/-- How an aggregate reads. -/
noncomputable def Rw (v : Value) : Option (DataW AggV × List MemPlace) := if h : ∃ a, v = aggV a then some (.held h.choose, []) else none
theorem Rw_mk (a : AggV) : Rw (aggV a) = some (.held a, []) := by
  have h : ∃ b, aggV a = aggV b := ⟨a, rfl⟩
  unfold Rw
  rw [dif_pos h, ← aggV_inj h.choose_spec]
theorem Rw_inv {v : Value} {y : DataW AggV × List MemPlace} (h : Rw v = some y) : ∃ a, v = aggV a ∧ y = (.held a, []) := by
  unfold Rw at h
  split at h
  · rename_i he
    exact ⟨he.choose, he.choose_spec, (Option.some.inj h).symm⟩
  · cases h
/-- A key of the map. -/
def kv (k : List UInt8) (s : Int) : Value := .agg #[.int .i64 s, .string ⟨k.toArray⟩]
def okk (k : List UInt8) (s : Int) : Prop := k.length ≤ maxLen ∧ i64 s
def klw (k : List UInt8) (s : Int) : Lit := .string (keyBytes [.int .i64 s, .string k])
theorem wf_i64 {s : Int} (h : i64 s) : (Lit.int .i64 s).wf = true := WalkArith.wf_i64 h
theorem keyOf_kv {k : List UInt8} {s : Int} (h : okk k s) : keyOf Try.prog 84 (kv k s) = some (klw k s) := by
  have hw := wf_i64 h.2
  have hk : (⟨k.toArray⟩ : ByteArray).size ≤ maxLen := by simpa [ByteArray.size] using h.1
  have ht : Try.prog.keyType 84 = true := by kernel_rfl
  have hc : Try.prog.cellsOf 84 = 2 := by kernel_rfl
  have hc2 : Try.prog.cellsOf 2 = 1 := by kernel_rfl
  have hc9 : Try.prog.cellsOf 9 = 1 := by kernel_rfl
  obtain ⟨m, hm⟩ : ∃ m, Try.prog.types.size + 1 = m + 2 := ⟨Try.prog.types.size - 1, by have : 2 ≤ Try.prog.types.size := of_decide_eq_true (by kernel_rfl); omega⟩
  unfold keyOf
  simp only [Try.underlying84]
  rw [if_pos (by simp [ht, Value.formed, kv, Try.underlying84, hc]), hm]
  unfold Program.keyLits
  simp only [Try.underlying84, Value.cells, kv]
  rw [if_pos (by simp [hc])]
  simp [hc2, hc9, Program.keyLits, Try.underlying2, Try.underlying9, hw, hk, klw]
theorem klaw : KeyLaw Try.prog 84 := deep_law_gate (by kernel_rfl) (of_decide_eq_true (by kernel_rfl)) (of_decide_eq_true (by kernel_rfl)) (by kernel_rfl) (by kernel_rfl)
theorem keyed : Keyed Try.prog 84 := Keyed.of_law klaw
theorem kv_inj {k k' : List UInt8} {s s' : Int} (h : kv k s = kv k' s') : k = k' ∧ s = s' := by
  simp only [kv, Value.agg.injEq] at h
  have h' := congrArg Array.toList h
  simp only [List.cons.injEq, Value.int.injEq, Value.string.injEq, ByteArray.mk.injEq, true_and, and_true] at h'
  exact ⟨List.toArray_inj h'.2, h'.1⟩
theorem keyL : KeyL klw okk where
  inj h h' e := kv_inj (klaw.inj (keyOf_kv h) (e ▸ keyOf_kv h'))
  key h := keyed.key (keyOf_kv h)
theorem zero32 (w : World) : (zeroValue 34).run Try.prog w = .ok (aggV zero) w := by
  have h : (Try.prog.info? 34).map (fun i => (i.zero, i.size)) = some (some (aggV zero), 8) := by kernel_rfl
  obtain ⟨i, hi, he⟩ := Option.map_eq_some_iff.1 h
  simp only [Prod.mk.injEq] at he
  simp [zeroValue, typeInfo, hi, he.1]

/-- A row of windows that a map can have. -/
structure Fine (l : List (Win AggV)) : Prop where
  rise : Rise l
  oks : Oks okk l
/-- Block b is a map that has these windows. -/
def MapIs (w : World) (b : Nat) (l : List (Win AggV)) : Prop := ∃ D : DataW AggV, w.ownsMap Try.prog 84 Rw b l.length D ∧ DIs klw D l
theorem owns_n {w : World} {b n : Nat} {D : DataW AggV} (h : w.ownsMap Try.prog 84 Rw b n D) : w.ownsMap Try.prog 84 Rw b (size D) D := by
  obtain ⟨es, clock, hb, F, _, rfl⟩ := h
  exact ⟨es, clock, hb, F, by simp [size, length_sorted], rfl⟩
theorem MapIs.of {w : World} {b n : Nat} {D : DataW AggV} {l : List (Win AggV)} (h : w.ownsMap Try.prog 84 Rw b n D) (hD : DIs klw D l) : MapIs w b l := ⟨D, by rw [← dis_size hD]; exact owns_n h, hD⟩
theorem MapIs.lt {w : World} {b : Nat} {l : List (Win AggV)} (h : MapIs w b l) : b < w.heap.size := by obtain ⟨D, h, _⟩ := h; exact h.lt
theorem MapIs.keep {w w' : World} {b : Nat} {l : List (Win AggV)} (h : MapIs w b l) (hb : w'.heap[b]? = w.heap[b]?) : MapIs w' b l := by
  obtain ⟨D, ⟨es, clock, h1, h2⟩, hD⟩ := h
  exact ⟨D, ⟨es, clock, hb.trans h1, h2⟩, hD⟩
theorem MapIs.made (w : World) : MapIs (w.alloc (.map #[] 0)) w.heap.size [] := .of (World.ownsMap_made w Try.prog 84 Rw) dis_empty
/-- 'm[k]' with 'ok'. -/
theorem MapIs.look {w : World} {b : Nat} {l : List (Win AggV)} (h : MapIs w b l) (hl : Fine l) {k : List UInt8} {s : Int} (hk : okk k s) :
    (Instr.lookup 78 (.map (some b)) (kv k s) true).run Try.prog w = .ok (.tuple #[aggV ((look l k s).getD zero), .bool (look l k s).isSome]) w := by
  obtain ⟨D, h, hD⟩ := h
  obtain ⟨v, ps, hrun, hv⟩ := h.look_ok keyed Try.underlying78 (zero32 w) (Rw_mk zero) (keyOf_kv hk)
  rw [hrun, dis_has keyL hD hl.oks hk]
  cases hx : Ytmgmkdkdpeljmaa.look l k s with
  | none =>
    rw [dis_none keyL hD hl.oks hk hx] at hv
    obtain ⟨a, rfl, e⟩ := Rw_inv hv
    cases e; rfl
  | some x =>
    rw [dis_at keyL hD hl.oks hl.rise hx] at hv
    obtain ⟨a, rfl, e⟩ := Rw_inv hv
    cases e; rfl
theorem look_nilmap {w : World} {k : List UInt8} {s : Int} (hk : okk k s) : (Instr.lookup 78 (.map none) (kv k s) true).run Try.prog w = .ok (.tuple #[aggV zero, .bool false]) w := Maps.look_nil true keyed Try.underlying78 (zero32 w) (keyOf_kv hk)
/-- 'm[k] = v'. -/
theorem MapIs.put {w : World} {b : Nat} {l : List (Win AggV)} (h : MapIs w b l) (hl : Fine l) (hn : l.length < maxLen) {x : Win AggV} (hk : okk x.key x.start) :
    ∃ w', (Instr.mapUpdate 78 (.map (some b)) (kv x.key x.start) (aggV x.agg)).run Try.prog w = .ok () w' ∧ MapIs w' b (ins x l) ∧ w.mapTurned w' b := by
  obtain ⟨D, h, hD⟩ := h
  obtain ⟨w', hrun, h', ht⟩ := h.store keyed Try.underlying78 hn (keyOf_kv hk) (Rw_mk x.agg)
  exact ⟨w', hrun, .of h' (dis_put keyL hD hl.oks hl.rise hk), ht⟩
/-- 'delete(m, k)'. -/
theorem MapIs.drop {w : World} {b : Nat} {l : List (Win AggV)} (h : MapIs w b l) (hl : Fine l) {k : List UInt8} {s : Int} (hk : okk k s) (ty : TypeId) :
    ∃ w', (Builtin.delete_ #[78, 84] ty #[.map (some b), kv k s]).run Try.prog w = .ok (.tuple #[]) w' ∧ MapIs w' b (l.filter (fun a => !decide (at_ k s a))) ∧ w.mapTurned w' b := by
  obtain ⟨D, h, hD⟩ := h
  obtain ⟨w', hrun, h', ht⟩ := h.drop keyed Try.underlying78 (keyOf_kv hk) ty
  exact ⟨w', hrun, .of h' (dis_del keyL hD hl.oks hk), ht⟩
theorem drop_nilmap {w : World} {k : List UInt8} {s : Int} (hk : okk k s) (ty : TypeId) : (Builtin.delete_ #[78, 84] ty #[.map none, kv k s]).run Try.prog w = .ok (.tuple #[]) w := Maps.drop_nil keyed Try.underlying78 (keyOf_kv hk) ty
/-- 'len(m)'. -/
theorem MapIs.len {w : World} {b : Nat} {l : List (Win AggV)} (h : MapIs w b l) (ty : TypeId) : (Builtin.len_ #[78] ty #[.map (some b)]).run Try.prog w = .ok (.int .i64 (l.length : Int)) w := by
  obtain ⟨D, h, hD⟩ := h
  rw [← dis_size hD]
  exact h.len Try.underlying78 ty
theorem len_nilmap {w : World} (ty : TypeId) : (Builtin.len_ #[78] ty #[.map none]).run Try.prog w = .ok (.int .i64 0) w := Maps.len_nil Try.underlying78 ty
theorem ins_len_le {w : Win AggV} {l : List (Win AggV)} (h : Rise l) : (ins w l).length ≤ l.length + 1 := by rw [ins_len h]; split <;> omega
theorem Fine.ins {l : List (Win AggV)} (h : Fine l) {x : Win AggV} (hk : okk x.key x.start) : Fine (ins x l) :=
  ⟨ins_rise h.rise, fun a ha => (ins_mem ha).elim (fun e => by rw [e]; exact hk) (fun ha => h.oks a ha)⟩
theorem Fine.filter {l : List (Win AggV)} (h : Fine l) (p : Win AggV → Bool) : Fine (l.filter p) := ⟨rise_filter h.rise, fun a ha => h.oks a (List.mem_filter.1 ha).1⟩
theorem Fine.nil : Fine [] := ⟨List.Pairwise.nil, fun _ h => by cases h⟩
end Go.Proofs.Ytmgmkdkdpeljmaa

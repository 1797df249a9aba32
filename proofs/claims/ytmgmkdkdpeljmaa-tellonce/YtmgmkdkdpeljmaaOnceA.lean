/- A line that a law made itself, beside rows that the law holds and blocks that are to stay: what its calls do to all three. Conditions: a line has at most 32 windows, whose numbers are 64 bits wide. -/
import Derived.Test.YtmgmkdkdpeljmaaTHere
import Derived.Test.YtmgmkdkdpeljmaaHere
import Derived.WideKeyEntry
import Derived.Test.YtmgmkdkdpeljmaaTellMath
import Derived.Test.YtmgmkdkdpeljmaaPut
import Derived.Test.YtmgmkdkdpeljmaaChain
import Derived.Test.YtmgmkdkdpeljmaaArgs
import Derived.Deep.Fields
namespace Go.Proofs.Ytmgmkdkdpeljmaa
open Go.RowKit
/-- Of what was there in z the blocks X stand as they were; they are none of the line's, none of the rows'. -/
structure HLXF (w0 z : World) (X : Nat → Prop) (v : World) (p : Nat) (F : Nat → Prop) (L : LineV) (R : List Held) : Prop where
  here : HLF w0 v p F L R
  apart : ∀ k, X k → k < z.heap.size ∧ ¬ F k ∧ ∀ r ∈ R, ¬ r.at k
  stay : Moved (fun k => ¬ X k) z v
def HLX (w0 z : World) (X : Nat → Prop) (v : World) (p : Nat) (L : LineV) (R : List Held) : Prop := ∃ F, HLXF w0 z X v p F L R
variable {w0 z v v' : World} {X : Nat → Prop} {p : Nat} {F F' : Nat → Prop} {L L' : LineV} {R R' : List Held}
theorem HLX.hl (h : HLX w0 z X v p L R) : HL w0 v p L R := by obtain ⟨F, h⟩ := h; exact ⟨F, h.here⟩
theorem HLX.bel (h : HLX w0 z X v p L R) : Below w0.heap.size w0 v := h.hl.bel
theorem HLX.start (hs : LineIs v p F L) (hb : ∀ k, F k → w0.heap.size ≤ k) (hw : Below w0.heap.size w0 v) (hX : ∀ k, X k → k < v.heap.size ∧ ¬ F k) : HLX w0 v X v p L [] :=
  ⟨F, ⟨hs, hb, hw, fun r hr => by cases hr⟩, fun k hk => ⟨(hX k hk).1, (hX k hk).2, fun r hr => by cases hr⟩, Moved.refl _ _⟩
theorem HLXF.step (h : HLXF w0 z X v p F L R) (hs : LineIs v' p F' L') (hf : ∀ k, F' k → F k ∨ v.heap.size ≤ k) (m : Moved F v v') : HLXF w0 z X v' p F' L' R := by
  refine ⟨h.here.step hs hf m, fun k hk => ⟨(h.apart k hk).1, fun f => ?_, (h.apart k hk).2.2⟩, h.stay.trans m (fun i hi => .inl fun hx => (h.apart i hx).2.1 hi)⟩
  rcases hf k f with f | f
  · exact (h.apart k hk).2.1 f
  · have := (h.apart k hk).1; have := h.stay.size; omega
theorem HLXF.did (h : HLXF w0 z X v p F L R) (hd : DidL v v' p F L') : HLX w0 z X v' p L' R := by
  obtain ⟨F', h1, h2, h3⟩ := hd
  exact ⟨F', h.step h1 h2 h3⟩
theorem HLX.below (h : HLX w0 z X v p L R) (hb : Below v.heap.size v v') : HLX w0 z X v' p L R := by
  obtain ⟨F, h⟩ := h
  exact ⟨F, h.step (h.here.below hb).st (fun _ f => .inl f) (Moved.of_below hb)⟩
theorem HLX.drop (h : HLX w0 z X v p L R) (hR : ∀ r ∈ R', r ∈ R) : HLX w0 z X v p L R' := by
  obtain ⟨F, h⟩ := h
  exact ⟨F, ⟨h.here.st, h.here.big, h.here.bel, fun r hr => h.here.rows r (hR r hr)⟩, fun k hk => ⟨(h.apart k hk).1, (h.apart k hk).2.1, fun r hr => (h.apart k hk).2.2 r (hR r hr)⟩, h.stay⟩
theorem HLXF.take {a : Option Addr} {c : Nat} {x : List (Win AggV)} (h : HLXF w0 z X v p F L R) (hs : LineIs v' p F L') (m : Moved F v v') (hx : OutK.Row v' v.heap.size a c x) : HLXF w0 z X v' p F L' ((a, c, x) :: R) := by
  have h' := h.step hs (fun _ f => .inl f) m
  refine ⟨h.here.take hs m hx, fun k hk => ⟨(h.apart k hk).1, (h.apart k hk).2.1, fun r hr e => ?_⟩, h'.stay⟩
  rcases List.mem_cons.1 hr with rfl | hr
  · have h1 : v.heap.size ≤ k := (row_lt hx k e).1
    have := (h.apart k hk).1; have := h.stay.size; omega
  · exact (h.apart k hk).2.2 r hr e
theorem HLX.nil (h : HLX w0 z X v p L R) : HLX w0 z X v p L ((none, 0, []) :: R) := by
  obtain ⟨F, h⟩ := h
  refine ⟨F, ⟨h.here.st, h.here.big, h.here.bel, fun r hr => ?_⟩, fun k hk => ⟨(h.apart k hk).1, (h.apart k hk).2.1, fun r hr e => ?_⟩, h.stay⟩
  · rcases List.mem_cons.1 hr with rfl | hr
    · exact ⟨row_none _ _, fun k hk => by cases hk⟩
    · exact h.here.rows r hr
  · rcases List.mem_cons.1 hr with rfl | hr
    · cases e
    · exact (h.apart k hk).2.2 r hr e
theorem HLX.put (h : HLX w0 z X v p L R) (hm : Mild L.row) (k : List UInt8) (a n : Int) (hn : i64 n) :
    Calls Try.prog 25 #[.pointer (some ⟨p, 0, none⟩), .string ⟨k.toArray⟩, .int .i64 a, .int .i64 n] v fun e v' => e = .returned (.int .i64 ((putL L k a n).2 : Int)) ∧ HLX w0 z X v' p (putL L k a n).1 R := by
  obtain ⟨F, h⟩ := h
  exact (tput_any h.here.st hm.most hm.ins_ k a n hn).mono fun e v' ⟨h1, h2⟩ => ⟨h1, h.did h2⟩
theorem HLX.mark (h : HLX w0 z X v p L R) (hm : Mild L.row) (a : Int) :
    Calls Try.prog 27 #[.pointer (some ⟨p, 0, none⟩), .int .i64 a] v fun e v' => ∃ a1 c1, e = .returned (.tuple #[.int .i64 ((markL L a).2.1 : Int), .slice a1 (markL L a).2.2.length c1]) ∧ HLX w0 z X v' p (markL L a).1 ((a1, c1, (markL L a).2.2) :: R) := by
  obtain ⟨F, h⟩ := h
  exact (tmark_any h.here.st (Nat.le_trans hm.most (by omega)) a).mono fun e v' ⟨a1, c1, h1, h2, h3, h4⟩ => ⟨a1, c1, h1, F, h.take h3 h4 h2⟩
theorem HLX.at_ (h : HLX w0 z X v p L R) : Calls Try.prog 29 #[.pointer (some ⟨p, 0, none⟩)] v fun e v' => e = .returned (.int .i64 L.mark) ∧ v' = v := h.hl.at_
theorem HLX.open_ (h : HLX w0 z X v p L R) (hm : Mild L.row) :
    Calls Try.prog 30 #[.pointer (some ⟨p, 0, none⟩)] v fun e v' => ∃ a c, e = .returned (.slice a L.row.length c) ∧ HLX w0 z X v' p L ((a, c, L.row) :: R) ∧ Below v.heap.size v v' := by
  obtain ⟨F, h⟩ := h
  exact (topen_any h.here.st (Nat.le_trans hm.most (by omega))).mono fun e v' ⟨a, c, h1, h2, h3⟩ => ⟨a, c, h1, ⟨F, h.take (h.here.below h3).st (Moved.of_below h3) h2⟩, h3⟩
theorem grow_own {v v' : World} {B : Nat} {a b a' : Option Addr} {c cb c' : Nat} {x y : List (Win AggV)} {ty : TypeId} (rx : OutK.Row v B a c x) (ry : OutK.Lies v b y) (hl : x.length + y.length ≤ 1000000000000)
    (h1 : (Builtin.append_ #[28, 28] ty #[.slice a x.length c, .slice b y.length cb]).run Try.prog v = .ok (.slice a' (x ++ y).length c') v') : ∀ k, (Value.slice a' (x ++ y).length c').ownBlock = some k → (Value.slice a x.length c).ownBlock = some k ∨ v.heap.size ≤ k := fun k hk => by
  cases b with
  | none =>
    have hy : y = [] := ry.1 rfl
    subst hy
    obtain ⟨i0, hi, _⟩ := outK_law.info
    have e := run_append_nothing (P := Try.prog) v OutK.t OutK.t ty OutK.e i0 outK_law.und hi a x.length c (row_cap rx) _ (Src.ofNil v outK_law.und cb)
    have h1' : (Builtin.append_ #[OutK.t, OutK.t] ty #[.slice a x.length c, .slice none ([] : List (Win AggV)).length cb]).run Try.prog v = .ok (.slice a' (x ++ []).length c') v' := h1
    rw [show ([] : List (Win AggV)).length = 0 from rfl] at h1'
    rw [e] at h1'
    rw [List.append_nil] at h1' hk
    cases h1'
    exact .inl hk
  | some q =>
    rcases append_block outK_law rx q cb y ry hl ty h1 with e | e
    · exact .inl (e ▸ hk)
    · rw [e] at hk; cases hk; exact .inr (Nat.le_refl _)
/-- The last row is appended to the one behind it. -/
theorem HLX.grow {a b : Option Addr} {c cb : Nat} {x y : List (Win AggV)} (h : HLX w0 z X v p L [(b, cb, y), (a, c, x)]) (hl : x.length + y.length ≤ 1000000000000) (ty : TypeId) :
    ∃ a' c' v', (Builtin.append_ #[28, 28] ty #[.slice a x.length c, .slice b y.length cb]).run Try.prog v = .ok (.slice a' (x ++ y).length c') v' ∧ HLX w0 z X v' p L [(a', c', x ++ y)] := by
  obtain ⟨F, h⟩ := h
  obtain ⟨ry, _⟩ := h.here.rows _ List.mem_cons_self
  obtain ⟨rx, nx⟩ := h.here.rows (a, c, x) (List.mem_cons_of_mem _ List.mem_cons_self)
  have ry' : OutK.Row v w0.heap.size b cb y := ry
  have rx' : OutK.Row v w0.heap.size a c x := rx
  obtain ⟨a', c', v', h1, h2, h3⟩ := grow_app outK_law rx' b cb y (row_lies ry') hl h.here.bel.size ty
  have hown := grow_own rx' (row_lies ry') hl h1
  have mm : Moved (fun k => (Value.slice a x.length c).ownBlock = some k) v v' := (Moved.refl _ _).grown h3 (fun k e => .inl e)
  have hxa : ∀ k, X k → ¬ (Value.slice a x.length c).ownBlock = some k := fun k hk e => (h.apart k hk).2.2 (a, c, x) (List.mem_cons_of_mem _ List.mem_cons_self) e
  refine ⟨a', c', v', h1, F, ⟨h.here.st.keep mm (fun i hi f => nx i hi f), h.here.big, ((Moved.of_below (F := fun k => (Value.slice a x.length c).ownBlock = some k) h.here.bel).trans mm (fun _ e => .inl e)).below (fun i hi => (row_lt rx' i hi).1) (Nat.le_refl _), fun r hr => ?_⟩, fun k hk => ⟨(h.apart k hk).1, (h.apart k hk).2.1, fun r hr e => ?_⟩, h.stay.trans mm (fun i hi => .inl fun hx => hxa i hx hi)⟩
  · have : r = (a', c', x ++ y) := by simpa using hr
    subst this
    refine ⟨h2, fun k hk f => ?_⟩
    rcases hown k hk with e | e
    · exact nx k e f
    · have := h.here.st.lt k f; omega
  · have : r = (a', c', x ++ y) := by simpa using hr
    subst this
    rcases hown k e with e | e
    · exact hxa k hk e
    · have := (h.apart k hk).1; have := h.stay.size; omega
end Go.Proofs.Ytmgmkdkdpeljmaa

namespace Go.Proofs.Ytmgmkdkdpeljmaa
open Go.RowKit Go.Maps Go.WideMaps Go.MapKept Go.WideElems Go.ChangeMaps
/-- An element, read as itself. -/
def RawV (v : Value) : Option (DataW Value × List MemPlace) := some (.held v, [])
/-- A key. -/
def ov (k : List UInt8) (s : Int) : Value := .agg #[.string ⟨k.toArray⟩, .int .i64 s, .int .i64 0, .int .i64 0, .int .i64 0, .int .i64 0, .int .i64 0, .int .i64 0, .int .i64 0, .int .i64 0]
def klo (k : List UInt8) (s : Int) : Lit := .string (keyBytes [.string k, .int .i64 s, .int .i64 0, .int .i64 0, .int .i64 0, .int .i64 0, .int .i64 0, .int .i64 0, .int .i64 0, .int .i64 0])
set_option maxRecDepth 100000 in
theorem keyOf_ov {k : List UInt8} {s : Int} (h : okk k s) : keyOf Try.prog 38 (ov k s) = some (klo k s) := by
  have hw := wf_i64 h.2
  have hw0 : (Lit.int .i64 0).wf = true := by decide
  have hk : (⟨k.toArray⟩ : ByteArray).size ≤ maxLen := by simpa [ByteArray.size] using h.1
  have ht : Try.prog.keyType 38 = true := by kernel_rfl
  have hc : Try.prog.cellsOf 38 = 10 := by kernel_rfl
  have hc2 : Try.prog.cellsOf 2 = 1 := by kernel_rfl
  have hc9 : Try.prog.cellsOf 9 = 1 := by kernel_rfl
  have hc34 : Try.prog.cellsOf 34 = 8 := by kernel_rfl
  have hc32 : Try.prog.cellsOf 32 = 4 := by kernel_rfl
  obtain ⟨m, hm⟩ : ∃ m, Try.prog.types.size + 1 = m + 4 := ⟨Try.prog.types.size - 3, by have : 4 ≤ Try.prog.types.size := of_decide_eq_true (by kernel_rfl); omega⟩
  have l32 : Program.keyLits Try.prog (m + 2) 32 [.int .i64 0, .int .i64 0, .int .i64 0, .int .i64 0] = some [.int .i64 0, .int .i64 0, .int .i64 0, .int .i64 0] := by
    unfold Program.keyLits
    simp only [Try.underlying32]
    rw [if_pos (by simp [hc32])]
    simp [hc2, Program.keyLits, Try.underlying2, hw0, List.range_succ]
  have l34 : Program.keyLits Try.prog (m + 3) 34 [.int .i64 0, .int .i64 0, .int .i64 0, .int .i64 0, .int .i64 0, .int .i64 0, .int .i64 0, .int .i64 0] = some [.int .i64 0, .int .i64 0, .int .i64 0, .int .i64 0, .int .i64 0, .int .i64 0, .int .i64 0, .int .i64 0] := by
    unfold Program.keyLits
    simp only [Try.underlying34]
    rw [if_pos (by simp [hc34])]
    have i2 : Program.keyLits Try.prog (m + 2) 2 [.int .i64 0] = some [.int .i64 0] := by simp [Program.keyLits, Try.underlying2, hw0]
    simp [hc2, hc32, i2, l32]
  unfold keyOf
  simp only [Try.underlying38]
  rw [if_pos (by simp [ht, Value.formed, ov, Try.underlying38, hc]), hm]
  unfold Program.keyLits
  simp only [Try.underlying38, Value.cells, ov]
  rw [if_pos (by simp [hc])]
  have i2 : Program.keyLits Try.prog (m + 3) 2 [.int .i64 s] = some [.int .i64 s] := by simp [Program.keyLits, Try.underlying2, hw]
  have i9 : Program.keyLits Try.prog (m + 3) 9 [.string ⟨k.toArray⟩] = some [.string k] := by simp [Program.keyLits, Try.underlying9, hk]
  simp [hc2, hc9, hc34, i2, i9, l34, klo]
theorem klaw38 : KeyLaw Try.prog 38 := deep_law_gate (by kernel_rfl) (of_decide_eq_true (by kernel_rfl)) (of_decide_eq_true (by kernel_rfl)) (by kernel_rfl) (by kernel_rfl)
theorem keyed38 : Keyed Try.prog 38 := Keyed.of_law klaw38
theorem ov_inj {k k' : List UInt8} {s s' : Int} (h : ov k s = ov k' s') : k = k' ∧ s = s' := by
  simp only [ov, Value.agg.injEq] at h
  have h' := congrArg Array.toList h
  simp only [List.cons.injEq, Value.int.injEq, Value.string.injEq, ByteArray.mk.injEq, true_and, and_true] at h'
  exact ⟨List.toArray_inj h'.1, h'.2⟩
theorem keyLo : KeyL klo okk where
  inj h h' e := ov_inj (klaw38.inj (keyOf_ov h) (e ▸ keyOf_ov h'))
  key h := keyed38.key (keyOf_ov h)
/-- A row of elements that a map can have. -/
structure FineV (l : List (Win Value)) : Prop where
  rise : Rise l
  oks : Oks okk l
theorem FineV.nil : FineV [] := ⟨List.Pairwise.nil, fun _ h => by cases h⟩
theorem FineV.ins {l : List (Win Value)} (h : FineV l) {x : Win Value} (hk : okk x.key x.start) : FineV (ins x l) :=
  ⟨ins_rise h.rise, fun a ha => (ins_mem ha).elim (fun e => by rw [e]; exact hk) (fun ha => h.oks a ha)⟩
/-- Block b is a map that has these elements. -/
def VIs (w : World) (b : Nat) (l : List (Win Value)) : Prop := ∃ D : DataW Value, w.ownsMap Try.prog 38 RawV b l.length D ∧ DIs klo D l
theorem vowns_n {w : World} {b n : Nat} {D : DataW Value} (h : w.ownsMap Try.prog 38 RawV b n D) : w.ownsMap Try.prog 38 RawV b (size D) D := by
  obtain ⟨es, clock, hb, F, _, rfl⟩ := h
  exact ⟨es, clock, hb, F, by simp [size, length_sorted], rfl⟩
theorem VIs.of {w : World} {b n : Nat} {D : DataW Value} {l : List (Win Value)} (h : w.ownsMap Try.prog 38 RawV b n D) (hD : DIs klo D l) : VIs w b l := ⟨D, by rw [← dis_size hD]; exact vowns_n h, hD⟩
theorem VIs.lt {w : World} {b : Nat} {l : List (Win Value)} (h : VIs w b l) : b < w.heap.size := by obtain ⟨D, h, _⟩ := h; exact h.lt
theorem VIs.keep {w w' : World} {b : Nat} {l : List (Win Value)} (h : VIs w b l) (hb : w'.heap[b]? = w.heap[b]?) : VIs w' b l := by
  obtain ⟨D, ⟨es, clock, h1, h2⟩, hD⟩ := h
  exact ⟨D, ⟨es, clock, hb.trans h1, h2⟩, hD⟩
theorem VIs.made (w : World) : VIs (w.alloc (.map #[] 0)) w.heap.size [] := .of (World.ownsMap_made w Try.prog 38 RawV) dis_empty
section
variable {mty ety : TypeId} {z : Value} {w : World} {b : Nat} {l : List (Win Value)} {k : List UInt8} {s : Int}
theorem VIs.len (hm : Try.prog.underlying mty = some (.map 38 ety)) (h : VIs w b l) (ty : TypeId) : (Builtin.len_ #[mty] ty #[.map (some b)]).run Try.prog w = .ok (.int .i64 (l.length : Int)) w := by
  obtain ⟨D, h, hD⟩ := h
  rw [← dis_size hD]
  exact h.len hm ty
theorem dis_getD {D : DataW Value} (hD : DIs klo D l) (hl : FineV l) (hk : okk k s) (z : Value) : D.atKey (klo k s) (.held z) = .held ((look l k s).getD z) := by
  cases hx : Ytmgmkdkdpeljmaa.look l k s with
  | none => rw [dis_none keyLo hD hl.oks hk hx]; rfl
  | some x => rw [dis_at keyLo hD hl.oks hl.rise hx]; rfl
/-- 'm[k]'. -/
theorem VIs.look (hm : Try.prog.underlying mty = some (.map 38 ety)) (hz : ∀ u : World, (zeroValue ety).run Try.prog u = .ok z u) (h : VIs w b l) (hl : FineV l) (hk : okk k s) :
    (Instr.lookup mty (.map (some b)) (ov k s) false).run Try.prog w = .ok ((look l k s).getD z) w := by
  obtain ⟨D, h, hD⟩ := h
  obtain ⟨v, ps, hrun, hv⟩ := h.lookup keyed38 hm (hz w) (rfl : RawV z = some (.held z, [])) (keyOf_ov hk)
  rw [dis_getD hD hl hk] at hv
  unfold RawV at hv
  simp only [Option.some.injEq, Prod.mk.injEq, DataW.held.injEq] at hv
  rw [hrun, hv.1]
/-- 'm[k] = v'. -/
theorem VIs.put (hm : Try.prog.underlying mty = some (.map 38 ety)) (h : VIs w b l) (hl : FineV l) (hn : l.length < maxLen) (hk : okk k s) (v : Value) :
    ∃ w', (Instr.mapUpdate mty (.map (some b)) (ov k s) v).run Try.prog w = .ok () w' ∧ VIs w' b (ins ⟨k, s, v⟩ l) ∧ w.mapTurned w' b := by
  obtain ⟨D, h, hD⟩ := h
  obtain ⟨w', hrun, h', ht⟩ := h.store keyed38 hm hn (keyOf_ov hk) (rfl : RawV v = some (.held v, []))
  exact ⟨w', hrun, .of h' (dis_put (w := ⟨k, s, v⟩) keyLo hD hl.oks hl.rise hk), ht⟩
theorem moved_block {F : Nat → Prop} {a w : World} {b : Nat} {o : Obj} (h : Moved F a w) (hb : F b ∨ a.heap.size ≤ b) : Moved F a (setBlock w b o) := by
  refine h.grown (row := some b) ⟨rfl, rfl, rfl, by simp [setBlock], fun i _ hi => by show (w.heap.setIfInBounds b o)[i]? = w.heap[i]?; rw [Array.getElem?_setIfInBounds_ne (fun e => hi (by rw [e]))]⟩ (fun k e => by cases e; exact hb)
/-- 'm[k] = f(m[k])': the entry is taken, whatever else happens, then stored. -/
theorem VIs.entry (hm : Try.prog.underlying mty = some (.map 38 ety)) (hz : ∀ u : World, (zeroValue ety).run Try.prog u = .ok z u) (h : VIs w b l) (hl : FineV l) (hn : l.length < maxLen) (hk : okk k s) :
    ∃ (st : Nat) (w1 : World), (Instr.mapEntry mty (.map (some b)) (ov k s)).run Try.prog w = .ok (.tuple #[(Ytmgmkdkdpeljmaa.look l k s).getD z, .int .i64 (st : Int)]) w1 ∧ Moved (fun j => j = b) w w1 ∧
      ∀ (w2 : World) (v : Value), w2.heap[b]? = w1.heap[b]? → ∃ w3, (Instr.entryStore mty (.map (some b)) (.int .i64 (st : Int)) v).run Try.prog w2 = .ok () w3 ∧ VIs w3 b (ins ⟨k, s, v⟩ l) ∧ Moved (fun j => j = b) w2 w3 := by
  have h0 := h
  obtain ⟨D, ⟨es, clock, hb, F, hs, hDe⟩, hD⟩ := h
  have hbl : b < w.heap.size := h0.lt
  obtain ⟨v0, st, es1, clock1, hrun, hv0, hst⟩ := entry_then_store klaw38 hm hz hb F (keyOf_ov hk)
  have hval : v0 = (Ytmgmkdkdpeljmaa.look l k s).getD z := by
    obtain ⟨_, _, s3⟩ := F.stamped
    have hlk := h0.look hm hz hl hk
    rcases klaw38.find w (keyOf_ov hk) es.toList F.keys with ⟨h1, h2⟩ | ⟨j, e, h1, h2, h3⟩
    · have hr : (Instr.lookup mty (.map (some b)) (ov k s) false).run Try.prog w = .ok z w := by
        simp [Instr.lookup, run_underlying hm, MapKept.run_getObj_map hb, klaw38.check w _ (keyOf_ov hk), h1, hz, Result.andThen]
      rw [hr] at hlk
      rcases hv0 with ⟨e0, he0, hk0, rfl⟩ | ⟨_, rfl⟩
      · exact absurd hk0 (h2 e0 he0)
      · exact (Result.ok.inj hlk).1
    · have hr : (Instr.lookup mty (.map (some b)) (ov k s) false).run Try.prog w = .ok e.val w := by
        simp [Instr.lookup, run_underlying hm, MapKept.run_getObj_map hb, klaw38.check w _ (keyOf_ov hk), h1, Result.andThen]
      rw [hr] at hlk
      rcases hv0 with ⟨e0, he0, hk0, rfl⟩ | ⟨hno, _⟩
      · have : e0 = e := by
          obtain ⟨i, hi⟩ := List.mem_iff_getElem?.1 he0
          have g1 : (es.toList.map (·.key))[i]? = some (ov k s) := by rw [List.getElem?_map, hi]; simp [hk0]
          have g2 : (es.toList.map (·.key))[j]? = some (ov k s) := by rw [List.getElem?_map, h2]; simp [h3]
          have hij : i = j := (List.getElem?_inj (List.getElem?_eq_some_iff.1 g1).1 s3).1 (g1.trans g2.symm)
          rw [hij, h2] at hi
          exact (Option.some.inj hi).symm
        rw [this]
        exact (Result.ok.inj hlk).1
      · exact absurd h3 (hno e (List.mem_of_getElem? h2))
  refine ⟨st, _, by rw [← hval]; exact hrun, moved_block (Moved.refl _ _) (.inl rfl), fun w2 v hw2 => ?_⟩
  have hw2' : w2.heap[b]? = some (.map es1 clock1) := by rw [hw2]; exact heap_setBlock_same hb _
  obtain ⟨es', clock', hr2, hup⟩ := hst w2 v hw2'
  obtain ⟨w', hr3, hV, _⟩ := h0.put hm hl hn hk v
  rw [hup] at hr3
  obtain rfl := (Result.ok.inj hr3).2
  exact ⟨_, hr2, hV.keep ((heap_setBlock_same hw2' _).trans (heap_setBlock_same hb _).symm), moved_block (Moved.refl _ _) (.inl rfl)⟩
end
end Go.Proofs.Ytmgmkdkdpeljmaa

namespace Go.Proofs.Ytmgmkdkdpeljmaa
/-- What a window is to have, of these values. -/
def want (V : List Int) : Option AggV := if V = [] then none else some (ofV SO V)
structure Once (L : LineV) (T : List (Win AggV)) (f : List UInt8 → Int → List Int) : Prop where
  good : GoodL L
  rise : Rise T
  over : ∀ x ∈ T, Sp.overI x.start L.mark = true
  told : ∀ k s, Sp.overI s L.mark = true → look T k s = want (f k s)
  open_ : ∀ k s, Sp.overI s L.mark = false → look L.row k s = want (f k s)
theorem once_new : Once newL [] (fun _ _ => []) := ⟨goodL_new, List.Pairwise.nil, fun _ h => (by cases h), fun _ _ _ => rfl, fun _ _ _ => rfl⟩
theorem look_app {α : Type} {l m : List (Win α)} {k : List UInt8} {s : Int} : look (l ++ m) k s = (look l k s).or (look m k s) := by
  induction l with
  | nil => simp [look]
  | cons a l ih =>
    rw [List.cons_append, look, look]
    split
    · rfl
    · exact ih
variable {L : LineV} {T : List (Win AggV)} {f : List UInt8 → Int → List Int}
theorem Once.no_told (h : Once L T f) {k : List UInt8} {s : Int} (hs : Sp.overI s L.mark = false) : look T k s = none := look_none fun a ha e => by
  have := h.over a ha
  rw [e.2, hs] at this; cases this
theorem Once.no_open (h : Once L T f) {k : List UInt8} {s : Int} (hs : Sp.overI s L.mark = true) : look L.row k s = none := look_none fun a ha e => by
  have := h.good.young a ha
  rw [e.2, hs] at this; cases this
/-- The values, one more put to a window. -/
def more (f : List UInt8 → Int → List Int) (k : List UInt8) (s : Int) (n : Int) : List UInt8 → Int → List Int := fun k' s' => if k' = k ∧ s' = s then f k s ++ [n] else f k' s'
theorem once_put (h : Once L T f) {k : List UInt8} {a n : Int} (hn : i64 n) :
    ((putL L k a n).2 = 1 ∧ keyOk k = true ∧ Sp.rightI a = true ∧ Once (putL L k a n).1 T (more f k (Sp.startI a) n)) ∨ (¬ (putL L k a n).2 = 1 ∧ (putL L k a n).1 = L) := by
  rcases putL_ways L k a n with ⟨_, e⟩ | ⟨hk, ⟨_, e⟩ | ⟨hl, ⟨h0, e⟩ | ⟨_, e⟩⟩⟩
  · rw [e]; exact .inr ⟨by simp, rfl⟩
  · rw [e]; exact .inr ⟨by simp, rfl⟩
  · have hg := goodL_put h.good (k := k) (a := a) hn
    rw [e] at hg ⊢
    refine .inl ⟨rfl, hk.1, hk.2, hg, h.rise, h.over, fun k' s hs => ?_, fun k' s hs => ?_⟩
    · rw [h.told k' s hs]
      have : ¬ (k' = k ∧ s = Sp.startI a) := fun e1 => by
        have hl' : Sp.overI (Sp.startI a) L.mark = false := hl
        rw [e1.2, hl'] at hs; cases hs
      unfold more; rw [if_neg this]
    · show look (putS SO L.row k a n).1 k' s = _
      rw [look_put h.good.good]
      unfold more
      have hb := h.open_ k' s hs
      by_cases hc : k' = k ∧ s = Sp.startI a
      · obtain ⟨rfl, rfl⟩ := hc
        rw [if_pos ⟨h0, rfl, rfl⟩, if_pos ⟨rfl, rfl⟩]
        have hne : ¬ f k' (Sp.startI a) ++ [n] = [] := by simp
        rw [hb]
        unfold want
        rw [if_neg hne, ofV_snoc]
        by_cases hf : f k' (Sp.startI a) = []
        · rw [if_pos hf, hf]; rfl
        · rw [if_neg hf]; rfl
      · have hc' : ¬ ((putS SO L.row k a n).2 = 0 ∧ k = k' ∧ SO.start a = s) := fun e1 => hc ⟨e1.2.1.symm, e1.2.2.symm⟩
        rw [if_neg hc', if_neg hc]; exact hb
  · rw [e]; exact .inr ⟨by simp, rfl⟩
theorem Once.apart (h : Once L T f) {x y : Win AggV} (hx : x ∈ T) (hy : y ∈ L.row) : ahead x y = true := by
  rw [ahead_iff]
  refine .inl (Int.not_le.1 fun hle => ?_)
  have h1 := over_down (h.over x hx) (isStart_iff (h.good.good.all y hy).2.1) hle
  rw [h.good.young y hy] at h1; cases h1
theorem once_mark (h : Once L T f) (a : Int) : Once (markL L a).1 (T ++ (markL L a).2.2) f := by
  have hg := goodL_mark h.good a
  rcases markL_ways L a with ⟨_, e⟩ | ⟨hr, ⟨_, e⟩ | ⟨hlt, e⟩⟩
  · rw [e]
    show Once L (T ++ []) f
    rw [List.append_nil]; exact h
  · rw [e]
    show Once L (T ++ []) f
    rw [List.append_nil]; exact h
  · rw [e] at hg ⊢
    have hm : L.mark ≤ a := by omega
    have up : ∀ {s : Int}, Sp.overI s L.mark = true → Sp.overI s a = true := fun hs => over_up hs hr hm
    have dn : ∀ {s : Int}, Sp.overI s a = false → Sp.overI s L.mark = false := fun hs => by
      cases hc : Sp.overI _ L.mark with
      | false => rfl
      | true => rw [up hc] at hs; cases hs
    have sub : ∀ y ∈ (takeS SO L.row a).2, y ∈ L.row := fun y hy => (List.mem_filter.1 hy).1
    refine ⟨hg, List.pairwise_append.2 ⟨h.rise, (take_good h.good.good a).2.rise, fun x hx y hy => h.apart hx (sub y hy)⟩, fun x hx => ?_, fun k s hs => ?_, fun k s hs => ?_⟩
    · rcases List.mem_append.1 hx with hx | hx
      · exact up (h.over x hx)
      · exact take_over.1 hx
    · obtain ⟨_, t2⟩ := look_take (O := SO) (l := L.row) a k s
      rw [look_app]
      have hs' : SO.over s a = true := hs
      rw [t2, if_pos hs']
      cases hc : Sp.overI s L.mark with
      | true => rw [h.told k s hc, h.no_open hc, Option.or_none]
      | false => rw [h.no_told hc, h.open_ k s hc, Option.none_or]
    · obtain ⟨t1, _⟩ := look_take (O := SO) (l := L.row) a k s
      have hs' : SO.over s a = false := hs
      show look (takeS SO L.row a).1 k s = _
      rw [t1, hs']
      exact h.open_ k s (dn hs)
/-- All there is. -/
theorem Once.all (h : Once L T f) : Rise (T ++ L.row) := List.pairwise_append.2 ⟨h.rise, h.good.good.rise, fun _ hx _ hy => h.apart hx hy⟩
theorem Once.is (h : Once L T f) {x : Win AggV} (hx : x ∈ T ++ L.row) : x.agg = ofV SO (f x.key x.start) ∧ ¬ f x.key x.start = [] := by
  have key : want (f x.key x.start) = some x.agg := by
    rcases List.mem_append.1 hx with hx | hx
    · rw [← h.told x.key x.start (h.over x hx)]; exact look_mem h.rise hx
    · rw [← h.open_ x.key x.start (h.good.young x hx)]; exact look_mem h.good.good.rise hx
  unfold want at key
  split at key
  · cases key
  · next hne => exact ⟨(Option.some.inj key).symm, hne⟩
theorem Once.there (h : Once L T f) {k : List UInt8} {s : Int} (hf : ¬ f k s = []) : ∃ x ∈ T ++ L.row, x.key = k ∧ x.start = s := by
  have hw : want (f k s) = some (ofV SO (f k s)) := if_neg hf
  cases hc : Sp.overI s L.mark with
  | true =>
    rw [← h.told k s hc] at hw
    exact ⟨_, List.mem_append_left _ (look_some hw), rfl, rfl⟩
  | false =>
    rw [← h.open_ k s hc] at hw
    exact ⟨_, List.mem_append_right _ (look_some hw), rfl, rfl⟩
end Go.Proofs.Ytmgmkdkdpeljmaa

namespace Go.Proofs.Ytmgmkdkdpeljmaa
open Go.RowKit

/-- A row of numbers that lies from a on. -/
def Ints (w : World) (a : Option Addr) (xs : List Int) : Prop := ∀ i, i < xs.length → ∃ x, a = some x ∧ w.cell? (x.add i) = some (.int .i64 (xs.getD i 0))
theorem add_block (x : Addr) (i : Nat) : (x.add i).block = x.block := by unfold Addr.add; split <;> rfl
theorem Ints.keep {w w' : World} {a : Option Addr} {xs : List Int} (h : Ints w a xs) (hb : Below w.heap.size w w') : Ints w' a xs := fun i hi => by
  obtain ⟨x, rfl, hc⟩ := h i hi
  have hlt := World.block_lt_of_cell? _ _ hc
  exact ⟨x, rfl, (hb.cell hlt).trans hc⟩
theorem getD_mem {xs : List Int} {i : Nat} (h : i < xs.length) : xs.getD i 0 ∈ xs := by
  rw [List.getD_eq_getElem?_getD, List.getElem?_eq_getElem h]; exact List.getElem_mem h
theorem of_take {xs : List Int} {k : Nat} (h : k < xs.length) : of (xs.take (k + 1)) = put (of (xs.take k)) (xs.getD k 0) := by
  rw [List.take_succ_eq_append_getElem h, of_snoc, List.getD_eq_getElem?_getD, List.getElem?_eq_getElem h]; rfl

set_option maxHeartbeats 1000000 in
set_option maxRecDepth 100000 in
theorem of_any (a : Option Addr) (c : Nat) (xs : List Int) (w : World) (hI : Ints w a xs) (hx : ∀ v ∈ xs, i64 v) (hn : xs.length ≤ maxLen) :
    Calls Try.prog 33 #[.slice a xs.length c] w fun e w' => e = .returned (aggV (of xs)) ∧ Below w.heap.size w w' := by
  have hn' : xs.length ≤ 2 ^ 63 - 1 := hn
  obtain ⟨n, hN⟩ : ∃ n, n = xs.length := ⟨_, rfl⟩
  rw [← hN] at hn hn'
  rw [← hN]
  have HN := hide hN
  have HI := hide hI
  have HX := hide hx
  clear hI hx hN hn
  obtain ⟨w0, hw0⟩ : ∃ w0, w0 = (w.alloc (.cells #[.int .i64 0, .int .i64 0, .int .i64 0, .int .i64 0, .int .i64 0, .int .i64 0, .int .i64 0, .int .i64 0] 34)).alloc (.cells #[.int .i64 0, .int .i64 0, .int .i64 0, .int .i64 0, .int .i64 0, .int .i64 0, .int .i64 0, .int .i64 0] 34) := ⟨_, rfl⟩
  have Hw0 := hide hw0
  obtain ⟨H, hH⟩ : ∃ H, H = w.heap.size := ⟨_, rfl⟩
  have HH := hide hH
  have RA : RowAt w0 H (cellsA zero) := by rw [hw0, hH]; exact row_old (row_new w (cellsA zero) 34) _
  have RB : RowAt w0 (H + 1) (cellsA zero) := by rw [hw0, hH]; exact row_new2 w (cellsA zero) (cellsA zero) 34 34
  have HBl : Below H w w0 := by rw [hw0, hH]; exact ((Below.refl _ _).alloc (Nat.le_refl _) _).alloc (by simp) _
  have T0 : Hid (Two w H (cellsA zero) (cellsA (of (xs.take 0))) w0) := hide ⟨RA, RB, HBl⟩
  clear hw0 hH RA RB HBl
  go_enter Try.func33, Try.ntmps33
  go_upto_region 2 with fail
  rw [← unhide HH, ← unhide Hw0]
  clear Hw0
  go_wp2_with fail
  go_loopw [8] (fun i wr => ∃ k : Nat, k ≤ n ∧ i = .int .i64 k ∧ Two w H (cellsA zero) (cellsA (of (xs.take k))) wr) (fun i _ => n - (intOf i).toNat)
  case atStart => exact ⟨0, by omega, rfl, unhide T0⟩
  case round =>
    obtain ⟨k, hk, rfl, tw⟩ := hrel
    have T := hide tw
    clear tw T0
    by_cases hlt : k < n
    · have hlt' : k < xs.length := by rw [← unhide HN]; exact hlt
      have HL := hide hlt'
      obtain ⟨x, hax, hc⟩ := unhide HI k hlt'
      have hb : x.block < H := by have := World.block_lt_of_cell? _ _ hc; rw [add_block] at this; rw [unhide HH]; exact this
      subst hax
      have hc' : wr.cell? (x.add k) = some (.int .i64 (xs.getD k 0)) := ((unhide T).2.2.cell (by rw [add_block]; exact hb)).trans hc
      have hv := unhide HX _ (getD_mem hlt')
      have HV := hide hv
      have Hat := hide (of_take hlt')
      clear hc hlt' hv
      generalize xs.getD k 0 = v at *
      go_upto_region 5 with fail
      have hrg := (unhide T).2.1.range
      go_step
      refine wpList_load_mid rfl 34 (.tmp 3) rfl (H + 1) 0 rfl (cellsA (of (xs.take k))) _ hrg Try.underlying34 rfl (by kernel_rfl) ?_
      clear hrg
      go_wp2_with fail
      refine (put_any (of (xs.take k)) v _ (of_in _ (fun u hu => unhide HX u (List.mem_of_mem_take hu))) (unhide HV)).mono ?_
      rintro e w1 ⟨rfl, hb1⟩
      have T1 := hide ((unhide T).carry hb1)
      clear hb1
      rw [← unhide Hat]
      dsimp only
      refine ‹∀ (a : Act) (w : World), wpList _ _ _ _ a w → _› _ _ ?_
      have hth := (unhide T1).2.1.there
      refine wpList_store_mid rfl 34 (.tmp 3) (.tmp 14) rfl (H + 1) 0 (cellsA (of (xs.take (k + 1)))).toArray (by rfl) (by rfl) hth (by kernel_rfl) (by simp [Value.oneCell', cellsA, I]) ?_
      clear hth
      have RF := (unhide T1).2.1.put (cellsA (of (xs.take (k + 1)))) rfl
      have MF := setCells_moved w1 (H + 1) 0 (cellsA (of (xs.take (k + 1))))
      have TF : Hid (Two w H (cellsA zero) (cellsA (of (xs.take (k + 1)))) (w1.setCells (H + 1) 0 (cellsA (of (xs.take (k + 1)))))) := hide ⟨(unhide T1).1.keep MF (by omega), RF, (unhide T1).2.2.trans (MF.below (B := H) (fun i hi => by omega) (by have := (unhide T1).1.lt; omega))⟩
      clear RF MF
      change wpList _ _ _ _ _ (w1.setCells (H + 1) 0 (cellsA (of (xs.take (k + 1)))))
      generalize w1.setCells (H + 1) 0 (cellsA (of (xs.take (k + 1)))) = wf at *
      go_wp2_with fail
      go_roundw
      case rel => exact ⟨k + 1, by omega, by go_num, unhide TF⟩
      case measure => simp [intOf]; omega
    · have hkn : xs.take k = xs := List.take_of_length_le (by rw [← unhide HN]; omega)
      rw [hkn] at T
      go_upto_region 7 with fail
      have hrg := (unhide T).2.1.range
      have hth := (unhide T).1.there
      go_step
      refine wpList_load_mid rfl 34 (.tmp 3) rfl (H + 1) 0 rfl (cellsA (of xs)) _ hrg Try.underlying34 rfl (by kernel_rfl) ?_
      refine wpList_store_mid rfl 34 (.tmp 2) (.tmp 16) rfl H 0 (cellsA (of xs)).toArray rfl rfl hth (by kernel_rfl) (by simp [Value.oneCell', cellsA, I]) ?_
      clear hrg hth
      have RF := (unhide T).1.put (cellsA (of xs)) rfl
      have BF := hide ((unhide T).2.2.trans ((setCells_moved wr H 0 (cellsA (of xs))).below (B := H) (fun i hi => by omega) (by have := (unhide T).1.lt; omega)))
      change wpList _ _ _ _ _ (wr.setCells H 0 (cellsA (of xs)))
      generalize wr.setCells H 0 (cellsA (of xs)) = wf at *
      go_wp2_with fail
      have hfr := RF.range
      refine bodyPost_ret (v := aggV (of xs)) ?_ rfl ?_
      · exact results_cell_mid Try.results33 _ wf H _ _ rfl hfr Try.underlying34 rfl (by kernel_rfl)
      · refine ⟨rfl, ?_⟩
        have h := unhide BF
        rw [unhide HH] at h; exact h
end Go.Proofs.Ytmgmkdkdpeljmaa

namespace Go.Proofs.Ytmgmkdkdpeljmaa
open Go.RowKit
/-- Rows of numbers. -/
def IntK : RowK Int := ⟨68, 2, 1, 8, .int .i64 0, fun v => [.int .i64 v]⟩
theorem info2k : (Try.prog.info? 2).map (fun i => (i.zero, i.size, i.bytes)) = some (some IntK.z, 1, 8) := by kernel_rfl
theorem intK_law : IntK.Law Try.prog where
  und := Try.underlying68
  info := by obtain ⟨i0, hi, hz0, hz1, hz2⟩ := info_parts info2k; exact ⟨i0, hi, hz0, hz1, hz2⟩
  zc := rfl
  pos := by decide
  len := fun _ => rfl
  one := fun b u hu => by
    simp [IntK] at hu
    rw [hu]; rfl
  small := by decide
theorem rowk_moved {β : Type} {K : RowK β} {G : Nat → Prop} {w w' : World} {B : Nat} {a : Option Addr} {c : Nat} {l : List β} (h : K.Row w B a c l) (hm : Moved G w w') (hG : ∀ i, G i → ∀ k, (Value.slice a l.length c).ownBlock = some k → i ≠ k) : K.Row w' B a c l := by
  obtain ⟨h1, h2⟩ := h
  refine ⟨h1, h2.imp id ?_⟩
  rintro ⟨g, cap, cur, hv, e1, e2, e3⟩
  refine ⟨g, cap, cur, hv, e1, (hm.block g (Array.getElem?_eq_some_iff.1 e2).1 (fun f => hG g f g (by rw [hv]; rfl) rfl)).trans e2, e3⟩
theorem ints_cells : ∀ l : List Int, IntK.cells l = l.map (Value.int .i64)
  | [] => rfl
  | v :: l => by
    have : IntK.cells (v :: l) = IntK.f v ++ IntK.cells l := List.flatMap_cons
    rw [this, ints_cells l]; rfl
theorem ints_of {w : World} {B c : Nat} {a : Option Addr} {l : List Int} (h : IntK.Row w B a c l) : Ints w a l := fun i hi => by
  have hl := row_lies h
  cases a with
  | none => rw [hl.1 rfl] at hi; cases hi
  | some x => exact ⟨x, rfl, hl.2 x rfl i _ (by rw [ints_cells, List.getElem?_map, List.getElem?_eq_getElem hi, List.getD_eq_getElem?_getD, List.getElem?_eq_getElem hi]; rfl)⟩
theorem ints_new (w : World) (n : Int) : IntK.Lies (w.alloc (.cells #[.int .i64 n] 2)) (some ⟨w.heap.size, 0, none⟩) [n] := by
  refine ⟨fun e => (by cases e), fun x e j u hu => ?_⟩
  cases e
  have hu' : [Value.int .i64 n][j]? = some u := by simpa [RowK.cells, IntK] using hu
  have := (row_new w [.int .i64 n] 2).range j u hu'
  rwa [Addr.add_mid]
abbrev noInts : Value := .slice none 0 0
theorem zero68 (w : World) : (zeroValue 68).run Try.prog w = .ok noInts w := by
  have h : (Try.prog.info? 68).map (fun i => (i.zero, i.size)) = some (some noInts, 1) := by kernel_rfl
  obtain ⟨i, hi, he⟩ := Option.map_eq_some_iff.1 h
  simp only [Prod.mk.injEq] at he
  simp [zeroValue, typeInfo, hi, he.1]
theorem zero3 (w : World) : (zeroValue 3).run Try.prog w = .ok (.int .i64 0) w := by
  have h : (Try.prog.info? 3).map (fun i => (i.zero, i.size)) = some (some (.int .i64 0), 1) := by kernel_rfl
  obtain ⟨i, hi, he⟩ := Option.map_eq_some_iff.1 h
  simp only [Prod.mk.injEq] at he
  simp [zeroValue, typeInfo, hi, he.1]
theorem ins_len_le' {α : Type} {w : Win α} {l : List (Win α)} (h : Rise l) : (ins w l).length ≤ l.length + 1 := by rw [ins_len h]; split <;> omega
variable {w0 z v v' : World} {p : Nat} {L L' : LineV} {R R' : List Held} {X X' Y : Nat → Prop} {bm : Nat} {l : List (Win Value)} {f : List UInt8 → Int → List Int}
theorem HLX.aside (h : HLX w0 z X v p L R) (m : Moved X v v') (hX : ∀ k, X' k → X k ∨ v.heap.size ≤ k) (hlt : ∀ k, X' k → k < v'.heap.size) (lo : ∀ k, X k → w0.heap.size ≤ k) : HLX w0 v' X' v' p L R := by
  obtain ⟨F, h⟩ := h
  have nf : ∀ k, X k → ¬ F k := fun k hk => (h.apart k hk).2.1
  refine ⟨F, ⟨h.here.st.keep m (fun i hi f => nf i hi f), h.here.big, ((Moved.of_below (F := X) h.here.bel).trans m (fun _ e => .inl e)).below (fun i hi => lo i hi) (Nat.le_refl _), fun r hr => ⟨row_moved (h.here.rows r hr).1 m (fun i hi k hk e => (h.apart i hi).2.2 r hr (e ▸ hk)), (h.here.rows r hr).2⟩⟩, fun k hk => ⟨hlt k hk, fun f => ?_, fun r hr e => ?_⟩, Moved.refl _ _⟩
  · rcases hX k hk with e | e
    · exact nf k e f
    · have := h.here.st.lt k f; omega
  · rcases hX k hk with e2 | e2
    · exact (h.apart k e2).2.2 r hr e
    · have := (row_lt (h.here.rows r hr).1 k e).2; omega
theorem HLX.xlt (h : HLX w0 z X v p L R) : ∀ k, X k → k < v.heap.size := fun k hk => by
  obtain ⟨F, h⟩ := h
  have := (h.apart k hk).1; have := h.stay.size; omega
theorem HLX.stay (h : HLX w0 z X v p L R) : Moved (fun k => ¬ X k) z v := by obtain ⟨F, h⟩ := h; exact h.stay
/-- The map at bm with l, whose elements are rows of the numbers f, in the blocks Y. -/
structure VF (w0 v : World) (X Y : Nat → Prop) (bm : Nat) (l : List (Win Value)) (f : List UInt8 → Int → List Int) : Prop where
  map : VIs v bm l
  fine : FineV l
  xb : X bm
  lo : ∀ k, X k → w0.heap.size ≤ k
  xy : ∀ k, Y k → X k
  yb : ¬ Y bm
  some_ : ∀ k s u, look l k s = some u → ∃ a c, u = .slice a (f k s).length c ∧ ¬ f k s = [] ∧ IntK.Row v w0.heap.size a c (f k s) ∧ ∀ j, u.ownBlock = some j → Y j
  none_ : ∀ k s, look l k s = none → f k s = []
  apart : ∀ k s u k' s' u', look l k s = some u → look l k' s' = some u' → ¬ (k = k' ∧ s = s') → ∀ j, u.ownBlock = some j → ¬ u'.ownBlock = some j
theorem VF.keep (h : VF w0 v X Y bm l f) (m : Moved (fun k => ¬ X k) v v') : VF w0 v' X Y bm l f :=
  ⟨h.map.keep (m.block bm h.map.lt (fun e => e h.xb)), h.fine, h.xb, h.lo, h.xy, h.yb, fun k s u hu => by
    obtain ⟨a, c, e, hne, hr, hy⟩ := h.some_ k s u hu
    exact ⟨a, c, e, hne, rowk_moved hr m (fun i hi j hj e2 => hi (e2 ▸ h.xy j (hy j (by rw [e]; exact hj)))), hy⟩, h.none_, h.apart⟩
theorem VF.grow (h : VF w0 v X Y bm l f) (hX : ∀ k, X k → X' k) (lo : ∀ k, X' k → w0.heap.size ≤ k) : VF w0 v X' Y bm l f :=
  ⟨h.map, h.fine, hX _ h.xb, lo, fun k hk => hX k (h.xy k hk), h.yb, h.some_, h.none_, h.apart⟩
/-- All of them. -/
structure OSF (w0 v : World) (p : Nat) (X Y : Nat → Prop) (L : LineV) (R : List Held) (bm : Nat) (l : List (Win Value)) (f : List UInt8 → Int → List Int) : Prop where
  hlx : HLX w0 v X v p L R
  vf : VF w0 v X Y bm l f
/-- A call of the line's goes by. -/
theorem OSF.line (h : OSF w0 v p X Y L R bm l f) (h' : HLX w0 v X v' p L' R') : OSF w0 v' p X Y L' R' bm l f :=
  ⟨h'.aside (Moved.refl _ _) (fun _ hk => .inl hk) h'.xlt h.vf.lo, h.vf.keep h'.stay⟩
theorem OSF.below (h : OSF w0 v p X Y L R bm l f) (hb : Below v.heap.size v v') : OSF w0 v' p X Y L R bm l f := h.line (h.hlx.below hb)
theorem OSF.bel (h : OSF w0 v p X Y L R bm l f) : Below w0.heap.size w0 v := h.hlx.bel
/-- A block more that is to stay. -/
theorem OSF.box (h : OSF w0 v p X Y L R bm l f) {b : Nat} (hb : Below v.heap.size v v') (h1 : v.heap.size ≤ b) (h2 : b < v'.heap.size) : OSF w0 v' p (fun k => X k ∨ k = b) Y L R bm l f := by
  have h' := h.hlx.aside (X' := fun k => X k ∨ k = b) (Moved.of_below hb) (fun _ hk => hk.imp id (fun e => by omega)) (fun k hk => hk.elim (fun e => Nat.lt_of_lt_of_le (h.hlx.xlt k e) hb.size) (fun e => by omega)) h.vf.lo
  exact ⟨h', (h.below hb).vf.grow (fun k hk => .inl hk) (fun k hk => hk.elim (h.vf.lo k) (fun e => by have := h.bel.size; omega))⟩
/-- Something else that is to stay turns. -/
theorem OSF.side (h : OSF w0 v p X Y L R bm l f) {G : Nat → Prop} (m : Moved G v v') (hG : ∀ k, G k → X k ∧ ¬ Y k ∧ k ≠ bm) : OSF w0 v' p X Y L R bm l f := by
  have h' := h.hlx.aside (X' := X) (m.mono (fun k hk => .inl (hG k hk).1)) (fun _ hk => .inl hk) (fun k hk => Nat.lt_of_lt_of_le (h.hlx.xlt k hk) m.size) h.vf.lo
  refine ⟨h', ⟨h.vf.map.keep (m.block bm h.vf.map.lt (fun e => (hG bm e).2.2 rfl)), h.vf.fine, h.vf.xb, h.vf.lo, h.vf.xy, h.vf.yb, fun k s u hu => ?_, h.vf.none_, h.vf.apart⟩⟩
  obtain ⟨a, c, e, hne, hr, hy⟩ := h.vf.some_ k s u hu
  exact ⟨a, c, e, hne, rowk_moved hr m (fun i hi j hj e2 => (hG i hi).2.1 (e2 ▸ hy j (by rw [e]; exact hj))), hy⟩
/-- What 'values[w]' is. -/
theorem VF.at_ (h : VF w0 v X Y bm l f) (k : List UInt8) (s : Int) : ∃ a c, (look l k s).getD noInts = .slice a (f k s).length c ∧ IntK.Row v w0.heap.size a c (f k s) ∧ (∀ j, (Value.slice a (f k s).length c).ownBlock = some j → Y j) ∧ ∀ k' s' u', look l k' s' = some u' → ¬ (k = k' ∧ s = s') → ∀ j, (Value.slice a (f k s).length c).ownBlock = some j → ¬ u'.ownBlock = some j := by
  cases hu : look l k s with
  | none =>
    have hf := h.none_ k s hu
    rw [hf]
    exact ⟨none, 0, rfl, World.ownsRow_nil _ _ _ _, fun j e => (by cases e), fun _ _ _ _ _ j e => (by cases e)⟩
  | some u =>
    obtain ⟨a, c, rfl, _, hr, hy⟩ := h.some_ k s u hu
    exact ⟨a, c, rfl, hr, hy, fun k' s' u' h' hne => h.apart k s _ k' s' u' hu h' hne⟩
theorem VF.len (h : VF w0 v X Y bm l f) (ty : TypeId) : (Builtin.len_ #[67] ty #[.map (some bm)]).run Try.prog v = .ok (.int .i64 (l.length : Int)) v := h.map.len Try.underlying67 ty
theorem VF.lookup (h : VF w0 v X Y bm l f) {k : List UInt8} {s : Int} (hk : okk k s) : (Instr.lookup 67 (.map (some bm)) (ov k s) false).run Try.prog v = .ok ((look l k s).getD noInts) v := h.map.look Try.underlying67 zero68 h.fine hk
/-- 'values[w] = append(values[w], n)'. -/
theorem OSF.push (h : OSF w0 v p X Y L R bm l f) (k : List UInt8) (s n : Int) (hk : okk k s) (hl : l.length ≤ 1000) (hn : (f k s).length ≤ 1000) :
    ∃ (st : Nat) (w1 : World) (a : Option Addr) (c : Nat) (a' : Option Addr) (c' : Nat) (v2 w3 : World),
      (Instr.mapEntry 67 (.map (some bm)) (ov k s)).run Try.prog (v.alloc (.cells #[.int .i64 n] 2)) = .ok (.tuple #[.slice a (f k s).length c, .int .i64 (st : Int)]) w1 ∧
      (Builtin.append_ #[68, 68] 68 #[.slice a (f k s).length c, .slice (some ⟨v.heap.size, 0, none⟩) 1 1]).run Try.prog w1 = .ok (.slice a' (f k s ++ [n]).length c') v2 ∧
      (Instr.entryStore 67 (.map (some bm)) (.int .i64 (st : Int)) (.slice a' (f k s ++ [n]).length c')).run Try.prog v2 = .ok () w3 ∧
      Moved X v w3 ∧ ∃ X' Y' l', OSF w0 w3 p X' Y' L R bm l' (more f k s n) ∧ (∀ j, X j → X' j) ∧ l'.length ≤ l.length + 1 := by
  have hba : Below v.heap.size v (v.alloc (.cells #[.int .i64 n] 2)) := (Below.refl _ _).alloc (Nat.le_refl _) _
  have hv := h.below hba
  obtain ⟨st, w1, r1, m1, hst⟩ := hv.vf.map.entry Try.underlying67 zero68 hv.vf.fine (by unfold maxLen; omega) hk
  obtain ⟨a, c, e, hr, hy, hap⟩ := hv.vf.at_ k s
  rw [e] at r1
  have hbm : bm < (v.alloc (.cells #[.int .i64 n] 2)).heap.size := hv.vf.map.lt
  have hr1 : IntK.Row w1 w0.heap.size a c (f k s) := rowk_moved hr m1 (fun i hi j hj e2 => hv.vf.yb (by rw [← hi, e2]; exact hy j hj))
  have hlies : IntK.Lies w1 (some ⟨v.heap.size, 0, none⟩) [n] := by
    have hn0 := ints_new v n
    have hne : ¬ v.heap.size = bm := fun e => by have := h.vf.map.lt; omega
    refine ⟨fun e => (by cases e), fun x ex j u hu => ?_⟩
    have := hn0.2 x ex j u hu
    cases ex
    rw [Addr.add_mid] at this ⊢
    exact (m1.cell (p := ⟨v.heap.size, 0 + j, none⟩) (by simp) hne).trans this
  obtain ⟨a', c', v2, r2, hr2, hg, hown⟩ := grow_at intK_law hr1 ⟨v.heap.size, 0, none⟩ 1 [n] hlies (by simp; omega) (Nat.le_trans hv.bel.size m1.size) 68
  have m2 : Moved (fun j => (Value.slice a (f k s).length c).ownBlock = some j) w1 v2 := (Moved.refl _ _).grown hg (fun j e => .inl e)
  have hb2 : v2.heap[bm]? = w1.heap[bm]? := m2.block bm (Nat.lt_of_lt_of_le hbm m1.size) (fun e2 => hv.vf.yb (hy bm e2))
  obtain ⟨w3, r3, hV3, m3⟩ := hst v2 (.slice a' (f k s ++ [n]).length c') hb2
  have hown2 : ∀ j, (Value.slice a' (f k s ++ [n]).length c').ownBlock = some j → (Value.slice a (f k s).length c).ownBlock = some j ∨ j = w1.heap.size := fun j hj => by
    rcases hown with e2 | e2
    · exact .inl (e2.symm.trans hj)
    · rw [e2] at hj; cases hj; exact .inr rfl
  have s1 := m1.size
  have s2 := m2.size
  have s3 := m3.size
  have sa : (v.alloc (.cells #[.int .i64 n] 2)).heap.size = v.heap.size + 1 := by simp
  have m13 : Moved X (v.alloc (.cells #[.int .i64 n] 2)) w3 :=
    ((m1.mono (fun j (e : j = bm) => .inl (by rw [e]; exact h.vf.xb))).trans m2 (fun j e2 => .inl (h.vf.xy j (hy j e2)))).trans m3 (fun j (e2 : j = bm) => .inl (by rw [e2]; exact h.vf.xb))
  have mX : Moved X v w3 := (Moved.of_below (F := X) hba).trans m13 (fun j e2 => .inl e2)
  have hX' : ∀ j, (X j ∨ j = w1.heap.size) → X j ∨ (v.alloc (.cells #[.int .i64 n] 2)).heap.size ≤ j := fun j hj => hj.imp id (fun e2 => by omega)
  have hb1 : ∀ j, (Value.slice a' (f k s ++ [n]).length c').ownBlock = some j → j < v2.heap.size := fun j hj => (World.ownsRow.lt hr2 j hj).2
  have hlx3 := hv.hlx.aside (X' := fun j => X j ∨ (Value.slice a' (f k s ++ [n]).length c').ownBlock = some j) m13 (fun j hj => hj.elim .inl (fun e2 => (hown2 j e2).elim (fun e3 => .inl (h.vf.xy j (hy j e3))) (fun e3 => .inr (by omega)))) (fun j hj => hj.elim (fun e2 => Nat.lt_of_lt_of_le (hv.hlx.xlt j e2) m13.size) (fun e2 => Nat.lt_of_lt_of_le (hb1 j e2) s3)) h.vf.lo
  refine ⟨st, w1, a, c, a', c', v2, w3, r1, r2, r3, mX, _, fun j => Y j ∨ (Value.slice a' (f k s ++ [n]).length c').ownBlock = some j, _, ⟨hlx3, ⟨hV3, hv.vf.fine.ins (x := ⟨k, s, _⟩) hk, .inl h.vf.xb, fun j hj => ?_, fun j hj => hj.imp (h.vf.xy j) id, fun e2 => ?_, fun k' s' u hu => ?_, fun k' s' hu => ?_, fun k1 s1' u1 k2 s2' u2 hu1 hu2 hne j hj1 hj2 => ?_⟩⟩, fun j hj => .inl hj, ?_⟩
  · rcases hj with hj | hj
    · exact h.vf.lo j hj
    · exact (World.ownsRow.lt hr2 j hj).1
  · rcases e2 with e2 | e2
    · exact h.vf.yb e2
    · rcases hown2 bm e2 with e3 | e3
      · exact h.vf.yb (hy bm e3)
      · omega
  · rw [look_ins h.vf.fine.rise] at hu
    by_cases hc : k' = k ∧ s' = s
    · obtain ⟨rfl, rfl⟩ := hc
      rw [if_pos ⟨rfl, rfl⟩] at hu
      obtain rfl := Option.some.inj hu
      have hm : more f k' s' n k' s' = f k' s' ++ [n] := if_pos ⟨rfl, rfl⟩
      rw [hm]
      exact ⟨a', c', rfl, by simp, rowk_moved hr2 m3 (fun i hi j hj e2 => by
        rcases hown2 j hj with e3 | e3
        · exact hv.vf.yb (by rw [← hi, e2]; exact hy j e3)
        · omega), fun j hj => .inr hj⟩
    · rw [if_neg (fun e2 => hc ⟨e2.1.symm, e2.2.symm⟩)] at hu
      have hm : more f k s n k' s' = f k' s' := if_neg hc
      rw [hm]
      obtain ⟨a1, c1, e1, hne, hr', hy'⟩ := hv.vf.some_ k' s' u hu
      refine ⟨a1, c1, e1, hne, rowk_moved (rowk_moved (rowk_moved hr' m1 (fun i hi j hj e2 => ?_)) m2 (fun i hi j hj e2 => ?_)) m3 (fun i hi j hj e2 => ?_), fun j hj => .inl (hy' j hj)⟩
      · exact hv.vf.yb (by rw [← hi, e2]; exact hy' j (by rw [e1]; exact hj))
      · exact hap k' s' u hu (fun e3 => hc ⟨e3.1.symm, e3.2.symm⟩) i hi (by rw [e1, e2]; exact hj)
      · exact hv.vf.yb (by rw [← hi, e2]; exact hy' j (by rw [e1]; exact hj))
  · rw [look_ins h.vf.fine.rise] at hu
    by_cases hc : k' = k ∧ s' = s
    · obtain ⟨rfl, rfl⟩ := hc
      rw [if_pos ⟨rfl, rfl⟩] at hu; cases hu
    · rw [if_neg (fun e2 => hc ⟨e2.1.symm, e2.2.symm⟩)] at hu
      rw [show more f k s n k' s' = f k' s' from if_neg hc]
      exact h.vf.none_ k' s' hu
  · rw [look_ins h.vf.fine.rise] at hu1 hu2
    by_cases h1 : at_ k1 s1' (⟨k, s, .slice a' (f k s ++ [n]).length c'⟩ : Win Value)
    · rw [if_pos h1] at hu1
      obtain rfl := Option.some.inj hu1
      have h2 : ¬ at_ k2 s2' (⟨k, s, .slice a' (f k s ++ [n]).length c'⟩ : Win Value) := fun e2 => hne ⟨h1.1.symm.trans e2.1, h1.2.symm.trans e2.2⟩
      rw [if_neg h2] at hu2
      rcases hown2 j hj1 with e3 | e3
      · exact hap k2 s2' u2 hu2 h2 j e3 hj2
      · obtain ⟨a2, c2, e4, _, hr4, _⟩ := hv.vf.some_ k2 s2' u2 hu2
        rw [e4] at hj2
        have := (World.ownsRow.lt hr4 j hj2).2
        omega
    · rw [if_neg h1] at hu1
      by_cases h2 : at_ k2 s2' (⟨k, s, .slice a' (f k s ++ [n]).length c'⟩ : Win Value)
      · rw [if_pos h2] at hu2
        obtain rfl := Option.some.inj hu2
        rcases hown2 j hj2 with e3 | e3
        · exact hap k1 s1' u1 hu1 h1 j e3 hj1
        · obtain ⟨a2, c2, e4, _, hr4, _⟩ := hv.vf.some_ k1 s1' u1 hu1
          rw [e4] at hj1
          have := (World.ownsRow.lt hr4 j hj1).2
          omega
      · rw [if_neg h2] at hu2
        exact h.vf.apart k1 s1' u1 k2 s2' u2 hu1 hu2 hne j hj1 hj2
  · exact ins_len_le' h.vf.fine.rise
end Go.Proofs.Ytmgmkdkdpeljmaa

namespace Go.Proofs.Ytmgmkdkdpeljmaa
section
variable {P : Program} {ops : Array Oper} {md : Region.Mode} {S : World → Prop}
/-- A call among those that turn the world, whatever guards it. -/
theorem chain_call_on {K : Act → World → Prop} {j : Nat} {o : Oper} {l : List (Nat × Oper)} {a : Act} {w : World} (f : FuncId) (args : Array Value) (hw : Region.wanted o (yielded ops a.tmps) = true) (hr : (execOp a.eval o).run P w = .ok (.enter f args) w)
    (h : Calls P f args w fun e w' => ∃ v, e = .returned v ∧ S w' ∧ chainM P md ops S K l (a.put o.dst v) w') : chainM P md ops S K ((j, o) :: l) a w := by
  refine ⟨hw, ?_⟩
  unfold goes
  rw [hr]
  exact h.mono fun e w' ⟨v, he, hS, hc⟩ => ⟨v, he, fun _ => hS, hc⟩
theorem chain_step_on {K : Act → World → Prop} {j : Nat} {o : Oper} {l : List (Nat × Oper)} {a : Act} {w : World} (v : Value) (w' : World) (hw : Region.wanted o (yielded ops a.tmps) = true) (hr : (execOp a.eval o).run P w = .ok (.value v) w') (hS : S w')
    (h : chainM P md ops S K l (a.put o.dst v) w') : chainM P md ops S K ((j, o) :: l) a w := by
  refine ⟨hw, ?_⟩
  unfold goes
  rw [hr]
  exact ⟨fun _ => hS, h⟩
/-- Steps: quiet ones (true), and such as turn the world. -/
def seqZ (md : Region.Mode) (ops : Array Oper) : List (Bool × Nat × Oper) → Array Bool → Bool
  | [], listed => Region.ready md ops listed == []
  | (true, z) :: Z, listed => (Region.ready md ops listed).contains z.1 && freeB md ops listed z.1 z.2 && seqZ md ops Z (listed.setIfInBounds z.1 true)
  | (false, z) :: Z, listed => (Region.ready md ops listed == [z.1]) && seqZ md ops Z (listed.setIfInBounds z.1 true)
def seqM (P : Program) (md : Region.Mode) (ops : Array Oper) (S : World → Prop) (K : Act → World → Prop) : List (Bool × Nat × Oper) → Act → World → Prop
  | [], a, w => K a w
  | (true, z) :: l, a, w => S w ∧ ∃ v, YieldsS P ops S z.2 v a ∧ seqM P md ops S K l (a.put z.2.dst v) w
  | (false, z) :: l, a, w => Region.wanted z.2 (yielded ops a.tmps) = true ∧ goes P z.2 a w (fun a' w' => (needB md ops z.1 = true → S w') ∧ seqM P md ops S K l a' w')
theorem wpS_seq {K : Act → World → Prop} (hs : Region.noSelect ops = true) : ∀ (Z : List (Bool × Nat × Oper)) (listed : Array Bool) (a : Act) (w : World), (∀ z ∈ Z, ops[z.2.1]? = some z.2.2) → seqZ md ops Z listed = true → seqM P md ops S K Z a w → wpS P md ops S K Z.length listed a w
  | [], _, _, _, _, hB, h => ⟨by simpa [seqZ] using hB, h⟩
  | (true, z) :: Z, listed, a, w, hz, hB, h => by
    simp only [seqZ, Bool.and_eq_true] at hB
    obtain ⟨⟨hr, hf⟩, hB'⟩ := hB
    obtain ⟨hS, v, hy, hK⟩ := h
    exact wpS_first (hz (true, z) List.mem_cons_self) (Region.noSelect_spec hs) _ listed a w (free_of hf) (by simpa using hr) hy hS
      (wpS_seq hs Z _ _ _ (fun y hy => hz y (List.mem_cons_of_mem _ hy)) hB' hK)
  | (false, z) :: Z, listed, a, w, hz, hB, h => by
    simp only [seqZ, Bool.and_eq_true, beq_iff_eq] at hB
    refine ⟨fun h0 => (by rw [hB.1] at h0; cases h0), fun i hi => ?_⟩
    rw [hB.1, List.mem_singleton] at hi
    subst hi
    unfold sOp
    simp only [hz (false, z) List.mem_cons_self]
    obtain ⟨hw, hg⟩ := h
    rw [if_pos hw]
    exact goes_mono (fun a' w' ⟨h1, h2⟩ => ⟨h1, wpS_seq hs Z _ a' w' (fun y hy => hz y (List.mem_cons_of_mem _ hy)) hB.2 h2⟩) hg
theorem seqM_quiet {K : Act → World → Prop} {Q : Act → Prop} {rest : List (Bool × Nat × Oper)} {w : World} (hS : S w) (hQ : ∀ a, Q a → seqM P md ops S K rest a w) :
    ∀ (Z : List (Nat × Oper)) (a : Act), allS P ops S Q (Z.map Prod.snd) a → seqM P md ops S K (Z.map (fun z => (true, z)) ++ rest) a w
  | [], a, h => hQ a h
  | _ :: Z, _, h => by
    obtain ⟨v, hy, hK⟩ := h
    exact ⟨hS, v, hy, seqM_quiet hS hQ Z _ hK⟩
theorem seqM_chain {K K' : Act → World → Prop} {rest : List (Bool × Nat × Oper)} (hK : ∀ a w, K' a w → seqM P md ops S K rest a w) :
    ∀ (Z : List (Nat × Oper)) (a : Act) (w : World), chainM P md ops S K' Z a w → seqM P md ops S K (Z.map (fun z => (false, z)) ++ rest) a w
  | [], a, w, h => hK a w h
  | _ :: Z, _, _, h => ⟨h.1, goes_mono (fun a' w' ⟨h1, h2⟩ => ⟨h1, seqM_chain hK Z a' w' h2⟩) h.2⟩
def tag (b : Bool) (Z : List (Nat × Oper)) : List (Bool × Nat × Oper) := Z.map (fun z => (b, z))
/-- May it be walked so? m1, m3: those that yield, m2, m4: those that turn the world. -/
def seqB (os : List Oper) (m1 m2 m3 m4 : List Bool) : Bool :=
  Region.noSelect os.toArray && decide ((pickZ m1 os 0).length + (pickZ m2 os 0).length + (pickZ m3 os 0).length + (pickZ m4 os 0).length = os.length) &&
    seqZ .any os.toArray (tag true (pickZ m1 os 0) ++ (tag false (pickZ m2 os 0) ++ (tag true (pickZ m3 os 0) ++ tag false (pickZ m4 os 0)))) (Array.replicate os.length false)
theorem wp_region_seq {S : World → Prop} {os : List Oper} {id : Nat} {Q : Exit → Act → World → Prop} {a : Act} {w : World} (m1 m2 m3 m4 : List Bool) (hm : P.follows .mixedOrders = true) (hB : seqB os m1 m2 m3 m4 = true) (hA : apartB (pickM m1 os) a.tmps.size = true) (hS : S w.drew)
    (h : ∃ A, (∀ p : SW S, wpQuiet P os.toArray (fun w' => ∃ q : SK S p.w, w' = q.s.w) (fun a' => a' = A) (pickM m1 os) a) ∧ chainM P .any os.toArray S (fun a2 w2 => S w2 ∧ apartB (pickM m3 os) a2.tmps.size = true ∧
      ∃ A2, (∀ p : SW S, wpQuiet P os.toArray (fun w' => ∃ q : SK S p.w, w' = q.s.w) (fun a' => a' = A2) (pickM m3 os) a2) ∧ chainM P .any os.toArray S (fun a' w' => Q .normal a' w') (pickZ m4 os 0) A2 w2) (pickZ m2 os 0) A w.drew) : (Code.region id os.toArray true).wp P Q a w := by
  obtain ⟨A, hq, hc⟩ := h
  simp only [seqB, Bool.and_eq_true, decide_eq_true_eq] at hB
  obtain ⟨⟨hs, hlen⟩, hZ⟩ := hB
  have hz : ∀ m, ∀ z ∈ pickZ m os 0, os.toArray[z.1]? = some z.2 := fun m z hz => by
    rw [List.getElem?_toArray]; simpa using (pickZ_mem m os 0 z hz).2
  refine wp_region_any hm (wpAny_of_S (S := S) (K := fun a' w' => Q .normal a' w') (fun _ _ h => h) _ _ _ _ ?_)
  have hall : ∀ z ∈ tag true (pickZ m1 os 0) ++ (tag false (pickZ m2 os 0) ++ (tag true (pickZ m3 os 0) ++ tag false (pickZ m4 os 0))), os.toArray[z.2.1]? = some z.2.2 := by
    intro z hzm
    have tagm : ∀ b m, z ∈ tag b (pickZ m os 0) → os.toArray[z.2.1]? = some z.2.2 := fun b m hm => by
      obtain ⟨y, hy, rfl⟩ := List.mem_map.1 hm
      exact hz m y hy
    rcases List.mem_append.1 hzm with h1 | h1
    · exact tagm _ _ h1
    · rcases List.mem_append.1 h1 with h2 | h2
      · exact tagm _ _ h2
      · rcases List.mem_append.1 h2 with h3 | h3
        · exact tagm _ _ h3
        · exact tagm _ _ h3
  have key := wpS_seq (md := .any) (S := S) (K := fun a' w' => Q .normal a' w') (P := P) hs _ (Array.replicate os.length false) a w.drew hall hZ (by
    refine seqM_quiet (Q := fun a' => a' = A) hS (fun a' ha => ?_) _ a (by rw [pickZ_snd]; exact allS_of ⟨_, hS⟩ _ _ hA hq)
    rw [show a' = A from ha]
    refine seqM_chain (fun a2 w2 hK => ?_) _ _ _ hc
    obtain ⟨hS2, hA2, A2, hq2, hc2⟩ := hK
    refine seqM_quiet (Q := fun a' => a' = A2) hS2 (fun a' ha => ?_) _ a2 (by rw [pickZ_snd]; exact allS_of ⟨_, hS2⟩ _ _ hA2 hq2)
    rw [show a' = A2 from ha]
    have := seqM_chain (rest := []) (fun a3 w3 hK3 => hK3) _ _ _ hc2
    rw [List.append_nil] at this
    exact this)
  have hl : (tag true (pickZ m1 os 0) ++ (tag false (pickZ m2 os 0) ++ (tag true (pickZ m3 os 0) ++ tag false (pickZ m4 os 0)))).length = os.length := by
    simp only [tag, List.length_append, List.length_map]; omega
  rw [hl] at key
  simpa using key
end
end Go.Proofs.Ytmgmkdkdpeljmaa

namespace Go.Proofs.Ytmgmkdkdpeljmaa
open Go.RowKit Go.ChangeShapes Go.WideShapes
structure ActL.Ok (p : ActL) : Prop where
  do_ : p.do_ < 256
  key : p.key.length ≤ maxLen
  at_ : i64 p.at_
  n : i64 p.n
def ActL.none_ : ActL := ⟨0, [], 0, 0⟩
structure ActLAt (w : World) (b o : Nat) (p : ActL) : Prop where
  c0 : w.cell? ⟨b, o, none⟩ = some (.int .u8 (p.do_ : Int))
  c1 : w.cell? ⟨b, o + 1, none⟩ = some (.string ⟨p.key.toArray⟩)
  c2 : w.cell? ⟨b, o + 2, none⟩ = some (.int .i64 p.at_)
  c3 : w.cell? ⟨b, o + 3, none⟩ = some (.int .i64 p.n)
structure IsActL (w : World) (a : Option Addr) (len cap : Nat) (z : List ActL) : Prop where
  size_ : z.length = len
  max : len ≤ maxLen
  at_ : ∀ k, k < len → ∃ b o, a = some ⟨b, o, none⟩ ∧ ActLAt w b (o + k * 4) (z.getD k ActL.none_) ∧ (z.getD k ActL.none_).Ok ∧ b < w.heap.size
theorem cells56 : Try.prog.cellsOf 56 = 4 := by kernel_rfl
theorem tcells5 : Try.prog.cellsOf 5 = 1 := by kernel_rfl
def actLC (p : ActL) : List Value := [.int .u8 (p.do_ : Int), .string ⟨p.key.toArray⟩, .int .i64 p.at_, .int .i64 p.n]
theorem tu8_in {x : Int} (h : (Lit.int .u8 x).wf = true) : 0 ≤ x ∧ x < 256 := by have := bounds_u8 h; omega
set_option maxRecDepth 100000 in
theorem actL_of {H : Type} {enc : TypeId × Value → H} {w : World} {base : Nat} {spare : Nat → Bool} {held : Bool} {fuel : Nat} {cs : List Value} {x : DataW H × List MemPlace} (h : DataW.trod enc Try.prog w base spare held fuel 56 cs = some x) :
    ∃ p : ActL, p.Ok ∧ cs = actLC p := by
  obtain ⟨xs, n, rfl, rfl, hl, hxl, hf⟩ := DataW.trod_struct Try.underlying56 h
  rw [cells56] at hl
  match cs, hl, xs, hxl with
  | [v0, v1, v2, v3], _, [y0, y1, y2, y3], _ =>
    have g0 : DataW.trod enc Try.prog w base spare held n 5 (List.take (Try.prog.cellsOf 5) (List.drop 0 [v0, v1, v2, v3])) = some y0 := hf 0 _ rfl
    have g1 : DataW.trod enc Try.prog w base spare held n 9 (List.take (Try.prog.cellsOf 9) (List.drop 1 [v0, v1, v2, v3])) = some y1 := hf 1 _ rfl
    have g2 : DataW.trod enc Try.prog w base spare held n 2 (List.take (Try.prog.cellsOf 2) (List.drop 2 [v0, v1, v2, v3])) = some y2 := hf 2 _ rfl
    have g3 : DataW.trod enc Try.prog w base spare held n 2 (List.take (Try.prog.cellsOf 2) (List.drop 3 [v0, v1, v2, v3])) = some y3 := hf 3 _ rfl
    rw [tcells5] at g0
    rw [mcells9] at g1
    rw [mcells2] at g2 g3
    obtain ⟨x0, e0, _, w0⟩ := DataW.trod_int Try.underlying5 (show DataW.trod enc Try.prog w base spare held n 5 [v0] = some y0 from g0)
    obtain ⟨x1, e1, _, w1⟩ := DataW.trod_string Try.underlying9 (show DataW.trod enc Try.prog w base spare held n 9 [v1] = some y1 from g1)
    obtain ⟨x2, e2, _, w2⟩ := DataW.trod_int Try.underlying2 (show DataW.trod enc Try.prog w base spare held n 2 [v2] = some y2 from g2)
    obtain ⟨x3, e3, _, w3⟩ := DataW.trod_int Try.underlying2 (show DataW.trod enc Try.prog w base spare held n 2 [v3] = some y3 from g3)
    simp only [List.cons.injEq, and_true] at e0 e1 e2 e3
    obtain ⟨b0, b0'⟩ := tu8_in w0
    refine ⟨⟨x0.toNat, x1.data.toList, x2, x3⟩, ⟨by show x0.toNat < 256; omega, by simp only [Array.length_toList]; exact w1, by have := bounds_i64 w2; unfold i64; simp only; omega, by have := bounds_i64 w3; unfold i64; simp only; omega⟩, ?_⟩
    rw [e0, e1, e2, e3]
    show [Value.int .u8 x0, _, _, _] = [Value.int .u8 ((x0.toNat : Nat) : Int), _, _, _]
    rw [show ((x0.toNat : Nat) : Int) = x0 by omega]
theorem actLs_of {H : Type} {enc : TypeId × Value → H} {w : World} {base : Nat} {spare : Nat → Bool} {held : Bool} {a : Option Addr} {len cap : Nat} {d : DataW H} {pl : List MemPlace}
    (h : DataW.Trod enc Try.prog w base spare held 42 (.slice a len cap) d pl) : ∃ z : List ActL, IsActL w a len cap z := by
  obtain ⟨fuel, hf⟩ := h
  rcases Go.Deep.open_slice Try.underlying42 hf with ⟨hcs, _⟩ | ⟨x, l, c, m, n, D, Pl, hcs, hb, hl, hm, hmm, _, hel⟩
  · simp [Value.cells] at hcs
    obtain ⟨rfl, rfl, rfl⟩ := hcs
    exact ⟨[], rfl, by unfold maxLen; omega, fun k hk => absurd hk (Nat.not_lt_zero _)⟩
  · simp [Value.cells] at hcs
    obtain ⟨rfl, rfl, rfl⟩ := hcs
    rw [cells56] at hel
    have hlm : len ≤ m := by rw [hmm]; split <;> omega
    have hp : ∀ k, k < len → ∃ p : ActL, p.Ok ∧ (∃ b o, x = ⟨b, o, none⟩ ∧ ActLAt w b (o + k * 4) p ∧ b < w.heap.size) := fun k hk => by
      obtain ⟨cs', h1, h2⟩ := hel k (by omega)
      obtain ⟨p, ok, rfl⟩ := actL_of h2
      obtain ⟨_, _, hc⟩ := World.cells?_some h1
      obtain ⟨b, o, spot⟩ := x
      have hspot : spot = none := by
        obtain ⟨cs0, i1, i2⟩ := hel 0 (by omega)
        obtain ⟨p0, _, rfl⟩ := actL_of i2
        obtain ⟨_, _, hc'⟩ := World.cells?_some i1
        have := World.cell?_spot (w := w) (hc' 0 (by omega))
        simpa [Addr.add] using this
      subst hspot
      have cell : ∀ j, j < 4 → w.cell? ⟨b, o + k * 4 + j, none⟩ = (actLC p)[j]? := fun j hj => by
        have := hc j hj
        rwa [Go.Deep.add_add, Addr.add_lit, ← Nat.add_assoc] at this
      have k0 := cell 0 (by omega)
      exact ⟨p, ok, b, o, rfl, ⟨k0, cell 1 (by omega), cell 2 (by omega), cell 3 (by omega)⟩, World.block_lt_of_cell? _ _ k0⟩
    have ih : Inhabited ActL := ⟨ActL.none_⟩
    obtain ⟨f, hf⟩ := Go.Deep.choose_lt (p := fun k p => ActL.Ok p ∧ (∃ b o, x = ⟨b, o, none⟩ ∧ ActLAt w b (o + k * 4) p ∧ b < w.heap.size)) hp
    refine ⟨(List.range len).map f, by simp, by omega, fun k hk => ?_⟩
    have e : ((List.range len).map f).getD k ActL.none_ = f k := by simp [List.getD_eq_getElem?_getD, hk]
    rw [e]
    obtain ⟨ok, b, o, rfl, hat, hlt⟩ := hf k hk
    exact ⟨b, o, rfl, hat, ok, hlt⟩
theorem ActLAt.keep {F : Nat → Prop} {w w' : World} {b o : Nat} {p : ActL} (h : ActLAt w b o p) (m : Moved F w w') (hb : b < w.heap.size) (hF : ¬ F b) : ActLAt w' b o p :=
  ⟨(m.cell (p := ⟨b, o, none⟩) hb hF).trans h.c0, (m.cell (p := ⟨b, o + 1, none⟩) hb hF).trans h.c1, (m.cell (p := ⟨b, o + 2, none⟩) hb hF).trans h.c2, (m.cell (p := ⟨b, o + 3, none⟩) hb hF).trans h.c3⟩
theorem IsActL.below {w w' : World} {a : Option Addr} {len cap : Nat} {z : List ActL} (h : IsActL w a len cap z) (hb : Below w.heap.size w w') : IsActL w' a len cap z :=
  ⟨h.size_, h.max, fun k hk => by
    obtain ⟨b, o, e, hp, ok, hlt⟩ := h.at_ k hk
    exact ⟨b, o, e, hp.keep (Moved.of_below (F := fun _ => False) hb) hlt id, ok, Nat.lt_of_lt_of_le hlt hb.size⟩⟩
theorem IsActL.ok {w : World} {a : Option Addr} {len cap : Nat} {z : List ActL} (h : IsActL w a len cap z) : ∀ p ∈ z, p.Ok := fun p hp => by
  obtain ⟨k, hk, rfl⟩ := List.mem_iff_getElem.1 hp
  obtain ⟨_, _, _, _, ok, _⟩ := h.at_ k (by rw [← h.size_]; exact hk)
  rw [List.getD_eq_getElem?_getD, List.getElem?_eq_getElem hk] at ok
  exact ok
/-- Too long a key. -/
def longL (p : ActL) : Bool := decide (100 < p.key.length)
/-- More than 200 acts, or a key of more than 100 bytes. -/
def tooGreatL (z : List ActL) : Bool := decide (200 < z.length) || z.any longL
theorem anyL_at {z : List ActL} {k : Nat} (hk : k < z.length) (h : longL (z.getD k ActL.none_) = true) : z.any longL = true := by
  rw [List.getD_eq_getElem?_getD, List.getElem?_eq_getElem hk] at h
  exact List.any_eq_true.2 ⟨_, List.getElem_mem hk, h⟩
theorem anyL_none {z : List ActL} (h : ∀ k, k < z.length → longL (z.getD k ActL.none_) = false) : z.any longL = false := by
  rw [List.any_eq_false]
  intro p hp
  obtain ⟨k, hk, rfl⟩ := List.mem_iff_getElem.1 hp
  have := h k hk
  rw [List.getD_eq_getElem?_getD, List.getElem?_eq_getElem hk] at this
  simpa using this
set_option maxRecDepth 100000 in
set_option maxHeartbeats 2000000 in
theorem greatL_any (a : Option Addr) (len cap : Nat) (z : List ActL) (w : World) (hs : IsActL w a len cap z) :
    Calls Try.prog 19 #[.slice a len cap] w fun e w' => e = .returned (.bool (tooGreatL z)) ∧ w' = w := by
  have HS := hide hs
  have hz := hs.size_
  have HZ := hide hz
  clear hs
  by_cases h200 : (200 : Int) < (len : Int)
  · have HG : Hid (tooGreatL z = true) := hide (by unfold tooGreatL; rw [hz, show decide (200 < len) = true from decide_eq_true (by omega)]; rfl)
    clear hz
    go_enter Try.func19, Try.ntmps19
    go_wp2_with fail
    go_ret
    exact ⟨by rw [unhide HG]; rfl, rfl⟩
  · have HG : Hid (tooGreatL z = z.any longL) := hide (by unfold tooGreatL; rw [hz, show decide (200 < len) = false from decide_eq_false (by omega)]; rfl)
    clear hz
    go_enter Try.func19, Try.ntmps19
    go_wp2_with fail
    go_loop [3] (fun i => ∃ k : Nat, k ≤ len ∧ i = .int .i64 k ∧ Hid (∀ j, j < k → longL (z.getD j ActL.none_) = false)) (fun i => len - (intOf i).toNat)
    case atStart => exact ⟨0, by omega, rfl, hide fun j hj => absurd hj (Nat.not_lt_zero _)⟩
    case round =>
      obtain ⟨k, hk, rfl, HA⟩ := hrel
      by_cases hlt : k < len
      · have g1 : (k : Int) < (len : Int) := by omega
        have hk0 : (0 : Int) ≤ (k : Int) := by omega
        have hwk : IntKind.i64.wrap ((k : Int) + 1) = (k : Int) + 1 := Go.IntWalk.i64_in _ (by omega)
        obtain ⟨b, o, rfl, hat, ok, _⟩ := (unhide HS).at_ k hlt
        have hc1 := hat.c1
        have HAT : Hid (longL (z.getD k ActL.none_) = true → tooGreatL z = true) := hide fun h => by rw [unhide HG]; exact anyL_at (by rw [unhide HZ]; exact hlt) h
        have HAN : Hid (longL (z.getD k ActL.none_) = false → ∀ j, j < k + 1 → longL (z.getD j ActL.none_) = false) := hide fun h j hj => by
          by_cases e : j = k
          · rw [e]; exact h
          · exact unhide HA j (by omega)
        clear hat ok HA
        generalize z.getD k ActL.none_ = y at *
        obtain ⟨yd, yk, ya, yn⟩ := y
        dsimp only at hc1
        have hz1 : (⟨yk.toArray⟩ : ByteArray).size = yk.length := by simp [ByteArray.size]
        by_cases h1 : (100 : Int) < (yk.length : Int)
        · have RR := hide (unhide HAT (by unfold longL; simp; omega))
          go_wp2_with fail
          go_ret
          exact ⟨by rw [unhide RR]; rfl, rfl⟩
        · have RR := hide (unhide HAN (by unfold longL; simp; omega))
          go_wp2_with fail
          go_round
          case rel => exact ⟨k + 1, by omega, by go_num, RR⟩
          case measure => simp [intOf]; omega
      · have g1 : ¬ (k : Int) < (len : Int) := by omega
        have hke : k = len := by omega
        have RR : Hid (tooGreatL z = false) := hide (by rw [unhide HG]; exact anyL_none (fun j hj => unhide HA j (by rw [hke, ← unhide HZ]; exact hj)))
        go_wp2_with fail
        go_ret
        exact ⟨by rw [unhide RR]; rfl, rfl⟩
theorem mild_actL {s : LineV × List (Win AggV)} (h : Mild s.1.row) {p : ActL} (hp : p.Ok) : Mild (actL s p).1.row := by
  unfold actL
  split
  · exact mild_putL h hp.n
  · split
    · exact (mild_markL h _).1
    · exact h
theorem takeL_snoc {z : List ActL} {k : Nat} (hk : k < z.length) : z.take (k + 1) = z.take k ++ [z.getD k ActL.none_] := by
  rw [List.take_add_one, List.getD_eq_getElem?_getD, List.getElem?_eq_getElem hk]; rfl
end Go.Proofs.Ytmgmkdkdpeljmaa

namespace Go.Proofs.Ytmgmkdkdpeljmaa
open Go.RowKit
section
variable {P : Program} {ops : Array Oper} {rest : List Oper} {o : Oper} {a : Act} {w : World} {Q : Exit → Act → World → Prop}
theorem wpList_val (hgd : o.guard = none) (v : Value) (w' : World) (hr : (execOp a.eval o).run P w = .ok (.value v) w') (h : wpList P ops Q rest (a.put o.dst v) w') : wpList P ops Q (o :: rest) a w :=
  wpList_plain hgd fun _ hK => by
    unfold Oper.wp
    rw [hr]
    exact hK _ _ h
theorem wpList_skp (hgd : o.guard = none) (w' : World) (hr : (execOp a.eval o).run P w = .ok .skip w') (h : wpList P ops Q rest (a.put o.dst undef) w') : wpList P ops Q (o :: rest) a w :=
  wpList_plain hgd fun _ hK => by
    unfold Oper.wp
    rw [hr]
    exact hK _ _ h
end
/-- A window's cells, without an aggregate. -/
def ovC (k : List UInt8) (s : Int) : List Value := [.string ⟨k.toArray⟩, .int .i64 s, .int .i64 0, .int .i64 0, .int .i64 0, .int .i64 0, .int .i64 0, .int .i64 0, .int .i64 0, .int .i64 0]
theorem ovC_len (k : List UInt8) (s : Int) : (ovC k s).length = 10 := rfl
theorem ov_eq (k : List UInt8) (s : Int) : (Value.agg (ovC k s).toArray) = ov k s := rfl
variable {w0 v v' : World} {p : Nat} {L L' : LineV} {R R' : List Held} {X X' Y : Nat → Prop} {bm b : Nat} {y : List Value} {l : List (Win Value)} {f : List UInt8 → Int → List Int}
theorem OSF.start (h : HL w0 v p L []) : OSF w0 (v.alloc (.map #[] 0)) p (fun k => k = v.heap.size) (fun _ => False) L [(none, 0, [])] v.heap.size [] (fun _ _ => []) := by
  obtain ⟨F, h⟩ := h
  have hb : Below v.heap.size v (v.alloc (.map #[] 0)) := (Below.refl _ _).alloc (Nat.le_refl _) _
  have h' := h.below hb
  refine ⟨(HLX.start h'.st h'.big h'.bel (fun k hk => ⟨by rw [hk]; simp, fun f => ?_⟩)).nil, ⟨VIs.made v, FineV.nil, rfl, fun k hk => by rw [hk]; exact h.bel.size, fun _ f => f.elim, id, fun k s u hu => (by cases hu), fun _ _ _ => rfl, fun k s u k' s' u' hu => (by cases hu)⟩⟩
  have := h.st.lt k f
  omega
theorem OSF.open_ (h : OSF w0 v p X Y L R bm l f) (hm : Mild L.row) :
    Calls Try.prog 30 #[.pointer (some ⟨p, 0, none⟩)] v fun e v' => ∃ a c, e = .returned (.slice a L.row.length c) ∧ OSF w0 v' p X Y L ((a, c, L.row) :: R) bm l f ∧ Moved (fun k => ¬ X k) v v' :=
  (h.hlx.open_ hm).mono fun _ _ ⟨a, c, h1, h2, _⟩ => ⟨a, c, h1, h.line h2, h2.stay⟩
theorem OSF.grow {a b : Option Addr} {c cb : Nat} {x y : List (Win AggV)} (h : OSF w0 v p X Y L [(b, cb, y), (a, c, x)] bm l f) (hl : x.length + y.length ≤ 1000000000000) (ty : TypeId) :
    ∃ a' c' v', (Builtin.append_ #[28, 28] ty #[.slice a x.length c, .slice b y.length cb]).run Try.prog v = .ok (.slice a' (x ++ y).length c') v' ∧ OSF w0 v' p X Y L [(a', c', x ++ y)] bm l f ∧ Moved (fun k => ¬ X k) v v' := by
  obtain ⟨a', c', v', h1, h2⟩ := h.hlx.grow hl ty
  exact ⟨a', c', v', h1, h.line h2, h2.stay⟩
/-- .. beside a box. -/
structure OBF (w0 v : World) (p : Nat) (X Y : Nat → Prop) (L : LineV) (R : List Held) (bm : Nat) (l : List (Win Value)) (f : List UInt8 → Int → List Int) (b : Nat) (y : List Value) : Prop where
  osf : OSF w0 v p X Y L R bm l f
  xb : X b
  yb : ¬ Y b
  nb : ¬ b = bm
  rb : RowAt v b y
theorem OBF.line (h : OBF w0 v p X Y L R bm l f b y) (h' : HLX w0 v X v' p L' R') : OBF w0 v' p X Y L' R' bm l f b y := ⟨h.osf.line h', h.xb, h.yb, h.nb, h.rb.keep h'.stay (fun hn => hn h.xb)⟩
theorem OBF.below (h : OBF w0 v p X Y L R bm l f b y) (hb : Below v.heap.size v v') : OBF w0 v' p X Y L R bm l f b y := h.line (h.osf.hlx.below hb)
theorem OBF.drew (h : OBF w0 v p X Y L R bm l f b y) : OBF w0 v.drew p X Y L R bm l f b y := h.below ((Below.refl _ _).drew)
/-- A box is made, and filled. -/
theorem OSF.act (h : OSF w0 v p X Y L R bm l f) (m : Moved (fun _ => False) v v') (hr : RowAt v' v.heap.size y) : OBF w0 v' p (fun k => X k ∨ k = v.heap.size) Y L R bm l f v.heap.size y := by
  have hb : Below v.heap.size v v' := m.below (fun _ f => f.elim) (Nat.le_refl _)
  refine ⟨h.box hb (Nat.le_refl _) hr.lt, .inr rfl, fun e => ?_, fun e => ?_, hr⟩
  · have := h.hlx.xlt _ (h.vf.xy _ e); omega
  · have := h.vf.map.lt; omega
theorem OBF.put (h : OBF w0 v p X Y L R bm l f b y) (hm : Mild L.row) (k : List UInt8) (a n : Int) (hn : i64 n) :
    Calls Try.prog 25 #[.pointer (some ⟨p, 0, none⟩), .string ⟨k.toArray⟩, .int .i64 a, .int .i64 n] v fun e v' => e = .returned (.int .i64 ((putL L k a n).2 : Int)) ∧ OBF w0 v' p X Y (putL L k a n).1 R bm l f b y :=
  (h.osf.hlx.put hm k a n hn).mono fun _ _ ⟨h1, h2⟩ => ⟨h1, h.line h2⟩
theorem OBF.mark (h : OBF w0 v p X Y L R bm l f b y) (hm : Mild L.row) (a : Int) :
    Calls Try.prog 27 #[.pointer (some ⟨p, 0, none⟩), .int .i64 a] v fun e v' => ∃ a1 c1, e = .returned (.tuple #[.int .i64 ((markL L a).2.1 : Int), .slice a1 (markL L a).2.2.length c1]) ∧ OBF w0 v' p X Y (markL L a).1 ((a1, c1, (markL L a).2.2) :: R) bm l f b y :=
  (h.osf.hlx.mark hm a).mono fun _ _ ⟨a1, c1, h1, h2⟩ => ⟨a1, c1, h1, h.line h2⟩
/-- What the first round of acts keeps. -/
structure Fst (w0 v : World) (p : Nat) (X Y : Nat → Prop) (bm : Nat) (S : LineV × List (Win AggV)) (ta : Option Addr) (tc : Nat) (l : List (Win Value)) (f : List UInt8 → Int → List Int) (k : Nat) : Prop where
  osf : OSF w0 v p X Y S.1 [(ta, tc, S.2)] bm l f
  once : Once S.1 S.2 f
  mild : Mild S.1.row
  len : S.2.length ≤ 32 * k
  ll : l.length ≤ k
  fl : ∀ a s, (f a s).length ≤ k
  fi : ∀ a s, ∀ v ∈ f a s, i64 v
theorem more_len {a : List UInt8} {s n : Int} {k : Nat} (h : ∀ a s, (f a s).length ≤ k) (a' : List UInt8) (s' : Int) : (more f a s n a' s').length ≤ k + 1 := by
  unfold more
  split
  · rw [List.length_append]; have := h a s; simp; omega
  · have := h a' s'; omega
theorem more_i64 {a : List UInt8} {s n : Int} (h : ∀ a s, ∀ v ∈ f a s, i64 v) (hn : i64 n) (a' : List UInt8) (s' : Int) : ∀ v ∈ more f a s n a' s', i64 v := by
  unfold more
  split
  · intro v hv
    rcases List.mem_append.1 hv with hv | hv
    · exact h a s v hv
    · rw [List.mem_singleton.1 hv]; exact hn
  · exact h a' s'
/-- The windows that were seen. -/
def oneW (x : Win AggV) : Win Value := ⟨x.key, x.start, .int .i64 1⟩
def seenOf (A : List (Win AggV)) (i : Nat) : List (Win Value) := (A.take i).map oneW
variable {A : List (Win AggV)} {i : Nat} {x : Win AggV}
theorem oneW_rise {A : List (Win AggV)} (h : Rise A) : Rise (A.map oneW) := List.pairwise_map.2 h
theorem seen_len (hi : i ≤ A.length) : (seenOf A i).length = i := by unfold seenOf; rw [List.length_map, List.length_take]; omega
theorem seen_fine (h : Rise A) (ok : ∀ x ∈ A, okk x.key x.start) : FineV (seenOf A i) := ⟨oneW_rise (h.sublist (List.take_sublist i A)), fun a ha => by
  obtain ⟨x, hx, rfl⟩ := List.mem_map.1 ha
  exact ok x (List.mem_of_mem_take hx)⟩
theorem take_ahead (h : Rise A) (hx : A[i]? = some x) : ∀ a ∈ A.take i, ahead a x = true := fun a ha => by
  obtain ⟨hi, rfl⟩ := List.getElem?_eq_some_iff.1 hx
  have hsplit : A = A.take i ++ A[i] :: A.drop (i + 1) := by rw [← List.drop_eq_getElem_cons hi, List.take_append_drop]
  have h' : Rise (A.take i ++ A[i] :: A.drop (i + 1)) := by rw [← hsplit]; exact h
  exact (List.pairwise_append.1 h').2.2 a ha A[i] List.mem_cons_self
theorem seen_none (h : Rise A) (hx : A[i]? = some x) : look (seenOf A i) x.key x.start = none := look_none fun a ha e => by
  obtain ⟨z, hz, rfl⟩ := List.mem_map.1 ha
  exact ahead_not (take_ahead h hx z hz) e
theorem ins_last' {α : Type} {w : Win α} : ∀ {l : List (Win α)}, (∀ a ∈ l, ahead a w = true) → ins w l = l ++ [w]
  | [], _ => rfl
  | a :: l, h => by
    rw [ins, if_pos (h a List.mem_cons_self), ins_last' (fun b hb => h b (List.mem_cons_of_mem _ hb))]
    rfl
theorem seen_next (h : Rise A) (hx : A[i]? = some x) : ins ⟨x.key, x.start, .int .i64 1⟩ (seenOf A i) = seenOf A (i + 1) := by
  obtain ⟨hi, rfl⟩ := List.getElem?_eq_some_iff.1 hx
  rw [ins_last' (fun a ha => ?_)]
  · unfold seenOf
    rw [List.take_succ_eq_append_getElem hi, List.map_append]; rfl
  · obtain ⟨z, hz, rfl⟩ := List.mem_map.1 ha
    exact take_ahead h hx z hz
theorem nodup_sub {α : Type} [DecidableEq α] : ∀ {l m : List α}, l.Nodup → (∀ x ∈ l, x ∈ m) → l.length ≤ m.length
  | [], _, _, _ => Nat.zero_le _
  | a :: l, m, h, hs => by
    obtain ⟨h1, h2⟩ := List.nodup_cons.1 h
    have ha := hs a List.mem_cons_self
    have := nodup_sub (l := l) (m := m.erase a) h2 (fun x hx => (List.mem_erase_of_ne (fun e => h1 (by rw [← e]; exact hx))).2 (hs x (List.mem_cons_of_mem _ hx)))
    rw [List.length_erase_of_mem ha] at this
    have := List.length_pos_of_mem ha
    rw [List.length_cons]
    omega
def keyOfW {α : Type} (x : Win α) : List UInt8 × Int := (x.key, x.start)
theorem rise_nodup {α : Type} {l : List (Win α)} (h : Rise l) : (l.map keyOfW).Nodup := List.pairwise_map.2 (h.imp fun {a b} hab e => by
  have e' : (a.key, a.start) = (b.key, b.start) := e
  simp only [Prod.mk.injEq] at e'
  exact ahead_not hab e')
theorem same_len {α β : Type} {l : List (Win α)} {m : List (Win β)} (hl : Rise l) (hm : Rise m) (h1 : ∀ a ∈ l, ∃ b ∈ m, b.key = a.key ∧ b.start = a.start) (h2 : ∀ b ∈ m, ∃ a ∈ l, a.key = b.key ∧ a.start = b.start) : l.length = m.length := by
  have k1 := nodup_sub (rise_nodup hl) (m := m.map keyOfW) (fun x hx => by
    obtain ⟨a, ha, rfl⟩ := List.mem_map.1 hx
    obtain ⟨b, hb, e1, e2⟩ := h1 a ha
    exact List.mem_map.2 ⟨b, hb, by unfold keyOfW; rw [e1, e2]⟩)
  have k2 := nodup_sub (rise_nodup hm) (m := l.map keyOfW) (fun x hx => by
    obtain ⟨b, hb, rfl⟩ := List.mem_map.1 hx
    obtain ⟨a, ha, e1, e2⟩ := h2 b hb
    exact List.mem_map.2 ⟨a, ha, by unfold keyOfW; rw [e1, e2]⟩)
  rw [List.length_map, List.length_map] at k1 k2
  omega
/-- There are as many windows as keys of the map. -/
theorem VF.count {T : List (Win AggV)} (h : VF w0 v X Y bm l f) (ho : Once L T f) : (T ++ L.row).length = l.length := by
  refine same_len ho.all h.fine.rise (fun a ha => ?_) (fun u hu => ?_)
  · obtain ⟨_, hne⟩ := ho.is ha
    cases hl : look l a.key a.start with
    | none => exact absurd (h.none_ _ _ hl) hne
    | some u => exact ⟨_, look_some hl, rfl, rfl⟩
  · obtain ⟨_, _, _, hne, _⟩ := h.some_ u.key u.start _ (look_mem h.fine.rise hu)
    obtain ⟨x, hx, e1, e2⟩ := ho.there hne
    exact ⟨x, hx, e1, e2⟩
theorem VF.okk {T : List (Win AggV)} (h : VF w0 v X Y bm l f) (ho : Once L T f) : ∀ a ∈ T ++ L.row, okk a.key a.start := fun a ha => by
  obtain ⟨_, hne⟩ := ho.is ha
  cases hl : look l a.key a.start with
  | none => exact absurd (h.none_ _ _ hl) hne
  | some u => exact h.fine.oks _ (look_some hl)
theorem Once.told_at {T : List (Win AggV)} (h : Once L T f) (hx : (T ++ L.row)[i]? = some x) (hi : i < T.length) : Sp.overI x.start L.mark = true ∧ 0 ≤ x.start := by
  rw [List.getElem?_append_left hi] at hx
  have ho := h.over x (List.mem_of_getElem? hx)
  refine ⟨ho, ?_⟩
  rw [Sp.overI_iff] at ho
  unfold Sp.isOver at ho
  omega
theorem Once.open_at {T : List (Win AggV)} (h : Once L T f) (hx : (T ++ L.row)[i]? = some x) (hi : ¬ i < T.length) : Sp.overI x.start L.mark = false := by
  rw [List.getElem?_append_right (by omega)] at hx
  exact h.good.young x (List.mem_of_getElem? hx)
/-- The next window that was told stands behind this one. -/
def LastOk (A : List (Win AggV)) (n i : Nat) (lk : List UInt8) (ls : Int) : Prop := ∀ x, A[i]? = some x → i < n → ls < x.start ∨ (ls = x.start ∧ keyLt lk x.key = true)
theorem lastOk_start {T : List (Win AggV)} (h : Once L T f) : LastOk (T ++ L.row) T.length 0 [] (-1) := fun x hx h0 => .inl (by have := (h.told_at hx h0).2; omega)
theorem lastOk_next {n : Nat} (h : Rise A) (hx : A[i]? = some x) : LastOk A n (i + 1) x.key x.start := fun y hy _ => by
  obtain ⟨hi, rfl⟩ := List.getElem?_eq_some_iff.1 hx
  have := take_ahead h hy A[i] (by rw [List.take_succ_eq_append_getElem hi]; exact List.mem_append_right _ List.mem_cons_self)
  rw [ahead_iff] at this
  exact this
theorem lastOk_off {n : Nat} {lk : List UInt8} {ls : Int} (hi : ¬ i < n) : LastOk A n (i + 1) lk ls := fun _ _ h => by omega
/-- What the second round keeps: the map bs of what was seen, the last window in the box bl. -/
structure Snd (w0 v : World) (p : Nat) (X Y : Nat → Prop) (bm bs bl : Nat) (L : LineV) (A : List (Win AggV)) (ta : Option Addr) (tc : Nat) (l : List (Win Value)) (f : List UInt8 → Int → List Int) (lk : List UInt8) (ls : Int) (i : Nat) : Prop where
  osf : OSF w0 v p X Y L [(ta, tc, A)] bm l f
  xs : X bs
  ys : ¬ Y bs
  ns : ¬ bs = bm
  xl : X bl
  yl : ¬ Y bl
  nl : ¬ bl = bm
  sl : ¬ bs = bl
  seen : VIs v bs (seenOf A i)
  last : RowAt v bl (ovC lk ls)
variable {bs bl n : Nat} {ta : Option Addr} {tc : Nat} {b : Nat} {k lk : List UInt8} {s ls : Int}
theorem Snd.below (h : Snd w0 v p X Y bm bs bl L A ta tc l f lk ls i) (hb : Below v.heap.size v v') : Snd w0 v' p X Y bm bs bl L A ta tc l f lk ls i :=
  ⟨h.osf.below hb, h.xs, h.ys, h.ns, h.xl, h.yl, h.nl, h.sl, h.seen.keep (hb.block bs h.seen.lt), h.last.below hb⟩
/-- The last window is another one now. -/
theorem Snd.keepLast (h : Snd w0 v p X Y bm bs bl L A ta tc l f lk ls i) (hb : RowAt v b (ovC k s)) (hne : ¬ b = bl) :
    ∃ wf, v.setCells bl 0 (ovC k s) = wf ∧ v.there bl 0 10 ∧ RowAt wf b (ovC k s) ∧ Snd w0 wf p X Y bm bs bl L A ta tc l f k s i := by
  have mf := setCells_moved v bl 0 (ovC k s)
  exact ⟨_, rfl, h.last.there, hb.keep mf (fun e => hne e), h.osf.side mf (fun j hj => by subst hj; exact ⟨h.xl, h.yl, h.nl⟩), h.xs, h.ys, h.ns, h.xl, h.yl, h.nl, h.sl, h.seen.keep (mf.block bs h.seen.lt (fun e => h.sl e)), h.last.put _ rfl⟩
/-- A window more was seen. -/
theorem Snd.next (h : Snd w0 v p X Y bm bs bl L A ta tc l f lk ls i) (hA : Rise A) (ok : ∀ x ∈ A, okk x.key x.start) (hx : A[i]? = some x) (hl : A.length ≤ 1000000) :
    ∃ v', (Instr.mapUpdate 69 (.map (some bs)) (ov x.key x.start) (.int .i64 1)).run Try.prog v = .ok () v' ∧ Snd w0 v' p X Y bm bs bl L A ta tc l f lk ls (i + 1) := by
  have hi : i < A.length := (List.getElem?_eq_some_iff.1 hx).1
  obtain ⟨v', h1, h2, h3⟩ := h.seen.put (mty := 69) (ety := 3) Try.underlying69 (seen_fine hA ok) (by rw [seen_len (by omega)]; unfold maxLen; omega) (ok x (List.mem_of_getElem? hx)) (.int .i64 1)
  have m : Moved (fun j => j = bs) v v' := moved_turned (Moved.refl _ _) h3 (.inl rfl)
  rw [seen_next hA hx] at h2
  exact ⟨v', h1, ⟨h.osf.side m (fun j hj => by subst hj; exact ⟨h.xs, h.ys, h.ns⟩), h.xs, h.ys, h.ns, h.xl, h.yl, h.nl, h.sl, h2, h.last.keep m (fun e => h.sl e.symm)⟩⟩
/-- The map of what was seen, and the last window, are made. -/
theorem OSF.second (h : OSF w0 v p X Y L R bm l f) : OSF w0 ((v.alloc (.map #[] 0)).alloc (.cells (ovC [] (-1)).toArray 38)) p (fun k => (X k ∨ k = v.heap.size) ∨ k = v.heap.size + 1) Y L R bm l f := by
  have h1 := h.box (b := v.heap.size) (v' := v.alloc (.map #[] 0)) ((Below.refl _ _).alloc (Nat.le_refl _) _) (Nat.le_refl _) (by simp)
  have e : (v.alloc (.map #[] 0)).heap.size = v.heap.size + 1 := by simp
  exact h1.box (b := v.heap.size + 1) ((Below.refl _ _).alloc (Nat.le_refl _) _) (by omega) (by simp)
theorem Snd.start {u : World} {R : List Held} (h0 : OSF w0 u p X Y L R bm l f) (h : OSF w0 v p (fun k => (X k ∨ k = u.heap.size) ∨ k = u.heap.size + 1) Y L [(ta, tc, A)] bm l f)
    (m : Moved (fun j => ¬ ((X j ∨ j = u.heap.size) ∨ j = u.heap.size + 1)) ((u.alloc (.map #[] 0)).alloc (.cells (ovC [] (-1)).toArray 38)) v) :
    Snd w0 v p (fun k => (X k ∨ k = u.heap.size) ∨ k = u.heap.size + 1) Y bm u.heap.size (u.heap.size + 1) L A ta tc l f [] (-1) 0 := by
  have hX := h0.hlx.xlt
  have hY := h0.vf.xy
  have hm := h0.vf.xb
  have hz : VIs ((u.alloc (.map #[] 0)).alloc (.cells (ovC [] (-1)).toArray 38)) u.heap.size [] := (VIs.made u).keep (Below.heap_alloc _ _ _ (by simp))
  have hr : RowAt ((u.alloc (.map #[] 0)).alloc (.cells (ovC [] (-1)).toArray 38)) (u.heap.size + 1) (ovC [] (-1)) := by
    have := row_new (u.alloc (.map #[] 0)) (ovC [] (-1)) 38
    rwa [show (u.alloc (.map #[] 0)).heap.size = u.heap.size + 1 by simp] at this
  refine ⟨h, .inl (.inr rfl), fun e => ?_, fun e => ?_, .inr rfl, fun e => ?_, fun e => ?_, by omega, (show VIs v u.heap.size [] from hz.keep (m.block u.heap.size hz.lt (fun e => e (.inl (.inr rfl))))), hr.keep m (fun e => e (.inr rfl))⟩
  · have := hX _ (hY _ e); omega
  · have := hX _ hm; omega
  · have := hX _ (hY _ e); omega
  · have := hX _ hm; omega
/-- What 'values[w]' is in every world like this one. -/
theorem VF.rowOf {va : Option Addr} {vc : Nat} (h : VF w0 v X Y bm l f) (hv : (look l k s).getD noInts = .slice va (f k s).length vc) : Ints v va (f k s) := by
  obtain ⟨a', c', h', hr, _⟩ := h.at_ k s
  rw [hv] at h'
  simp only [Value.slice.injEq] at h'
  rw [h'.1]
  exact ints_of hr
end Go.Proofs.Ytmgmkdkdpeljmaa

namespace Go.Proofs.Ytmgmkdkdpeljmaa
open Go.RowKit
def wt1 : List (Win AggV) := [⟨[97], 0, put zero 5⟩]
theorem wt_put : putL newL [97] 3 5 = (⟨0, wt1⟩, 1) := by kernel_rfl
theorem wt_mark1 : markL ⟨0, wt1⟩ 14 = (⟨14, wt1⟩, 1, []) := by kernel_rfl
theorem wt_mark2 : markL ⟨14, wt1⟩ 15 = (⟨15, []⟩, 1, wt1) := by kernel_rfl
theorem wt_late : putL ⟨15, []⟩ [97] 4 1 = (⟨15, []⟩, 2) := by kernel_rfl
theorem wt_mild : Mild wt1 := by
  have := mild_putL (L := newL) mild_nil (k := [97]) (a := 3) (n := 5) (by unfold i64; omega)
  rw [wt_put] at this; exact this
theorem tw_put {w v : World} {p : Nat} (h : HL w v p newL []) : Calls Try.prog 25 #[.pointer (some ⟨p, 0, none⟩), .string ⟨#[97]⟩, .int .i64 3, .int .i64 5] v fun e v' => e = .returned (.int .i64 1) ∧ HL w v' p ⟨0, wt1⟩ [] := by
  have := h.put mild_nil [97] 3 5 (by unfold i64; omega)
  rw [wt_put] at this; exact this
theorem tw_mark1 {w v : World} {p : Nat} (h : HL w v p ⟨0, wt1⟩ []) : Calls Try.prog 27 #[.pointer (some ⟨p, 0, none⟩), .int .i64 14] v fun e v' => ∃ a c, e = .returned (.tuple #[.int .i64 1, .slice a 0 c]) ∧ HL w v' p ⟨14, wt1⟩ [] := by
  have := h.mark wt_mild 14
  rw [wt_mark1] at this
  exact this.mono fun e v' ⟨a, c, h1, h2⟩ => ⟨a, c, h1, h2.drop (fun _ h => by cases h)⟩
theorem tw_mark2 {w v : World} {p : Nat} (h : HL w v p ⟨14, wt1⟩ []) : Calls Try.prog 27 #[.pointer (some ⟨p, 0, none⟩), .int .i64 15] v fun e v' => ∃ a c, e = .returned (.tuple #[.int .i64 1, .slice a 1 c]) ∧ HL w v' p ⟨15, []⟩ [(a, c, wt1)] := by
  have := h.mark wt_mild 15
  rw [wt_mark2] at this
  exact this
theorem tw_late {w v : World} {p : Nat} {R : List Held} (h : HL w v p ⟨15, []⟩ R) : Calls Try.prog 25 #[.pointer (some ⟨p, 0, none⟩), .string ⟨#[97]⟩, .int .i64 4, .int .i64 1] v fun e v' => e = .returned (.int .i64 2) ∧ HL w v' p ⟨15, []⟩ R := by
  have := h.put mild_nil [97] 4 1 (by unfold i64; omega)
  rw [wt_late] at this; exact this
theorem wt_row {w v : World} {p : Nat} {a : Option Addr} {c : Nat} (h : HL w v p ⟨15, []⟩ [(a, c, wt1)]) : ∃ g, a = some ⟨g, 0, none⟩ ∧ v.cell? ⟨g, 3, none⟩ = some (.int .i64 5) := by
  obtain ⟨g, hg, hr, _⟩ := held_at (h.row List.mem_cons_self) (j := 0) (x := ⟨[97], 0, put zero 5⟩) rfl
  exact ⟨g, hg, hr 3 _ rfl⟩
set_option maxRecDepth 100000 in
set_option maxHeartbeats 4000000 in
theorem twakes_any (w : World) : Calls Try.prog 21 #[] w fun e w' => e = .returned (.bool true) ∧ Below w.heap.size w w' := by
  have hw0 := hide (HL.new (Below.refl w.heap.size w))
  go_enter Try.func21, Try.ntmps21
  go_upto_region 2 with fail
  refine (unhide hw0).mono ?_
  rintro e v1 ⟨p0, rfl, HE⟩
  have H1 := hide HE
  clear HE hw0
  go_upto_region 3 with fail
  refine (tw_put (unhide H1)).mono ?_
  rintro e v2 ⟨rfl, HE⟩
  have H2 := hide HE
  clear HE H1
  go_upto_region 4 with fail
  refine (tw_mark1 (unhide H2)).mono ?_
  rintro e v3 ⟨a3, c3, rfl, HE⟩
  have H3 := hide HE
  clear HE H2
  go_upto_region 5 with fail
  refine (tw_mark2 (unhide H3)).mono ?_
  rintro e v4 ⟨a4, c4, rfl, HE⟩
  have H4 := hide HE
  clear HE H3
  go_upto_region 6 with fail
  refine (tw_late (unhide H4)).mono ?_
  rintro e v5 ⟨rfl, HE⟩
  obtain ⟨g, rfl, hc⟩ := wt_row HE
  have H5 := hide HE
  have HAT := hide HE.at_
  clear HE H4
  go_wp2_with fail
  refine (unhide HAT).mono ?_
  rintro e v' ⟨rfl, hw⟩
  rw [hw]
  clear hw v'
  go_wp2_with fail
  go_ret
  exact ⟨rfl, (unhide H5).bel⟩
theorem tput_nil (k : ByteArray) (a n : Int) (w : World) : Calls Try.prog 25 #[.pointer none, .string k, .int .i64 a, .int .i64 n] w fun e w' => e = .returned (.int .i64 4) ∧ w' = w := by
  go_enter Try.func25, Try.ntmps25
  go_wp2_with fail
  go_ret
  exact ⟨rfl, rfl⟩
theorem tmark_nil (a : Int) (w : World) : Calls Try.prog 27 #[.pointer none, .int .i64 a] w fun e w' => e = .returned (.tuple #[.int .i64 4, .slice none 0 0]) ∧ w' = w := by
  go_enter Try.func27, Try.ntmps27
  go_wp2_with fail
  go_ret2
  exact ⟨rfl, rfl⟩
theorem tat_nil (w : World) : Calls Try.prog 29 #[.pointer none] w fun e w' => e = .returned (.int .i64 0) ∧ w' = w := by
  go_enter Try.func29, Try.ntmps29
  go_wp2_with fail
  go_ret
  exact ⟨rfl, rfl⟩
theorem topen_nil (w : World) : Calls Try.prog 30 #[.pointer none] w fun e w' => e = .returned (.slice none 0 0) ∧ w' = w := by
  go_enter Try.func30, Try.ntmps30
  go_wp2_with fail
  go_ret
  exact ⟨rfl, rfl⟩
theorem ttwin_nil (w : World) : Calls Try.prog 31 #[.pointer none] w fun e w' => e = .returned (.pointer none) ∧ w' = w := by
  go_enter Try.func31, Try.ntmps31
  go_wp2_with fail
  go_ret
  exact ⟨rfl, rfl⟩
set_option maxRecDepth 100000 in
set_option maxHeartbeats 4000000 in
theorem tnobody_any (s : ByteArray) (a n : Int) (w : World) : Calls Try.prog 5 #[.string s, .int .i64 a, .int .i64 n] w fun e w' => e = .returned (.bool true) ∧ Below w.heap.size w w' := by
  have WK := hide twakes_any
  by_cases h1 : (100 : Int) < (s.size : Int)
  · go_enter Try.func5, Try.ntmps5
    go_wp2_with fail
    refine (unhide WK _).mono ?_
    rintro e v' ⟨rfl, hb⟩
    go_wp2_with fail
    go_ret
    exact ⟨rfl, hb⟩
  · go_enter Try.func5, Try.ntmps5
    go_wp2_with (first | (go_at_call 25; refine (tput_nil _ _ _ _).mono ?_; rintro e w' ⟨rfl, hw⟩; rw [hw]) | (go_at_call 27; refine (tmark_nil _ _).mono ?_; rintro e w' ⟨rfl, hw⟩; rw [hw]) | (go_at_call 29; refine (tat_nil _).mono ?_; rintro e w' ⟨rfl, hw⟩; rw [hw]) | (go_at_call 30; refine (topen_nil _).mono ?_; rintro e w' ⟨rfl, hw⟩; rw [hw]) | (go_at_call 31; refine (ttwin_nil _).mono ?_; rintro e w' ⟨rfl, hw⟩; rw [hw]) | (go_at_call 21; refine (unhide WK _).mono ?_; rintro e w' ⟨rfl, hb⟩; have B4 := hide hb; clear hb))
    go_ret
    exact ⟨rfl, unhide B4⟩
end Go.Proofs.Ytmgmkdkdpeljmaa

/- A line that a law made itself, beside rows that the law holds and blocks that are to stay: what its calls do to all three. Conditions: a line has at most 32 windows, whose numbers are 64 bits wide. -/
import Derived.Test.YtmgmkdkdpeljmabTHere
namespace Go.Proofs.Ytmgmkdkdpeljmab
open Go.RowKit
/-- Of what was there in z the blocks X stand as they were; they are none of the line's, none of the rows'. -/
structure HLXF (w0 z : World) (X : Nat → Prop) (v : World) (p : Nat) (F : Nat → Prop) (L : LineV) (R : List Held) : Prop where
  here : HLF w0 v p F L R
  apart : ∀ k, X k → k < z.heap.size ∧ ¬ F k ∧ ∀ r ∈ R, ¬ r.at k
  stay : Moved (fun k => ¬ X k) z v
def HLX (w0 z : World) (X : Nat → Prop) (v : World) (p : Nat) (L : LineV) (R : List Held) : Prop := ∃ F, HLXF w0 z X v p F L R
variable {w0 z v v' : World} {X : Nat → Prop} {p : Nat} {F F' : Nat → Prop} {L L' : LineV} {R R' : List Held}
theorem HLX.hl (h : HLX w0 z X v p L R) : HL w0 v p L R := by obtain ⟨F, h⟩ := h; exact ⟨F, h.here⟩
theorem HLX.bel (h : HLX w0 z X v p L R) : Below w0.heap.size w0 v := h.hl.bel
theorem HLX.start (hs : LineIs v p F L) (hb : ∀ k, F k → w0.heap.size ≤ k) (hw : Below w0.heap.size w0 v) (hX : ∀ k, X k → k < v.heap.size ∧ ¬ F k) : HLX w0 v X v p L [] :=
  ⟨F, ⟨hs, hb, hw, fun r hr => by cases hr⟩, fun k hk => ⟨(hX k hk).1, (hX k hk).2, fun r hr => by cases hr⟩, Moved.refl _ _⟩
theorem HLXF.step (h : HLXF w0 z X v p F L R) (hs : LineIs v' p F' L') (hf : ∀ k, F' k → F k ∨ v.heap.size ≤ k) (m : Moved F v v') : HLXF w0 z X v' p F' L' R := by
  refine ⟨h.here.step hs hf m, fun k hk => ⟨(h.apart k hk).1, fun f => ?_, (h.apart k hk).2.2⟩, h.stay.trans m (fun i hi => .inl fun hx => (h.apart i hx).2.1 hi)⟩
  rcases hf k f with f | f
  · exact (h.apart k hk).2.1 f
  · have := (h.apart k hk).1; have := h.stay.size; omega
theorem HLXF.did (h : HLXF w0 z X v p F L R) (hd : DidL v v' p F L') : HLX w0 z X v' p L' R := by
  obtain ⟨F', h1, h2, h3⟩ := hd
  exact ⟨F', h.step h1 h2 h3⟩
theorem HLX.below (h : HLX w0 z X v p L R) (hb : Below v.heap.size v v') : HLX w0 z X v' p L R := by
  obtain ⟨F, h⟩ := h
  exact ⟨F, h.step (h.here.below hb).st (fun _ f => .inl f) (Moved.of_below hb)⟩
theorem HLX.drop (h : HLX w0 z X v p L R) (hR : ∀ r ∈ R', r ∈ R) : HLX w0 z X v p L R' := by
  obtain ⟨F, h⟩ := h
  exact ⟨F, ⟨h.here.st, h.here.big, h.here.bel, fun r hr => h.here.rows r (hR r hr)⟩, fun k hk => ⟨(h.apart k hk).1, (h.apart k hk).2.1, fun r hr => (h.apart k hk).2.2 r (hR r hr)⟩, h.stay⟩
theorem HLXF.take {a : Option Addr} {c : Nat} {x : List (Win AggV)} (h : HLXF w0 z X v p F L R) (hs : LineIs v' p F L') (m : Moved F v v') (hx : OutK.Row v' v.heap.size a c x) : HLXF w0 z X v' p F L' ((a, c, x) :: R) := by
  have h' := h.step hs (fun _ f => .inl f) m
  refine ⟨h.here.take hs m hx, fun k hk => ⟨(h.apart k hk).1, (h.apart k hk).2.1, fun r hr e => ?_⟩, h'.stay⟩
  rcases List.mem_cons.1 hr with rfl | hr
  · have h1 : v.heap.size ≤ k := (row_lt hx k e).1
    have := (h.apart k hk).1; have := h.stay.size; omega
  · exact (h.apart k hk).2.2 r hr e
theorem HLX.nil (h : HLX w0 z X v p L R) : HLX w0 z X v p L ((none, 0, []) :: R) := by
  obtain ⟨F, h⟩ := h
  refine ⟨F, ⟨h.here.st, h.here.big, h.here.bel, fun r hr => ?_⟩, fun k hk => ⟨(h.apart k hk).1, (h.apart k hk).2.1, fun r hr e => ?_⟩, h.stay⟩
  · rcases List.mem_cons.1 hr with rfl | hr
    · exact ⟨row_none _ _, fun k hk => by cases hk⟩
    · exact h.here.rows r hr
  · rcases List.mem_cons.1 hr with rfl | hr
    · cases e
    · exact (h.apart k hk).2.2 r hr e
theorem HLX.put (h : HLX w0 z X v p L R) (hm : Mild L.row) (k : List UInt8) (a n : Int) (hn : i64 n) :
    Calls Try.prog 11 #[.pointer (some ⟨p, 0, none⟩), .string ⟨k.toArray⟩, .int .i64 a, .int .i64 n] v fun e v' => e = .returned (.int .i64 ((putL L k a n).2 : Int)) ∧ HLX w0 z X v' p (putL L k a n).1 R := by
  obtain ⟨F, h⟩ := h
  exact (tput_any h.here.st hm.most hm.ins_ k a n hn).mono fun e v' ⟨h1, h2⟩ => ⟨h1, h.did h2⟩
theorem HLX.mark (h : HLX w0 z X v p L R) (hm : Mild L.row) (a : Int) :
    Calls Try.prog 13 #[.pointer (some ⟨p, 0, none⟩), .int .i64 a] v fun e v' => ∃ a1 c1, e = .returned (.tuple #[.int .i64 ((markL L a).2.1 : Int), .slice a1 (markL L a).2.2.length c1]) ∧ HLX w0 z X v' p (markL L a).1 ((a1, c1, (markL L a).2.2) :: R) := by
  obtain ⟨F, h⟩ := h
  exact (tmark_any h.here.st (Nat.le_trans hm.most (by omega)) a).mono fun e v' ⟨a1, c1, h1, h2, h3, h4⟩ => ⟨a1, c1, h1, F, h.take h3 h4 h2⟩
theorem HLX.at_ (h : HLX w0 z X v p L R) : Calls Try.prog 9 #[.pointer (some ⟨p, 0, none⟩)] v fun e v' => e = .returned (.int .i64 L.mark) ∧ v' = v := h.hl.at_
theorem HLX.open_ (h : HLX w0 z X v p L R) (hm : Mild L.row) :
    Calls Try.prog 10 #[.pointer (some ⟨p, 0, none⟩)] v fun e v' => ∃ a c, e = .returned (.slice a L.row.length c) ∧ HLX w0 z X v' p L ((a, c, L.row) :: R) ∧ Below v.heap.size v v' := by
  obtain ⟨F, h⟩ := h
  exact (topen_any h.here.st (Nat.le_trans hm.most (by omega))).mono fun e v' ⟨a, c, h1, h2, h3⟩ => ⟨a, c, h1, ⟨F, h.take (h.here.below h3).st (Moved.of_below h3) h2⟩, h3⟩
theorem grow_own {v v' : World} {B : Nat} {a b a' : Option Addr} {c cb c' : Nat} {x y : List (Win AggV)} {ty : TypeId} (rx : OutK.Row v B a c x) (ry : OutK.Lies v b y) (hl : x.length + y.length ≤ 1000000000000)
    (h1 : (Builtin.append_ #[29, 29] ty #[.slice a x.length c, .slice b y.length cb]).run Try.prog v = .ok (.slice a' (x ++ y).length c') v') : ∀ k, (Value.slice a' (x ++ y).length c').ownBlock = some k → (Value.slice a x.length c).ownBlock = some k ∨ v.heap.size ≤ k := fun k hk => by
  cases b with
  | none =>
    have hy : y = [] := ry.1 rfl
    subst hy
    obtain ⟨i0, hi, _⟩ := outK_law.info
    have e := run_append_nothing (P := Try.prog) v OutK.t OutK.t ty OutK.e i0 outK_law.und hi a x.length c (row_cap rx) _ (Src.ofNil v outK_law.und cb)
    have h1' : (Builtin.append_ #[OutK.t, OutK.t] ty #[.slice a x.length c, .slice none ([] : List (Win AggV)).length cb]).run Try.prog v = .ok (.slice a' (x ++ []).length c') v' := h1
    rw [show ([] : List (Win AggV)).length = 0 from rfl] at h1'
    rw [e] at h1'
    rw [List.append_nil] at h1' hk
    cases h1'
    exact .inl hk
  | some q =>
    rcases append_block outK_law rx q cb y ry hl ty h1 with e | e
    · exact .inl (e ▸ hk)
    · rw [e] at hk; cases hk; exact .inr (Nat.le_refl _)
/-- The last row is appended to the one behind it. -/
theorem HLX.grow {a b : Option Addr} {c cb : Nat} {x y : List (Win AggV)} (h : HLX w0 z X v p L [(b, cb, y), (a, c, x)]) (hl : x.length + y.length ≤ 1000000000000) (ty : TypeId) :
    ∃ a' c' v', (Builtin.append_ #[29, 29] ty #[.slice a x.length c, .slice b y.length cb]).run Try.prog v = .ok (.slice a' (x ++ y).length c') v' ∧ HLX w0 z X v' p L [(a', c', x ++ y)] := by
  obtain ⟨F, h⟩ := h
  obtain ⟨ry, _⟩ := h.here.rows _ List.mem_cons_self
  obtain ⟨rx, nx⟩ := h.here.rows (a, c, x) (List.mem_cons_of_mem _ List.mem_cons_self)
  have ry' : OutK.Row v w0.heap.size b cb y := ry
  have rx' : OutK.Row v w0.heap.size a c x := rx
  obtain ⟨a', c', v', h1, h2, h3⟩ := grow_app outK_law rx' b cb y (row_lies ry') hl h.here.bel.size ty
  have hown := grow_own rx' (row_lies ry') hl h1
  have mm : Moved (fun k => (Value.slice a x.length c).ownBlock = some k) v v' := (Moved.refl _ _).grown h3 (fun k e => .inl e)
  have hxa : ∀ k, X k → ¬ (Value.slice a x.length c).ownBlock = some k := fun k hk e => (h.apart k hk).2.2 (a, c, x) (List.mem_cons_of_mem _ List.mem_cons_self) e
  refine ⟨a', c', v', h1, F, ⟨h.here.st.keep mm (fun i hi f => nx i hi f), h.here.big, ((Moved.of_below (F := fun k => (Value.slice a x.length c).ownBlock = some k) h.here.bel).trans mm (fun _ e => .inl e)).below (fun i hi => (row_lt rx' i hi).1) (Nat.le_refl _), fun r hr => ?_⟩, fun k hk => ⟨(h.apart k hk).1, (h.apart k hk).2.1, fun r hr e => ?_⟩, h.stay.trans mm (fun i hi => .inl fun hx => hxa i hx hi)⟩
  · have : r = (a', c', x ++ y) := by simpa using hr
    subst this
    refine ⟨h2, fun k hk f => ?_⟩
    rcases hown k hk with e | e
    · exact nx k e f
    · have := h.here.st.lt k f; omega
  · have : r = (a', c', x ++ y) := by simpa using hr
    subst this
    rcases hown k e with e | e
    · exact hxa k hk e
    · have := (h.apart k hk).1; have := h.stay.size; omega
end Go.Proofs.Ytmgmkdkdpeljmab

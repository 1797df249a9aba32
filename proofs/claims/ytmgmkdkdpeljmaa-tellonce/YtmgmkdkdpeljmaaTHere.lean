/- A line that a law made itself, beside rows of windows that the law holds: what its calls do to both. Conditions: a line has at most 32 windows, whose numbers are 64 bits wide. -/
import Derived.Test.YtmgmkdkdpeljmaaTLine
import Derived.Test.YtmgmkdkdpeljmaaGrowB
namespace Go.Proofs.Ytmgmkdkdpeljmaa
open Go.RowKit
structure HLF (w0 v : World) (p : Nat) (F : Nat → Prop) (L : LineV) (R : List Held) : Prop where
  st : LineIs v p F L
  big : ∀ k, F k → w0.heap.size ≤ k
  bel : Below w0.heap.size w0 v
  rows : ∀ r ∈ R, r.is w0 v ∧ ∀ k, r.at k → ¬ F k
def HL (w0 v : World) (p : Nat) (L : LineV) (R : List Held) : Prop := ∃ F, HLF w0 v p F L R
variable {w0 v v' : World} {p : Nat} {F F' : Nat → Prop} {L L' : LineV} {R R' : List Held}
theorem HLF.step (h : HLF w0 v p F L R) (hs : LineIs v' p F' L') (hf : ∀ k, F' k → F k ∨ v.heap.size ≤ k) (m : Moved F v v') : HLF w0 v' p F' L' R := by
  refine ⟨hs, fun k hk => (hf k hk).elim (h.big k) (fun e => Nat.le_trans h.bel.size e), below_of_moved h.bel h.big m, fun r hr => ?_⟩
  obtain ⟨h1, h2⟩ := h.rows r hr
  refine ⟨row_moved h1 m (fun i hi k hk e => h2 k hk (e ▸ hi)), fun k hk f => ?_⟩
  rcases hf k f with f | f
  · exact h2 k hk f
  · have := (row_lt h1 k hk).2; omega
theorem HLF.did (h : HLF w0 v p F L R) (hd : DidL v v' p F L') : HL w0 v' p L' R := by
  obtain ⟨F', h1, h2, h3⟩ := hd
  exact ⟨F', h.step h1 h2 h3⟩
theorem HLF.below (h : HLF w0 v p F L R) (hb : Below v.heap.size v v') : HLF w0 v' p F L R :=
  h.step (h.st.keep (Moved.of_below (F := fun _ => False) hb) (fun _ f => f.elim)) (fun _ f => .inl f) (Moved.of_below hb)
theorem HL.below (h : HL w0 v p L R) (hb : Below v.heap.size v v') : HL w0 v' p L R := by obtain ⟨F, h⟩ := h; exact ⟨F, h.below hb⟩
theorem HL.bel (h : HL w0 v p L R) : Below w0.heap.size w0 v := by obtain ⟨F, h⟩ := h; exact h.bel
theorem HL.fine (h : HL w0 v p L R) : Fine L.row := by obtain ⟨F, h⟩ := h; exact h.st.fine
theorem HL.row (h : HL w0 v p L R) {r : Held} (hr : r ∈ R) : r.is w0 v := by obtain ⟨F, h⟩ := h; exact (h.rows r hr).1
theorem HL.drop (h : HL w0 v p L R) (hR : ∀ r ∈ R', r ∈ R) : HL w0 v p L R' := by obtain ⟨F, h⟩ := h; exact ⟨F, h.st, h.big, h.bel, fun r hr => h.rows r (hR r hr)⟩
/-- A row more in hand, made in memory of its own. -/
theorem HLF.take {a : Option Addr} {c : Nat} {x : List (Win AggV)} (h : HLF w0 v p F L R) (hs : LineIs v' p F L') (m : Moved F v v') (hx : OutK.Row v' v.heap.size a c x) : HLF w0 v' p F L' ((a, c, x) :: R) := by
  have h' := h.step hs (fun _ f => .inl f) m
  refine ⟨h'.st, h'.big, h'.bel, fun r hr => ?_⟩
  rcases List.mem_cons.1 hr with rfl | hr
  · refine ⟨row_mono hx h.bel.size, fun k hk f => ?_⟩
    have h1 : v.heap.size ≤ k := (row_lt hx k hk).1
    have h2 : k < v.heap.size := h.st.lt k f
    omega
  · exact h'.rows r hr
theorem HL.new (hb : Below w0.heap.size w0 v) : Calls Try.prog 24 #[] v fun e v' => ∃ p, e = .returned (.pointer (some ⟨p, 0, none⟩)) ∧ HL w0 v' p newL [] :=
  (tnew_any v).mono fun e v' ⟨p, F, h1, h2, h3, h4⟩ => ⟨p, h1, F, h2, fun k hk => Nat.le_trans hb.size (h3 k hk), hb.trans (h4.mono hb.size), fun r hr => by cases hr⟩
theorem HL.put (h : HL w0 v p L R) (hm : Mild L.row) (k : List UInt8) (a n : Int) (hn : i64 n) :
    Calls Try.prog 25 #[.pointer (some ⟨p, 0, none⟩), .string ⟨k.toArray⟩, .int .i64 a, .int .i64 n] v fun e v' => e = .returned (.int .i64 ((putL L k a n).2 : Int)) ∧ HL w0 v' p (putL L k a n).1 R := by
  obtain ⟨F, h⟩ := h
  exact (tput_any h.st hm.most hm.ins_ k a n hn).mono fun e v' ⟨h1, h2⟩ => ⟨h1, h.did h2⟩
theorem HL.mark (h : HL w0 v p L R) (hm : Mild L.row) (a : Int) :
    Calls Try.prog 27 #[.pointer (some ⟨p, 0, none⟩), .int .i64 a] v fun e v' => ∃ a1 c1, e = .returned (.tuple #[.int .i64 ((markL L a).2.1 : Int), .slice a1 (markL L a).2.2.length c1]) ∧ HL w0 v' p (markL L a).1 ((a1, c1, (markL L a).2.2) :: R) := by
  obtain ⟨F, h⟩ := h
  exact (tmark_any h.st (Nat.le_trans hm.most (by omega)) a).mono fun e v' ⟨a1, c1, h1, h2, h3, h4⟩ => ⟨a1, c1, h1, F, h.take h3 h4 h2⟩
theorem HL.at_ (h : HL w0 v p L R) : Calls Try.prog 29 #[.pointer (some ⟨p, 0, none⟩)] v fun e v' => e = .returned (.int .i64 L.mark) ∧ v' = v := by
  obtain ⟨F, h⟩ := h
  exact tat_any h.st
theorem HL.open_ (h : HL w0 v p L R) (hm : Mild L.row) :
    Calls Try.prog 30 #[.pointer (some ⟨p, 0, none⟩)] v fun e v' => ∃ a c, e = .returned (.slice a L.row.length c) ∧ HL w0 v' p L ((a, c, L.row) :: R) ∧ Below v.heap.size v v' := by
  obtain ⟨F, h⟩ := h
  exact (topen_any h.st (Nat.le_trans hm.most (by omega))).mono fun e v' ⟨a, c, h1, h2, h3⟩ => ⟨a, c, h1, ⟨F, h.take (h.below h3).st (Moved.of_below h3) h2⟩, h3⟩
theorem HL.twin (h : HL w0 v p L R) :
    Calls Try.prog 31 #[.pointer (some ⟨p, 0, none⟩)] v fun e v' => ∃ q, e = .returned (.pointer (some ⟨q, 0, none⟩)) ∧ HL v v' q L [] ∧ Below v.heap.size v v' := by
  obtain ⟨F, h⟩ := h
  exact (ttwin_any h.st).mono fun e v' ⟨q, F2, h1, h2, h3, h4⟩ => ⟨q, h1, ⟨F2, h2, h3, h4, fun r hr => by cases hr⟩, h4⟩
/-- The last row is appended to the one behind it. -/
theorem HL.grow {a b : Option Addr} {c cb : Nat} {x y : List (Win AggV)} (h : HL w0 v p L [(b, cb, y), (a, c, x)]) (hl : x.length + y.length ≤ 1000000000000) (ty : TypeId) :
    ∃ a' c' v', (Builtin.append_ #[28, 28] ty #[.slice a x.length c, .slice b y.length cb]).run Try.prog v = .ok (.slice a' (x ++ y).length c') v' ∧ HL w0 v' p L [(a', c', x ++ y)] := by
  obtain ⟨F, h⟩ := h
  obtain ⟨ry, _⟩ := h.rows _ List.mem_cons_self
  obtain ⟨rx, nx⟩ := h.rows (a, c, x) (List.mem_cons_of_mem _ List.mem_cons_self)
  have ry' : OutK.Row v w0.heap.size b cb y := ry
  have rx' : OutK.Row v w0.heap.size a c x := rx
  obtain ⟨a', c', v', h1, h2, h3⟩ := grow_app outK_law rx' b cb y (row_lies ry') hl h.bel.size ty
  have hown : ∀ k, (Value.slice a' (x ++ y).length c').ownBlock = some k → (Value.slice a x.length c).ownBlock = some k ∨ v.heap.size ≤ k := fun k hk => by
    cases b with
    | none =>
      have hy : y = [] := (row_lies ry').1 rfl
      subst hy
      obtain ⟨i0, hi, _⟩ := outK_law.info
      have e := run_append_nothing (P := Try.prog) v OutK.t OutK.t ty OutK.e i0 outK_law.und hi a x.length c (row_cap rx') _ (Src.ofNil v outK_law.und cb)
      have h1' : (Builtin.append_ #[OutK.t, OutK.t] ty #[.slice a x.length c, .slice none ([] : List (Win AggV)).length cb]).run Try.prog v = .ok (.slice a' (x ++ []).length c') v' := h1
      rw [show ([] : List (Win AggV)).length = 0 from rfl] at h1'
      rw [e] at h1'
      rw [List.append_nil] at h1' hk
      cases h1'
      exact .inl hk
    | some z =>
      rcases append_block outK_law rx' z cb y (row_lies ry') hl ty h1 with e | e
      · exact .inl (e ▸ hk)
      · rw [e] at hk; cases hk; exact .inr (Nat.le_refl _)
  have mm : Moved (fun k => (Value.slice a x.length c).ownBlock = some k) v v' := (Moved.refl _ _).grown h3 (fun k e => .inl e)
  refine ⟨a', c', v', h1, F, h.st.keep mm (fun i hi f => nx i hi f), h.big, ((Moved.of_below (F := fun k => (Value.slice a x.length c).ownBlock = some k) h.bel).trans mm (fun _ e => .inl e)).below (fun i hi => (row_lt rx' i hi).1) (Nat.le_refl _), fun r hr => ?_⟩
  have : r = (a', c', x ++ y) := by simpa using hr
  subst this
  refine ⟨h2, fun k hk f => ?_⟩
  rcases hown k hk with e | e
  · exact nx k e f
  · have := h.st.lt k f; omega
/-- No windows at all, as a row in hand. -/
theorem HL.nil (h : HL w0 v p L R) : HL w0 v p L ((none, 0, []) :: R) := by
  obtain ⟨F, h⟩ := h
  refine ⟨F, h.st, h.big, h.bel, fun r hr => ?_⟩
  rcases List.mem_cons.1 hr with rfl | hr
  · exact ⟨row_none _ _, fun k hk => by cases hk⟩
  · exact h.rows r hr
theorem mild_putL (h : Mild L.row) {k : List UInt8} {a n : Int} (hn : i64 n) : Mild (putL L k a n).1.row := by
  rcases putL_ways L k a n with ⟨_, e⟩ | ⟨_, ⟨_, e⟩ | ⟨hl, ⟨_, e⟩ | ⟨_, e⟩⟩⟩
  · rw [e]; exact h
  · rw [e]; exact h
  · rw [e]; exact mild_put h hn
  · rw [e]; exact h
theorem mild_markL (h : Mild L.row) (a : Int) : Mild (markL L a).1.row ∧ (markL L a).2.2.length ≤ 32 := by
  rcases markL_ways L a with ⟨_, e⟩ | ⟨hr, ⟨_, e⟩ | ⟨_, e⟩⟩
  · rw [e]; exact ⟨h, Nat.zero_le _⟩
  · rw [e]; exact ⟨h, Nat.zero_le _⟩
  · rw [e]
    refine ⟨mild_take h a, ?_⟩
    have h1 := take_len (O := SO) L.row a
    have h2 := h.most
    show (takeS SO L.row a).2.length ≤ 32
    omega
end Go.Proofs.Ytmgmkdkdpeljmaa

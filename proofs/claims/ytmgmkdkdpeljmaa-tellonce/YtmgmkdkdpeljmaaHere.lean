/- A store that a law made itself, beside rows of windows that the law holds: what its calls do to both. No conditions. -/
import Derived.Test.YtmgmkdkdpeljmaaWith
namespace Go.Proofs.Ytmgmkdkdpeljmaa
open Go.RowKit
/-- A row of windows in hand: where, room, which. -/
abbrev Held := Option Addr × Nat × List (Win AggV)
def Held.is (w0 v : World) (r : Held) : Prop := OutK.Row v w0.heap.size r.1 r.2.1 r.2.2
def Held.at (r : Held) (k : Nat) : Prop := (Value.slice r.1 r.2.2.length r.2.1).ownBlock = some k
structure HereF (w0 v : World) (p : Nat) (F : Nat → Prop) (l : List (Win AggV)) (R : List Held) : Prop where
  st : StIs v p F l
  big : ∀ k, F k → w0.heap.size ≤ k
  bel : Below w0.heap.size w0 v
  rows : ∀ r ∈ R, r.is w0 v ∧ ∀ k, r.at k → ¬ F k
def Here (w0 v : World) (p : Nat) (l : List (Win AggV)) (R : List Held) : Prop := ∃ F, HereF w0 v p F l R
theorem below_of_moved {w0 v v' : World} {F : Nat → Prop} (h : Below w0.heap.size w0 v) (big : ∀ k, F k → w0.heap.size ≤ k) (m : Moved F v v') : Below w0.heap.size w0 v' :=
  ((Moved.of_below (F := F) h).trans m (fun _ hi => .inl hi)).below big (Nat.le_refl _)
theorem HereF.step {w0 v v' : World} {p : Nat} {F F' : Nat → Prop} {l l' : List (Win AggV)} {R : List Held} (h : HereF w0 v p F l R) (hs : StIs v' p F' l') (hf : ∀ k, F' k → F k ∨ v.heap.size ≤ k) (m : Moved F v v') : HereF w0 v' p F' l' R := by
  refine ⟨hs, fun k hk => (hf k hk).elim (h.big k) (fun e => Nat.le_trans h.bel.size e), below_of_moved h.bel h.big m, fun r hr => ?_⟩
  obtain ⟨h1, h2⟩ := h.rows r hr
  refine ⟨row_moved h1 m (fun i hi k hk e => h2 k hk (e ▸ hi)), fun k hk f => ?_⟩
  rcases hf k f with f | f
  · exact h2 k hk f
  · have := (row_lt h1 k hk).2; omega
theorem HereF.did {w0 v v' : World} {p : Nat} {F : Nat → Prop} {l l' : List (Win AggV)} {R : List Held} (h : HereF w0 v p F l R) (hd : Did v v' p F l') : Here w0 v' p l' R := by
  obtain ⟨F', h1, h2, h3⟩ := hd
  exact ⟨F', h.step h1 h2 h3⟩
theorem HereF.below {w0 v v' : World} {p : Nat} {F : Nat → Prop} {l : List (Win AggV)} {R : List Held} (h : HereF w0 v p F l R) (hb : Below v.heap.size v v') : HereF w0 v' p F l R :=
  h.step (h.st.keep (Moved.of_below (F := fun _ => False) hb) (fun _ f => f.elim)) (fun _ f => .inl f) (Moved.of_below hb)
theorem Here.below {w0 v v' : World} {p : Nat} {l : List (Win AggV)} {R : List Held} (h : Here w0 v p l R) (hb : Below v.heap.size v v') : Here w0 v' p l R := by
  obtain ⟨F, h⟩ := h; exact ⟨F, h.below hb⟩
theorem Here.bel {w0 v : World} {p : Nat} {l : List (Win AggV)} {R : List Held} (h : Here w0 v p l R) : Below w0.heap.size w0 v := by obtain ⟨F, h⟩ := h; exact h.bel
theorem Here.fine {w0 v : World} {p : Nat} {l : List (Win AggV)} {R : List Held} (h : Here w0 v p l R) : Fine l := by obtain ⟨F, h⟩ := h; exact h.st.fine
theorem Here.row {w0 v : World} {p : Nat} {l : List (Win AggV)} {R : List Held} (h : Here w0 v p l R) {r : Held} (hr : r ∈ R) : r.is w0 v := by obtain ⟨F, h⟩ := h; exact (h.rows r hr).1
/-- A new row joins. -/
theorem HereF.take {w0 v v' : World} {p : Nat} {F F' : Nat → Prop} {l l' : List (Win AggV)} {R : List Held} {a : Option Addr} {c : Nat} {xs : List (Win AggV)} (h : HereF w0 v p F l R) (hs : StIs v' p F' l') (hf : ∀ k, F' k → F k) (m : Moved F v v') (hx : OutK.Row v' v.heap.size a c xs) : HereF w0 v' p F' l' ((a, c, xs) :: R) := by
  have h' := h.step hs (fun k hk => .inl (hf k hk)) m
  refine ⟨h'.st, h'.big, h'.bel, fun r hr => ?_⟩
  rcases List.mem_cons.1 hr with rfl | hr
  · refine ⟨row_mono hx h.bel.size, fun k hk f => ?_⟩
    have := h.st.lt k (hf k f)
    have := (row_lt hx k hk).1
    omega
  · exact h'.rows r hr
theorem Here.new {w0 v : World} (hb : Below w0.heap.size w0 v) {R : List Held} (hR : ∀ r ∈ R, r.is w0 v) : Calls Try.prog 11 #[] v fun e v' => e = .returned (.pointer (some ⟨v.heap.size, 0, none⟩)) ∧ Here w0 v' v.heap.size [] R :=
  (new_any v).mono fun e v' ⟨h1, h2, h3⟩ => by
    refine ⟨h1, foot v.heap.size none, h3, fun k hk => ?_, hb.trans (h2.mono hb.size), fun r hr => ⟨row_below (hR r hr) h2, fun k hk f => ?_⟩⟩
    · rcases hk with rfl | hk
      · exact hb.size
      · cases hk
    · have := (row_lt (hR r hr) k hk).2
      rcases f with rfl | f
      · omega
      · cases f
theorem Here.put {w0 v : World} {p : Nat} {l : List (Win AggV)} {R : List Held} (h : Here w0 v p l R) (hl : l.length ≤ 32) (hIn : ∀ a ∈ l, a.agg.In) (k : List UInt8) (at_ n : Int) (hn : i64 n) :
    Calls Try.prog 15 #[.pointer (some ⟨p, 0, none⟩), .string ⟨k.toArray⟩, .int .i64 at_, .int .i64 n] v fun e v' => e = .returned (.int .i64 ((putS SO l k at_ n).2 : Int)) ∧ Here w0 v' p (putS SO l k at_ n).1 R := by
  obtain ⟨F, h⟩ := h
  exact (sput_any h.st hl hIn k at_ n hn).mono fun e v' ⟨h1, h2⟩ => ⟨h1, h.did h2⟩
theorem Here.set {w0 v : World} {p : Nat} {l : List (Win AggV)} {R : List Held} (h : Here w0 v p l R) (hl : l.length ≤ 32) (x : Win AggV) (hx : x.agg.In) (hk : okk x.key x.start) :
    Calls Try.prog 37 #[.pointer (some ⟨p, 0, none⟩), .agg (outV x).toArray] v fun e v' => e = .returned (.int .i64 ((setS SO l x).2 : Int)) ∧ Here w0 v' p (setS SO l x).1 R := by
  obtain ⟨F, h⟩ := h
  exact (set_any h.st hl x hx hk).mono fun e v' ⟨h1, h2⟩ => ⟨h1, h.did h2⟩
theorem Here.get {w0 v : World} {p : Nat} {l : List (Win AggV)} {R : List Held} (h : Here w0 v p l R) {k : List UInt8} {s : Int} (hk : okk k s) :
    Calls Try.prog 16 #[.pointer (some ⟨p, 0, none⟩), .string ⟨k.toArray⟩, .int .i64 s] v fun e v' => e = .returned (.tuple #[aggV ((look l k s).getD zero), .bool (look l k s).isSome]) ∧ Here w0 v' p l R := by
  obtain ⟨F, h⟩ := h
  exact (get_any h.st hk).mono fun e v' ⟨h1, h2⟩ => ⟨h1, F, h.below h2⟩
theorem Here.taken {w0 v : World} {p : Nat} {l : List (Win AggV)} {R : List Held} (h : Here w0 v p l R) (hl : l.length ≤ 1000) (m : Int) :
    Calls Try.prog 35 #[.pointer (some ⟨p, 0, none⟩), .int .i64 m] v fun e v' => ∃ a c, e = .returned (.slice a (takeS SO l m).2.length c) ∧ Here w0 v' p (takeS SO l m).1 ((a, c, (takeS SO l m).2) :: R) := by
  obtain ⟨F, h⟩ := h
  exact (take_any h.st hl m).mono fun e v' ⟨a, c, h1, h2, h3, h4⟩ => ⟨a, c, h1, F, h.take h3 (fun _ f => f) h4 h2⟩
theorem HereF.taken {w0 v : World} {p : Nat} {F : Nat → Prop} {l : List (Win AggV)} {R : List Held} (h : HereF w0 v p F l R) (hl : l.length ≤ 1000) (m : Int) :
    Calls Try.prog 35 #[.pointer (some ⟨p, 0, none⟩), .int .i64 m] v fun e v' => ∃ a c, e = .returned (.slice a (takeS SO l m).2.length c) ∧ HereF w0 v' p F (takeS SO l m).1 ((a, c, (takeS SO l m).2) :: R) ∧ Moved F v v' :=
  (take_any h.st hl m).mono fun _ _ ⟨a, c, h1, h2, h3, h4⟩ => ⟨a, c, h1, h.take h3 (fun _ f => f) h4 h2, h4⟩
theorem Here.all {w0 v : World} {p : Nat} {l : List (Win AggV)} {R : List Held} (h : Here w0 v p l R) (hl : l.length ≤ 1000) :
    Calls Try.prog 14 #[.pointer (some ⟨p, 0, none⟩)] v fun e v' => ∃ a c, e = .returned (.slice a l.length c) ∧ Here w0 v' p l ((a, c, l) :: R) := by
  obtain ⟨F, h⟩ := h
  exact (all_any h.st hl).mono fun e v' ⟨a, c, h1, h2, h3⟩ => ⟨a, c, h1, F, h.take (h.below h3).st (fun _ f => f) (Moved.of_below h3) h2⟩
theorem Here.len {w0 v : World} {p : Nat} {l : List (Win AggV)} {R : List Held} (h : Here w0 v p l R) :
    Calls Try.prog 36 #[.pointer (some ⟨p, 0, none⟩)] v fun e v' => e = .returned (.int .i64 (l.length : Int)) ∧ v' = v := by
  obtain ⟨F, h⟩ := h
  exact len_any h.st
theorem Here.drop {w0 v : World} {p : Nat} {l : List (Win AggV)} {R R' : List Held} (h : Here w0 v p l R) (hR : ∀ r ∈ R', r ∈ R) : Here w0 v p l R' := by
  obtain ⟨F, h⟩ := h; exact ⟨F, h.st, h.big, h.bel, fun r hr => h.rows r (hR r hr)⟩
/-- The cells of a held row's entry. -/
theorem held_at {w0 v : World} {r : Held} (h : r.is w0 v) {j : Nat} {x : Win AggV} (hx : r.2.2[j]? = some x) : ∃ g, r.1 = some ⟨g, 0, none⟩ ∧ v.rangeAt g (j * 10) (outV x) ∧ g < v.heap.size := by
  obtain ⟨a, c, l⟩ := r
  have h' : OutK.Row v w0.heap.size a c l := h
  obtain ⟨g, rfl⟩ : ∃ g, a = some ⟨g, 0, none⟩ := by
    rcases h'.2 with ⟨_, h0⟩ | ⟨g, cap, cur, hv, _⟩
    · rw [List.length_eq_zero_iff.1 h0] at hx; cases hx
    · simp only [Value.slice.injEq] at hv; exact ⟨g, hv.1⟩
  refine ⟨g, rfl, ?_, ?_⟩
  · have := lies_at outK_law (row_lies h') hx
    rw [Nat.zero_add] at this; exact this
  · exact (row_lt h' g rfl).2
end Go.Proofs.Ytmgmkdkdpeljmaa

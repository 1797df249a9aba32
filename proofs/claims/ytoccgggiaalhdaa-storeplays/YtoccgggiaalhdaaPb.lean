/- A store of a law's own beside the document's, which is a row in a box, and a box with an act: what the calls of both do to all three. No conditions. -/
import Derived.Test.YtoccgggiaalhdaaRPut
import Derived.Test.YtoccgggiaalhdaaRTake
import Derived.Test.YtoccgggiaalhdaaTwinH
namespace Go.Proofs.Ytoccgggiaalhdaa
open Go.RowKit
abbrev ownB (a : Option Addr) (l : List (Win AggV)) (c : Nat) : Option Nat := (Value.slice a l.length c).ownBlock
/-- The store at p with l, the document's in the box h: the row a with l2, the act's box b. -/
structure PBF (w0 v : World) (p h b : Nat) (y : List Value) (F : Nat → Prop) (l : List (Win AggV)) (a : Option Addr) (c : Nat) (l2 : List (Win AggV)) : Prop where
  here : HereF w0 v p F l [(a, c, l2)]
  nh : ¬ F h
  nb : ¬ F b
  hb : ¬ h = b
  lo : w0.heap.size ≤ h
  lb : w0.heap.size ≤ b
  rh : RowAt v h [.slice a l2.length c]
  rb : RowAt v b y
  row : OutK.Row v (h + 1) a c l2
  rn : ∀ k, ownB a l2 c = some k → k ≠ b
def PB (w0 v : World) (p h b : Nat) (y : List Value) (l : List (Win AggV)) (a : Option Addr) (c : Nat) (l2 : List (Win AggV)) : Prop := ∃ F, PBF w0 v p h b y F l a c l2
/-- The same without the act's box. -/
def PR (w0 v : World) (p h : Nat) (l : List (Win AggV)) (a : Option Addr) (c : Nat) (l2 : List (Win AggV)) : Prop :=
  ∃ F, HereF w0 v p F l [(a, c, l2)] ∧ ¬ F h ∧ w0.heap.size ≤ h ∧ RowAt v h [.slice a l2.length c] ∧ OutK.Row v (h + 1) a c l2
variable {w0 v v' : World} {p h b : Nat} {y : List Value} {F : Nat → Prop} {l l' l2 l3 : List (Win AggV)} {a a' : Option Addr} {c c' : Nat}
theorem PB.end_ (k : PB w0 v p h b y l a c l2) : PR w0 v p h l a c l2 := by obtain ⟨F, k⟩ := k; exact ⟨F, k.here, k.nh, k.lo, k.rh, k.row⟩
theorem PB.bel (k : PB w0 v p h b y l a c l2) : Below w0.heap.size w0 v := by obtain ⟨F, k⟩ := k; exact k.here.bel
theorem PR.bel (k : PR w0 v p h l a c l2) : Below w0.heap.size w0 v := by obtain ⟨F, k, _⟩ := k; exact k.bel
theorem PR.below (k : PR w0 v p h l a c l2) (hb : Below v.heap.size v v') : PR w0 v' p h l a c l2 := by
  obtain ⟨F, k1, k2, k3, k4, k5⟩ := k
  exact ⟨F, k1.below hb, k2, k3, k4.below hb, row_below k5 hb⟩
/-- An act's box is made, and filled. -/
theorem PR.box (k : PR w0 v p h l a c l2) (m : Moved (fun _ => False) v v') (hr : RowAt v' v.heap.size y) : PB w0 v' p h v.heap.size y l a c l2 := by
  obtain ⟨F, k1, k2, k3, k4, k5⟩ := k
  have hb : Below v.heap.size v v' := m.below (fun _ f => f.elim) (Nat.le_refl _)
  exact ⟨F, k1.below hb, k2, fun f => Nat.lt_irrefl _ (k1.st.lt _ f), fun e => Nat.lt_irrefl _ (e ▸ k4.lt), k3, k1.bel.size, k4.below hb, hr, row_below k5 hb, fun j hj e => Nat.lt_irrefl _ (e ▸ (row_lt k5 j hj).2)⟩
theorem PBF.did (k : PBF w0 v p h b y F l a c l2) (hd : Did v v' p F l') : PB w0 v' p h b y l' a c l2 := by
  obtain ⟨F', s, f, m⟩ := hd
  have hh := k.rh.lt
  have hb := k.rb.lt
  exact ⟨F', k.here.step s f m, fun e => (f h e).elim k.nh (fun e => by omega), fun e => (f b e).elim k.nb (fun e => by omega), k.hb, k.lo, k.lb, k.rh.keep m k.nh, k.rb.keep m k.nb,
    row_moved k.row m (fun i hi j hj e => (k.here.rows _ List.mem_cons_self).2 j hj (e ▸ hi)), k.rn⟩
theorem PB.below (k : PB w0 v p h b y l a c l2) (hb : Below v.heap.size v v') : PB w0 v' p h b y l a c l2 := by
  obtain ⟨F, k⟩ := k
  exact ⟨F, k.here.below hb, k.nh, k.nb, k.hb, k.lo, k.lb, k.rh.below hb, k.rb.below hb, row_below k.row hb, k.rn⟩
theorem PB.drew (k : PB w0 v p h b y l a c l2) : PB w0 v.drew p h b y l a c l2 := k.below ((Below.refl _ _).drew)
theorem PB.rh (k : PB w0 v p h b y l a c l2) : RowAt v h [.slice a l2.length c] := by obtain ⟨F, k⟩ := k; exact k.rh
theorem PB.rb (k : PB w0 v p h b y l a c l2) : RowAt v b y := by obtain ⟨F, k⟩ := k; exact k.rb
theorem PB.row (k : PB w0 v p h b y l a c l2) : OutK.Row v (h + 1) a c l2 := by obtain ⟨F, k⟩ := k; exact k.row
theorem PB.fine (k : PB w0 v p h b y l a c l2) : Fine l := by obtain ⟨F, k⟩ := k; exact k.here.st.fine
theorem PB.hlt (k : PB w0 v p h b y l a c l2) : h + 1 ≤ v.heap.size := by obtain ⟨F, k⟩ := k; exact k.rh.lt
theorem PB.put (k : PB w0 v p h b y l a c l2) (hm : Mild l) (key : List UInt8) (at_ n : Int) (hn : i64 n) :
    Calls Try.prog 12 #[.pointer (some ⟨p, 0, none⟩), .string ⟨key.toArray⟩, .int .i64 at_, .int .i64 n] v fun e v' => e = .returned (.int .i64 ((putS SO l key at_ n).2 : Int)) ∧ PB w0 v' p h b y (putS SO l key at_ n).1 a c l2 := by
  obtain ⟨F, k⟩ := k
  exact (sput_any k.here.st hm.most hm.ins_ key at_ n hn).mono fun e v' ⟨h1, h2⟩ => ⟨h1, k.did h2⟩
theorem PB.set (k : PB w0 v p h b y l a c l2) (hm : Mild l) (x : Win AggV) (hx : x.agg.In) (hk : okk x.key x.start) :
    Calls Try.prog 14 #[.pointer (some ⟨p, 0, none⟩), .agg (outV x).toArray] v fun e v' => e = .returned (.int .i64 ((setS SO l x).2 : Int)) ∧ PB w0 v' p h b y (setS SO l x).1 a c l2 := by
  obtain ⟨F, k⟩ := k
  exact (set_any k.here.st hm.most x hx hk).mono fun e v' ⟨h1, h2⟩ => ⟨h1, k.did h2⟩
theorem PB.get (k : PB w0 v p h b y l a c l2) {key : List UInt8} {s : Int} (hk : okk key s) :
    Calls Try.prog 19 #[.pointer (some ⟨p, 0, none⟩), .string ⟨key.toArray⟩, .int .i64 s] v fun e v' => e = .returned (.tuple #[aggV ((look l key s).getD zero), .bool (look l key s).isSome]) ∧ PB w0 v' p h b y l a c l2 := by
  obtain ⟨F, k⟩ := k
  exact (get_any k.here.st hk).mono fun e v' ⟨h1, h2⟩ => ⟨h1, PB.below ⟨F, k⟩ h2⟩
theorem PB.take (k : PB w0 v p h b y l a c l2) (hm : Mild l) (m : Int) :
    Calls Try.prog 16 #[.pointer (some ⟨p, 0, none⟩), .int .i64 m] v fun e v' => ∃ a1 c1, e = .returned (.slice a1 (takeS SO l m).2.length c1) ∧ OutK.Row v' v.heap.size a1 c1 (takeS SO l m).2 ∧ PB w0 v' p h b y (takeS SO l m).1 a c l2 ∧ v.heap.size ≤ v'.heap.size := by
  obtain ⟨F, k⟩ := k
  exact (take_any k.here.st (Nat.le_trans hm.most (by omega)) m).mono fun e v' ⟨a1, c1, h1, h2, h3, h4⟩ => ⟨a1, c1, h1, h2, k.did ⟨F, h3, fun _ f => .inl f, h4⟩, h4.size⟩
theorem PB.len (k : PB w0 v p h b y l a c l2) : Calls Try.prog 21 #[.pointer (some ⟨p, 0, none⟩)] v fun e v' => e = .returned (.int .i64 (l.length : Int)) ∧ v' = v := by
  obtain ⟨F, k⟩ := k
  exact len_any k.here.st
theorem PB.all (k : PB w0 v p h b y l a c l2) (hm : Mild l) :
    Calls Try.prog 24 #[.pointer (some ⟨p, 0, none⟩)] v fun e v' => ∃ a1 c1, e = .returned (.slice a1 l.length c1) ∧ OutK.Row v' v.heap.size a1 c1 l ∧ PB w0 v' p h b y l a c l2 := by
  obtain ⟨F, k⟩ := k
  exact (all_any k.here.st (Nat.le_trans hm.most (by omega))).mono fun e v' ⟨a1, c1, h1, h2, h3⟩ => ⟨a1, c1, h1, h2, PB.below ⟨F, k⟩ h3⟩
/-- The document's store is another row now, and its box is written. -/
theorem PB.doc (k : PB w0 v p h b y l a c l2) (hb : Below v.heap.size v v') (hr : OutK.Row v' (h + 1) a' c' l3) (hn : ∀ j, ownB a' l3 c' = some j → ownB a l2 c = some j ∨ v.heap.size ≤ j) :
    ∃ wf, v'.setCells h 0 [.slice a' l3.length c'] = wf ∧ PB w0 wf p h b y l a' c' l3 ∧ Moved (fun i => i = h) v' wf := by
  obtain ⟨F, k⟩ := k
  have mf := setCells_moved v' h 0 [.slice a' l3.length c']
  have hlt := k.rh.lt
  have hlb := k.rb.lt
  have h1 := k.here.below hb
  have hr' : OutK.Row (v'.setCells h 0 [.slice a' l3.length c']) (h + 1) a' c' l3 := row_moved hr mf (fun i hi j hj => by have := (row_lt hr j hj).1; omega)
  refine ⟨_, rfl, ⟨F, ⟨h1.st.keep mf (fun i hi f => k.nh (hi ▸ f)), h1.big, ((Moved.of_below (F := fun i => i = h) h1.bel).trans mf (fun _ hi => .inl hi)).below (fun i hi => by have := k.lo; omega) (Nat.le_refl _), ?_⟩,
    k.nh, k.nb, k.hb, k.lo, k.lb, (k.rh.below hb).put _ rfl, (k.rb.below hb).keep mf (fun e => k.hb e.symm), hr', ?_⟩, mf⟩
  · intro r hr2
    have : r = (a', c', l3) := by simpa using hr2
    subst this
    refine ⟨row_mono hr' (by have := k.lo; omega), fun j hj f => ?_⟩
    rcases hn j hj with e | e
    · exact (k.here.rows _ List.mem_cons_self).2 j e f
    · have := k.here.st.lt j f; omega
  · intro j hj e
    rcases hn j hj with e2 | e2
    · exact k.rn j e2 e
    · omega
theorem outs_lay {w : World} {B c : Nat} {a : Option Addr} {l : List (Win AggV)} (h : OutK.Row w B a c l) (hl : l.length ≤ 1000) : Lay w a l := by
  refine ⟨row_lies h, ?_, hl⟩
  rcases h.2 with ⟨_, h0⟩ | ⟨g, cap, cur, hv, _⟩
  · exact .inr (List.length_eq_zero_iff.1 h0)
  · refine .inl ⟨g, ?_, (row_lt h g (by rw [hv]; rfl)).2⟩
    simp only [Value.slice.injEq] at hv; exact hv.1
end Go.Proofs.Ytoccgggiaalhdaa

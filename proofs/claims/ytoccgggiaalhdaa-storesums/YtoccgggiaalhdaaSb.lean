/- A store of a law's own beside a row of numbers, rows of windows and a box with an act: what the store's calls do to all of them. No conditions. -/
import Derived.Test.YtoccgggiaalhdaaTwinH
import Derived.Test.YtoccgggiaalhdaaGrowB
import Derived.Test.YtoccgggiaalhdaaOf
namespace Go.Proofs.Ytoccgggiaalhdaa
open Go.RowKit
/-- Rows of numbers. -/
def IntK : RowK Int := ⟨54, 2, 1, 8, .int .i64 0, fun v => [.int .i64 v]⟩
theorem info2k : (Try.prog.info? 2).map (fun i => (i.zero, i.size, i.bytes)) = some (some IntK.z, 1, 8) := by kernel_rfl
theorem intK_law : IntK.Law Try.prog where
  und := Try.underlying54
  info := by obtain ⟨i0, hi, hz0, hz1, hz2⟩ := info_parts info2k; exact ⟨i0, hi, hz0, hz1, hz2⟩
  zc := rfl
  pos := by decide
  len := fun _ => rfl
  one := fun b u hu => by
    simp [IntK] at hu
    rw [hu]; rfl
  small := by decide
theorem rowk_moved {β : Type} {K : RowK β} {G : Nat → Prop} {w w' : World} {B : Nat} {a : Option Addr} {c : Nat} {l : List β} (h : K.Row w B a c l) (hm : Moved G w w') (hG : ∀ i, G i → ∀ k, (Value.slice a l.length c).ownBlock = some k → i ≠ k) : K.Row w' B a c l := by
  obtain ⟨h1, h2⟩ := h
  refine ⟨h1, h2.imp id ?_⟩
  rintro ⟨g, cap, cur, hv, e1, e2, e3⟩
  refine ⟨g, cap, cur, hv, e1, (hm.block g (Array.getElem?_eq_some_iff.1 e2).1 (fun f => hG g f g (by rw [hv]; rfl) rfl)).trans e2, e3⟩
theorem ints_cells : ∀ l : List Int, IntK.cells l = l.map (Value.int .i64)
  | [] => rfl
  | v :: l => by
    have : IntK.cells (v :: l) = IntK.f v ++ IntK.cells l := List.flatMap_cons
    rw [this, ints_cells l]; rfl
theorem ints_of {w : World} {B c : Nat} {a : Option Addr} {l : List Int} (h : IntK.Row w B a c l) : Ints w a l := fun i hi => by
  have hl := row_lies h
  cases a with
  | none => rw [hl.1 rfl] at hi; cases hi
  | some x => exact ⟨x, rfl, hl.2 x rfl i _ (by rw [ints_cells, List.getElem?_map, List.getElem?_eq_getElem hi, List.getD_eq_getElem?_getD, List.getElem?_eq_getElem hi]; rfl)⟩
theorem ints_new (w : World) (n : Int) : IntK.Lies (w.alloc (.cells #[.int .i64 n] 2)) (some ⟨w.heap.size, 0, none⟩) [n] := by
  refine ⟨fun e => (by cases e), fun x e j u hu => ?_⟩
  cases e
  have hu' : [Value.int .i64 n][j]? = some u := by simpa [RowK.cells, IntK] using hu
  have := (row_new w [.int .i64 n] 2).range j u hu'
  rwa [Addr.add_mid]
abbrev ownI (a : Option Addr) (V : List Int) (c : Nat) : Option Nat := (Value.slice a V.length c).ownBlock
/-- The store at p with l, rows R, the numbers V, the act's box b. -/
structure SBF (w0 v : World) (p b : Nat) (y : List Value) (F : Nat → Prop) (l : List (Win AggV)) (R : List Held) (a : Option Addr) (c : Nat) (V : List Int) : Prop where
  here : HereF w0 v p F l R
  ints : IntK.Row v w0.heap.size a c V
  ni : ∀ k, ownI a V c = some k → ¬ F k
  nr : ∀ k, ownI a V c = some k → ∀ r ∈ R, ¬ Held.at r k
  nb : ¬ F b
  lb : w0.heap.size ≤ b
  rb : RowAt v b y
  bi : ∀ k, ownI a V c = some k → k ≠ b
  br : ∀ r ∈ R, ¬ Held.at r b
def SB (w0 v : World) (p b : Nat) (y : List Value) (l : List (Win AggV)) (R : List Held) (a : Option Addr) (c : Nat) (V : List Int) : Prop := ∃ F, SBF w0 v p b y F l R a c V
/-- The same without the box and the rows. -/
def SI (w0 v : World) (p : Nat) (l : List (Win AggV)) (a : Option Addr) (c : Nat) (V : List Int) : Prop := ∃ F, HereF w0 v p F l [] ∧ IntK.Row v w0.heap.size a c V ∧ ∀ k, ownI a V c = some k → ¬ F k
variable {w0 v v' : World} {p b : Nat} {y : List Value} {F : Nat → Prop} {l l' : List (Win AggV)} {R R' : List Held} {a : Option Addr} {c : Nat} {V : List Int}
theorem SI.start (h : Here w0 v p l []) : SI w0 v p l none 0 [] := by obtain ⟨F, h⟩ := h; exact ⟨F, h, World.ownsRow_nil _ _ _ _, fun k e => by cases e⟩
theorem SI.bel (h : SI w0 v p l a c V) : Below w0.heap.size w0 v := by obtain ⟨F, h, _⟩ := h; exact h.bel
theorem SI.box (h : SI w0 v p l a c V) (m : Moved (fun _ => False) v v') (hr : RowAt v' v.heap.size y) : SB w0 v' p v.heap.size y l [] a c V := by
  obtain ⟨F, h1, h2, h3⟩ := h
  have hb : Below v.heap.size v v' := m.below (fun _ f => f.elim) (Nat.le_refl _)
  refine ⟨F, h1.below hb, rowk_moved h2 m (fun i hi => hi.elim), h3, fun k _ r hr => (by cases hr), fun f => Nat.lt_irrefl _ (h1.st.lt _ f), h1.bel.size, hr, fun k hk e => ?_, fun r hr => by cases hr⟩
  have := (World.ownsRow.lt h2 k hk).2
  omega
theorem SB.end_ (h : SB w0 v p b y l R a c V) : SI w0 v p l a c V := by
  obtain ⟨F, h⟩ := h
  exact ⟨F, ⟨h.here.st, h.here.big, h.here.bel, fun r hr => by cases hr⟩, h.ints, h.ni⟩
theorem SB.bel (h : SB w0 v p b y l R a c V) : Below w0.heap.size w0 v := by obtain ⟨F, h⟩ := h; exact h.here.bel
theorem SB.rb (h : SB w0 v p b y l R a c V) : RowAt v b y := by obtain ⟨F, h⟩ := h; exact h.rb
theorem SB.row (h : SB w0 v p b y l R a c V) {r : Held} (hr : r ∈ R) : r.is w0 v := by obtain ⟨F, h⟩ := h; exact (h.here.rows r hr).1
theorem SB.ints (h : SB w0 v p b y l R a c V) : Ints v a V := by obtain ⟨F, h⟩ := h; exact ints_of h.ints
theorem SI.ints (h : SI w0 v p l a c V) : Ints v a V := by obtain ⟨F, h1, h2, _⟩ := h; exact ints_of h2
theorem SBF.step {F' : Nat → Prop} (h : SBF w0 v p b y F l R a c V) (hs : StIs v' p F' l') (hf : ∀ k, F' k → F k ∨ v.heap.size ≤ k) (m : Moved F v v') : SBF w0 v' p b y F' l' R a c V := by
  have hb := h.rb.lt
  refine ⟨h.here.step hs hf m, rowk_moved h.ints m (fun i hi k hk e => h.ni k hk (e ▸ hi)), fun k hk f => ?_, h.nr, fun f => (hf b f).elim h.nb (fun e => by omega), h.lb, h.rb.keep m h.nb, h.bi, h.br⟩
  have := (World.ownsRow.lt h.ints k hk).2
  exact (hf k f).elim (h.ni k hk) (fun e => by omega)
theorem SB.below (h : SB w0 v p b y l R a c V) (hb : Below v.heap.size v v') : SB w0 v' p b y l R a c V := by
  obtain ⟨F, h⟩ := h
  exact ⟨F, h.step (h.here.below hb).st (fun _ f => .inl f) (Moved.of_below hb)⟩
theorem SI.below (h : SI w0 v p l a c V) (hb : Below v.heap.size v v') : SI w0 v' p l a c V := by
  obtain ⟨F, h1, h2, h3⟩ := h
  exact ⟨F, h1.below hb, rowk_moved h2 (Moved.of_below (F := fun _ => False) hb) (fun i hi => hi.elim), h3⟩
theorem SB.put (h : SB w0 v p b y l R a c V) (hm : Mild l) (key : List UInt8) (at_ n : Int) (hn : i64 n) :
    Calls Try.prog 12 #[.pointer (some ⟨p, 0, none⟩), .string ⟨key.toArray⟩, .int .i64 at_, .int .i64 n] v fun e v' => e = .returned (.int .i64 ((putS SO l key at_ n).2 : Int)) ∧ SB w0 v' p b y (putS SO l key at_ n).1 R a c V := by
  obtain ⟨F, h⟩ := h
  exact (sput_any h.here.st hm.most hm.ins_ key at_ n hn).mono fun e v' ⟨h1, F', h2, h3, h4⟩ => ⟨h1, F', h.step h2 h3 h4⟩
/-- A row of windows more in hand. -/
theorem SBF.take {a1 : Option Addr} {c1 : Nat} {x : List (Win AggV)} (h : SBF w0 v p b y F l R a c V) (hs : StIs v' p F l') (m : Moved F v v') (hx : OutK.Row v' v.heap.size a1 c1 x) : SBF w0 v' p b y F l' ((a1, c1, x) :: R) a c V := by
  have h' := h.step hs (fun _ f => .inl f) m
  have hb := h.rb.lt
  refine ⟨h.here.take hs (fun _ f => f) m hx, h'.ints, h'.ni, fun k hk r hr e => ?_, h'.nb, h'.lb, h'.rb, h'.bi, fun r hr e => ?_⟩
  · rcases List.mem_cons.1 hr with rfl | hr
    · have h1 : v.heap.size ≤ k := (row_lt hx k e).1
      have := (World.ownsRow.lt h.ints k hk).2
      omega
    · exact h.nr k hk r hr e
  · rcases List.mem_cons.1 hr with rfl | hr
    · have h1 : v.heap.size ≤ b := (row_lt hx b e).1
      omega
    · exact h.br r hr e
theorem SB.all (h : SB w0 v p b y l R a c V) (hm : Mild l) :
    Calls Try.prog 24 #[.pointer (some ⟨p, 0, none⟩)] v fun e v' => ∃ a1 c1, e = .returned (.slice a1 l.length c1) ∧ SB w0 v' p b y l ((a1, c1, l) :: R) a c V := by
  obtain ⟨F, h⟩ := h
  exact (all_any h.here.st (Nat.le_trans hm.most (by omega))).mono fun e v' ⟨a1, c1, h1, h2, h3⟩ => ⟨a1, c1, h1, F, h.take (h.here.below h3).st (Moved.of_below h3) h2⟩
theorem SB.taken (h : SB w0 v p b y l R a c V) (hm : Mild l) (m : Int) :
    Calls Try.prog 16 #[.pointer (some ⟨p, 0, none⟩), .int .i64 m] v fun e v' => ∃ a1 c1, e = .returned (.slice a1 (takeS SO l m).2.length c1) ∧ SB w0 v' p b y (takeS SO l m).1 ((a1, c1, (takeS SO l m).2) :: R) a c V := by
  obtain ⟨F, h⟩ := h
  exact (take_any h.here.st (Nat.le_trans hm.most (by omega)) m).mono fun e v' ⟨a1, c1, h1, h2, h3, h4⟩ => ⟨a1, c1, h1, F, h.take h3 h4 h2⟩
theorem SI.get (h : SI w0 v p l a c V) {key : List UInt8} {s : Int} (hk : okk key s) :
    Calls Try.prog 19 #[.pointer (some ⟨p, 0, none⟩), .string ⟨key.toArray⟩, .int .i64 s] v fun e v' => e = .returned (.tuple #[aggV ((look l key s).getD zero), .bool (look l key s).isSome]) ∧ Below v.heap.size v v' := by
  obtain ⟨F, h, _⟩ := h
  exact get_any h.st hk
/-- The numbers are none now. -/
theorem SB.none_ (h : SB w0 v p b y l R a c V) : SB w0 v p b y l R none 0 [] := by
  obtain ⟨F, h⟩ := h
  exact ⟨F, h.here, World.ownsRow_nil _ _ _ _, fun k e => (by cases e), fun k e => (by cases e), h.nb, h.lb, h.rb, fun k e => (by cases e), h.br⟩
/-- A number more. -/
theorem SB.push (h : SB w0 v p b y l R a c V) (n : Int) (hl : V.length ≤ 1000) :
    ∃ a' c' v', (Builtin.append_ #[54, 54] 54 #[.slice a V.length c, .slice (some ⟨v.heap.size, 0, none⟩) 1 1]).run Try.prog (v.alloc (.cells #[.int .i64 n] 2)) = .ok (.slice a' (V ++ [n]).length c') v' ∧ SB w0 v' p b y l R a' c' (V ++ [n]) := by
  obtain ⟨F, h⟩ := h
  have hb : Below v.heap.size v (v.alloc (.cells #[.int .i64 n] 2)) := (Below.refl _ _).alloc (Nat.le_refl _) _
  have hv := h.step (h.here.below hb).st (fun _ f => .inl f) (Moved.of_below hb)
  obtain ⟨a', c', v', h1, h2, h3, h4⟩ := grow_at intK_law hv.ints ⟨v.heap.size, 0, none⟩ 1 [n] (ints_new v n) (by simp; omega) hv.here.bel.size 54
  have mm : Moved (fun k => ownI a V c = some k) (v.alloc (.cells #[.int .i64 n] 2)) v' := (Moved.refl _ _).grown h3 (fun k e => .inl e)
  have hown : ∀ k, ownI a' (V ++ [n]) c' = some k → ownI a V c = some k ∨ k = (v.alloc (.cells #[.int .i64 n] 2)).heap.size := fun k hk => by
    rcases h4 with e | e
    · exact .inl (e.symm.trans hk)
    · rw [show ownI a' (V ++ [n]) c' = some (v.alloc (.cells #[.int .i64 n] 2)).heap.size from e] at hk
      cases hk; exact .inr rfl
  refine ⟨a', c', v', h1, F, ⟨hv.here.st.keep mm (fun i hi f => hv.ni i hi f), hv.here.big, ((Moved.of_below (F := fun k => ownI a V c = some k) hv.here.bel).trans mm (fun _ e => .inl e)).below (fun i hi => (World.ownsRow.lt hv.ints i hi).1) (Nat.le_refl _), fun r hr => ⟨row_moved (hv.here.rows r hr).1 mm (fun i hi k hk e => hv.nr i hi r hr (e ▸ hk)), (hv.here.rows r hr).2⟩⟩, h2, fun k hk f => ?_, fun k hk r hr e => ?_, hv.nb, hv.lb, hv.rb.keep mm (fun e => hv.bi b e rfl), fun k hk e => ?_, hv.br⟩
  · rcases hown k hk with e | e
    · exact hv.ni k e f
    · have := hv.here.st.lt k f; omega
  · rcases hown k hk with e2 | e2
    · exact hv.nr k e2 r hr e
    · have := (row_lt (hv.here.rows r hr).1 k e).2; omega
  · rcases hown k hk with e2 | e2
    · exact hv.bi k e2 e
    · have := hv.rb.lt; omega
end Go.Proofs.Ytoccgggiaalhdaa

/- A row of '&&' over the fields of two structs, each comparison of two loads. No conditions. -/
import Derived.Test.YtkbmbcmcnpeabaaDoorSeg
namespace Go.Proofs.YtkbmbcmcnpeabaaDoor
open Go.RowKit

section
variable {P : Program} {ops : Array Oper} {W : World → Prop} {a : Act} {w : World} {i c : Nat} {g : Option (Nat × Bool)}
def Val (W : World → Prop) (n t : Nat) (v : Value) (a : Act) : Act → World → Prop := fun a' w' => W w' ∧ Low n a a' ∧ a'.tmps[t]? = some v
theorem eval_tmp {t : Nat} {v : Value} (h : a.tmps[t]? = some v) : a.eval (.tmp t) = v := by
  simp [Act.eval, h]
/-- The guard's temporary lies below n. -/
def Grd (ops : Array Oper) (g : Option (Nat × Bool)) (n : Nat) : Prop := ∀ j b, g = some (j, b) → ∃ T, (ops[j]?).bind (·.dst) = some T ∧ T < n
theorem Wants.low {n : Nat} {a' : Act} (h : Wants ops a g) (hg : Grd ops g n) (hl : Low n a a') : Wants ops a' g := by
  match g, h, hg with
  | none, _, _ => trivial
  | some (j, b), h, hg =>
    obtain ⟨T, hT, hn⟩ := hg j b rfl
    show yielded ops a'.tmps j = some b
    have h' : yielded ops a.tmps j = some b := h
    unfold yielded at *
    rw [hT] at *
    simp only [Option.bind_some] at *
    rw [hl.2.2 T hn]
    exact h'
theorem Grd.mono {n m : Nat} (h : Grd ops g n) (hm : n ≤ m) : Grd ops g m := fun j b e => let ⟨T, h1, h2⟩ := h j b e; ⟨T, h1, Nat.lt_of_lt_of_le h2 hm⟩
theorem Seg.put {p : Op} {v : Value} (h : OpAt ops i p (some (i + c)) g) (hw : Wants ops a g) (hW : W w) (hs : i + c < a.tmps.size)
    (hr : ∀ o : Oper, o.op = p → (execOp a.eval o).run P w = .ok (.value v) w) : Seg P ops i (i + 1) (Val W (i + c) (i + c) v a) a w :=
  Seg.value h hw hr ⟨hW, Low.put _ (Nat.le_refl _), put_same _ hs⟩

def Fld (P : Program) (S : TypeId) (x : Value) (f : Nat) (y : Value) : Prop := ∀ w, (Instr.fieldAt S x f).run P w = .ok y w
def Ld (P : Program) (W : World → Prop) (t : TypeId) (y v : Value) : Prop := ∀ w, W w → (Instr.loadAt t y).run P w = .ok v w
def Eqv (P : Program) (t : TypeId) (u v : Value) (r : Bool) : Prop := ∀ (w : World) (x y : Operand), (do eqGuard .eql t x y u v; binOp .eql t u v : Sem Value).run P w = .ok (.bool r) w
theorem run_fld {o : Oper} {S : TypeId} {x f : Nat} {u y : Value} (ho : o.op = .fieldAddr S (.tmp x) f) (hx : a.tmps[x]? = some u) (h : Fld P S u f y) : (execOp a.eval o).run P w = .ok (.value y) w := by
  simp [execOp, ho, eval_tmp hx, h w]
theorem run_ld {o : Oper} {t : TypeId} {x : Nat} {u y : Value} (ho : o.op = .load t (.tmp x)) (hx : a.tmps[x]? = some u) (hW : W w) (h : Ld P W t u y) : (execOp a.eval o).run P w = .ok (.value y) w := by
  simp [execOp, ho, eval_tmp hx, h w hW]
theorem run_eqv {o : Oper} {t : TypeId} {x y : Nat} {u v : Value} {r : Bool} (ho : o.op = .binOp .eql t (.tmp x) (.tmp y) t) (hx : a.tmps[x]? = some u) (hy : a.tmps[y]? = some v) (h : Eqv P t u v r) : (execOp a.eval o).run P w = .ok (.value (.bool r)) w := by
  have e : execOp a.eval o = (do let z ← (do eqGuard .eql t (.tmp x) (.tmp y) u v; binOp .eql t u v : Sem Value); pure (.value z)) := by
    simp only [execOp, ho, eval_tmp hx, eval_tmp hy]
  rw [e, Sem.run_bind, h w (.tmp x) (.tmp y)]
  rfl
theorem Low.cut {n m : Nat} {a a' : Act} (h : Low n a a') (hm : m ≤ n) : Low m a a' := ⟨h.1, h.2.1, fun i hi => h.2.2 i (by omega)⟩
/-- A field's load. -/
theorem Seg.ld1 {S t : TypeId} {x f : Nat} {pa pf u : Value} (h0 : OpAt ops i (.fieldAddr S (.tmp x) f) (some (i + c)) g) (h1 : OpAt ops (i + 1) (.load t (.tmp (i + c))) (some (i + 1 + c)) g)
    (hx : a.tmps[x]? = some pa) (hf : Fld P S pa f pf) (hl : Ld P W t pf u) (hw : Wants ops a g) (hg : Grd ops g (i + c)) (hW : W w) (hs : i + 1 + c < a.tmps.size) : Seg P ops i (i + 2) (Val W (i + c) (i + 1 + c) u a) a w := by
  refine Seg.trans (Seg.put h0 hw hW (by omega) fun o ho => run_fld ho hx hf) ?_
  rintro a1 w1 ⟨hW1, hl1, hv1⟩
  refine Seg.mono (Seg.put h1 (hw.low hg hl1) hW1 (by rw [hl1.1]; omega) fun o ho => run_ld ho hv1 hW1 hl) ?_
  rintro a2 w2 ⟨hW2, hl2, hv2⟩
  exact ⟨hW2, hl1.trans hl2 (by omega), hv2⟩
theorem Seg.ld2 {S S' t : TypeId} {x f f' : Nat} {pa pf pf' u : Value} (h0 : OpAt ops i (.fieldAddr S (.tmp x) f) (some (i + c)) g) (h1 : OpAt ops (i + 1) (.fieldAddr S' (.tmp (i + c)) f') (some (i + 1 + c)) g) (h2 : OpAt ops (i + 2) (.load t (.tmp (i + 1 + c))) (some (i + 2 + c)) g)
    (hx : a.tmps[x]? = some pa) (hf : Fld P S pa f pf) (hf' : Fld P S' pf f' pf') (hl : Ld P W t pf' u) (hw : Wants ops a g) (hg : Grd ops g (i + c)) (hW : W w) (hs : i + 2 + c < a.tmps.size) : Seg P ops i (i + 3) (Val W (i + c) (i + 2 + c) u a) a w := by
  refine Seg.trans (Seg.put h0 hw hW (by omega) fun o ho => run_fld ho hx hf) ?_
  rintro a1 w1 ⟨hW1, hl1, hv1⟩
  refine Seg.mono (Seg.ld1 h1 h2 hv1 hf' hl (hw.low hg hl1) (hg.mono (by omega)) hW1 (by rw [hl1.1]; omega)) ?_
  rintro a2 w2 ⟨hW2, hl2, hv2⟩
  exact ⟨hW2, hl1.trans hl2 (by omega), hv2⟩
/-- Two segments that make values, then one that takes them. -/
theorem Seg.two {j k l l' t t' n m q : Nat} {u v r : Value} (h0 : Seg P ops i j (Val W n t u a) a w) (h1 : ∀ a' w', W w' → Low n a a' → Seg P ops j k (Val W m t' v a') a' w') (hn : n ≤ m) (ht : t < m)
    (h2 : ∀ a' w', W w' → Low n a a' → a'.tmps[t]? = some u → a'.tmps[t']? = some v → Seg P ops k l (Val W q l' r a') a' w') (hq : n ≤ q) : Seg P ops i l (Val W n l' r a) a w := by
  refine Seg.trans h0 ?_
  rintro a1 w1 ⟨hW1, hl1, hv1⟩
  refine Seg.trans (h1 a1 w1 hW1 hl1) ?_
  rintro a2 w2 ⟨hW2, hl2, hv2⟩
  have hl3 := hl1.trans hl2 hn
  refine Seg.mono (h2 a2 w2 hW2 hl3 (by rw [hl2.2.2 t ht]; exact hv1) hv2) ?_
  rintro a3 w3 ⟨hW3, hl4, hv4⟩
  exact ⟨hW3, hl3.trans hl4 hq, hv4⟩
/-- A conjunct: what waits for the ones ahead of it, and the pick. -/
theorem Seg.conj {G T k : Nat} {b r : Bool} (hd : (ops[G]?).bind (·.dst) = some T) (hT : T < i + c) (hG : GuardedB ops G c i (k + 1) = true)
    (hp : OpAt ops (i + (k + 1)) (.pick (.tmp T) (.tmp (i + k + c)) (.const (.bool false))) (some (i + (k + 1) + c)) none) (hb : a.tmps[T]? = some (.bool b)) (hW : W w) (hs : i + (k + 1) + c < a.tmps.size)
    (ht : Wants ops a (some (G, true)) → Seg P ops i (i + (k + 1)) (Val W (i + c) (i + k + c) (.bool r) a) a w) :
    Seg P ops i (i + (k + 1) + 1) (Val W (i + c) (i + (k + 1) + c) (.bool (b && r)) a) a w := by
  cases b with
  | false =>
    refine Seg.trans (Seg.skips hd (k + 1) i a hT hG hb) ?_
    rintro a1 w1 ⟨rfl, hl1⟩
    refine Seg.mono (Seg.put (v := .bool false) hp trivial hW (by rw [hl1.1]; exact hs) fun o ho => ?_) ?_
    · have : a1.eval (.tmp T) = .bool false := eval_tmp (by rw [hl1.2.2 T hT]; exact hb)
      have e2 : a1.eval (.const (.bool false)) = .bool false := rfl
      simp [execOp, ho, this, asBool, e2]
    · rintro a2 w2 ⟨hW2, hl2, hv2⟩
      exact ⟨hW2, hl1.trans hl2 (by omega), hv2⟩
  | true =>
    have hw : Wants ops a (some (G, true)) := by
      show yielded ops a.tmps G = some true
      unfold yielded
      rw [hd]
      simp only [Option.bind_some]
      rw [hb]
    refine Seg.trans (ht hw) ?_
    rintro a1 w1 ⟨hW1, hl1, hv1⟩
    refine Seg.mono (Seg.put (v := .bool r) hp trivial hW1 (by rw [hl1.1]; exact hs) fun o ho => ?_) ?_
    · have h1 : a1.eval (.tmp T) = .bool true := eval_tmp (by rw [hl1.2.2 T hT]; exact hb)
      have h2 : a1.eval (.tmp (i + k + c)) = .bool r := eval_tmp hv1
      simp [execOp, ho, h1, h2, asBool]
    · rintro a2 w2 ⟨hW2, hl2, hv2⟩
      exact ⟨hW2, hl1.trans hl2 (by omega), by rw [hv2]; simp⟩
theorem Seg.move {x : Nat} {v : Value} (h : OpAt ops i (.move (.tmp x)) (some (i + c)) none) (hx : a.tmps[x]? = some v) (hW : W w) (hs : i + c < a.tmps.size) : Seg P ops i (i + 1) (Val W (i + c) (i + c) v a) a w :=
  Seg.put h trivial hW hs fun o ho => by simp [execOp, ho, eval_tmp hx]
/-- Two fields are loaded, and held against each other. -/
structure Cmp1 (ops : Array Oper) (i c : Nat) (g : Option (Nat × Bool)) (S t : TypeId) (x y f : Nat) : Prop where
  h0 : OpAt ops i (.fieldAddr S (.tmp x) f) (some (i + c)) g
  h1 : OpAt ops (i + 1) (.load t (.tmp (i + c))) (some (i + 1 + c)) g
  h2 : OpAt ops (i + 2) (.fieldAddr S (.tmp y) f) (some (i + 2 + c)) g
  h3 : OpAt ops (i + 2 + 1) (.load t (.tmp (i + 2 + c))) (some (i + 2 + 1 + c)) g
theorem Seg.cmp1 {S t : TypeId} {x y f : Nat} {pa pb qa qb u v r : Value} (h : Cmp1 ops i c g S t x y f) (hx : a.tmps[x]? = some pa) (hy : a.tmps[y]? = some pb) (hxc : y < i + c) (fa : Fld P S pa f qa) (fb : Fld P S pb f qb) (la : Ld P W t qa u) (lb : Ld P W t qb v)
    (hw : Wants ops a g) (hg : Grd ops g (i + c)) (hW : W w) (hs : i + 4 + c < a.tmps.size)
    (hf : ∀ a' w', W w' → Wants ops a' g → a'.tmps.size = a.tmps.size → a'.tmps[i + 1 + c]? = some u → a'.tmps[i + 2 + 1 + c]? = some v → Seg P ops (i + 4) (i + 4 + 1) (Val W (i + 4 + c) (i + 4 + c) r a') a' w') :
    Seg P ops i (i + 4 + 1) (Val W (i + c) (i + 4 + c) r a) a w := by
  refine Seg.two (m := i + 2 + c) (q := i + 4 + c) (Seg.ld1 h.h0 h.h1 hx fa la hw hg hW (by omega)) (fun a' w' hW' hl => Seg.ld1 h.h2 h.h3 (by rw [hl.2.2 y hxc]; exact hy) fb lb (hw.low hg hl) (hg.mono (by omega)) hW' (by rw [hl.1]; omega)) (by omega) (by omega) (fun a' w' hW' hl hu hv => ?_) (by omega)
  exact hf a' w' hW' (hw.low hg hl) hl.1 hu hv
structure Cmp2 (ops : Array Oper) (i c : Nat) (g : Option (Nat × Bool)) (S S' t : TypeId) (x y f f' : Nat) : Prop where
  h0 : OpAt ops i (.fieldAddr S (.tmp x) f) (some (i + c)) g
  h1 : OpAt ops (i + 1) (.fieldAddr S' (.tmp (i + c)) f') (some (i + 1 + c)) g
  h2 : OpAt ops (i + 2) (.load t (.tmp (i + 1 + c))) (some (i + 2 + c)) g
  h3 : OpAt ops (i + 3) (.fieldAddr S (.tmp y) f) (some (i + 3 + c)) g
  h4 : OpAt ops (i + 3 + 1) (.fieldAddr S' (.tmp (i + 3 + c)) f') (some (i + 3 + 1 + c)) g
  h5 : OpAt ops (i + 3 + 2) (.load t (.tmp (i + 3 + 1 + c))) (some (i + 3 + 2 + c)) g
theorem Seg.cmp2 {S S' t : TypeId} {x y f f' : Nat} {pa pb qa qb qa' qb' u v r : Value} (h : Cmp2 ops i c g S S' t x y f f') (hx : a.tmps[x]? = some pa) (hy : a.tmps[y]? = some pb) (hxc : y < i + c) (fa : Fld P S pa f qa) (fb : Fld P S pb f qb) (fa' : Fld P S' qa f' qa') (fb' : Fld P S' qb f' qb') (la : Ld P W t qa' u) (lb : Ld P W t qb' v)
    (hw : Wants ops a g) (hg : Grd ops g (i + c)) (hW : W w) (hs : i + 6 + c < a.tmps.size)
    (hf : ∀ a' w', W w' → Wants ops a' g → a'.tmps.size = a.tmps.size → a'.tmps[i + 2 + c]? = some u → a'.tmps[i + 3 + 2 + c]? = some v → Seg P ops (i + 6) (i + 6 + 1) (Val W (i + 6 + c) (i + 6 + c) r a') a' w') :
    Seg P ops i (i + 6 + 1) (Val W (i + c) (i + 6 + c) r a) a w := by
  refine Seg.two (m := i + 3 + c) (q := i + 6 + c) (Seg.ld2 h.h0 h.h1 h.h2 hx fa fa' la hw hg hW (by omega)) (fun a' w' hW' hl => Seg.ld2 h.h3 h.h4 h.h5 (by rw [hl.2.2 y hxc]; exact hy) fb fb' lb (hw.low hg hl) (hg.mono (by omega)) hW' (by rw [hl.1]; omega)) (by omega) (by omega) (fun a' w' hW' hl hu hv => ?_) (by omega)
  exact hf a' w' hW' (hw.low hg hl) hl.1 hu hv
theorem grd_of {G T n : Nat} (hd : (ops[G]?).bind (·.dst) = some T) (h : T < n) : Grd ops (some (G, true)) n := fun j b e => by
  simp only [Option.some.injEq, Prod.mk.injEq] at e
  rw [← e.1]; exact ⟨T, hd, h⟩
end
end Go.Proofs.YtkbmbcmcnpeabaaDoor

/- A region that does not draw, walked piece by piece over frames of which only some temporaries are known: for long rows of '&&'. No conditions. -/
import Derived.Calls
import Derived.WalkKit
namespace Go.Proofs.YtkbmbcmcnpeabaaDoor
open Go.RowKit

/-- From operation i to operation j: what is known there is C. -/
def Seg (P : Program) (ops : Array Oper) (i j : Nat) (C : Act → World → Prop) (a : Act) (w : World) : Prop :=
  ∀ Q : Exit → Act → World → Prop, (∀ a' w', C a' w' → wpOps P ops Q (List.range' j (ops.size - j)) a' w') → wpOps P ops Q (List.range' i (ops.size - i)) a w
section
variable {P : Program} {ops : Array Oper} {i j l : Nat} {C D : Act → World → Prop} {a : Act} {w : World}
theorem Seg.nil (h : C a w) : Seg P ops i i C a w := fun _ hQ => hQ _ _ h
theorem Seg.trans (h : Seg P ops i j C a w) (k : ∀ a' w', C a' w' → Seg P ops j l D a' w') : Seg P ops i l D a w := fun Q hQ => h Q fun a' w' hc => k a' w' hc Q hQ
theorem Seg.mono (h : Seg P ops i j C a w) (k : ∀ a' w', C a' w' → D a' w') : Seg P ops i j D a w := fun Q hQ => h Q fun a' w' hc => hQ a' w' (k a' w' hc)

/-- What is asked of an operation: its kind, where its value goes, what it waits for. -/
def OpAt (ops : Array Oper) (i : Nat) (p : Op) (d : Option Tmp) (g : Option (Nat × Bool)) : Prop := (ops[i]?).map (fun o => (o.op, o.dst, o.guard)) = some (p, d, g)
def Wants (ops : Array Oper) (a : Act) : Option (Nat × Bool) → Prop
  | none => True
  | some (j, b) => yielded ops a.tmps j = some b
theorem range_step {n : Nat} (h : i < n) : List.range' i (n - i) = i :: List.range' (i + 1) (n - (i + 1)) := by
  have e : n - i = (n - (i + 1)) + 1 := by omega
  rw [e, List.range'_succ]
theorem OpAt.get {p : Op} {d : Option Tmp} {g : Option (Nat × Bool)} (h : OpAt ops i p d g) : ∃ o, ops[i]? = some o ∧ o.op = p ∧ o.dst = d ∧ o.guard = g ∧ i < ops.size := by
  unfold OpAt at h
  cases ho : ops[i]? with
  | none => rw [ho] at h; simp at h
  | some o =>
    rw [ho] at h
    simp only [Option.map_some, Option.some.injEq, Prod.mk.injEq] at h
    exact ⟨o, rfl, h.1, h.2.1, h.2.2, (Array.getElem?_eq_some_iff.1 ho).1⟩
theorem wants_wanted {o : Oper} {g : Option (Nat × Bool)} (hg : o.guard = g) (h : Wants ops a g) : Region.wanted o (yielded ops a.tmps) = true := by
  unfold Region.wanted
  rw [hg]
  match g, h with
  | none, _ => rfl
  | some (j, b), h => simp only []; rw [show yielded ops a.tmps j = some b from h]; simp

theorem Seg.value {p : Op} {d : Option Tmp} {g : Option (Nat × Bool)} {v : Value} {w' : World} (h : OpAt ops i p d g) (hw : Wants ops a g)
    (hr : ∀ o : Oper, o.op = p → (execOp a.eval o).run P w = .ok (.value v) w') (hc : C (a.put d v) w') : Seg P ops i (i + 1) C a w := by
  obtain ⟨o, ho, hp, hd, hg, hi⟩ := h.get
  intro Q hQ
  rw [range_step hi]
  unfold wpOps
  simp only [ho]
  rw [if_pos (wants_wanted hg hw)]
  refine .inl ?_
  unfold Oper.wp
  rw [hr o hp]
  show wpOps P ops Q _ (a.put o.dst v) w'
  rw [hd]
  exact hQ _ _ hc
theorem Seg.unwanted {p : Op} {d : Option Tmp} {k : Nat} {b : Bool} (h : OpAt ops i p d (some (k, b))) (hw : yielded ops a.tmps k = some (!b)) (hc : C (a.put d undef) w) : Seg P ops i (i + 1) C a w := by
  obtain ⟨o, ho, hp, hd, hg, hi⟩ := h.get
  intro Q hQ
  rw [range_step hi]
  unfold wpOps
  simp only [ho]
  have : Region.wanted o (yielded ops a.tmps) = false := by
    unfold Region.wanted
    rw [hg]
    simp only []
    rw [hw]
    cases b <;> rfl
  rw [if_neg (by rw [this]; decide), hd]
  exact hQ _ _ hc
theorem Seg.call {p : Op} {d : Option Tmp} {g : Option (Nat × Bool)} {f : FuncId} {args : Array Value} (h : OpAt ops i p d g) (hw : Wants ops a g)
    (hr : ∀ o : Oper, ops[i]? = some o → o.op = p → (execOp a.eval o).run P w = .ok (.enter f args) w) (hc : Calls P f args w fun e w' => ∃ v, e = .returned v ∧ C (a.put d v) w') : Seg P ops i (i + 1) C a w := by
  obtain ⟨o, ho, hp, hd, hg, hi⟩ := h.get
  intro Q hQ
  rw [range_step hi]
  unfold wpOps
  simp only [ho]
  rw [if_pos (wants_wanted hg hw)]
  refine .inl ?_
  unfold Oper.wp
  rw [hr o ho hp]
  show Calls P f args w _
  refine hc.mono ?_
  rintro e w' ⟨v, rfl, hv⟩
  show wpOps P ops Q _ (a.put o.dst v) w'
  rw [hd]
  exact hQ _ _ hv
/-- All of i .. j wait for something that is not so. -/
def Low (n : Nat) (a a' : Act) : Prop := a'.tmps.size = a.tmps.size ∧ a'.defers = a.defers ∧ ∀ i, i < n → a'.tmps[i]? = a.tmps[i]?
theorem Low.refl (n : Nat) (a : Act) : Low n a a := ⟨rfl, rfl, fun _ _ => rfl⟩
theorem Low.trans {n m : Nat} {a b c : Act} (h : Low n a b) (k : Low m b c) (hm : n ≤ m) : Low n a c := ⟨k.1.trans h.1, k.2.1.trans h.2.1, fun i hi => (k.2.2 i (by omega)).trans (h.2.2 i hi)⟩
theorem Low.put {n : Nat} {a : Act} {d : Nat} (v : Value) (h : n ≤ d) : Low n a (a.put (some d) v) :=
  ⟨by simp [Act.put], rfl, fun i hi => by simp only [Act.put]; rw [Array.getElem?_setIfInBounds_ne (by omega)]⟩
theorem put_same {a : Act} {d : Nat} (v : Value) (h : d < a.tmps.size) : (a.put (some d) v).tmps[d]? = some v := by
  simp only [Act.put]; rw [Array.getElem?_setIfInBounds_self_of_lt h]
/-- Operation k's value goes to temporary k + c; all of i .. j wait for g's being true. -/
def GuardedB (ops : Array Oper) (g c i n : Nat) : Bool := (List.range' i n).all fun k => (ops[k]?).map (fun o => (o.dst, o.guard)) == some (some (k + c), some (g, true))
theorem Seg.skips {g c T : Nat} (hd : (ops[g]?).bind (·.dst) = some T) : ∀ (n i : Nat) (a : Act), T < i + c → GuardedB ops g c i n = true → a.tmps[T]? = some (.bool false) →
    Seg P ops i (i + n) (fun a' w' => w' = w ∧ Low (i + c) a a') a w := by
  intro n
  induction n with
  | zero => intro i a _ _ _; exact Seg.nil ⟨rfl, Low.refl _ _⟩
  | succ n ih =>
    intro i a hT hG hb
    unfold GuardedB at hG
    rw [List.range'_succ, List.all_cons, Bool.and_eq_true] at hG
    obtain ⟨h0, h1⟩ := hG
    have h0' := eq_of_beq h0
    have hO : ∃ p, OpAt ops i p (some (i + c)) (some (g, true)) := by
      unfold OpAt
      cases ho : ops[i]? with
      | none => rw [ho] at h0'; simp at h0'
      | some o =>
        rw [ho] at h0'
        simp only [Option.map_some, Option.some.injEq, Prod.mk.injEq] at h0'
        exact ⟨o.op, by simp [h0'.1, h0'.2]⟩
    obtain ⟨p, hO⟩ := hO
    have hy : yielded ops a.tmps g = some (!true) := by
      unfold yielded
      rw [hd]
      simp only [Option.bind_some]
      rw [hb]
      rfl
    refine Seg.trans (C := fun a' w' => w' = w ∧ Low (i + c) a a') (Seg.unwanted hO hy ⟨rfl, Low.put _ (Nat.le_refl _)⟩) ?_
    rintro a' w' ⟨rfl, hl⟩
    have := ih (i + 1) a' (by omega) h1 (by rw [hl.2.2 T hT]; exact hb)
    rw [show i + (n + 1) = i + 1 + n by omega]
    exact this.mono fun a'' w'' ⟨e, hl'⟩ => ⟨e, hl.trans hl' (by omega)⟩
end
end Go.Proofs.YtkbmbcmcnpeabaaDoor

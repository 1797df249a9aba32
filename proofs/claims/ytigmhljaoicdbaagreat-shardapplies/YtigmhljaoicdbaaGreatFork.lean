/- A region that draws its order: quiet operations, then two of which either may come first (a call and the making of a variable, say), and behind each of the two its own walk: these two walks serve every order. No conditions. -/
import Derived.Test.YtigmhljaoicdbaaGreatGShMath
namespace Go.Proofs.YtigmhljaoicdbaaGreat
section
variable {P : Program} {ops : Array Oper} {md : Region.Mode} {S : World → Prop}
def forkZ (md : Region.Mode) (ops : Array Oper) (i j : Nat) (ZA ZB : List (Bool × Nat × Oper)) : List (Nat × Oper) → Array Bool → Bool
  | [], listed => (Region.ready md ops listed == [i, j]) && seqZ md ops ZA (listed.setIfInBounds i true) && seqZ md ops ZB (listed.setIfInBounds j true)
  | z :: Z, listed => (Region.ready md ops listed).contains z.1 && freeB md ops listed z.1 z.2 && forkZ md ops i j ZA ZB Z (listed.setIfInBounds z.1 true)
/-- One that turns the world, and what is walked behind it. -/
def turnM (P : Program) (md : Region.Mode) (ops : Array Oper) (S : World → Prop) (K : Act → World → Prop) (i : Nat) (o : Oper) (Z : List (Bool × Nat × Oper)) (a : Act) (w : World) : Prop :=
  Region.wanted o (yielded ops a.tmps) = true ∧ goes P o a w (fun a' w' => (needB md ops i = true → S w') ∧ seqM P md ops S K Z a' w')
theorem wpS_fork {K : Act → World → Prop} {Q : Act → Prop} {i j : Nat} {oi oj : Oper} {ZA ZB : List (Bool × Nat × Oper)} {w : World} (hs : Region.noSelect ops = true) (hi : ops[i]? = some oi) (hj : ops[j]? = some oj)
    (hzA : ∀ z ∈ ZA, ops[z.2.1]? = some z.2.2) (hzB : ∀ z ∈ ZB, ops[z.2.1]? = some z.2.2) (hl : ZB.length = ZA.length) (hS : S w)
    (hA : ∀ a, Q a → turnM P md ops S K i oi ZA a w) (hB : ∀ a, Q a → turnM P md ops S K j oj ZB a w) :
    ∀ (Z : List (Nat × Oper)) (listed : Array Bool) (a : Act), (∀ z ∈ Z, ops[z.1]? = some z.2) → forkZ md ops i j ZA ZB Z listed = true → allS P ops S Q (Z.map Prod.snd) a → wpS P md ops S K (Z.length + (ZA.length + 1)) listed a w
  | [], listed, a, _, hf, h => by
    simp only [forkZ, Bool.and_eq_true, beq_iff_eq] at hf
    obtain ⟨⟨hr, h1⟩, h2⟩ := hf
    rw [List.length_nil, Nat.zero_add]
    refine ⟨fun h0 => (by rw [hr] at h0; cases h0), fun k hk => ?_⟩
    rw [hr] at hk
    rcases List.mem_cons.1 hk with rfl | hk
    · obtain ⟨hw, hg⟩ := hA a h
      unfold sOp
      simp only [hi]
      rw [if_pos hw]
      exact goes_mono (fun a' w' ⟨k1, k2⟩ => ⟨k1, wpS_seq hs ZA _ a' w' hzA h1 k2⟩) hg
    · rw [List.mem_singleton] at hk
      subst hk
      obtain ⟨hw, hg⟩ := hB a h
      unfold sOp
      simp only [hj]
      rw [if_pos hw]
      exact goes_mono (fun a' w' ⟨k1, k2⟩ => ⟨k1, by rw [← hl]; exact wpS_seq hs ZB _ a' w' hzB h2 k2⟩) hg
  | z :: Z, listed, a, hz, hf, h => by
    simp only [forkZ, Bool.and_eq_true] at hf
    obtain ⟨⟨hr, hfr⟩, hf'⟩ := hf
    obtain ⟨v, hy, hK⟩ := h
    have e : (z :: Z).length + (ZA.length + 1) = (Z.length + (ZA.length + 1)) + 1 := by rw [List.length_cons]; omega
    rw [e]
    exact wpS_first (hz z List.mem_cons_self) (Region.noSelect_spec hs) _ listed a w (free_of hfr) (by simpa using hr) hy hS
      (wpS_fork hs hi hj hzA hzB hl hS hA hB Z _ _ (fun y hy => hz y (List.mem_cons_of_mem _ hy)) hf' hK)
/-- The steps behind, with their numbers: true: one that yields; false: one that turns the world. -/
def stepsZ (os : List Oper) (t : List (Bool × Nat)) : List (Bool × Nat × Oper) := t.map fun x => (x.1, x.2, os.getD x.2 default)
def forkB (os : List Oper) (m1 : List Bool) (i j : Nat) (ta tb : List (Bool × Nat)) : Bool :=
  Region.noSelect os.toArray && decide ((pickZ m1 os 0).length + (ta.length + 1) = os.length) && decide (tb.length = ta.length) && (os[i]?).isSome && (os[j]?).isSome && ta.all (fun x => (os[x.2]?).isSome) && tb.all (fun x => (os[x.2]?).isSome) &&
    forkZ .any os.toArray i j (stepsZ os ta) (stepsZ os tb) (pickZ m1 os 0) (Array.replicate os.length false)
theorem wp_region_fork {S : World → Prop} {os : List Oper} {id : Nat} {Q : Exit → Act → World → Prop} {a : Act} {w : World} (m1 : List Bool) (i j : Nat) (ta tb : List (Bool × Nat)) (hm : P.follows .mixedOrders = true) (hB : forkB os m1 i j ta tb = true) (hA : apartB (pickM m1 os) a.tmps.size = true) (hS : S w.drew)
    (h : ∃ A, (∀ p : SW S, wpQuiet P os.toArray (fun w' => ∃ q : SK S p.w, w' = q.s.w) (fun a' => a' = A) (pickM m1 os) a) ∧
      turnM P .any os.toArray S (fun a' w' => Q .normal a' w') i (os.getD i default) (stepsZ os ta) A w.drew ∧
      turnM P .any os.toArray S (fun a' w' => Q .normal a' w') j (os.getD j default) (stepsZ os tb) A w.drew) : (Code.region id os.toArray true).wp P Q a w := by
  obtain ⟨A, hq, hc, hd⟩ := h
  simp only [forkB, Bool.and_eq_true, decide_eq_true_eq, List.all_eq_true] at hB
  obtain ⟨⟨⟨⟨⟨⟨⟨hs, hlen⟩, hl⟩, hi⟩, hj⟩, hta⟩, htb⟩, hZ⟩ := hB
  have hz : ∀ m, ∀ z ∈ pickZ m os 0, os.toArray[z.1]? = some z.2 := fun m z hz => by
    rw [List.getElem?_toArray]; simpa using (pickZ_mem m os 0 z hz).2
  have some_ : ∀ k, (os[k]?).isSome = true → os.toArray[k]? = some (os.getD k default) := fun k hk => by
    rw [List.getElem?_toArray]
    obtain ⟨o, ho⟩ := Option.isSome_iff_exists.1 hk
    simp [ho]
  have steps : ∀ t : List (Bool × Nat), (∀ x ∈ t, (os[x.2]?).isSome = true) → ∀ z ∈ stepsZ os t, os.toArray[z.2.1]? = some z.2.2 := fun t ht z hzm => by
    obtain ⟨x, hx, rfl⟩ := List.mem_map.1 hzm
    exact some_ _ (ht x hx)
  refine wp_region_any hm (wpAny_of_S (S := S) (K := fun a' w' => Q .normal a' w') (fun _ _ h => h) _ _ _ _ ?_)
  have key := wpS_fork (md := .any) (S := S) (K := fun a' w' => Q .normal a' w') (Q := fun a' => a' = A) (P := P) (w := w.drew) hs (some_ i hi) (some_ j hj) (steps ta hta) (steps tb htb) (by simpa [stepsZ] using hl) hS
    (fun a' ha => by rw [show a' = A from ha]; exact hc) (fun a' ha => by rw [show a' = A from ha]; exact hd)
    (pickZ m1 os 0) (Array.replicate os.length false) a (hz m1) hZ (by rw [pickZ_snd]; exact allS_of ⟨_, hS⟩ _ _ hA hq)
  have hl2 : (stepsZ os ta).length = ta.length := by simp [stepsZ]
  rw [hl2, hlen] at key
  simpa using key
/-- The steps: one that yields, whatever the world is. -/
theorem seqM_pure {K : Act → World → Prop} {j : Nat} {o : Oper} {l : List (Bool × Nat × Oper)} {a : Act} {w : World} (v : Value) (hw : Region.wanted o (yielded ops a.tmps) = true) (hr : ∀ w, (execOp a.eval o).run P w = .ok (.value v) w) (hS : S w)
    (h : seqM P md ops S K l (a.put o.dst v) w) : seqM P md ops S K ((true, j, o) :: l) a w :=
  ⟨hS, v, .inl ⟨hw, fun w _ => by unfold Oper.quietAt; rw [hr w]; exact ⟨rfl, rfl⟩⟩, h⟩
/-- .. one that turns the world, and yields a value. -/
theorem seqM_step {K : Act → World → Prop} {j : Nat} {o : Oper} {l : List (Bool × Nat × Oper)} {a : Act} {w : World} (v : Value) (w' : World) (hw : Region.wanted o (yielded ops a.tmps) = true) (hr : (execOp a.eval o).run P w = .ok (.value v) w') (hS : S w')
    (h : seqM P md ops S K l (a.put o.dst v) w') : seqM P md ops S K ((false, j, o) :: l) a w := by
  refine ⟨hw, ?_⟩
  unfold goes
  rw [hr]
  exact ⟨fun _ => hS, h⟩
/-- .. none. -/
theorem seqM_skip {K : Act → World → Prop} {j : Nat} {o : Oper} {l : List (Bool × Nat × Oper)} {a : Act} {w : World} (w' : World) (hw : Region.wanted o (yielded ops a.tmps) = true) (hr : (execOp a.eval o).run P w = .ok .skip w') (hS : S w')
    (h : seqM P md ops S K l (a.put o.dst undef) w') : seqM P md ops S K ((false, j, o) :: l) a w := by
  refine ⟨hw, ?_⟩
  unfold goes
  rw [hr]
  exact ⟨fun _ => hS, h⟩
/-- .. a call. -/
theorem seqM_call {K : Act → World → Prop} {j : Nat} {o : Oper} {l : List (Bool × Nat × Oper)} {a : Act} {w : World} (f : FuncId) (args : Array Value) (hw : Region.wanted o (yielded ops a.tmps) = true) (hr : (execOp a.eval o).run P w = .ok (.enter f args) w)
    (h : Calls P f args w fun e w' => ∃ v, e = .returned v ∧ S w' ∧ seqM P md ops S K l (a.put o.dst v) w') : seqM P md ops S K ((false, j, o) :: l) a w := by
  refine ⟨hw, ?_⟩
  unfold goes
  rw [hr]
  exact h.mono fun e w' ⟨v, he, hS, hc⟩ => ⟨v, he, fun _ => hS, hc⟩
/-- The two that may come first. -/
theorem turnM_step {K : Act → World → Prop} {j : Nat} {o : Oper} {l : List (Bool × Nat × Oper)} {a : Act} {w : World} (v : Value) (w' : World) (hw : Region.wanted o (yielded ops a.tmps) = true) (hr : (execOp a.eval o).run P w = .ok (.value v) w') (hS : S w')
    (h : seqM P md ops S K l (a.put o.dst v) w') : turnM P md ops S K j o l a w := by
  refine ⟨hw, ?_⟩
  unfold goes
  rw [hr]
  exact ⟨fun _ => hS, h⟩
theorem turnM_call {K : Act → World → Prop} {j : Nat} {o : Oper} {l : List (Bool × Nat × Oper)} {a : Act} {w : World} (f : FuncId) (args : Array Value) (hw : Region.wanted o (yielded ops a.tmps) = true) (hr : (execOp a.eval o).run P w = .ok (.enter f args) w)
    (h : Calls P f args w fun e w' => ∃ v, e = .returned v ∧ S w' ∧ seqM P md ops S K l (a.put o.dst v) w') : turnM P md ops S K j o l a w := by
  refine ⟨hw, ?_⟩
  unfold goes
  rw [hr]
  exact h.mono fun e w' ⟨v, he, hS, hc⟩ => ⟨v, he, fun _ => hS, hc⟩
/-- .. one that is not wanted. -/
theorem seqM_off {K : Act → World → Prop} {j : Nat} {o : Oper} {l : List (Bool × Nat × Oper)} {a : Act} {w : World} (hw : Region.wanted o (yielded ops a.tmps) = false) (hS : S w)
    (h : seqM P md ops S K l (a.put o.dst undef) w) : seqM P md ops S K ((true, j, o) :: l) a w := ⟨hS, undef, .inr ⟨hw, rfl⟩, h⟩
/-- .. one that yields in every world of which S holds. -/
theorem seqM_in {K : Act → World → Prop} {j : Nat} {o : Oper} {l : List (Bool × Nat × Oper)} {a : Act} {w : World} (v : Value) (hw : Region.wanted o (yielded ops a.tmps) = true) (hr : ∀ w, S w → (execOp a.eval o).run P w = .ok (.value v) w) (hS : S w)
    (h : seqM P md ops S K l (a.put o.dst v) w) : seqM P md ops S K ((true, j, o) :: l) a w :=
  ⟨hS, v, .inl ⟨hw, fun w hw' => by unfold Oper.quietAt; rw [hr w hw']; exact ⟨rfl, rfl⟩⟩, h⟩
/-- May the whole region be walked in this order? -/
def stepsB (os : List Oper) (t : List (Bool × Nat)) : Bool :=
  Region.noSelect os.toArray && decide (t.length = os.length) && t.all (fun x => (os[x.2]?).isSome) && seqZ .any os.toArray (stepsZ os t) (Array.replicate os.length false)
theorem wp_region_steps {S : World → Prop} {os : List Oper} {id : Nat} {Q : Exit → Act → World → Prop} {a : Act} {w : World} (t : List (Bool × Nat)) (hm : P.follows .mixedOrders = true) (hB : stepsB os t = true)
    (h : seqM P .any os.toArray S (fun a' w' => Q .normal a' w') (stepsZ os t) a w.drew) : (Code.region id os.toArray true).wp P Q a w := by
  simp only [stepsB, Bool.and_eq_true, decide_eq_true_eq, List.all_eq_true] at hB
  obtain ⟨⟨⟨hs, hlen⟩, hin⟩, hZ⟩ := hB
  refine wp_region_any hm (wpAny_of_S (S := S) (K := fun a' w' => Q .normal a' w') (fun _ _ h => h) _ _ _ _ ?_)
  have hall : ∀ z ∈ stepsZ os t, os.toArray[z.2.1]? = some z.2.2 := fun z hzm => by
    obtain ⟨x, hx, rfl⟩ := List.mem_map.1 hzm
    have := hin x hx
    rw [List.getElem?_toArray]
    obtain ⟨o, ho⟩ := Option.isSome_iff_exists.1 this
    simp [ho]
  have key := wpS_seq (md := .any) (S := S) (K := fun a' w' => Q .normal a' w') (P := P) hs (stepsZ os t) (Array.replicate os.length false) a w.drew hall hZ h
  have hl : (stepsZ os t).length = os.length := by simp [stepsZ, hlen]
  rw [hl] at key
  simpa using key
end
end Go.Proofs.YtigmhljaoicdbaaGreat

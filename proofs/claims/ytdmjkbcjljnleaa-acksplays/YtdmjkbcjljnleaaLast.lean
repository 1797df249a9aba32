/- A region that draws its order, whose last operation waits for all others, and whose other operations yield one value each in every world of a class: one walk of the lexical order serves every order; the last operation may write. No conditions. -/
import Derived.Deep.Quiet
import Derived.Deep.MidRow
namespace Go.Proofs.Ytdmjkbcjljnleaa

section
variable {P : Program} {ops : Array Oper} {md : Region.Mode} {C : World → Prop} {i0 : Nat} {o0 : Oper}

/-- Whatever order is picked from here on, the last operation not yet carried out: where it comes up R holds, and it is the last one. -/
def wpLast (P : Program) (md : Region.Mode) (ops : Array Oper) (C : World → Prop) (i0 : Nat) (R : Act → Prop) : Nat → Array Bool → Act → Prop
  | 0, _, _ => False
  | fuel + 1, listed, a => Region.ready md ops listed ≠ [] ∧ ∀ i ∈ Region.ready md ops listed,
      (i = i0 → R a ∧ Region.ready md ops (listed.setIfInBounds i0 true) = []) ∧
      (i ≠ i0 → qOp P ops C i (wpLast P md ops C i0 R fuel (listed.setIfInBounds i true)) a)

theorem wpAny_of_last {R : Act → Prop} {Q' : Exit → Act → World → Prop} (hR : ∀ a w, C w → R a → wpOp P ops Q' i0 (Q' .normal) a w) : ∀ (fuel : Nat) (listed : Array Bool) (a : Act) (w : World), C w →
    wpLast P md ops C i0 R fuel listed a → wpAny P md ops Q' fuel listed a w
  | 0, _, _, _, _, h => h.elim
  | fuel + 1, listed, a, w, hw, h => by
    refine ⟨fun he => absurd he h.1, fun i hi => ?_⟩
    by_cases e : i = i0
    · subst e
      obtain ⟨hr, hend⟩ := (h.2 i hi).1 rfl
      refine wpOp_mono (fun a' w' hq => ?_) (hR a w hw hr)
      cases fuel with
      | zero => exact ⟨hend, hq⟩
      | succ fuel => exact ⟨fun _ => hq, fun j hj => by rw [hend] at hj; cases hj⟩
    · exact wpOp_of_qOp hw (fun a' w' hw' => wpAny_of_last hR fuel _ a' w' hw') ((h.2 i hi).2 e)

theorem wpLast_first {R : Act → Prop} {i : Nat} {oi : Oper} {v : Value} (h0 : ops[i0]? = some o0) (hi : ops[i]? = some oi) (hsel : ∀ (j : Nat) (o : Oper) cs b, ops[j]? = some o → o.op ≠ .select cs b) (hdep : ∃ e ∈ o0.after, Region.binds md e = true ∧ e.on = i) :
    ∀ (fuel : Nat) (listed : Array Bool) (a : Act),
      (∀ j oj, ops[j]? = some oj → j ≠ i → listed.getD j true = false → (∀ e ∈ oj.after, Region.binds md e = true → e.on ≠ i) → oi.apart ops oj = true) →
      i ∈ Region.ready md ops listed → YieldsIn P ops C oi v a →
      wpLast P md ops C i0 R fuel (listed.setIfInBounds i true) (a.put oi.dst v) → wpLast P md ops C i0 R (fuel + 1) listed a := by
  intro fuel
  induction fuel with
  | zero => intro listed a _ _ _ H; exact H.elim
  | succ fuel ih =>
    intro listed a hfree hr hy H
    refine ⟨fun h => (by rw [h] at hr; cases hr), fun j hj => ⟨fun e => ?_, fun e => ?_⟩⟩
    · exfalso
      subst e
      obtain ⟨_, oj, hoj, hall⟩ := mem_ready.1 hj
      obtain rfl : oj = o0 := Option.some.inj (hoj.symm.trans h0)
      obtain ⟨e, he, hb, rfl⟩ := hdep
      have h1 := hall e he hb
      have h2 := (mem_ready.1 hr).1
      rcases Nat.lt_or_ge e.on listed.size with h' | h'
      · simp [h'] at h1 h2; rw [h2] at h1; cases h1
      · simp [Array.getElem?_eq_none h'] at h1
    · by_cases hji : j = i
      · subst hji
        exact hy.qOp hi (by simpa using H)
      · have h1 := (H.2 j (ready_mono hj hji)).2 e
        obtain ⟨hjun, oj, hoj, hall⟩ := mem_ready.1 hj
        have hnot : ∀ e ∈ oj.after, Region.binds md e = true → e.on ≠ i := fun e he hb heq => by
          have h1 := hall e he hb
          have h2 := (mem_ready.1 hr).1
          rw [heq] at h1
          rcases Nat.lt_or_ge i listed.size with h' | h'
          · simp [h'] at h1 h2; rw [h2] at h1; cases h1
          · simp [Array.getElem?_eq_none h'] at h1
        have hap := hfree j oj hoj hji hjun hnot
        obtain ⟨a1, a2, a3⟩ := Oper.apart_spec hap
        have hfree' : ∀ k ok, ops[k]? = some ok → k ≠ i → (listed.setIfInBounds j true).getD k true = false → (∀ e ∈ ok.after, Region.binds md e = true → e.on ≠ i) → oi.apart ops ok = true := fun k ok hk hki hun hno => by
          refine hfree k ok hk hki ?_ hno
          by_cases hjk : j = k
          · subst hjk; exact hjun
          · rw [getD_set_ne true hjk] at hun; exact hun
        have keep : ∀ (u : Value), YieldsIn P ops C oi v (a.put oj.dst u) := fun u =>
          hy.of_same (execOp_put oi (fun cs b => hsel i oi cs b hi) a oj.dst u a3) (wanted_put oi a oj.dst u a3)
        have step : ∀ u : Value, wpLast P md ops C i0 R fuel ((listed.setIfInBounds i true).setIfInBounds j true) ((a.put oi.dst v).put oj.dst u) → wpLast P md ops C i0 R (fuel + 1) (listed.setIfInBounds j true) (a.put oj.dst u) := fun u hn => by
          refine ih (listed.setIfInBounds j true) (a.put oj.dst u) hfree' (ready_mono hr (Ne.symm hji)) (keep u) ?_
          rw [Array.setIfInBounds_comm _ _ hji, ← Act.put_comm a v u a2]
          exact hn
        unfold qOp at h1 ⊢
        simp only [hoj] at h1 ⊢
        rw [wanted_put oj a oi.dst v a1] at h1
        split
        · rename_i hw
          simp only [hw, if_true] at h1
          obtain ⟨u, hu, hn⟩ := h1
          refine ⟨u, fun w hw' => ?_, step u hn⟩
          have := hu w hw'
          unfold Oper.quietAt at *
          rwa [execOp_put oj (fun cs b => hsel j oj cs b hoj) a oi.dst v a1] at this
        · rename_i hw
          simp only [hw] at h1
          exact step undef h1
def freeB (md : Region.Mode) (ops : Array Oper) (listed : Array Bool) (i : Nat) (oi : Oper) : Bool :=
  (List.range ops.size).all fun j => j == i || listed.getD j true || (match ops[j]? with
    | some oj => oj.after.any (fun e => Region.binds md e && e.on == i) || oi.apart ops oj
    | none => true)
theorem free_of {listed : Array Bool} {i : Nat} {oi : Oper} (h : freeB md ops listed i oi = true) :
    ∀ j oj, ops[j]? = some oj → j ≠ i → listed.getD j true = false → (∀ e ∈ oj.after, Region.binds md e = true → e.on ≠ i) → oi.apart ops oj = true := by
  intro j oj hj hne hun hno
  have hlt : j < ops.size := (Array.getElem?_eq_some_iff.1 hj).1
  have hb := List.all_eq_true.1 h j (List.mem_range.2 hlt)
  rw [hj, hun] at hb
  simp only [Bool.or_eq_true, beq_iff_eq, Bool.or_false] at hb
  rcases hb with (hb | hb)
  · exact absurd hb hne
  · rcases hb with hb | hb
    · obtain ⟨k, hk, he⟩ := Array.any_eq_true.1 hb
      simp only [Bool.and_eq_true, beq_iff_eq] at he
      exact absurd he.2 (hno _ (Array.getElem_mem hk) he.1)
    · exact hb
/-- Do the operations of l, from number k on, come up in this order, and then the last one alone? -/
def lastFrom (md : Region.Mode) (ops : Array Oper) (i0 : Nat) (o0 : Oper) : List Oper → Nat → Array Bool → Bool
  | [], _, listed => (Region.ready md ops listed == [i0]) && (Region.ready md ops (listed.setIfInBounds i0 true) == [])
  | o :: l, k, listed => (Region.ready md ops listed).contains k && freeB md ops listed k o && o0.after.any (fun e => Region.binds md e && e.on == k) && lastFrom md ops i0 o0 l (k + 1) (listed.setIfInBounds k true)
theorem wpLast_lex {R : Act → Prop} (h0 : ops[i0]? = some o0) (hs : Region.noSelect ops = true) : ∀ (l : List Oper) (k : Nat) (listed : Array Bool) (a : Act), (∀ j, j < l.length → l[j]? = ops[k + j]?) →
    lastFrom md ops i0 o0 l k listed = true → wpQuiet P ops C R l a → wpLast P md ops C i0 R (l.length + 1) listed a
  | [], _, listed, a, _, hB, h => by
    simp only [lastFrom, Bool.and_eq_true, beq_iff_eq] at hB
    refine ⟨by rw [hB.1]; simp, fun i hi => ?_⟩
    rw [hB.1] at hi
    have : i = i0 := by simpa using hi
    exact ⟨fun _ => ⟨h, hB.2⟩, fun h' => absurd this h'⟩
  | o :: l, k, listed, a, hl, hB, h => by
    have hk : ops[k]? = some o := by simpa using (hl 0 (by simp)).symm
    simp only [lastFrom, Bool.and_eq_true] at hB
    obtain ⟨⟨⟨hr, hf⟩, hd⟩, hB'⟩ := hB
    have hst : qOp P ops C k (wpQuiet P ops C R l) a := by unfold qOp; simp only [hk]; exact h
    obtain ⟨v, hy, hK⟩ := yieldsIn_of_qOp hk hst
    have hdep : ∃ e ∈ o0.after, Region.binds md e = true ∧ e.on = k := by
      obtain ⟨n, hn, he⟩ := Array.any_eq_true.1 hd
      simp only [Bool.and_eq_true, beq_iff_eq] at he
      exact ⟨_, Array.getElem_mem hn, he⟩
    exact wpLast_first h0 hk (Region.noSelect_spec hs) hdep (l.length + 1) listed a (free_of hf) (by simpa using hr) hy
      (wpLast_lex h0 hs l (k + 1) _ _ (fun j hj => by have := hl (j + 1) (by simp; omega); simpa [Nat.add_assoc, Nat.add_comm 1 j] using this) hB' hK)
/-- A region that draws: all but the last operation are walked once, quiet in the class; the last one then, in every world of the class. -/
theorem wp_region_last {l : List Oper} {o0 : Oper} {id : Nat} {Q : Exit → Act → World → Prop} {a : Act} {w : World} (hm : P.follows .mixedOrders = true) (hs : Region.noSelect (l ++ [o0]).toArray = true)
    (hB : lastFrom .any (l ++ [o0]).toArray l.length o0 l 0 (Array.replicate (l.length + 1) false) = true) (hC : C w.drew)
    (h : wpQuiet P (l ++ [o0]).toArray C (fun a' => ∀ w', C w' → Region.wanted o0 (yielded (l ++ [o0]).toArray a'.tmps) = true ∧ o0.wp P a' w' (Q .normal) Q) l a) : (Code.region id (l ++ [o0]).toArray true).wp P Q a w := by
  have h0 : (l ++ [o0]).toArray[l.length]? = some o0 := by simp
  refine wp_region_any hm (wpAny_of_last (C := C) (i0 := l.length) (R := fun a' => ∀ w', C w' → Region.wanted o0 (yielded (l ++ [o0]).toArray a'.tmps) = true ∧ o0.wp P a' w' (Q .normal) Q) ?_ _ _ _ _ hC ?_)
  · intro a' w' hw' hR
    unfold wpOp
    simp only [h0, (hR w' hw').1, if_true]
    exact .inl (hR w' hw').2
  · have := wpLast_lex (C := C) (md := .any) h0 hs l 0 (Array.replicate (l.length + 1) false) a (fun j hj => by rw [List.getElem?_toArray, Nat.zero_add, List.getElem?_append_left hj]) hB h
    simpa using this
theorem wpQuiet_mono {Q Q' : Act → Prop} (hq : ∀ a, Q a → Q' a) : ∀ (l : List Oper) (a : Act), wpQuiet P ops C Q l a → wpQuiet P ops C Q' l a
  | [], a, h => hq a h
  | o :: l, a, h => by
    unfold wpQuiet at h ⊢
    split
    · next hw =>
      rw [if_pos hw] at h
      exact Oper.quiet_mono (wpQuiet_mono hq l) h
    · next hw =>
      rw [if_neg hw] at h
      exact wpQuiet_mono hq l _ h
/-- May it be walked so? -/
def lastB (os : List Oper) : Bool := Region.noSelect os.toArray && (match os.getLast? with
  | some o0 => lastFrom .any os.toArray os.dropLast.length o0 os.dropLast 0 (Array.replicate (os.dropLast.length + 1) false)
  | none => false)
/-- The same for a region whose operations are written out. -/
theorem wp_region_last_lit {os : List Oper} {id : Nat} {Q : Exit → Act → World → Prop} {a : Act} {w : World} (hm : P.follows .mixedOrders = true) (hB : lastB os = true) (hC : C w.drew)
    (h : wpQuiet P os.toArray C (fun a' => ∀ w', C w' → ∀ o0, os.getLast? = some o0 → Region.wanted o0 (yielded os.toArray a'.tmps) = true ∧ o0.wp P a' w' (Q .normal) Q) os.dropLast a) : (Code.region id os.toArray true).wp P Q a w := by
  rcases List.eq_nil_or_concat os with rfl | ⟨l, o0, rfl⟩
  · simp [lastB] at hB
  · rw [List.concat_eq_append] at *
    have e1 : (l ++ [o0]).getLast? = some o0 := by simp
    have e2 : (l ++ [o0]).dropLast = l := by simp
    unfold lastB at hB
    rw [e1, e2] at hB
    simp only [Bool.and_eq_true] at hB
    rw [e2] at h
    exact wp_region_last hm hB.1 hB.2 hC (wpQuiet_mono (fun a' ha w' hw => ha w' hw o0 e1) _ _ h)
/-- A class of worlds, in the words of the walk. -/
structure SW (St : World → Prop) where
  w : World
  ok : St w
/-- What is asked of the last operation. -/
def LastPost (P : Program) (os : List Oper) (St : World → Prop) (Q : Exit → Act → World → Prop) (a : Act) : Prop :=
  ∀ w', St w' → ∀ o0, os.getLast? = some o0 → Region.wanted o0 (yielded os.toArray a.tmps) = true ∧ o0.wp P a w' (Q .normal) Q
theorem wp_region_last_sw {St : World → Prop} {os : List Oper} {id : Nat} {Q : Exit → Act → World → Prop} {a : Act} {w : World} (hm : P.follows .mixedOrders = true) (hB : lastB os = true) (hC : St w.drew)
    (h : wpQuiet P os.toArray (fun w' => ∃ p : SW St, w' = p.w) (LastPost P os St Q) os.dropLast a) : (Code.region id os.toArray true).wp P Q a w :=
  wp_region_last_lit (C := fun w' => ∃ p : SW St, w' = p.w) hm hB ⟨⟨_, hC⟩, rfl⟩ (wpQuiet_mono (fun _ ha w' hw => by obtain ⟨⟨_, ok⟩, rfl⟩ := hw; exact ha _ ok) _ _ h)
theorem wp_region_sw {St : World → Prop} {id : Nat} {Q : Exit → Act → World → Prop} {a : Act} {w : World} {l : List Oper} (hm : P.follows .mixedOrders = true) (hB : Region.lexB .any l.toArray = true) (hS : St w.drew)
    (h : wpQuiet P l.toArray (fun w' => ∃ p : SW St, w' = p.w) (fun a' => ∀ w', (∃ p : SW St, w' = p.w) → Q .normal a' w') l a) : (Code.region id l.toArray true).wp P Q a w :=
  wp_region_quiet (C := fun w' => ∃ p : SW St, w' = p.w) hm hB ⟨⟨_, hS⟩, rfl⟩ (by simpa using h)
theorem wpQuiet_load_on {P : Program} {ops : Array Oper} {C : World → Prop} {Q : Act → Prop} {rest : List Oper} {op : Oper} {a : Act} (hw : Region.wanted op (yielded ops a.tmps) = true) (ty : TypeId) (x : Operand) (ho : op.op = .load ty x)
    (b o : Nat) (hx : a.eval x = .pointer (some ⟨b, o, none⟩)) (cs : List Value) (d : TypeDesc) (hc : ∀ w, C w → w.rangeAt b o cs)
    (hu : P.underlying ty = some d) (hd : d.isRow = true) (hi : (P.info? ty).map (·.size) = some cs.length)
    (h : wpQuiet P ops C Q rest (a.put op.dst (.agg cs.toArray))) : wpQuiet P ops C Q (op :: rest) a := by
  unfold wpQuiet
  rw [if_pos hw]
  refine ⟨_, fun w hw' => ?_, h⟩
  unfold Oper.quietAt execOp
  simp only [ho, hx, Instr.loadAt, Instr.sureAddr, Sem.run_bind, Sem.run_pure, Result.andThen_ok, run_loadVar_mid w b o ty cs d (hc w hw') hu hd hi]
  exact ⟨rfl, rfl⟩
end
end Go.Proofs.Ytdmjkbcjljnleaa

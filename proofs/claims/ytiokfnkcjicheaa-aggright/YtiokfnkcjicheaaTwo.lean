/- A region that draws its order, in which one operation makes a block, and the last one waits for all others; all but these two yield one value each in every world of a family of classes: one walk of the lexical order serves every order. No conditions. -/
import Derived.Test.YtiokfnkcjicheaaLast
namespace Go.Proofs.Ytiokfnkcjicheaa

section
variable {P : Program} {ops : Array Oper} {md : Region.Mode} {Cl : Option Nat → World → Prop} {V : Nat → Value} {i0 i1 : Nat} {o0 o1 : Oper}

/-- The operation that makes a block, in a world of the first class: a value and a world that a number tells. -/
def Makes (P : Program) (ops : Array Oper) (Cl : Option Nat → World → Prop) (V : Nat → Value) (o : Oper) (a : Act) : Prop :=
  Region.wanted o (yielded ops a.tmps) = true ∧ ∀ w, Cl none w → ∃ B w', (execOp a.eval o).run P w = .ok (.value (V B)) w' ∧ Cl (some B) w'
def wpTwo (P : Program) (md : Region.Mode) (ops : Array Oper) (Cl : Option Nat → World → Prop) (V : Nat → Value) (i0 i1 : Nat) (o1 : Oper) (R : Nat → Act → Prop) : Nat → Array Bool → Act → Prop
  | 0, _, _ => False
  | fuel + 1, listed, a => Region.ready md ops listed ≠ [] ∧ ∀ i ∈ Region.ready md ops listed,
      (i = i1 → Makes P ops Cl V o1 a ∧ ∀ B, wpLast P md ops (Cl (some B)) i0 (R B) fuel (listed.setIfInBounds i1 true) (a.put o1.dst (V B))) ∧
      (i ≠ i1 → i ≠ i0 ∧ qOp P ops (Cl none) i (wpTwo P md ops Cl V i0 i1 o1 R fuel (listed.setIfInBounds i true)) a)

theorem wpAny_of_two {R : Nat → Act → Prop} {Q' : Exit → Act → World → Prop} (h1 : ops[i1]? = some o1) (hR : ∀ B a w, Cl (some B) w → R B a → wpOp P ops Q' i0 (Q' .normal) a w) : ∀ (fuel : Nat) (listed : Array Bool) (a : Act) (w : World), Cl none w →
    wpTwo P md ops Cl V i0 i1 o1 R fuel listed a → wpAny P md ops Q' fuel listed a w
  | 0, _, _, _, _, h => h.elim
  | fuel + 1, listed, a, w, hw, h => by
    refine ⟨fun he => absurd he h.1, fun i hi => ?_⟩
    by_cases e : i = i1
    · subst e
      obtain ⟨⟨hwant, hl⟩, hc⟩ := (h.2 i hi).1 rfl
      obtain ⟨B, w', hr, hD⟩ := hl w hw
      unfold wpOp
      simp only [h1, hwant, if_true]
      left
      unfold Oper.wp
      rw [hr]
      simp only [Oper.upon]
      exact wpAny_of_last (hR B) fuel _ _ _ hD (hc B)
    · exact wpOp_of_qOp hw (fun a' w' hw' => wpAny_of_two h1 hR fuel _ a' w' hw') ((h.2 i hi).2 e).2

theorem wpTwo_first {R : Nat → Act → Prop} {i : Nat} {oi : Oper} {v : Value} (h0 : ops[i0]? = some o0) (h1 : ops[i1]? = some o1) (hi : ops[i]? = some oi) (hne : i ≠ i1) (hsel : ∀ (j : Nat) (o : Oper) cs b, ops[j]? = some o → o.op ≠ .select cs b) (hdep : ∃ e ∈ o0.after, Region.binds md e = true ∧ e.on = i) :
    ∀ (fuel : Nat) (listed : Array Bool) (a : Act),
      (∀ j oj, ops[j]? = some oj → j ≠ i → listed.getD j true = false → (∀ e ∈ oj.after, Region.binds md e = true → e.on ≠ i) → oi.apart ops oj = true) →
      i ∈ Region.ready md ops listed → (∀ c, YieldsIn P ops (Cl c) oi v a) →
      wpTwo P md ops Cl V i0 i1 o1 R fuel (listed.setIfInBounds i true) (a.put oi.dst v) → wpTwo P md ops Cl V i0 i1 o1 R (fuel + 1) listed a := by
  intro fuel
  induction fuel with
  | zero => intro listed a _ _ _ H; exact H.elim
  | succ fuel ih =>
    intro listed a hfree hr hy H
    have hfree' : ∀ j, listed.getD j true = false → ∀ k ok, ops[k]? = some ok → k ≠ i → (listed.setIfInBounds j true).getD k true = false → (∀ e ∈ ok.after, Region.binds md e = true → e.on ≠ i) → oi.apart ops ok = true := fun j hjun k ok hk hki hun hno => by
      refine hfree k ok hk hki ?_ hno
      by_cases hjk : j = k
      · subst hjk; exact hjun
      · rw [getD_set_ne true hjk] at hun; exact hun
    refine ⟨fun h => (by rw [h] at hr; cases hr), fun j hj => ⟨fun e => ?_, fun e => ?_⟩⟩
    · have hji : j ≠ i := fun h => hne (h.symm.trans e)
      subst e
      obtain ⟨hjun, oj, hoj, hall⟩ := mem_ready.1 hj
      obtain rfl : oj = o1 := Option.some.inj (hoj.symm.trans h1)
      have hnot : ∀ e ∈ oj.after, Region.binds md e = true → e.on ≠ i := fun e he hb heq => by
        have h1 := hall e he hb
        have h2 := (mem_ready.1 hr).1
        rw [heq] at h1
        rcases Nat.lt_or_ge i listed.size with h' | h'
        · simp [h'] at h1 h2; rw [h2] at h1; cases h1
        · simp [Array.getElem?_eq_none h'] at h1
      have hap := hfree j oj hoj hji hjun hnot
      obtain ⟨a1, a2, a3⟩ := Oper.apart_spec hap
      obtain ⟨⟨hwant, hl⟩, hc⟩ := (H.2 j (ready_mono hj hji)).1 rfl
      rw [wanted_put oj a oi.dst v a1] at hwant
      refine ⟨⟨hwant, fun w hw => ?_⟩, fun B => ?_⟩
      · have := hl w hw
        rwa [execOp_put oj (fun cs b => hsel j oj cs b hoj) a oi.dst v a1] at this
      · have hyB : YieldsIn P ops (Cl (some B)) oi v (a.put oj.dst (V B)) := (hy (some B)).of_same (execOp_put oi (fun cs b => hsel i oi cs b hi) a oj.dst (V B) a3) (wanted_put oi a oj.dst (V B) a3)
        refine wpLast_first h0 hi hsel hdep fuel (listed.setIfInBounds j true) (a.put oj.dst (V B)) (hfree' j hjun) (ready_mono hr (Ne.symm hji)) hyB ?_
        have := hc B
        rw [Array.setIfInBounds_comm _ _ hji, ← Act.put_comm a v (V B) a2]
        exact this
    · have hj0 : j ≠ i0 := by
        intro e0
        subst e0
        obtain ⟨_, oj, hoj, hall⟩ := mem_ready.1 hj
        obtain rfl : oj = o0 := Option.some.inj (hoj.symm.trans h0)
        obtain ⟨e, he, hb, rfl⟩ := hdep
        have h1 := hall e he hb
        have h2 := (mem_ready.1 hr).1
        rcases Nat.lt_or_ge e.on listed.size with h' | h'
        · simp [h'] at h1 h2; rw [h2] at h1; cases h1
        · simp [Array.getElem?_eq_none h'] at h1
      refine ⟨hj0, ?_⟩
      by_cases hji : j = i
      · subst hji
        exact (hy none).qOp hi (by simpa using H)
      · have h1' := ((H.2 j (ready_mono hj hji)).2 e).2
        obtain ⟨hjun, oj, hoj, hall⟩ := mem_ready.1 hj
        have hnot : ∀ e ∈ oj.after, Region.binds md e = true → e.on ≠ i := fun e he hb heq => by
          have h1 := hall e he hb
          have h2 := (mem_ready.1 hr).1
          rw [heq] at h1
          rcases Nat.lt_or_ge i listed.size with h' | h'
          · simp [h'] at h1 h2; rw [h2] at h1; cases h1
          · simp [Array.getElem?_eq_none h'] at h1
        have hap := hfree j oj hoj hji hjun hnot
        obtain ⟨a1, a2, a3⟩ := Oper.apart_spec hap
        have keep : ∀ (u : Value) c, YieldsIn P ops (Cl c) oi v (a.put oj.dst u) := fun u c =>
          (hy c).of_same (execOp_put oi (fun cs b => hsel i oi cs b hi) a oj.dst u a3) (wanted_put oi a oj.dst u a3)
        have step : ∀ u : Value, wpTwo P md ops Cl V i0 i1 o1 R fuel ((listed.setIfInBounds i true).setIfInBounds j true) ((a.put oi.dst v).put oj.dst u) → wpTwo P md ops Cl V i0 i1 o1 R (fuel + 1) (listed.setIfInBounds j true) (a.put oj.dst u) := fun u hn => by
          refine ih (listed.setIfInBounds j true) (a.put oj.dst u) (hfree' j hjun) (ready_mono hr (Ne.symm hji)) (keep u) ?_
          rw [Array.setIfInBounds_comm _ _ hji, ← Act.put_comm a v u a2]
          exact hn
        unfold qOp at h1' ⊢
        simp only [hoj] at h1' ⊢
        rw [wanted_put oj a oi.dst v a1] at h1'
        split
        · rename_i hw
          simp only [hw, if_true] at h1'
          obtain ⟨u, hu, hn⟩ := h1'
          refine ⟨u, fun w hw' => ?_, step u hn⟩
          have := hu w hw'
          unfold Oper.quietAt at *
          rwa [execOp_put oj (fun cs b => hsel j oj cs b hoj) a oi.dst v a1] at this
        · rename_i hw
          simp only [hw] at h1'
          exact step undef h1'
/-- One value each, in every class. -/
def wpAllQ (P : Program) (ops : Array Oper) (Cl : Option Nat → World → Prop) (Q : Act → Prop) : List Oper → Act → Prop
  | [], a => Q a
  | o :: l, a => ∃ v, (∀ c, YieldsIn P ops (Cl c) o v a) ∧ wpAllQ P ops Cl Q l (a.put o.dst v)
theorem quiet_keeps {C : World → Prop} {A : Act} {t : Nat} : ∀ (l : List Oper) (a : Act), (∀ o ∈ l, o.dst ≠ some t) → wpQuiet P ops C (fun a' => a' = A) l a → A.tmps[t]? = a.tmps[t]?
  | [], a, _, h => by rw [show a = A from h]
  | o :: l, a, hd, h => by
    have hput : ∀ v, (a.put o.dst v).tmps[t]? = a.tmps[t]? := fun v => by
      have := hd o List.mem_cons_self
      unfold Act.put
      split
      · next k hk => rw [hk] at this; simp [show ¬ k = t from fun e => this (by rw [e])]
      · rfl
    unfold wpQuiet at h
    split at h
    · obtain ⟨v, _, hn⟩ := h
      exact (quiet_keeps l _ (fun o ho => hd o (List.mem_cons_of_mem _ ho)) hn).trans (hput v)
    · exact (quiet_keeps l _ (fun o ho => hd o (List.mem_cons_of_mem _ ho)) h).trans (hput undef)
/-- The temporaries are told apart. -/
def apartB : List Oper → Nat → Bool
  | [], _ => true
  | o :: l, n => (match o.dst with
    | some t => decide (t < n) && l.all (fun o' => o'.dst != some t)
    | none => false) && apartB l n
theorem put_size (a : Act) (d : Option Tmp) (v : Value) : (a.put d v).tmps.size = a.tmps.size := by unfold Act.put; split <;> simp
theorem allQ_of {A : Act} : ∀ (l : List Oper) (a : Act), apartB l a.tmps.size = true → (∀ c, wpQuiet P ops (Cl c) (fun a' => a' = A) l a) → wpAllQ P ops Cl (fun a' => a' = A) l a
  | [], a, _, h => h none
  | o :: l, a, hB, h => by
    simp only [apartB, Bool.and_eq_true] at hB
    obtain ⟨h1, h2⟩ := hB
    cases hd : o.dst with
    | none => rw [hd] at h1; cases h1
    | some t =>
      rw [hd] at h1
      simp only [Bool.and_eq_true, decide_eq_true_eq, List.all_eq_true, bne_iff_ne, ne_eq] at h1
      by_cases hw : Region.wanted o (yielded ops a.tmps) = true
      · have hv : ∀ c, ∃ v, (∀ w, Cl c w → o.quietAt P a (Cl c) w v) ∧ wpQuiet P ops (Cl c) (fun a' => a' = A) l (a.put o.dst v) := fun c => by
          have := h c
          unfold wpQuiet at this
          rw [if_pos hw] at this
          exact this
        have hval : ∀ c v, wpQuiet P ops (Cl c) (fun a' => a' = A) l (a.put o.dst v) → v = A.tmps.getD t undef := fun c v hq => by
          have := quiet_keeps l _ (fun o' ho => h1.2 o' ho) hq
          rw [Array.getD_eq_getD_getElem?, this, hd]
          unfold Act.put
          simp [h1.1]
        refine ⟨A.tmps.getD t undef, fun c => ?_, allQ_of l _ (by rw [put_size]; exact h2) fun c => ?_⟩
        · obtain ⟨v, hq, hn⟩ := hv c
          rw [← hval c v hn]
          exact .inl ⟨hw, hq⟩
        · obtain ⟨v, hq, hn⟩ := hv c
          rw [← hval c v hn]
          exact hn
      · have hw' : Region.wanted o (yielded ops a.tmps) = false := by simpa using hw
        refine ⟨undef, fun c => .inr ⟨hw', rfl⟩, allQ_of l _ (by rw [put_size]; exact h2) fun c => ?_⟩
        have := h c
        unfold wpQuiet at this
        rw [if_neg hw] at this
        exact this
def twoFrom (md : Region.Mode) (ops : Array Oper) (i1 i0 : Nat) (o0 : Oper) : List Oper → Nat → Array Bool → Bool
  | [], k, listed => (Region.ready md ops listed == [i1]) && lastFrom md ops i0 o0 [] k (listed.setIfInBounds i1 true)
  | o :: l, k, listed => (Region.ready md ops listed).contains k && freeB md ops listed k o && o0.after.any (fun e => Region.binds md e && e.on == k) && (k != i1) && twoFrom md ops i1 i0 o0 l (k + 1) (listed.setIfInBounds k true)
theorem wpTwo_lex {Q : Act → Prop} {R : Nat → Act → Prop} (h0 : ops[i0]? = some o0) (h1 : ops[i1]? = some o1) (hs : Region.noSelect ops = true) (hQ : ∀ a, Q a → Makes P ops Cl V o1 a ∧ ∀ B, R B (a.put o1.dst (V B))) : ∀ (l : List Oper) (k : Nat) (listed : Array Bool) (a : Act), (∀ j, j < l.length → l[j]? = ops[k + j]?) →
    twoFrom md ops i1 i0 o0 l k listed = true → wpAllQ P ops Cl Q l a → wpTwo P md ops Cl V i0 i1 o1 R (l.length + 2) listed a
  | [], k, listed, a, _, hB, h => by
    simp only [twoFrom, Bool.and_eq_true, beq_iff_eq] at hB
    obtain ⟨hm, hR⟩ := hQ a h
    refine ⟨by rw [hB.1]; simp, fun i hi => ?_⟩
    rw [hB.1] at hi
    have : i = i1 := by simpa using hi
    refine ⟨fun _ => ⟨hm, fun B => ?_⟩, fun h' => absurd this h'⟩
    exact wpLast_lex (l := []) h0 hs (k := k) _ _ (fun j hj => by simp at hj) hB.2 (hR B)
  | o :: l, k, listed, a, hl, hB, h => by
    have hk : ops[k]? = some o := by simpa using (hl 0 (by simp)).symm
    simp only [twoFrom, Bool.and_eq_true, bne_iff_ne, ne_eq] at hB
    obtain ⟨⟨⟨⟨hr, hf⟩, hd⟩, hne⟩, hB'⟩ := hB
    obtain ⟨v, hy, hK⟩ := h
    have hdep : ∃ e ∈ o0.after, Region.binds md e = true ∧ e.on = k := by
      obtain ⟨n, hn, he⟩ := Array.any_eq_true.1 hd
      simp only [Bool.and_eq_true, beq_iff_eq] at he
      exact ⟨_, Array.getElem_mem hn, he⟩
    exact wpTwo_first h0 h1 hk hne (Region.noSelect_spec hs) hdep (l.length + 2) listed a (free_of hf) (by simpa using hr) hy
      (wpTwo_lex h0 h1 hs hQ l (k + 1) _ _ (fun j hj => by have := hl (j + 1) (by simp; omega); simpa [Nat.add_assoc, Nat.add_comm 1 j] using this) hB' hK)
/-- May it be walked so? -/
def twoB (os : List Oper) : Bool := Region.noSelect os.toArray && (match os.getLast? with
  | some o0 => twoFrom .any os.toArray os.dropLast.dropLast.length (os.dropLast.dropLast.length + 1) o0 os.dropLast.dropLast 0 (Array.replicate (os.dropLast.dropLast.length + 2) false)
  | none => false)
theorem wp_region_two {l : List Oper} {o1 o0 : Oper} {id : Nat} {Q : Exit → Act → World → Prop} {a A : Act} {w : World} (hm : P.follows .mixedOrders = true) (hs : Region.noSelect (l ++ [o1, o0]).toArray = true)
    (hB : twoFrom .any (l ++ [o1, o0]).toArray l.length (l.length + 1) o0 l 0 (Array.replicate (l.length + 2) false) = true) (hA : apartB l a.tmps.size = true) (hC : Cl none w.drew)
    (hq : ∀ c, wpQuiet P (l ++ [o1, o0]).toArray (Cl c) (fun a' => a' = A) l a) (hmk : Makes P (l ++ [o1, o0]).toArray Cl V o1 A)
    (hlast : ∀ B w', Cl (some B) w' → Region.wanted o0 (yielded (l ++ [o1, o0]).toArray (A.put o1.dst (V B)).tmps) = true ∧ o0.wp P (A.put o1.dst (V B)) w' (Q .normal) Q) : (Code.region id (l ++ [o1, o0]).toArray true).wp P Q a w := by
  have h0 : (l ++ [o1, o0]).toArray[l.length + 1]? = some o0 := by simp
  have h1 : (l ++ [o1, o0]).toArray[l.length]? = some o1 := by simp
  refine wp_region_any hm (wpAny_of_two (Cl := Cl) (V := V) (i0 := l.length + 1) (i1 := l.length) (o1 := o1) (R := fun B a' => a' = A.put o1.dst (V B)) h1 ?_ _ _ _ _ hC ?_)
  · rintro B a' w' hw' rfl
    unfold wpOp
    simp only [h0, (hlast B w' hw').1, if_true]
    exact .inl (hlast B w' hw').2
  · have := wpTwo_lex (Cl := Cl) (V := V) (R := fun B a' => a' = A.put o1.dst (V B)) (md := .any) h0 h1 hs (fun a' h => by rw [show a' = A from h]; exact ⟨hmk, fun B => rfl⟩) l 0 (Array.replicate (l.length + 2) false) a (fun j hj => by rw [List.getElem?_toArray, Nat.zero_add, List.getElem?_append_left hj]) hB (allQ_of l a hA hq)
    simpa using this
/-- What is asked of the last two. -/
structure TwoPost (P : Program) (os : List Oper) (St : Option Nat → World → Prop) (V : Nat → Value) (Q : Exit → Act → World → Prop) (A : Act) : Prop where
  makes : ∀ o1, os.dropLast.getLast? = some o1 → Region.wanted o1 (yielded os.toArray A.tmps) = true ∧ ∀ w, St none w → ∃ B w', (execOp A.eval o1).run P w = .ok (.value (V B)) w' ∧ St (some B) w'
  last : ∀ o1 o0, os.dropLast.getLast? = some o1 → os.getLast? = some o0 → ∀ B w', St (some B) w' → Region.wanted o0 (yielded os.toArray (A.put o1.dst (V B)).tmps) = true ∧ o0.wp P (A.put o1.dst (V B)) w' (Q .normal) Q
theorem wp_region_two_sw {St : Option Nat → World → Prop} {os : List Oper} {id : Nat} {Q : Exit → Act → World → Prop} {a A : Act} {w : World} (hm : P.follows .mixedOrders = true) (hB : twoB os = true) (hA : apartB os.dropLast.dropLast a.tmps.size = true) (hC : St none w.drew)
    (hq : ∀ c, wpQuiet P os.toArray (fun w' => ∃ p : SW (St c), w' = p.w) (fun a' => a' = A) os.dropLast.dropLast a) (hp : TwoPost P os St V Q A) : (Code.region id os.toArray true).wp P Q a w := by
  rcases List.eq_nil_or_concat os with rfl | ⟨l', o0, rfl⟩
  · simp [twoB] at hB
  · rw [List.concat_eq_append] at *
    rcases List.eq_nil_or_concat l' with rfl | ⟨l, o1, rfl⟩
    · exfalso
      unfold twoB at hB
      simp [twoFrom, lastFrom] at hB
      obtain ⟨_, hr, _, hr2⟩ := hB
      have hx : Region.ready Region.Mode.any #[o0] (#[false, false].setIfInBounds 0 true) = [1] := by simpa using ‹_›
      have := (mem_ready.1 (show 1 ∈ Region.ready Region.Mode.any #[o0] (#[false, false].setIfInBounds 0 true) by rw [hx]; simp)).2
      obtain ⟨oj, hoj, _⟩ := this
      simp at hoj
    · rw [List.concat_eq_append] at *
      have e0 : (l ++ [o1] ++ [o0]).getLast? = some o0 := by simp
      have e1 : (l ++ [o1] ++ [o0]).dropLast.getLast? = some o1 := by simp
      have e2 : (l ++ [o1] ++ [o0]).dropLast.dropLast = l := by simp
      have e3 : l ++ [o1] ++ [o0] = l ++ [o1, o0] := by simp
      have hmk := hp.makes o1 e1
      have hla := hp.last o1 o0 e1 e0
      unfold twoB at hB
      rw [e0, e2] at hB
      simp only [Bool.and_eq_true] at hB
      rw [e2] at hA hq
      rw [e3] at hB hq hmk hla ⊢
      refine wp_region_two (V := V) (Cl := fun c w' => ∃ p : SW (St c), w' = p.w) hm hB.1 hB.2 hA ⟨⟨_, hC⟩, rfl⟩ hq ⟨hmk.1, ?_⟩ ?_
      · rintro w' ⟨⟨_, ok⟩, rfl⟩
        obtain ⟨B, w2, hr, hs⟩ := hmk.2 _ ok
        exact ⟨B, w2, hr, ⟨_, hs⟩, rfl⟩
      · rintro B w' ⟨⟨_, ok⟩, rfl⟩
        exact hla B _ ok
theorem wp_region_two_ex {St : Option Nat → World → Prop} {os : List Oper} {id : Nat} {Q : Exit → Act → World → Prop} {a : Act} {w : World} (hm : P.follows .mixedOrders = true) (hB : twoB os = true) (hA : apartB os.dropLast.dropLast a.tmps.size = true) (hC : St none w.drew)
    (h : ∃ A, (∀ c, wpQuiet P os.toArray (fun w' => ∃ p : SW (St c), w' = p.w) (fun a' => a' = A) os.dropLast.dropLast a) ∧ TwoPost P os St V Q A) : (Code.region id os.toArray true).wp P Q a w := by
  obtain ⟨A, hq, hp⟩ := h
  exact wp_region_two_sw hm hB hA hC hq hp
end
end Go.Proofs.Ytiokfnkcjicheaa

/- A region that draws its order: operations that yield one value each in every world of which S holds, and leave it as it is, beside a few that turn the world one behind the other, each of which keeps S: the walk of the former, then of the latter, serves every order. No conditions. -/
import Derived.Test.YtdmjkbcjljnleaaLast
namespace Go.Proofs.Ytdmjkbcjljnleaa

section
variable {P : Program} {ops : Array Oper} {md : Region.Mode} {S : World → Prop}

/-- An operation goes through, and behind it K holds. -/
def goesUpon (P : Program) (o : Oper) (a : Act) (K : Act → World → Prop) : Result Next → Prop
  | .ok (.value v) w' => K (a.put o.dst v) w'
  | .ok .skip w' => K (a.put o.dst undef) w'
  | .ok (.enter f args) w' => Calls P f args w' fun e w'' => ∃ v, e = .returned v ∧ K (a.put o.dst v) w''
  | _ => False
def goes (P : Program) (o : Oper) (a : Act) (w : World) (K : Act → World → Prop) : Prop := goesUpon P o a K ((execOp a.eval o).run P w)
theorem goes_mono {o : Oper} {a : Act} {w : World} {K K' : Act → World → Prop} (h : ∀ a w, K a w → K' a w) (hh : goes P o a w K) : goes P o a w K' := by
  unfold goes at *
  generalize (execOp a.eval o).run P w = r at *
  cases r with
  | ok n w' =>
    cases n <;> simp only [goesUpon] at hh ⊢
    case value u => exact h _ _ hh
    case skip => exact h _ _ hh
    case enter f args => exact Calls.mono hh fun e w'' ⟨v, he, hk⟩ => ⟨v, he, h _ _ hk⟩
  | halt x w' => simp only [goesUpon] at hh
theorem goes_wp {o : Oper} {a : Act} {w : World} {K : Act → World → Prop} {Q : Exit → Act → World → Prop} (hh : goes P o a w K) : o.wp P a w K Q := by
  unfold goes at hh
  unfold Oper.wp
  generalize (execOp a.eval o).run P w = r at *
  cases r with
  | ok n w' =>
    cases n <;> simp only [goesUpon] at hh <;> simp only [Oper.upon]
    case value u => exact hh
    case skip => exact hh
    case enter f args => exact Calls.mono hh fun e w'' ⟨v, he, hk⟩ => by subst he; exact hk
  | halt x w' => simp only [goesUpon] at hh
/-- Number i comes up; behind it S holds. -/
def sOp (P : Program) (ops : Array Oper) (S : World → Prop) (i : Nat) (K : Act → World → Prop) (a : Act) (w : World) : Prop :=
  match ops[i]? with
  | none => K a w
  | some o => if Region.wanted o (yielded ops a.tmps) then goes P o a w (fun a' w' => S w' ∧ K a' w') else K (a.put o.dst undef) w
theorem sOp_mono {i : Nat} {K K' : Act → World → Prop} {a : Act} {w : World} (h : ∀ a w, K a w → K' a w) (hh : sOp P ops S i K a w) : sOp P ops S i K' a w := by
  unfold sOp at *
  split
  · exact h _ _ (by simpa [*] using hh)
  · rename_i o ho
    simp only [ho] at hh
    split
    · rename_i hw; simp only [hw, if_true] at hh; exact goes_mono (fun a w ⟨h1, h2⟩ => ⟨h1, h _ _ h2⟩) hh
    · rename_i hw; simp only [hw] at hh; exact h _ _ hh
/-- Is there another operation for which number j does not wait? -/
def needB (md : Region.Mode) (ops : Array Oper) (j : Nat) : Bool := (List.range ops.size).any fun k => k != j && (match ops[j]? with
  | some o => o.after.all fun e => !(Region.binds md e && e.on == k)
  | none => true)
theorem needB_of {i j : Nat} {oi oj : Oper} (hi : ops[i]? = some oi) (hj : ops[j]? = some oj) (hji : j ≠ i) (hnot : ∀ e ∈ oj.after, Region.binds md e = true → e.on ≠ i) : needB md ops j = true := by
  unfold needB
  rw [hj]
  refine List.any_eq_true.2 ⟨i, List.mem_range.2 (Array.getElem?_eq_some_iff.1 hi).1, ?_⟩
  simp only [Bool.and_eq_true, bne_iff_ne, ne_eq]
  refine ⟨fun e => hji e.symm, Array.all_eq_true_iff_forall_mem.2 fun e he => ?_⟩
  cases hb : Region.binds md e with
  | false => rfl
  | true => simp [hnot e he hb]
/-- Whatever order is picked from here on. -/
def wpS (P : Program) (md : Region.Mode) (ops : Array Oper) (S : World → Prop) (K : Act → World → Prop) : Nat → Array Bool → Act → World → Prop
  | 0, listed, a, w => Region.ready md ops listed = [] ∧ K a w
  | fuel + 1, listed, a, w => (Region.ready md ops listed = [] → K a w) ∧ ∀ i ∈ Region.ready md ops listed, sOp P ops (fun w' => needB md ops i = true → S w') i (wpS P md ops S K fuel (listed.setIfInBounds i true)) a w
theorem wpAny_of_S {K : Act → World → Prop} {Q : Exit → Act → World → Prop} (hQ : ∀ a w, K a w → Q .normal a w) : ∀ (fuel : Nat) (listed : Array Bool) (a : Act) (w : World), wpS P md ops S K fuel listed a w → wpAny P md ops Q fuel listed a w
  | 0, _, _, _, h => ⟨h.1, hQ _ _ h.2⟩
  | fuel + 1, listed, a, w, h => ⟨fun h0 => hQ _ _ (h.1 h0), fun i hi => by
      have hh := h.2 i hi
      unfold sOp at hh
      unfold wpOp
      split
      · next ho => simp only [ho] at hh; exact wpAny_of_S hQ fuel _ _ _ hh
      · next o ho =>
        simp only [ho] at hh
        split
        · next hw => simp only [hw, if_true] at hh; exact .inl (goes_wp (goes_mono (fun a' w' h' => wpAny_of_S hQ fuel _ a' w' h'.2) hh))
        · next hw => simp only [hw] at hh; exact wpAny_of_S hQ fuel _ _ _ hh⟩
/-- In every world of which S holds the operation yields v, and does nothing else. -/
def YieldsS (P : Program) (ops : Array Oper) (S : World → Prop) (o : Oper) (v : Value) (a : Act) : Prop :=
  (Region.wanted o (yielded ops a.tmps) = true ∧ ∀ w, S w → o.quietAt P a (fun w' => w' = w) w v) ∨ (Region.wanted o (yielded ops a.tmps) = false ∧ v = undef)
theorem YieldsS.sOp {T : World → Prop} {i : Nat} {o : Oper} {v : Value} {a : Act} (hi : ops[i]? = some o) (hy : YieldsS P ops S o v a) {K : Act → World → Prop} {w : World} (hS0 : S w) (hS : T w) (h : K (a.put o.dst v) w) : sOp P ops T i K a w := by
  unfold Go.Proofs.Ytdmjkbcjljnleaa.sOp
  simp only [hi]
  rcases hy with ⟨hw, hv⟩ | ⟨hw, rfl⟩
  · simp only [hw, if_true]
    have h3 := hv w hS0
    unfold Oper.quietAt at h3
    unfold goes
    generalize (execOp a.eval o).run P w = r at *
    cases r with
    | ok n w' =>
      cases n <;> simp only [Oper.quietUpon] at h3 <;> simp only [goesUpon]
      case value u => obtain ⟨rfl, rfl⟩ := h3; exact ⟨hS, h⟩
      case skip => obtain ⟨rfl, rfl⟩ := h3; exact ⟨hS, h⟩
      case enter f args =>
        obtain ⟨rfl, hc⟩ := h3
        exact hc.mono fun e w'' ⟨he, hw''⟩ => by subst hw''; exact ⟨v, he, hS, h⟩
    | halt x w' => simp only [Oper.quietUpon] at h3
  · simp only [hw, Bool.false_eq_true, if_false]; exact h
theorem YieldsS.of_same {o : Oper} {v : Value} {a a' : Act} (hy : YieldsS P ops S o v a) (he : execOp a'.eval o = execOp a.eval o)
    (hw : Region.wanted o (yielded ops a'.tmps) = Region.wanted o (yielded ops a.tmps)) : YieldsS P ops S o v a' := by
  unfold YieldsS Oper.quietAt at *
  rw [he, hw]
  exact hy
theorem sOp_put {T : World → Prop} {j : Nat} {oi oj : Oper} {v : Value} (hj : ops[j]? = some oj) (hap : oi.apart ops oj = true)
    (hsi : ∀ cs b, oi.op ≠ .select cs b) (hsj : ∀ cs b, oj.op ≠ .select cs b) {K : Act → World → Prop} {a : Act} {w : World}
    (hy : YieldsS P ops S oi v a) (h : sOp P ops T j K (a.put oi.dst v) w) :
    sOp P ops T j (fun a' w' => YieldsS P ops S oi v a' ∧ K (a'.put oi.dst v) w') a w := by
  obtain ⟨h1, h2, h3⟩ := Oper.apart_spec hap
  have keep : ∀ (a : Act), YieldsS P ops S oi v a → ∀ u, YieldsS P ops S oi v (a.put oj.dst u) := fun a hy u =>
    hy.of_same (execOp_put oi hsi a oj.dst u h3) (wanted_put oi a oj.dst u h3)
  unfold sOp at *
  simp only [hj] at *
  rw [wanted_put oj a oi.dst v h1] at h
  split
  · rename_i hw
    simp only [hw, if_true] at h
    unfold goes at *
    rw [execOp_put oj hsj a oi.dst v h1] at h
    generalize (execOp a.eval oj).run P w = r at *
    cases r with
    | ok n w' =>
      cases n <;> simp only [goesUpon] at h ⊢
      case value u => exact ⟨h.1, keep a hy u, by rw [← Act.put_comm a v u h2]; exact h.2⟩
      case skip => exact ⟨h.1, keep a hy _, by rw [← Act.put_comm a v undef h2]; exact h.2⟩
      case enter f args =>
        exact Calls.mono h fun e w'' ⟨u, he, hS, hk⟩ => ⟨u, he, hS, keep a hy u, by rw [← Act.put_comm a v u h2]; exact hk⟩
    | halt x w' => simp only [goesUpon] at h
  · rename_i hw
    simp only [hw] at h
    exact ⟨keep a hy _, by rw [← Act.put_comm a v undef h2]; exact h⟩
/-- An operation that may come up now, and yields its value in every world of which S holds, may be taken first. -/
theorem wpS_first {K : Act → World → Prop} {i : Nat} {oi : Oper} {v : Value} (hi : ops[i]? = some oi) (hsel : ∀ (j : Nat) (o : Oper) cs b, ops[j]? = some o → o.op ≠ .select cs b) :
    ∀ (fuel : Nat) (listed : Array Bool) (a : Act) (w : World),
      (∀ j oj, ops[j]? = some oj → j ≠ i → listed.getD j true = false → (∀ e ∈ oj.after, Region.binds md e = true → e.on ≠ i) → oi.apart ops oj = true) →
      i ∈ Region.ready md ops listed → YieldsS P ops S oi v a → S w →
      wpS P md ops S K fuel (listed.setIfInBounds i true) (a.put oi.dst v) w → wpS P md ops S K (fuel + 1) listed a w := by
  intro fuel
  induction fuel with
  | zero =>
    intro listed a w _ hr hy hS H
    refine ⟨fun h => (by rw [h] at hr; cases hr), fun j hj => ?_⟩
    by_cases hji : j = i
    · subst hji; exact hy.sOp hi hS (fun _ => hS) H
    · have := ready_mono hj hji
      rw [H.1] at this
      cases this
  | succ fuel ih =>
    intro listed a w hfree hr hy hS H
    refine ⟨fun h => (by rw [h] at hr; cases hr), fun j hj => ?_⟩
    by_cases hji : j = i
    · subst hji; exact hy.sOp hi hS (fun _ => hS) H
    · have h1 := H.2 j (ready_mono hj hji)
      obtain ⟨hjun, oj, hoj, hall⟩ := mem_ready.1 hj
      have hnot : ∀ e ∈ oj.after, Region.binds md e = true → e.on ≠ i := fun e he hb heq => by
        have h1 := hall e he hb
        have h0 := (mem_ready.1 hr).1
        rw [heq] at h1
        rcases Nat.lt_or_ge i listed.size with h' | h'
        · simp [h'] at h0 h1; rw [h0] at h1; cases h1
        · simp [Array.getElem?_eq_none h'] at h1
      have h2 := sOp_put hoj (hfree j oj hoj hji hjun hnot) (fun cs b => hsel i oi cs b hi) (fun cs b => hsel j oj cs b hoj) hy h1
      have hfree' : ∀ k ok, ops[k]? = some ok → k ≠ i → (listed.setIfInBounds j true).getD k true = false →
          (∀ e ∈ ok.after, Region.binds md e = true → e.on ≠ i) → oi.apart ops ok = true := fun k ok hk hki hun hno => by
        refine hfree k ok hk hki ?_ hno
        by_cases hjk : j = k
        · subst hjk; exact hjun
        · rw [getD_set_ne true hjk] at hun; exact hun
      have step : ∀ a' w', S w' → (YieldsS P ops S oi v a' ∧ wpS P md ops S K fuel ((listed.setIfInBounds i true).setIfInBounds j true) (a'.put oi.dst v) w') → wpS P md ops S K (fuel + 1) (listed.setIfInBounds j true) a' w' := fun a' w' hS' h3 =>
        ih (listed.setIfInBounds j true) a' w' hfree' (ready_mono hr (Ne.symm hji)) h3.1 hS' (by rw [Array.setIfInBounds_comm _ _ hji]; exact h3.2)
      have hnb : needB md ops j = true := needB_of hi hoj hji hnot
      unfold sOp at h2 ⊢
      simp only [hoj] at h2 ⊢
      split
      · next hw => simp only [hw, if_true] at h2; exact goes_mono (fun a' w' ⟨hS', h3⟩ => ⟨hS', step a' w' (hS' hnb) h3⟩) h2
      · next hw => simp only [hw] at h2; exact step _ _ hS h2

/-- One value each, in every world of which S holds. -/
def allS (P : Program) (ops : Array Oper) (S : World → Prop) (Q : Act → Prop) : List Oper → Act → Prop
  | [], a => Q a
  | o :: l, a => ∃ v, YieldsS P ops S o v a ∧ allS P ops S Q l (a.put o.dst v)
theorem quiet_keeps {C : World → Prop} {A : Act} {t : Nat} : ∀ (l : List Oper) (a : Act), (∀ o ∈ l, o.dst ≠ some t) → wpQuiet P ops C (fun a' => a' = A) l a → A.tmps[t]? = a.tmps[t]?
  | [], a, _, h => by rw [show a = A from h]
  | o :: l, a, hd, h => by
    have hput : ∀ v, (a.put o.dst v).tmps[t]? = a.tmps[t]? := fun v => by
      have := hd o List.mem_cons_self
      unfold Act.put
      split
      · next k hk => rw [hk] at this; simp [show ¬ k = t from fun e => this (by rw [e])]
      · rfl
    unfold wpQuiet at h
    split at h
    · obtain ⟨v, _, hn⟩ := h
      exact (quiet_keeps l _ (fun o ho => hd o (List.mem_cons_of_mem _ ho)) hn).trans (hput v)
    · exact (quiet_keeps l _ (fun o ho => hd o (List.mem_cons_of_mem _ ho)) h).trans (hput undef)
/-- The temporaries are told apart. -/
def apartB : List Oper → Nat → Bool
  | [], _ => true
  | o :: l, n => (match o.dst with
    | some t => decide (t < n) && l.all (fun o' => o'.dst != some t)
    | none => false) && apartB l n
theorem put_size (a : Act) (d : Option Tmp) (v : Value) : (a.put d v).tmps.size = a.tmps.size := by unfold Act.put; split <;> simp
/-- One world alone, of which S holds. -/
structure SK (S : World → Prop) (p0 : World) where
  s : SW S
  eq : s.w = p0
theorem quietAt_one {o : Oper} {a : Act} {v : Value} {w : World} (h : o.quietAt P a (fun w' => ∃ q : SK S w, w' = q.s.w) w v) : o.quietAt P a (fun w' => w' = w) w v := by
  unfold Oper.quietAt at *
  generalize (execOp a.eval o).run P w = r at *
  cases r with
  | ok n w' =>
    cases n <;> simp only [Oper.quietUpon] at h ⊢
    case value u => exact h
    case skip => exact h
    case enter f args => exact ⟨h.1, h.2.mono fun e w'' ⟨he, q, hq⟩ => ⟨he, hq.trans q.eq⟩⟩
  | halt x w' => simp only [Oper.quietUpon] at h
theorem allS_of {A : Act} (p0 : SW S) : ∀ (l : List Oper) (a : Act), apartB l a.tmps.size = true → (∀ p : SW S, wpQuiet P ops (fun w' => ∃ q : SK S p.w, w' = q.s.w) (fun a' => a' = A) l a) → allS P ops S (fun a' => a' = A) l a
  | [], a, _, h => h p0
  | o :: l, a, hB, h => by
    simp only [apartB, Bool.and_eq_true] at hB
    obtain ⟨h1, h2⟩ := hB
    cases hd : o.dst with
    | none => rw [hd] at h1; cases h1
    | some t =>
      rw [hd] at h1
      simp only [Bool.and_eq_true, decide_eq_true_eq, List.all_eq_true, bne_iff_ne, ne_eq] at h1
      by_cases hw : Region.wanted o (yielded ops a.tmps) = true
      · have hv : ∀ p : SW S, ∃ v, (∀ w, (∃ q : SK S p.w, w = q.s.w) → o.quietAt P a (fun w' => ∃ q : SK S p.w, w' = q.s.w) w v) ∧ wpQuiet P ops (fun w' => ∃ q : SK S p.w, w' = q.s.w) (fun a' => a' = A) l (a.put o.dst v) := fun p => by
          have := h p
          unfold wpQuiet at this
          rw [if_pos hw] at this
          exact this
        have hval : ∀ (p : SW S) v, wpQuiet P ops (fun w' => ∃ q : SK S p.w, w' = q.s.w) (fun a' => a' = A) l (a.put o.dst v) → v = A.tmps.getD t undef := fun p v hq => by
          have := quiet_keeps l _ (fun o' ho => h1.2 o' ho) hq
          rw [Array.getD_eq_getD_getElem?, this, hd]
          unfold Act.put
          simp [h1.1]
        refine ⟨A.tmps.getD t undef, .inl ⟨hw, fun w hS => ?_⟩, allS_of p0 l _ (by rw [put_size]; exact h2) fun p => ?_⟩
        · obtain ⟨v, hq, hn⟩ := hv ⟨w, hS⟩
          rw [← hval _ v hn]
          exact quietAt_one (hq w ⟨⟨⟨w, hS⟩, rfl⟩, rfl⟩)
        · obtain ⟨v, hq, hn⟩ := hv p
          rw [← hval p v hn]
          exact hn
      · have hw' : Region.wanted o (yielded ops a.tmps) = false := by simpa using hw
        refine ⟨undef, .inr ⟨hw', rfl⟩, allS_of p0 l _ (by rw [put_size]; exact h2) fun p => ?_⟩
        have := h p
        unfold wpQuiet at this
        rw [if_neg hw] at this
        exact this
/-- Those operations of a list that a mask names. -/
def pickM : List Bool → List Oper → List Oper
  | true :: m, o :: l => o :: pickM m l
  | false :: m, _ :: l => pickM m l
  | _, _ => []
/-- .. with their numbers. -/
def pickZ : List Bool → List Oper → Nat → List (Nat × Oper)
  | true :: m, o :: l, k => (k, o) :: pickZ m l (k + 1)
  | false :: m, _ :: l, k => pickZ m l (k + 1)
  | _, _, _ => []
theorem pickZ_snd : ∀ (m : List Bool) (l : List Oper) (k : Nat), (pickZ m l k).map Prod.snd = pickM m l
  | true :: m, o :: l, k => by simp [pickZ, pickM, pickZ_snd m l (k + 1)]
  | false :: m, _ :: l, k => by simp [pickZ, pickM, pickZ_snd m l (k + 1)]
  | [], _, _ => by simp [pickZ, pickM]
  | true :: _, [], _ => by simp [pickZ, pickM]
  | false :: _, [], _ => by simp [pickZ, pickM]
theorem pickZ_mem : ∀ (m : List Bool) (l : List Oper) (k : Nat), ∀ z ∈ pickZ m l k, k ≤ z.1 ∧ l[z.1 - k]? = some z.2
  | true :: m, o :: l, k, z, hz => by
    rcases List.mem_cons.1 (by simpa [pickZ] using hz) with rfl | hz
    · simp
    · obtain ⟨h1, h2⟩ := pickZ_mem m l (k + 1) z hz
      refine ⟨by omega, ?_⟩
      rw [show z.1 - k = (z.1 - (k + 1)) + 1 by omega, List.getElem?_cons_succ]; exact h2
  | false :: m, _ :: l, k, z, hz => by
    obtain ⟨h1, h2⟩ := pickZ_mem m l (k + 1) z (by simpa [pickZ] using hz)
    refine ⟨by omega, ?_⟩
    rw [show z.1 - k = (z.1 - (k + 1)) + 1 by omega, List.getElem?_cons_succ]; exact h2
  | [], _, _, z, hz => by simp [pickZ] at hz
  | true :: _, [], _, z, hz => by simp [pickZ] at hz
  | false :: _, [], _, z, hz => by simp [pickZ] at hz
/-- The operations that turn the world come up one behind the other. -/
def chZ (md : Region.Mode) (ops : Array Oper) : List (Nat × Oper) → Array Bool → Bool
  | [], listed => Region.ready md ops listed == []
  | z :: Z, listed => (Region.ready md ops listed == [z.1]) && chZ md ops Z (listed.setIfInBounds z.1 true)
/-- .. behind all others. -/
def quZ (md : Region.Mode) (ops : Array Oper) (Z2 : List (Nat × Oper)) : List (Nat × Oper) → Array Bool → Bool
  | [], listed => chZ md ops Z2 listed
  | z :: Z, listed => (Region.ready md ops listed).contains z.1 && freeB md ops listed z.1 z.2 && quZ md ops Z2 Z (listed.setIfInBounds z.1 true)
/-- What is asked of those that turn the world: S is kept, but by one that waits for all others. -/
def chainM (P : Program) (md : Region.Mode) (ops : Array Oper) (S : World → Prop) (K : Act → World → Prop) : List (Nat × Oper) → Act → World → Prop
  | [], a, w => K a w
  | z :: l, a, w => Region.wanted z.2 (yielded ops a.tmps) = true ∧ goes P z.2 a w (fun a' w' => (needB md ops z.1 = true → S w') ∧ chainM P md ops S K l a' w')
theorem wpS_chain {K : Act → World → Prop} : ∀ (Z : List (Nat × Oper)) (listed : Array Bool) (a : Act) (w : World), (∀ z ∈ Z, ops[z.1]? = some z.2) → chZ md ops Z listed = true → chainM P md ops S K Z a w → wpS P md ops S K Z.length listed a w
  | [], _, _, _, _, hB, h => ⟨by simpa [chZ] using hB, h⟩
  | z :: Z, listed, a, w, hz, hB, h => by
    simp only [chZ, Bool.and_eq_true, beq_iff_eq] at hB
    refine ⟨fun h0 => (by rw [hB.1] at h0; cases h0), fun i hi => ?_⟩
    rw [hB.1, List.mem_singleton] at hi
    subst hi
    unfold sOp
    simp only [hz z List.mem_cons_self]
    obtain ⟨hw, hg⟩ := h
    rw [if_pos hw]
    exact goes_mono (fun a' w' ⟨h1, h2⟩ => ⟨h1, wpS_chain Z _ a' w' (fun y hy => hz y (List.mem_cons_of_mem _ hy)) hB.2 h2⟩) hg
theorem wpS_quiet {K : Act → World → Prop} {Q : Act → Prop} {Z2 : List (Nat × Oper)} {w : World} (hs : Region.noSelect ops = true) (hz2 : ∀ z ∈ Z2, ops[z.1]? = some z.2) (hS : S w) (hQ : ∀ a, Q a → chainM P md ops S K Z2 a w) :
    ∀ (Z : List (Nat × Oper)) (listed : Array Bool) (a : Act), (∀ z ∈ Z, ops[z.1]? = some z.2) → quZ md ops Z2 Z listed = true → allS P ops S Q (Z.map Prod.snd) a → wpS P md ops S K (Z.length + Z2.length) listed a w
  | [], listed, a, _, hB, h => by
    rw [List.length_nil, Nat.zero_add]
    exact wpS_chain Z2 listed a w hz2 hB (hQ a h)
  | z :: Z, listed, a, hz, hB, h => by
    simp only [quZ, Bool.and_eq_true] at hB
    obtain ⟨⟨hr, hf⟩, hB'⟩ := hB
    obtain ⟨v, hy, hK⟩ := h
    have e : (z :: Z).length + Z2.length = (Z.length + Z2.length) + 1 := by rw [List.length_cons]; omega
    rw [e]
    exact wpS_first (hz z List.mem_cons_self) (Region.noSelect_spec hs) _ listed a w (free_of hf) (by simpa using hr) hy hS
      (wpS_quiet hs hz2 hS hQ Z _ _ (fun y hy => hz y (List.mem_cons_of_mem _ hy)) hB' hK)
/-- May it be walked so? m1: those that yield, m2: those that turn the world. -/
def chainB (os : List Oper) (m1 m2 : List Bool) : Bool :=
  Region.noSelect os.toArray && decide ((pickZ m1 os 0).length + (pickZ m2 os 0).length = os.length) && quZ .any os.toArray (pickZ m2 os 0) (pickZ m1 os 0) (Array.replicate os.length false)
theorem wp_region_chain {S : World → Prop} {os : List Oper} {id : Nat} {Q : Exit → Act → World → Prop} {a : Act} {w : World} (m1 m2 : List Bool) (hm : P.follows .mixedOrders = true) (hB : chainB os m1 m2 = true) (hA : apartB (pickM m1 os) a.tmps.size = true) (hS : S w.drew)
    (h : ∃ A, (∀ p : SW S, wpQuiet P os.toArray (fun w' => ∃ q : SK S p.w, w' = q.s.w) (fun a' => a' = A) (pickM m1 os) a) ∧ chainM P .any os.toArray S (fun a' w' => Q .normal a' w') (pickZ m2 os 0) A w.drew) : (Code.region id os.toArray true).wp P Q a w := by
  obtain ⟨A, hq, hc⟩ := h
  simp only [chainB, Bool.and_eq_true, decide_eq_true_eq] at hB
  obtain ⟨⟨hs, hlen⟩, hZ⟩ := hB
  have hz : ∀ m, ∀ z ∈ pickZ m os 0, os.toArray[z.1]? = some z.2 := fun m z hz => by
    rw [List.getElem?_toArray]; simpa using (pickZ_mem m os 0 z hz).2
  refine wp_region_any hm (wpAny_of_S (S := S) (K := fun a' w' => Q .normal a' w') (fun _ _ h => h) _ _ _ _ ?_)
  have key := wpS_quiet (md := .any) (S := S) (K := fun a' w' => Q .normal a' w') (Q := fun a' => a' = A) (Z2 := pickZ m2 os 0) (w := w.drew) hs (hz m2) hS (fun a' ha => by rw [show a' = A from ha]; exact hc)
    (pickZ m1 os 0) (Array.replicate os.length false) a (hz m1) hZ (by rw [pickZ_snd]; exact allS_of ⟨_, hS⟩ _ _ hA hq)
  rw [hlen] at key
  simpa using key
/-- A step of those that turn the world: one that yields a value. -/
theorem chain_step {K : Act → World → Prop} {j : Nat} {o : Oper} {l : List (Nat × Oper)} {a : Act} {w : World} (v : Value) (w' : World) (hg : o.guard = none) (hr : (execOp a.eval o).run P w = .ok (.value v) w') (hS : S w')
    (h : chainM P md ops S K l (a.put o.dst v) w') : chainM P md ops S K ((j, o) :: l) a w := by
  refine ⟨by unfold Region.wanted; rw [hg], ?_⟩
  unfold goes
  rw [hr]
  exact ⟨fun _ => hS, h⟩
/-- .. one that yields none. -/
theorem chain_skip {K : Act → World → Prop} {j : Nat} {o : Oper} {l : List (Nat × Oper)} {a : Act} {w : World} (w' : World) (hg : o.guard = none) (hr : (execOp a.eval o).run P w = .ok .skip w') (hS : S w')
    (h : chainM P md ops S K l (a.put o.dst undef) w') : chainM P md ops S K ((j, o) :: l) a w := by
  refine ⟨by unfold Region.wanted; rw [hg], ?_⟩
  unfold goes
  rw [hr]
  exact ⟨fun _ => hS, h⟩
/-- .. one that waits for all others. -/
theorem chain_last {K : Act → World → Prop} {j : Nat} {o : Oper} {a : Act} {w : World} (w' : World) (hn : needB md ops j = false) (hg : o.guard = none) (hr : (execOp a.eval o).run P w = .ok .skip w')
    (h : K (a.put o.dst undef) w') : chainM P md ops S K [(j, o)] a w := by
  refine ⟨by unfold Region.wanted; rw [hg], ?_⟩
  unfold goes
  rw [hr]
  exact ⟨fun h0 => (by rw [hn] at h0; cases h0), h⟩
/-- .. a call. -/
theorem chain_call {K : Act → World → Prop} {j : Nat} {o : Oper} {l : List (Nat × Oper)} {a : Act} {w : World} (f : FuncId) (args : Array Value) (hg : o.guard = none) (hr : (execOp a.eval o).run P w = .ok (.enter f args) w)
    (h : Calls P f args w fun e w' => ∃ v, e = .returned v ∧ S w' ∧ chainM P md ops S K l (a.put o.dst v) w') : chainM P md ops S K ((j, o) :: l) a w := by
  refine ⟨by unfold Region.wanted; rw [hg], ?_⟩
  unfold goes
  rw [hr]
  exact h.mono fun e w' ⟨v, he, hS, hc⟩ => ⟨v, he, fun _ => hS, hc⟩
end
end Go.Proofs.Ytdmjkbcjljnleaa

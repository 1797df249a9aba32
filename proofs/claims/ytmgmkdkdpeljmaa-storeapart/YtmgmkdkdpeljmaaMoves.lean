/- A region that draws its order, in a family of classes of worlds: operations that yield one value each in every class, and stay in it, beside a few movers, which lead from one class to another: the walk of one order serves every order. No conditions. -/
import Derived.Test.YtmgmkdkdpeljmaaSeqL
namespace Go.Proofs.Ytmgmkdkdpeljmaa
section
variable {P : Program} {ops : Array Oper} {md : Region.Mode} {ι : Type} {Cl : ι → World → Prop} {mv : Nat → Bool}
/-- A mover, from a world of class c. -/
def MovesTo (P : Program) (ops : Array Oper) (Cl : ι → World → Prop) (o : Oper) (K : Act → ι → Prop) (a : Act) (c : ι) : Prop :=
  Region.wanted o (yielded ops a.tmps) = true ∧ ∀ w, Cl c w → ∃ c' w' u, ((execOp a.eval o).run P w = .ok (.value u) w' ∨ ((execOp a.eval o).run P w = .ok .skip w' ∧ u = undef)) ∧ Cl c' w' ∧ K (a.put o.dst u) c'
theorem MovesTo.mono {o : Oper} {K K' : Act → ι → Prop} {a : Act} {c : ι} (h : MovesTo P ops Cl o K a c) (hK : ∀ a c, K a c → K' a c) : MovesTo P ops Cl o K' a c :=
  ⟨h.1, fun w hw => by obtain ⟨c', w', u, h1, h2, h3⟩ := h.2 w hw; exact ⟨c', w', u, h1, h2, hK _ _ h3⟩⟩
def wpG (P : Program) (md : Region.Mode) (ops : Array Oper) (Cl : ι → World → Prop) (mv : Nat → Bool) (K : Act → ι → Prop) : Nat → Array Bool → Act → ι → Prop
  | 0, listed, a, c => Region.ready md ops listed = [] ∧ K a c
  | fuel + 1, listed, a, c => (Region.ready md ops listed = [] → K a c) ∧ ∀ i ∈ Region.ready md ops listed,
      (mv i = true → ∀ o, ops[i]? = some o → MovesTo P ops Cl o (wpG P md ops Cl mv K fuel (listed.setIfInBounds i true)) a c) ∧
      (mv i = false → qOp P ops (Cl c) i (fun a' => wpG P md ops Cl mv K fuel (listed.setIfInBounds i true) a' c) a)
theorem wpAny_of_G {K : Act → ι → Prop} {Q' : Exit → Act → World → Prop} (hK : ∀ a c w, K a c → Cl c w → Q' .normal a w) : ∀ (fuel : Nat) (listed : Array Bool) (a : Act) (c : ι) (w : World), Cl c w → wpG P md ops Cl mv K fuel listed a c → wpAny P md ops Q' fuel listed a w
  | 0, _, _, _, _, hw, h => ⟨h.1, hK _ _ _ h.2 hw⟩
  | fuel + 1, listed, a, c, w, hw, h => by
    refine ⟨fun he => hK _ _ _ (h.1 he) hw, fun i hi => ?_⟩
    cases hm : mv i with
    | true =>
      obtain ⟨_, oj, hoj, _⟩ := mem_ready.1 hi
      obtain ⟨hwant, hl⟩ := (h.2 i hi).1 hm oj hoj
      obtain ⟨c', w', u, hr, hc, hn⟩ := hl w hw
      unfold wpOp
      simp only [hoj, hwant, if_true]
      left
      unfold Oper.wp
      rcases hr with hr | ⟨hr, rfl⟩
      · rw [hr]
        simp only [Oper.upon]
        exact wpAny_of_G hK fuel _ _ c' w' hc hn
      · rw [hr]
        simp only [Oper.upon]
        exact wpAny_of_G hK fuel _ _ c' w' hc hn
    | false => exact wpOp_of_qOp hw (fun a' w' hw' hn => wpAny_of_G hK fuel _ a' c w' hw' hn) ((h.2 i hi).2 hm)
theorem wpG_first {K : Act → ι → Prop} {i : Nat} {oi : Oper} {v : Value} (hi : ops[i]? = some oi) (hne : mv i = false) (hsel : ∀ (j : Nat) (o : Oper) cs b, ops[j]? = some o → o.op ≠ .select cs b) :
    ∀ (fuel : Nat) (listed : Array Bool) (a : Act) (c : ι),
      (∀ j oj, ops[j]? = some oj → j ≠ i → listed.getD j true = false → (∀ e ∈ oj.after, Region.binds md e = true → e.on ≠ i) → oi.apart ops oj = true) →
      i ∈ Region.ready md ops listed → (∀ c, YieldsIn P ops (Cl c) oi v a) →
      wpG P md ops Cl mv K fuel (listed.setIfInBounds i true) (a.put oi.dst v) c → wpG P md ops Cl mv K (fuel + 1) listed a c := by
  intro fuel
  induction fuel with
  | zero =>
    intro listed a c _ hr hy H
    refine ⟨fun h => (by rw [h] at hr; cases hr), fun j hj => ?_⟩
    by_cases hji : j = i
    · subst hji
      exact ⟨fun h => (by rw [hne] at h; cases h), fun _ => (hy c).qOp hi (by simpa using H)⟩
    · have := ready_mono hj hji
      rw [H.1] at this
      cases this
  | succ fuel ih =>
    intro listed a c hfree hr hy H
    refine ⟨fun h => (by rw [h] at hr; cases hr), fun j hj => ?_⟩
    by_cases hji : j = i
    · subst hji
      exact ⟨fun h => (by rw [hne] at h; cases h), fun _ => (hy c).qOp hi (by simpa using H)⟩
    · obtain ⟨hjun, oj, hoj, hall⟩ := mem_ready.1 hj
      have hnot : ∀ e ∈ oj.after, Region.binds md e = true → e.on ≠ i := fun e he hb heq => by
        have h1 := hall e he hb
        have h2 := (mem_ready.1 hr).1
        rw [heq] at h1
        rcases Nat.lt_or_ge i listed.size with h' | h'
        · simp [h'] at h1 h2; rw [h2] at h1; cases h1
        · simp [Array.getElem?_eq_none h'] at h1
      have hap := hfree j oj hoj hji hjun hnot
      obtain ⟨a1, a2, a3⟩ := Oper.apart_spec hap
      have hfree' : ∀ k ok, ops[k]? = some ok → k ≠ i → (listed.setIfInBounds j true).getD k true = false → (∀ e ∈ ok.after, Region.binds md e = true → e.on ≠ i) → oi.apart ops ok = true := fun k ok hk hki hun hno => by
        refine hfree k ok hk hki ?_ hno
        by_cases hjk : j = k
        · subst hjk; exact hjun
        · rw [getD_set_ne true hjk] at hun; exact hun
      have keep : ∀ (u : Value) c, YieldsIn P ops (Cl c) oi v (a.put oj.dst u) := fun u c =>
        (hy c).of_same (execOp_put oi (fun cs b => hsel i oi cs b hi) a oj.dst u a3) (wanted_put oi a oj.dst u a3)
      have step : ∀ (u : Value) (c' : ι), wpG P md ops Cl mv K fuel ((listed.setIfInBounds i true).setIfInBounds j true) ((a.put oi.dst v).put oj.dst u) c' → wpG P md ops Cl mv K (fuel + 1) (listed.setIfInBounds j true) (a.put oj.dst u) c' := fun u c' hn => by
        refine ih (listed.setIfInBounds j true) (a.put oj.dst u) c' hfree' (ready_mono hr (Ne.symm hji)) (keep u) ?_
        rw [Array.setIfInBounds_comm _ _ hji, ← Act.put_comm a v u a2]
        exact hn
      have h1 := H.2 j (ready_mono hj hji)
      refine ⟨fun hm o ho => ?_, fun hm => ?_⟩
      · obtain rfl : o = oj := Option.some.inj (ho.symm.trans hoj)
        obtain ⟨hwant, hl⟩ := h1.1 hm o ho
        rw [wanted_put o a oi.dst v a1] at hwant
        refine ⟨hwant, fun w hw => ?_⟩
        obtain ⟨c', w', u, hx, hc, hn⟩ := hl w hw
        rw [execOp_put o (fun cs b => hsel j o cs b hoj) a oi.dst v a1] at hx
        exact ⟨c', w', u, hx, hc, step u c' hn⟩
      · have h2 := h1.2 hm
        unfold qOp at h2 ⊢
        simp only [hoj] at h2 ⊢
        rw [wanted_put oj a oi.dst v a1] at h2
        split
        · rename_i hw
          simp only [hw, if_true] at h2
          obtain ⟨u, hu, hn⟩ := h2
          refine ⟨u, fun w hw' => ?_, step u c hn⟩
          have := hu w hw'
          unfold Oper.quietAt at *
          rwa [execOp_put oj (fun cs b => hsel j oj cs b hoj) a oi.dst v a1] at this
        · rename_i hw
          simp only [hw] at h2
          exact step undef c h2
/-- The walk of one order. -/
def seqG (P : Program) (ops : Array Oper) (Cl : ι → World → Prop) (K : Act → ι → Prop) : List (Bool × Nat × Oper) → Act → ι → Prop
  | [], a, c => K a c
  | (true, z) :: l, a, c => ∃ v, (∀ c', YieldsIn P ops (Cl c') z.2 v a) ∧ seqG P ops Cl K l (a.put z.2.dst v) c
  | (false, z) :: l, a, c => MovesTo P ops Cl z.2 (seqG P ops Cl K l) a c
theorem wpG_seq {K : Act → ι → Prop} (hs : Region.noSelect ops = true) : ∀ (Z : List (Bool × Nat × Oper)) (listed : Array Bool) (a : Act) (c : ι), (∀ z ∈ Z, ops[z.2.1]? = some z.2.2 ∧ mv z.2.1 = !z.1) → seqZ md ops Z listed = true → seqG P ops Cl K Z a c → wpG P md ops Cl mv K Z.length listed a c
  | [], _, _, _, _, hB, h => ⟨by simpa [seqZ] using hB, h⟩
  | (true, z) :: Z, listed, a, c, hz, hB, h => by
    simp only [seqZ, Bool.and_eq_true] at hB
    obtain ⟨⟨hr, hf⟩, hB'⟩ := hB
    obtain ⟨v, hy, hK⟩ := h
    obtain ⟨e1, e2⟩ := hz (true, z) List.mem_cons_self
    exact wpG_first e1 e2 (Region.noSelect_spec hs) _ listed a c (free_of hf) (by simpa using hr) hy
      (wpG_seq hs Z _ _ _ (fun y hy => hz y (List.mem_cons_of_mem _ hy)) hB' hK)
  | (false, z) :: Z, listed, a, c, hz, hB, h => by
    simp only [seqZ, Bool.and_eq_true, beq_iff_eq] at hB
    obtain ⟨e1, e2⟩ := hz (false, z) List.mem_cons_self
    refine ⟨fun h0 => (by rw [hB.1] at h0; cases h0), fun i hi => ?_⟩
    rw [hB.1, List.mem_singleton] at hi
    subst hi
    refine ⟨fun _ o ho => ?_, fun hm => (by rw [e2] at hm; cases hm)⟩
    obtain rfl : o = z.2 := Option.some.inj (ho.symm.trans e1)
    exact MovesTo.mono h (fun a c hn => wpG_seq hs Z _ a c (fun y hy => hz y (List.mem_cons_of_mem _ hy)) hB.2 hn)
def allG (P : Program) (ops : Array Oper) (Cl : ι → World → Prop) (Q : Act → Prop) : List Oper → Act → Prop
  | [], a => Q a
  | o :: l, a => ∃ v, (∀ c, YieldsIn P ops (Cl c) o v a) ∧ allG P ops Cl Q l (a.put o.dst v)
theorem allG_of (c0 : ι) {A : Act} : ∀ (l : List Oper) (a : Act), apartB l a.tmps.size = true → (∀ c, wpQuiet P ops (Cl c) (fun a' => a' = A) l a) → allG P ops Cl (fun a' => a' = A) l a
  | [], a, _, h => h c0
  | o :: l, a, hB, h => by
    simp only [apartB, Bool.and_eq_true] at hB
    obtain ⟨h1, h2⟩ := hB
    cases hd : o.dst with
    | none => rw [hd] at h1; cases h1
    | some t =>
      rw [hd] at h1
      simp only [Bool.and_eq_true, decide_eq_true_eq, List.all_eq_true, bne_iff_ne, ne_eq] at h1
      by_cases hw : Region.wanted o (yielded ops a.tmps) = true
      · have hv : ∀ c, ∃ v, (∀ w, Cl c w → o.quietAt P a (Cl c) w v) ∧ wpQuiet P ops (Cl c) (fun a' => a' = A) l (a.put o.dst v) := fun c => by
          have := h c
          unfold wpQuiet at this
          rw [if_pos hw] at this
          exact this
        have hval : ∀ c v, wpQuiet P ops (Cl c) (fun a' => a' = A) l (a.put o.dst v) → v = A.tmps.getD t undef := fun c v hq => by
          have := quiet_keeps l _ (fun o' ho => h1.2 o' ho) hq
          rw [Array.getD_eq_getD_getElem?, this, hd]
          unfold Act.put
          simp [h1.1]
        refine ⟨A.tmps.getD t undef, fun c => ?_, allG_of c0 l _ (by rw [put_size]; exact h2) fun c => ?_⟩
        · obtain ⟨v, hq, hn⟩ := hv c
          rw [← hval c v hn]
          exact .inl ⟨hw, hq⟩
        · obtain ⟨v, hq, hn⟩ := hv c
          rw [← hval c v hn]
          exact hn
      · have hw' : Region.wanted o (yielded ops a.tmps) = false := by simpa using hw
        refine ⟨undef, fun c => .inr ⟨hw', rfl⟩, allG_of c0 l _ (by rw [put_size]; exact h2) fun c => ?_⟩
        have := h c
        unfold wpQuiet at this
        rw [if_neg hw] at this
        exact this
theorem seqG_quiet {K : Act → ι → Prop} {Q : Act → Prop} {rest : List (Bool × Nat × Oper)} {c : ι} (hQ : ∀ a, Q a → seqG P ops Cl K rest a c) :
    ∀ (Z : List (Nat × Oper)) (a : Act), allG P ops Cl Q (Z.map Prod.snd) a → seqG P ops Cl K (tag true Z ++ rest) a c
  | [], a, h => hQ a h
  | _ :: Z, _, h => by
    obtain ⟨v, hy, hK⟩ := h
    exact ⟨v, hy, seqG_quiet hQ Z _ hK⟩
theorem wpQuiet_empty {C C' : World → Prop} {Q : Act → Prop} (hC : ∀ w, ¬ C' w) : ∀ (l : List Oper) (a : Act), wpQuiet P ops C Q l a → wpQuiet P ops C' Q l a
  | [], _, h => h
  | o :: l, a, h => by
    unfold wpQuiet at h ⊢
    split
    · next hw =>
      rw [if_pos hw] at h
      obtain ⟨v, _, hn⟩ := h
      exact ⟨v, fun w hw => absurd hw (hC w), wpQuiet_empty hC l _ hn⟩
    · next hw =>
      rw [if_neg hw] at h
      exact wpQuiet_empty hC l _ h
theorem seqG_mover {K : Act → ι → Prop} {i : Nat} {o : Oper} {l : List (Bool × Nat × Oper)} {a : Act} {c : ι} (hw : Region.wanted o (yielded ops a.tmps) = true)
    (h : ∀ w, Cl c w → ∃ c' w' u, ((execOp a.eval o).run P w = .ok (.value u) w' ∨ ((execOp a.eval o).run P w = .ok .skip w' ∧ u = undef)) ∧ Cl c' w' ∧ seqG P ops Cl K l (a.put o.dst u) c') : seqG P ops Cl K ((false, i, o) :: l) a c := ⟨hw, h⟩
theorem seqG_yields {K : Act → ι → Prop} {i : Nat} {o : Oper} {l : List (Bool × Nat × Oper)} {a : Act} {c : ι} (v : Value) (hw : Region.wanted o (yielded ops a.tmps) = true) (hr : ∀ w, (execOp a.eval o).run P w = .ok (.value v) w)
    (h : seqG P ops Cl K l (a.put o.dst v) c) : seqG P ops Cl K ((true, i, o) :: l) a c :=
  ⟨v, fun c' => .inl ⟨hw, fun w _ => by unfold Oper.quietAt; rw [hr w]; exact ⟨rfl, rfl⟩⟩, h⟩
/-- May it be walked so? m1: those that yield, ahead; t: the rest, in its order, and whether each yields. -/
def movesB (os : List Oper) (m1 : List Bool) (t : List (Bool × Nat)) : Bool :=
  Region.noSelect os.toArray && decide ((pickZ m1 os 0).length + t.length = os.length) && t.all (fun x => (os[x.2]?).isSome) &&
    seqZ .any os.toArray (tag true (pickZ m1 os 0) ++ t.map (fun x => (x.1, x.2, os.getD x.2 default))) (Array.replicate os.length false) &&
    (pickZ m1 os 0).all (fun z => !(t.any (fun x => !x.1 && x.2 == z.1))) && t.all (fun x => !x.1 || !(t.any (fun y => !y.1 && y.2 == x.2)))
theorem wp_region_moves {os : List Oper} {id : Nat} {Q : Exit → Act → World → Prop} {a : Act} {w : World} {Cl : ι → World → Prop} (c0 : ι) (m1 : List Bool) (t : List (Bool × Nat)) (hm : P.follows .mixedOrders = true) (hB : movesB os m1 t = true) (hA : apartB (pickM m1 os) a.tmps.size = true) (hS : Cl c0 w.drew)
    (h : ∃ A, (∀ c, Nonempty (SW (Cl c)) → wpQuiet P os.toArray (fun w' => ∃ p : SW (Cl c), w' = p.w) (fun a' => a' = A) (pickM m1 os) a) ∧
      seqG P os.toArray (fun c w' => ∃ p : SW (Cl c), w' = p.w) (fun a' c => ∀ w', Cl c w' → Q .normal a' w') (t.map (fun x => (x.1, x.2, os.getD x.2 default))) A c0) : (Code.region id os.toArray true).wp P Q a w := by
  obtain ⟨A, hq', hc⟩ := h
  have hq : ∀ c, wpQuiet P os.toArray (fun w' => ∃ p : SW (Cl c), w' = p.w) (fun a' => a' = A) (pickM m1 os) a := fun c => by
    by_cases hne : Nonempty (SW (Cl c))
    · exact hq' c hne
    · exact wpQuiet_empty (fun w' ⟨p, _⟩ => hne ⟨p⟩) _ _ (hq' c0 ⟨⟨_, hS⟩⟩)
  simp only [movesB, Bool.and_eq_true, decide_eq_true_eq, List.all_eq_true] at hB
  obtain ⟨⟨⟨⟨⟨hs, hlen⟩, hin⟩, hZ⟩, hm1⟩, hm2⟩ := hB
  refine wp_region_any hm (wpAny_of_G (Cl := fun c w' => ∃ p : SW (Cl c), w' = p.w) (mv := fun i => t.any (fun x => !x.1 && x.2 == i)) (K := fun a' c => ∀ w', Cl c w' → Q .normal a' w') (fun a' c w' hK ⟨p, hp⟩ => by rw [hp]; exact hK _ p.ok) _ _ _ c0 _ ⟨⟨_, hS⟩, rfl⟩ ?_)
  have hall : ∀ z ∈ tag true (pickZ m1 os 0) ++ t.map (fun x => (x.1, x.2, os.getD x.2 default)), os.toArray[z.2.1]? = some z.2.2 ∧ (fun i => t.any (fun x => !x.1 && x.2 == i)) z.2.1 = !z.1 := by
    intro z hzm
    rcases List.mem_append.1 hzm with h1 | h1
    · obtain ⟨y, hy, rfl⟩ := List.mem_map.1 h1
      refine ⟨?_, ?_⟩
      · rw [List.getElem?_toArray]; simpa using (pickZ_mem m1 os 0 y hy).2
      · have := hm1 y hy
        simpa using this
    · obtain ⟨x, hx, rfl⟩ := List.mem_map.1 h1
      refine ⟨?_, ?_⟩
      · have := hin x hx
        rw [List.getElem?_toArray]
        obtain ⟨o, ho⟩ := Option.isSome_iff_exists.1 this
        simp [ho]
      · obtain ⟨b, i⟩ := x
        cases b with
        | false =>
          show t.any (fun x => !x.1 && x.2 == i) = true
          exact List.any_eq_true.2 ⟨_, hx, by simp⟩
        | true =>
          have := hm2 _ hx
          show t.any (fun x => !x.1 && x.2 == i) = false
          simpa using this
  have key := wpG_seq (md := .any) (P := P) (Cl := fun c w' => ∃ p : SW (Cl c), w' = p.w) (mv := fun i => t.any (fun x => !x.1 && x.2 == i)) (K := fun a' c => ∀ w', Cl c w' → Q .normal a' w') hs _ (Array.replicate os.length false) a c0 hall hZ (by
    refine seqG_quiet (Q := fun a' => a' = A) (fun a' ha => ?_) _ a (by rw [pickZ_snd]; exact allG_of c0 _ _ hA hq)
    rw [show a' = A from ha]
    exact hc)
  have hl : (tag true (pickZ m1 os 0) ++ t.map (fun x => (x.1, x.2, os.getD x.2 default))).length = os.length := by
    simp only [tag, List.length_append, List.length_map]; exact hlen
  rw [hl] at key
  simpa using key
end
end Go.Proofs.Ytmgmkdkdpeljmaa

/- A region that draws its order: quiet operations, then some that turn the world one behind the other, then quiet ones again, then such as turn it: the walk of these four parts serves every order. No conditions. -/
import Derived.Test.YtdmjkbcjljnleaaChain
namespace Go.Proofs.Ytdmjkbcjljnleaa
section
variable {P : Program} {ops : Array Oper} {md : Region.Mode} {S : World → Prop}
/-- A call among those that turn the world, whatever guards it. -/
theorem chain_call_on {K : Act → World → Prop} {j : Nat} {o : Oper} {l : List (Nat × Oper)} {a : Act} {w : World} (f : FuncId) (args : Array Value) (hw : Region.wanted o (yielded ops a.tmps) = true) (hr : (execOp a.eval o).run P w = .ok (.enter f args) w)
    (h : Calls P f args w fun e w' => ∃ v, e = .returned v ∧ S w' ∧ chainM P md ops S K l (a.put o.dst v) w') : chainM P md ops S K ((j, o) :: l) a w := by
  refine ⟨hw, ?_⟩
  unfold goes
  rw [hr]
  exact h.mono fun e w' ⟨v, he, hS, hc⟩ => ⟨v, he, fun _ => hS, hc⟩
theorem chain_step_on {K : Act → World → Prop} {j : Nat} {o : Oper} {l : List (Nat × Oper)} {a : Act} {w : World} (v : Value) (w' : World) (hw : Region.wanted o (yielded ops a.tmps) = true) (hr : (execOp a.eval o).run P w = .ok (.value v) w') (hS : S w')
    (h : chainM P md ops S K l (a.put o.dst v) w') : chainM P md ops S K ((j, o) :: l) a w := by
  refine ⟨hw, ?_⟩
  unfold goes
  rw [hr]
  exact ⟨fun _ => hS, h⟩
/-- Steps: quiet ones (true), and such as turn the world. -/
def seqZ (md : Region.Mode) (ops : Array Oper) : List (Bool × Nat × Oper) → Array Bool → Bool
  | [], listed => Region.ready md ops listed == []
  | (true, z) :: Z, listed => (Region.ready md ops listed).contains z.1 && freeB md ops listed z.1 z.2 && seqZ md ops Z (listed.setIfInBounds z.1 true)
  | (false, z) :: Z, listed => (Region.ready md ops listed == [z.1]) && seqZ md ops Z (listed.setIfInBounds z.1 true)
def seqM (P : Program) (md : Region.Mode) (ops : Array Oper) (S : World → Prop) (K : Act → World → Prop) : List (Bool × Nat × Oper) → Act → World → Prop
  | [], a, w => K a w
  | (true, z) :: l, a, w => S w ∧ ∃ v, YieldsS P ops S z.2 v a ∧ seqM P md ops S K l (a.put z.2.dst v) w
  | (false, z) :: l, a, w => Region.wanted z.2 (yielded ops a.tmps) = true ∧ goes P z.2 a w (fun a' w' => (needB md ops z.1 = true → S w') ∧ seqM P md ops S K l a' w')
theorem wpS_seq {K : Act → World → Prop} (hs : Region.noSelect ops = true) : ∀ (Z : List (Bool × Nat × Oper)) (listed : Array Bool) (a : Act) (w : World), (∀ z ∈ Z, ops[z.2.1]? = some z.2.2) → seqZ md ops Z listed = true → seqM P md ops S K Z a w → wpS P md ops S K Z.length listed a w
  | [], _, _, _, _, hB, h => ⟨by simpa [seqZ] using hB, h⟩
  | (true, z) :: Z, listed, a, w, hz, hB, h => by
    simp only [seqZ, Bool.and_eq_true] at hB
    obtain ⟨⟨hr, hf⟩, hB'⟩ := hB
    obtain ⟨hS, v, hy, hK⟩ := h
    exact wpS_first (hz (true, z) List.mem_cons_self) (Region.noSelect_spec hs) _ listed a w (free_of hf) (by simpa using hr) hy hS
      (wpS_seq hs Z _ _ _ (fun y hy => hz y (List.mem_cons_of_mem _ hy)) hB' hK)
  | (false, z) :: Z, listed, a, w, hz, hB, h => by
    simp only [seqZ, Bool.and_eq_true, beq_iff_eq] at hB
    refine ⟨fun h0 => (by rw [hB.1] at h0; cases h0), fun i hi => ?_⟩
    rw [hB.1, List.mem_singleton] at hi
    subst hi
    unfold sOp
    simp only [hz (false, z) List.mem_cons_self]
    obtain ⟨hw, hg⟩ := h
    rw [if_pos hw]
    exact goes_mono (fun a' w' ⟨h1, h2⟩ => ⟨h1, wpS_seq hs Z _ a' w' (fun y hy => hz y (List.mem_cons_of_mem _ hy)) hB.2 h2⟩) hg
theorem seqM_quiet {K : Act → World → Prop} {Q : Act → Prop} {rest : List (Bool × Nat × Oper)} {w : World} (hS : S w) (hQ : ∀ a, Q a → seqM P md ops S K rest a w) :
    ∀ (Z : List (Nat × Oper)) (a : Act), allS P ops S Q (Z.map Prod.snd) a → seqM P md ops S K (Z.map (fun z => (true, z)) ++ rest) a w
  | [], a, h => hQ a h
  | _ :: Z, _, h => by
    obtain ⟨v, hy, hK⟩ := h
    exact ⟨hS, v, hy, seqM_quiet hS hQ Z _ hK⟩
theorem seqM_chain {K K' : Act → World → Prop} {rest : List (Bool × Nat × Oper)} (hK : ∀ a w, K' a w → seqM P md ops S K rest a w) :
    ∀ (Z : List (Nat × Oper)) (a : Act) (w : World), chainM P md ops S K' Z a w → seqM P md ops S K (Z.map (fun z => (false, z)) ++ rest) a w
  | [], a, w, h => hK a w h
  | _ :: Z, _, _, h => ⟨h.1, goes_mono (fun a' w' ⟨h1, h2⟩ => ⟨h1, seqM_chain hK Z a' w' h2⟩) h.2⟩
def tag (b : Bool) (Z : List (Nat × Oper)) : List (Bool × Nat × Oper) := Z.map (fun z => (b, z))
/-- May it be walked so? m1, m3: those that yield, m2, m4: those that turn the world. -/
def seqB (os : List Oper) (m1 m2 m3 m4 : List Bool) : Bool :=
  Region.noSelect os.toArray && decide ((pickZ m1 os 0).length + (pickZ m2 os 0).length + (pickZ m3 os 0).length + (pickZ m4 os 0).length = os.length) &&
    seqZ .any os.toArray (tag true (pickZ m1 os 0) ++ (tag false (pickZ m2 os 0) ++ (tag true (pickZ m3 os 0) ++ tag false (pickZ m4 os 0)))) (Array.replicate os.length false)
theorem wp_region_seq {S : World → Prop} {os : List Oper} {id : Nat} {Q : Exit → Act → World → Prop} {a : Act} {w : World} (m1 m2 m3 m4 : List Bool) (hm : P.follows .mixedOrders = true) (hB : seqB os m1 m2 m3 m4 = true) (hA : apartB (pickM m1 os) a.tmps.size = true) (hS : S w.drew)
    (h : ∃ A, (∀ p : SW S, wpQuiet P os.toArray (fun w' => ∃ q : SK S p.w, w' = q.s.w) (fun a' => a' = A) (pickM m1 os) a) ∧ chainM P .any os.toArray S (fun a2 w2 => S w2 ∧ apartB (pickM m3 os) a2.tmps.size = true ∧
      ∃ A2, (∀ p : SW S, wpQuiet P os.toArray (fun w' => ∃ q : SK S p.w, w' = q.s.w) (fun a' => a' = A2) (pickM m3 os) a2) ∧ chainM P .any os.toArray S (fun a' w' => Q .normal a' w') (pickZ m4 os 0) A2 w2) (pickZ m2 os 0) A w.drew) : (Code.region id os.toArray true).wp P Q a w := by
  obtain ⟨A, hq, hc⟩ := h
  simp only [seqB, Bool.and_eq_true, decide_eq_true_eq] at hB
  obtain ⟨⟨hs, hlen⟩, hZ⟩ := hB
  have hz : ∀ m, ∀ z ∈ pickZ m os 0, os.toArray[z.1]? = some z.2 := fun m z hz => by
    rw [List.getElem?_toArray]; simpa using (pickZ_mem m os 0 z hz).2
  refine wp_region_any hm (wpAny_of_S (S := S) (K := fun a' w' => Q .normal a' w') (fun _ _ h => h) _ _ _ _ ?_)
  have hall : ∀ z ∈ tag true (pickZ m1 os 0) ++ (tag false (pickZ m2 os 0) ++ (tag true (pickZ m3 os 0) ++ tag false (pickZ m4 os 0))), os.toArray[z.2.1]? = some z.2.2 := by
    intro z hzm
    have tagm : ∀ b m, z ∈ tag b (pickZ m os 0) → os.toArray[z.2.1]? = some z.2.2 := fun b m hm => by
      obtain ⟨y, hy, rfl⟩ := List.mem_map.1 hm
      exact hz m y hy
    rcases List.mem_append.1 hzm with h1 | h1
    · exact tagm _ _ h1
    · rcases List.mem_append.1 h1 with h2 | h2
      · exact tagm _ _ h2
      · rcases List.mem_append.1 h2 with h3 | h3
        · exact tagm _ _ h3
        · exact tagm _ _ h3
  have key := wpS_seq (md := .any) (S := S) (K := fun a' w' => Q .normal a' w') (P := P) hs _ (Array.replicate os.length false) a w.drew hall hZ (by
    refine seqM_quiet (Q := fun a' => a' = A) hS (fun a' ha => ?_) _ a (by rw [pickZ_snd]; exact allS_of ⟨_, hS⟩ _ _ hA hq)
    rw [show a' = A from ha]
    refine seqM_chain (fun a2 w2 hK => ?_) _ _ _ hc
    obtain ⟨hS2, hA2, A2, hq2, hc2⟩ := hK
    refine seqM_quiet (Q := fun a' => a' = A2) hS2 (fun a' ha => ?_) _ a2 (by rw [pickZ_snd]; exact allS_of ⟨_, hS2⟩ _ _ hA2 hq2)
    rw [show a' = A2 from ha]
    have := seqM_chain (rest := []) (fun a3 w3 hK3 => hK3) _ _ _ hc2
    rw [List.append_nil] at this
    exact this)
  have hl : (tag true (pickZ m1 os 0) ++ (tag false (pickZ m2 os 0) ++ (tag true (pickZ m3 os 0) ++ tag false (pickZ m4 os 0)))).length = os.length := by
    simp only [tag, List.length_append, List.length_map]; omega
  rw [hl] at key
  simpa using key
end
end Go.Proofs.Ytdmjkbcjljnleaa

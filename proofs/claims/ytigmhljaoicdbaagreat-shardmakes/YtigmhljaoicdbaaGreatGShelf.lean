/- The library's contracts of slices.SortFunc, maps.Clone and strings.Clone, laid at this program. No conditions. -/
import Derived.Shelf.SlSortCmp.NoneTotal
import Derived.Shelf.SlMaps.Clone
import Derived.Shelf.Strconv.Clone
import Derived.Shelf.LaysM
import Derived.Test.YtigmhljaoicdbaaGreatChecked
import Derived.Deep.Quiet
import Derived.Deep.MidRow
import Derived.Maps.RangeWalk
namespace Go.Proofs.YtigmhljaoicdbaaGreat
open Go.Shelf
def sortOut_ren : Go.Shelf.Ren := ⟨fun | 6 => 95 | 15 => 113 | 14 => 112 | 28 => 130 | 29 => 131 | 20 => 122 | 21 => 123 | 22 => 124 | 23 => 125 | 24 => 126 | 25 => 127 | 26 => 128 | 27 => 129 | 46 => 144 | 47 => 145 | 48 => 146 | 49 => 147 | 50 => 148 | 57 => 152 | n => n, fun | 22 => 27 | 24 => 52 | 25 => 158 | 3 => 3 | 39 => 168 | 0 => 0 | 53 => 181 | 55 => 183 | 4 => 4 | 46 => 175 | 45 => 174 | 50 => 139 | 5 => 5 | 9 => 9 | 66 => 194 | 70 => 198 | 76 => 202 | 77 => 75 | n => n, fun | n => n⟩
theorem sortOut : Go.Proofs.SlLaysF0.n6 Tryz.prog sortOut_ren := {
  mixed := by kernel_rfl
  f6 := ⟨Tryz.f95.name, by decide, Tryz.func95.trans (congrArg some (by kernel_rfl))⟩
  f14 := ⟨Tryz.f112.name, by decide, Tryz.func112.trans (congrArg some (by kernel_rfl))⟩
  f15 := Tryz.func113.trans (congrArg some (by kernel_rfl))
  f20 := ⟨Tryz.f122.name, by decide, Tryz.func122.trans (congrArg some (by kernel_rfl))⟩
  f21 := ⟨Tryz.f123.name, by decide, Tryz.func123.trans (congrArg some (by kernel_rfl))⟩
  f22 := ⟨Tryz.f124.name, by decide, Tryz.func124.trans (congrArg some (by kernel_rfl))⟩
  f23 := ⟨Tryz.f125.name, by decide, Tryz.func125.trans (congrArg some (by kernel_rfl))⟩
  f24 := ⟨Tryz.f126.name, by decide, Tryz.func126.trans (congrArg some (by kernel_rfl))⟩
  f25 := ⟨Tryz.f127.name, by decide, Tryz.func127.trans (congrArg some (by kernel_rfl))⟩
  f26 := ⟨Tryz.f128.name, by decide, Tryz.func128.trans (congrArg some (by kernel_rfl))⟩
  f27 := ⟨Tryz.f129.name, by decide, Tryz.func129.trans (congrArg some (by kernel_rfl))⟩
  f28 := Tryz.func130.trans (congrArg some (by kernel_rfl))
  f29 := Tryz.func131.trans (congrArg some (by kernel_rfl))
  f46 := ⟨Tryz.f144.name, by decide, Tryz.func144.trans (congrArg some (by kernel_rfl))⟩
  f47 := Tryz.func145.trans (congrArg some (by kernel_rfl))
  f48 := Tryz.func146.trans (congrArg some (by kernel_rfl))
  f49 := ⟨Tryz.f147.name, by decide, Tryz.func147.trans (congrArg some (by kernel_rfl))⟩
  f50 := ⟨Tryz.f148.name, by decide, Tryz.func148.trans (congrArg some (by kernel_rfl))⟩
  f57 := ⟨Tryz.f152.name, by decide, Tryz.func152.trans (congrArg some (by kernel_rfl))⟩
  t0 := Tryz.underlying0
  a0 := Tryz.isAgg0
  z0 := Tryz.sizeOf0
  v0 := Tryz.zeroValue0
  t3 := Tryz.underlying3
  a3 := Tryz.isAgg3
  z3 := Tryz.sizeOf3
  v3 := Tryz.zeroValue3
  t4 := Tryz.underlying4
  a4 := Tryz.isAgg4
  z4 := Tryz.sizeOf4
  v4 := Tryz.zeroValue4
  t5 := Tryz.underlying5
  a5 := Tryz.isAgg5
  z5 := Tryz.sizeOf5
  v5 := Tryz.zeroValue5
  t9 := Tryz.underlying9
  a9 := Tryz.isAgg9
  z9 := Tryz.sizeOf9
  v9 := Tryz.zeroValue9
  t22 := Tryz.underlying27
  a22 := Tryz.isAgg27
  z22 := Tryz.sizeOf27
  v22 := Tryz.zeroValue27
  t25 := Tryz.underlying158
  a25 := Tryz.isAgg158
  z25 := Tryz.sizeOf158
  v25 := Tryz.zeroValue158
  t39 := Tryz.underlying168
  a39 := Tryz.isAgg168
  z39 := Tryz.sizeOf168
  v39 := Tryz.zeroValue168
  t45 := Tryz.underlying174
  a45 := Tryz.isAgg174
  z45 := Tryz.sizeOf174
  v45 := Tryz.zeroValue174
  t46 := Tryz.underlying175
  a46 := Tryz.isAgg175
  z46 := Tryz.sizeOf175
  v46 := Tryz.zeroValue175
  t50 := Tryz.underlying139
  a50 := Tryz.isAgg139
  z50 := Tryz.sizeOf139
  v50 := Tryz.zeroValue139
  t53 := Tryz.underlying181
  a53 := Tryz.isAgg181
  z53 := Tryz.sizeOf181
  v53 := Tryz.zeroValue181
  t55 := Tryz.underlying183
  a55 := Tryz.isAgg183
  z55 := Tryz.sizeOf183
  v55 := Tryz.zeroValue183
  t66 := Tryz.underlying194
  a66 := Tryz.isAgg194
  z66 := Tryz.sizeOf194
  v66 := Tryz.zeroValue194
  t70 := Tryz.underlying198
  a70 := Tryz.isAgg198
  z70 := Tryz.sizeOf198
  v70 := Tryz.zeroValue198
  t76 := Tryz.underlying202
  a76 := Tryz.isAgg202
  z76 := Tryz.sizeOf202
  v76 := Tryz.zeroValue202
  t77 := Tryz.underlying75
  a77 := Tryz.isAgg75
  z77 := Tryz.sizeOf75
  v77 := Tryz.zeroValue75 }
def cloneMap_ren : Go.Shelf.Ren := ⟨fun | 5 => 102 | 7 => 103 | n => n, fun | 23 => 135 | 25 => 151 | 3 => 50 | 4 => 4 | 20 => 20 | n => n, fun | n => n⟩
theorem cloneMap : Go.Proofs.SlLaysW.n5 Tryz.prog cloneMap_ren := {
  mixed := by kernel_rfl
  f5 := ⟨Tryz.f102.name, by decide, Tryz.func102.trans (congrArg some (by kernel_rfl))⟩
  f7 := Tryz.func103.trans (congrArg some (by kernel_rfl))
  t4 := Tryz.underlying4
  a4 := Tryz.isAgg4
  z4 := Tryz.sizeOf4
  v4 := Tryz.zeroValue4
  t20 := Tryz.underlying20
  a20 := Tryz.isAgg20
  z20 := Tryz.sizeOf20
  v20 := Tryz.zeroValue20
  t23 := Tryz.underlying135
  a23 := Tryz.isAgg135
  z23 := Tryz.sizeOf135
  v23 := Tryz.zeroValue135 }
def cloneStr_ren : Go.Shelf.Ren := ⟨fun | 316 => 121 | n => n, fun | 9 => 9 | 3 => 3 | 4 => 4 | 37 => 192 | 0 => 0 | 127 => 193 | 5 => 5 | n => n, fun | n => n⟩
theorem cloneStr : Go.Proofs.LaysM.n316 Tryz.prog cloneStr_ren := {
  mixed := by kernel_rfl
  f316 := Tryz.func121.trans (congrArg some (by kernel_rfl))
  t0 := Tryz.underlying0
  a0 := Tryz.isAgg0
  z0 := Tryz.sizeOf0
  v0 := Tryz.zeroValue0
  t3 := Tryz.underlying3
  a3 := Tryz.isAgg3
  z3 := Tryz.sizeOf3
  v3 := Tryz.zeroValue3
  t4 := Tryz.underlying4
  a4 := Tryz.isAgg4
  z4 := Tryz.sizeOf4
  v4 := Tryz.zeroValue4
  t9 := Tryz.underlying9
  a9 := Tryz.isAgg9
  z9 := Tryz.sizeOf9
  v9 := Tryz.zeroValue9
  t37 := Tryz.underlying192
  a37 := Tryz.isAgg192
  z37 := Tryz.sizeOf192
  v37 := Tryz.zeroValue192
  t127 := Tryz.underlying193
  a127 := Tryz.isAgg193
  z127 := Tryz.sizeOf193
  v127 := Tryz.zeroValue193
  t5 := Tryz.underlying5
  a5 := Tryz.isAgg5
  z5 := Tryz.sizeOf5
  v5 := Tryz.zeroValue5
  i0 := by kernel_rfl
  i3 := by kernel_rfl
  i4 := by kernel_rfl
  i5 := by kernel_rfl
  i9 := by kernel_rfl
  i37 := by kernel_rfl
  i127 := by kernel_rfl }
end Go.Proofs.YtigmhljaoicdbaaGreat

namespace Go.Proofs.YtigmhljaoicdbaaGreat

section
variable {P : Program} {ops : Array Oper} {md : Region.Mode} {C : World → Prop} {i0 : Nat} {o0 : Oper}

/-- Whatever order is picked from here on, the last operation not yet carried out: where it comes up R holds, and it is the last one. -/
def wpLast (P : Program) (md : Region.Mode) (ops : Array Oper) (C : World → Prop) (i0 : Nat) (R : Act → Prop) : Nat → Array Bool → Act → Prop
  | 0, _, _ => False
  | fuel + 1, listed, a => Region.ready md ops listed ≠ [] ∧ ∀ i ∈ Region.ready md ops listed,
      (i = i0 → R a ∧ Region.ready md ops (listed.setIfInBounds i0 true) = []) ∧
      (i ≠ i0 → qOp P ops C i (wpLast P md ops C i0 R fuel (listed.setIfInBounds i true)) a)

theorem wpAny_of_last {R : Act → Prop} {Q' : Exit → Act → World → Prop} (hR : ∀ a w, C w → R a → wpOp P ops Q' i0 (Q' .normal) a w) : ∀ (fuel : Nat) (listed : Array Bool) (a : Act) (w : World), C w →
    wpLast P md ops C i0 R fuel listed a → wpAny P md ops Q' fuel listed a w
  | 0, _, _, _, _, h => h.elim
  | fuel + 1, listed, a, w, hw, h => by
    refine ⟨fun he => absurd he h.1, fun i hi => ?_⟩
    by_cases e : i = i0
    · subst e
      obtain ⟨hr, hend⟩ := (h.2 i hi).1 rfl
      refine wpOp_mono (fun a' w' hq => ?_) (hR a w hw hr)
      cases fuel with
      | zero => exact ⟨hend, hq⟩
      | succ fuel => exact ⟨fun _ => hq, fun j hj => by rw [hend] at hj; cases hj⟩
    · exact wpOp_of_qOp hw (fun a' w' hw' => wpAny_of_last hR fuel _ a' w' hw') ((h.2 i hi).2 e)

theorem wpLast_first {R : Act → Prop} {i : Nat} {oi : Oper} {v : Value} (h0 : ops[i0]? = some o0) (hi : ops[i]? = some oi) (hsel : ∀ (j : Nat) (o : Oper) cs b, ops[j]? = some o → o.op ≠ .select cs b) (hdep : ∃ e ∈ o0.after, Region.binds md e = true ∧ e.on = i) :
    ∀ (fuel : Nat) (listed : Array Bool) (a : Act),
      (∀ j oj, ops[j]? = some oj → j ≠ i → listed.getD j true = false → (∀ e ∈ oj.after, Region.binds md e = true → e.on ≠ i) → oi.apart ops oj = true) →
      i ∈ Region.ready md ops listed → YieldsIn P ops C oi v a →
      wpLast P md ops C i0 R fuel (listed.setIfInBounds i true) (a.put oi.dst v) → wpLast P md ops C i0 R (fuel + 1) listed a := by
  intro fuel
  induction fuel with
  | zero => intro listed a _ _ _ H; exact H.elim
  | succ fuel ih =>
    intro listed a hfree hr hy H
    refine ⟨fun h => (by rw [h] at hr; cases hr), fun j hj => ⟨fun e => ?_, fun e => ?_⟩⟩
    · exfalso
      subst e
      obtain ⟨_, oj, hoj, hall⟩ := mem_ready.1 hj
      obtain rfl : oj = o0 := Option.some.inj (hoj.symm.trans h0)
      obtain ⟨e, he, hb, rfl⟩ := hdep
      have h1 := hall e he hb
      have h2 := (mem_ready.1 hr).1
      rcases Nat.lt_or_ge e.on listed.size with h' | h'
      · simp [h'] at h1 h2; rw [h2] at h1; cases h1
      · simp [Array.getElem?_eq_none h'] at h1
    · by_cases hji : j = i
      · subst hji
        exact hy.qOp hi (by simpa using H)
      · have h1 := (H.2 j (ready_mono hj hji)).2 e
        obtain ⟨hjun, oj, hoj, hall⟩ := mem_ready.1 hj
        have hnot : ∀ e ∈ oj.after, Region.binds md e = true → e.on ≠ i := fun e he hb heq => by
          have h1 := hall e he hb
          have h2 := (mem_ready.1 hr).1
          rw [heq] at h1
          rcases Nat.lt_or_ge i listed.size with h' | h'
          · simp [h'] at h1 h2; rw [h2] at h1; cases h1
          · simp [Array.getElem?_eq_none h'] at h1
        have hap := hfree j oj hoj hji hjun hnot
        obtain ⟨a1, a2, a3⟩ := Oper.apart_spec hap
        have hfree' : ∀ k ok, ops[k]? = some ok → k ≠ i → (listed.setIfInBounds j true).getD k true = false → (∀ e ∈ ok.after, Region.binds md e = true → e.on ≠ i) → oi.apart ops ok = true := fun k ok hk hki hun hno => by
          refine hfree k ok hk hki ?_ hno
          by_cases hjk : j = k
          · subst hjk; exact hjun
          · rw [getD_set_ne true hjk] at hun; exact hun
        have keep : ∀ (u : Value), YieldsIn P ops C oi v (a.put oj.dst u) := fun u =>
          hy.of_same (execOp_put oi (fun cs b => hsel i oi cs b hi) a oj.dst u a3) (wanted_put oi a oj.dst u a3)
        have step : ∀ u : Value, wpLast P md ops C i0 R fuel ((listed.setIfInBounds i true).setIfInBounds j true) ((a.put oi.dst v).put oj.dst u) → wpLast P md ops C i0 R (fuel + 1) (listed.setIfInBounds j true) (a.put oj.dst u) := fun u hn => by
          refine ih (listed.setIfInBounds j true) (a.put oj.dst u) hfree' (ready_mono hr (Ne.symm hji)) (keep u) ?_
          rw [Array.setIfInBounds_comm _ _ hji, ← Act.put_comm a v u a2]
          exact hn
        unfold qOp at h1 ⊢
        simp only [hoj] at h1 ⊢
        rw [wanted_put oj a oi.dst v a1] at h1
        split
        · rename_i hw
          simp only [hw, if_true] at h1
          obtain ⟨u, hu, hn⟩ := h1
          refine ⟨u, fun w hw' => ?_, step u hn⟩
          have := hu w hw'
          unfold Oper.quietAt at *
          rwa [execOp_put oj (fun cs b => hsel j oj cs b hoj) a oi.dst v a1] at this
        · rename_i hw
          simp only [hw] at h1
          exact step undef h1
def freeB (md : Region.Mode) (ops : Array Oper) (listed : Array Bool) (i : Nat) (oi : Oper) : Bool :=
  (List.range ops.size).all fun j => j == i || listed.getD j true || (match ops[j]? with
    | some oj => oj.after.any (fun e => Region.binds md e && e.on == i) || oi.apart ops oj
    | none => true)
theorem free_of {listed : Array Bool} {i : Nat} {oi : Oper} (h : freeB md ops listed i oi = true) :
    ∀ j oj, ops[j]? = some oj → j ≠ i → listed.getD j true = false → (∀ e ∈ oj.after, Region.binds md e = true → e.on ≠ i) → oi.apart ops oj = true := by
  intro j oj hj hne hun hno
  have hlt : j < ops.size := (Array.getElem?_eq_some_iff.1 hj).1
  have hb := List.all_eq_true.1 h j (List.mem_range.2 hlt)
  rw [hj, hun] at hb
  simp only [Bool.or_eq_true, beq_iff_eq, Bool.or_false] at hb
  rcases hb with (hb | hb)
  · exact absurd hb hne
  · rcases hb with hb | hb
    · obtain ⟨k, hk, he⟩ := Array.any_eq_true.1 hb
      simp only [Bool.and_eq_true, beq_iff_eq] at he
      exact absurd he.2 (hno _ (Array.getElem_mem hk) he.1)
    · exact hb
/-- Do the operations of l, from number k on, come up in this order, and then the last one alone? -/
def lastFrom (md : Region.Mode) (ops : Array Oper) (i0 : Nat) (o0 : Oper) : List Oper → Nat → Array Bool → Bool
  | [], _, listed => (Region.ready md ops listed == [i0]) && (Region.ready md ops (listed.setIfInBounds i0 true) == [])
  | o :: l, k, listed => (Region.ready md ops listed).contains k && freeB md ops listed k o && o0.after.any (fun e => Region.binds md e && e.on == k) && lastFrom md ops i0 o0 l (k + 1) (listed.setIfInBounds k true)
theorem wpLast_lex {R : Act → Prop} (h0 : ops[i0]? = some o0) (hs : Region.noSelect ops = true) : ∀ (l : List Oper) (k : Nat) (listed : Array Bool) (a : Act), (∀ j, j < l.length → l[j]? = ops[k + j]?) →
    lastFrom md ops i0 o0 l k listed = true → wpQuiet P ops C R l a → wpLast P md ops C i0 R (l.length + 1) listed a
  | [], _, listed, a, _, hB, h => by
    simp only [lastFrom, Bool.and_eq_true, beq_iff_eq] at hB
    refine ⟨by rw [hB.1]; simp, fun i hi => ?_⟩
    rw [hB.1] at hi
    have : i = i0 := by simpa using hi
    exact ⟨fun _ => ⟨h, hB.2⟩, fun h' => absurd this h'⟩
  | o :: l, k, listed, a, hl, hB, h => by
    have hk : ops[k]? = some o := by simpa using (hl 0 (by simp)).symm
    simp only [lastFrom, Bool.and_eq_true] at hB
    obtain ⟨⟨⟨hr, hf⟩, hd⟩, hB'⟩ := hB
    have hst : qOp P ops C k (wpQuiet P ops C R l) a := by unfold qOp; simp only [hk]; exact h
    obtain ⟨v, hy, hK⟩ := yieldsIn_of_qOp hk hst
    have hdep : ∃ e ∈ o0.after, Region.binds md e = true ∧ e.on = k := by
      obtain ⟨n, hn, he⟩ := Array.any_eq_true.1 hd
      simp only [Bool.and_eq_true, beq_iff_eq] at he
      exact ⟨_, Array.getElem_mem hn, he⟩
    exact wpLast_first h0 hk (Region.noSelect_spec hs) hdep (l.length + 1) listed a (free_of hf) (by simpa using hr) hy
      (wpLast_lex h0 hs l (k + 1) _ _ (fun j hj => by have := hl (j + 1) (by simp; omega); simpa [Nat.add_assoc, Nat.add_comm 1 j] using this) hB' hK)
/-- A region that draws: all but the last operation are walked once, quiet in the class; the last one then, in every world of the class. -/
theorem wp_region_last {l : List Oper} {o0 : Oper} {id : Nat} {Q : Exit → Act → World → Prop} {a : Act} {w : World} (hm : P.follows .mixedOrders = true) (hs : Region.noSelect (l ++ [o0]).toArray = true)
    (hB : lastFrom .any (l ++ [o0]).toArray l.length o0 l 0 (Array.replicate (l.length + 1) false) = true) (hC : C w.drew)
    (h : wpQuiet P (l ++ [o0]).toArray C (fun a' => ∀ w', C w' → Region.wanted o0 (yielded (l ++ [o0]).toArray a'.tmps) = true ∧ o0.wp P a' w' (Q .normal) Q) l a) : (Code.region id (l ++ [o0]).toArray true).wp P Q a w := by
  have h0 : (l ++ [o0]).toArray[l.length]? = some o0 := by simp
  refine wp_region_any hm (wpAny_of_last (C := C) (i0 := l.length) (R := fun a' => ∀ w', C w' → Region.wanted o0 (yielded (l ++ [o0]).toArray a'.tmps) = true ∧ o0.wp P a' w' (Q .normal) Q) ?_ _ _ _ _ hC ?_)
  · intro a' w' hw' hR
    unfold wpOp
    simp only [h0, (hR w' hw').1, if_true]
    exact .inl (hR w' hw').2
  · have := wpLast_lex (C := C) (md := .any) h0 hs l 0 (Array.replicate (l.length + 1) false) a (fun j hj => by rw [List.getElem?_toArray, Nat.zero_add, List.getElem?_append_left hj]) hB h
    simpa using this
theorem wpQuiet_mono {Q Q' : Act → Prop} (hq : ∀ a, Q a → Q' a) : ∀ (l : List Oper) (a : Act), wpQuiet P ops C Q l a → wpQuiet P ops C Q' l a
  | [], a, h => hq a h
  | o :: l, a, h => by
    unfold wpQuiet at h ⊢
    split
    · next hw =>
      rw [if_pos hw] at h
      exact Oper.quiet_mono (wpQuiet_mono hq l) h
    · next hw =>
      rw [if_neg hw] at h
      exact wpQuiet_mono hq l _ h
/-- May it be walked so? -/
def lastB (os : List Oper) : Bool := Region.noSelect os.toArray && (match os.getLast? with
  | some o0 => lastFrom .any os.toArray os.dropLast.length o0 os.dropLast 0 (Array.replicate (os.dropLast.length + 1) false)
  | none => false)
/-- The same for a region whose operations are written out. -/
theorem wp_region_last_lit {os : List Oper} {id : Nat} {Q : Exit → Act → World → Prop} {a : Act} {w : World} (hm : P.follows .mixedOrders = true) (hB : lastB os = true) (hC : C w.drew)
    (h : wpQuiet P os.toArray C (fun a' => ∀ w', C w' → ∀ o0, os.getLast? = some o0 → Region.wanted o0 (yielded os.toArray a'.tmps) = true ∧ o0.wp P a' w' (Q .normal) Q) os.dropLast a) : (Code.region id os.toArray true).wp P Q a w := by
  rcases List.eq_nil_or_concat os with rfl | ⟨l, o0, rfl⟩
  · simp [lastB] at hB
  · rw [List.concat_eq_append] at *
    have e1 : (l ++ [o0]).getLast? = some o0 := by simp
    have e2 : (l ++ [o0]).dropLast = l := by simp
    unfold lastB at hB
    rw [e1, e2] at hB
    simp only [Bool.and_eq_true] at hB
    rw [e2] at h
    exact wp_region_last hm hB.1 hB.2 hC (wpQuiet_mono (fun a' ha w' hw => ha w' hw o0 e1) _ _ h)
/-- A class of worlds, in the words of the walk. -/
structure SW (St : World → Prop) where
  w : World
  ok : St w
/-- What is asked of the last operation. -/
def LastPost (P : Program) (os : List Oper) (St : World → Prop) (Q : Exit → Act → World → Prop) (a : Act) : Prop :=
  ∀ w', St w' → ∀ o0, os.getLast? = some o0 → Region.wanted o0 (yielded os.toArray a.tmps) = true ∧ o0.wp P a w' (Q .normal) Q
theorem wp_region_last_sw {St : World → Prop} {os : List Oper} {id : Nat} {Q : Exit → Act → World → Prop} {a : Act} {w : World} (hm : P.follows .mixedOrders = true) (hB : lastB os = true) (hC : St w.drew)
    (h : wpQuiet P os.toArray (fun w' => ∃ p : SW St, w' = p.w) (LastPost P os St Q) os.dropLast a) : (Code.region id os.toArray true).wp P Q a w :=
  wp_region_last_lit (C := fun w' => ∃ p : SW St, w' = p.w) hm hB ⟨⟨_, hC⟩, rfl⟩ (wpQuiet_mono (fun _ ha w' hw => by obtain ⟨⟨_, ok⟩, rfl⟩ := hw; exact ha _ ok) _ _ h)
theorem wp_region_sw {St : World → Prop} {id : Nat} {Q : Exit → Act → World → Prop} {a : Act} {w : World} {l : List Oper} (hm : P.follows .mixedOrders = true) (hB : Region.lexB .any l.toArray = true) (hS : St w.drew)
    (h : wpQuiet P l.toArray (fun w' => ∃ p : SW St, w' = p.w) (fun a' => ∀ w', (∃ p : SW St, w' = p.w) → Q .normal a' w') l a) : (Code.region id l.toArray true).wp P Q a w :=
  wp_region_quiet (C := fun w' => ∃ p : SW St, w' = p.w) hm hB ⟨⟨_, hS⟩, rfl⟩ (by simpa using h)
theorem wpQuiet_load_on {P : Program} {ops : Array Oper} {C : World → Prop} {Q : Act → Prop} {rest : List Oper} {op : Oper} {a : Act} (hw : Region.wanted op (yielded ops a.tmps) = true) (ty : TypeId) (x : Operand) (ho : op.op = .load ty x)
    (b o : Nat) (hx : a.eval x = .pointer (some ⟨b, o, none⟩)) (cs : List Value) (d : TypeDesc) (hc : ∀ w, C w → w.rangeAt b o cs)
    (hu : P.underlying ty = some d) (hd : d.isRow = true) (hi : (P.info? ty).map (·.size) = some cs.length)
    (h : wpQuiet P ops C Q rest (a.put op.dst (.agg cs.toArray))) : wpQuiet P ops C Q (op :: rest) a := by
  unfold wpQuiet
  rw [if_pos hw]
  refine ⟨_, fun w hw' => ?_, h⟩
  unfold Oper.quietAt execOp
  simp only [ho, hx, Instr.loadAt, Instr.sureAddr, Sem.run_bind, Sem.run_pure, Result.andThen_ok, run_loadVar_mid w b o ty cs d (hc w hw') hu hd hi]
  exact ⟨rfl, rfl⟩
end
end Go.Proofs.YtigmhljaoicdbaaGreat

namespace Go.Proofs.YtigmhljaoicdbaaGreat

section
variable {P : Program} {ops : Array Oper} {md : Region.Mode} {S : World → Prop}

/-- An operation goes through, and behind it K holds. -/
def goesUpon (P : Program) (o : Oper) (a : Act) (K : Act → World → Prop) : Result Next → Prop
  | .ok (.value v) w' => K (a.put o.dst v) w'
  | .ok .skip w' => K (a.put o.dst undef) w'
  | .ok (.enter f args) w' => Calls P f args w' fun e w'' => ∃ v, e = .returned v ∧ K (a.put o.dst v) w''
  | _ => False
def goes (P : Program) (o : Oper) (a : Act) (w : World) (K : Act → World → Prop) : Prop := goesUpon P o a K ((execOp a.eval o).run P w)
theorem goes_mono {o : Oper} {a : Act} {w : World} {K K' : Act → World → Prop} (h : ∀ a w, K a w → K' a w) (hh : goes P o a w K) : goes P o a w K' := by
  unfold goes at *
  generalize (execOp a.eval o).run P w = r at *
  cases r with
  | ok n w' =>
    cases n <;> simp only [goesUpon] at hh ⊢
    case value u => exact h _ _ hh
    case skip => exact h _ _ hh
    case enter f args => exact Calls.mono hh fun e w'' ⟨v, he, hk⟩ => ⟨v, he, h _ _ hk⟩
  | halt x w' => simp only [goesUpon] at hh
theorem goes_wp {o : Oper} {a : Act} {w : World} {K : Act → World → Prop} {Q : Exit → Act → World → Prop} (hh : goes P o a w K) : o.wp P a w K Q := by
  unfold goes at hh
  unfold Oper.wp
  generalize (execOp a.eval o).run P w = r at *
  cases r with
  | ok n w' =>
    cases n <;> simp only [goesUpon] at hh <;> simp only [Oper.upon]
    case value u => exact hh
    case skip => exact hh
    case enter f args => exact Calls.mono hh fun e w'' ⟨v, he, hk⟩ => by subst he; exact hk
  | halt x w' => simp only [goesUpon] at hh
/-- Number i comes up; behind it S holds. -/
def sOp (P : Program) (ops : Array Oper) (S : World → Prop) (i : Nat) (K : Act → World → Prop) (a : Act) (w : World) : Prop :=
  match ops[i]? with
  | none => K a w
  | some o => if Region.wanted o (yielded ops a.tmps) then goes P o a w (fun a' w' => S w' ∧ K a' w') else K (a.put o.dst undef) w
theorem sOp_mono {i : Nat} {K K' : Act → World → Prop} {a : Act} {w : World} (h : ∀ a w, K a w → K' a w) (hh : sOp P ops S i K a w) : sOp P ops S i K' a w := by
  unfold sOp at *
  split
  · exact h _ _ (by simpa [*] using hh)
  · rename_i o ho
    simp only [ho] at hh
    split
    · rename_i hw; simp only [hw, if_true] at hh; exact goes_mono (fun a w ⟨h1, h2⟩ => ⟨h1, h _ _ h2⟩) hh
    · rename_i hw; simp only [hw] at hh; exact h _ _ hh
/-- Is there another operation for which number j does not wait? -/
def needB (md : Region.Mode) (ops : Array Oper) (j : Nat) : Bool := (List.range ops.size).any fun k => k != j && (match ops[j]? with
  | some o => o.after.all fun e => !(Region.binds md e && e.on == k)
  | none => true)
theorem needB_of {i j : Nat} {oi oj : Oper} (hi : ops[i]? = some oi) (hj : ops[j]? = some oj) (hji : j ≠ i) (hnot : ∀ e ∈ oj.after, Region.binds md e = true → e.on ≠ i) : needB md ops j = true := by
  unfold needB
  rw [hj]
  refine List.any_eq_true.2 ⟨i, List.mem_range.2 (Array.getElem?_eq_some_iff.1 hi).1, ?_⟩
  simp only [Bool.and_eq_true, bne_iff_ne, ne_eq]
  refine ⟨fun e => hji e.symm, Array.all_eq_true_iff_forall_mem.2 fun e he => ?_⟩
  cases hb : Region.binds md e with
  | false => rfl
  | true => simp [hnot e he hb]
/-- Whatever order is picked from here on. -/
def wpS (P : Program) (md : Region.Mode) (ops : Array Oper) (S : World → Prop) (K : Act → World → Prop) : Nat → Array Bool → Act → World → Prop
  | 0, listed, a, w => Region.ready md ops listed = [] ∧ K a w
  | fuel + 1, listed, a, w => (Region.ready md ops listed = [] → K a w) ∧ ∀ i ∈ Region.ready md ops listed, sOp P ops (fun w' => needB md ops i = true → S w') i (wpS P md ops S K fuel (listed.setIfInBounds i true)) a w
theorem wpAny_of_S {K : Act → World → Prop} {Q : Exit → Act → World → Prop} (hQ : ∀ a w, K a w → Q .normal a w) : ∀ (fuel : Nat) (listed : Array Bool) (a : Act) (w : World), wpS P md ops S K fuel listed a w → wpAny P md ops Q fuel listed a w
  | 0, _, _, _, h => ⟨h.1, hQ _ _ h.2⟩
  | fuel + 1, listed, a, w, h => ⟨fun h0 => hQ _ _ (h.1 h0), fun i hi => by
      have hh := h.2 i hi
      unfold sOp at hh
      unfold wpOp
      split
      · next ho => simp only [ho] at hh; exact wpAny_of_S hQ fuel _ _ _ hh
      · next o ho =>
        simp only [ho] at hh
        split
        · next hw => simp only [hw, if_true] at hh; exact .inl (goes_wp (goes_mono (fun a' w' h' => wpAny_of_S hQ fuel _ a' w' h'.2) hh))
        · next hw => simp only [hw] at hh; exact wpAny_of_S hQ fuel _ _ _ hh⟩
/-- In every world of which S holds the operation yields v, and does nothing else. -/
def YieldsS (P : Program) (ops : Array Oper) (S : World → Prop) (o : Oper) (v : Value) (a : Act) : Prop :=
  (Region.wanted o (yielded ops a.tmps) = true ∧ ∀ w, S w → o.quietAt P a (fun w' => w' = w) w v) ∨ (Region.wanted o (yielded ops a.tmps) = false ∧ v = undef)
theorem YieldsS.sOp {T : World → Prop} {i : Nat} {o : Oper} {v : Value} {a : Act} (hi : ops[i]? = some o) (hy : YieldsS P ops S o v a) {K : Act → World → Prop} {w : World} (hS0 : S w) (hS : T w) (h : K (a.put o.dst v) w) : sOp P ops T i K a w := by
  unfold Go.Proofs.YtigmhljaoicdbaaGreat.sOp
  simp only [hi]
  rcases hy with ⟨hw, hv⟩ | ⟨hw, rfl⟩
  · simp only [hw, if_true]
    have h3 := hv w hS0
    unfold Oper.quietAt at h3
    unfold goes
    generalize (execOp a.eval o).run P w = r at *
    cases r with
    | ok n w' =>
      cases n <;> simp only [Oper.quietUpon] at h3 <;> simp only [goesUpon]
      case value u => obtain ⟨rfl, rfl⟩ := h3; exact ⟨hS, h⟩
      case skip => obtain ⟨rfl, rfl⟩ := h3; exact ⟨hS, h⟩
      case enter f args =>
        obtain ⟨rfl, hc⟩ := h3
        exact hc.mono fun e w'' ⟨he, hw''⟩ => by subst hw''; exact ⟨v, he, hS, h⟩
    | halt x w' => simp only [Oper.quietUpon] at h3
  · simp only [hw, Bool.false_eq_true, if_false]; exact h
theorem YieldsS.of_same {o : Oper} {v : Value} {a a' : Act} (hy : YieldsS P ops S o v a) (he : execOp a'.eval o = execOp a.eval o)
    (hw : Region.wanted o (yielded ops a'.tmps) = Region.wanted o (yielded ops a.tmps)) : YieldsS P ops S o v a' := by
  unfold YieldsS Oper.quietAt at *
  rw [he, hw]
  exact hy
theorem sOp_put {T : World → Prop} {j : Nat} {oi oj : Oper} {v : Value} (hj : ops[j]? = some oj) (hap : oi.apart ops oj = true)
    (hsi : ∀ cs b, oi.op ≠ .select cs b) (hsj : ∀ cs b, oj.op ≠ .select cs b) {K : Act → World → Prop} {a : Act} {w : World}
    (hy : YieldsS P ops S oi v a) (h : sOp P ops T j K (a.put oi.dst v) w) :
    sOp P ops T j (fun a' w' => YieldsS P ops S oi v a' ∧ K (a'.put oi.dst v) w') a w := by
  obtain ⟨h1, h2, h3⟩ := Oper.apart_spec hap
  have keep : ∀ (a : Act), YieldsS P ops S oi v a → ∀ u, YieldsS P ops S oi v (a.put oj.dst u) := fun a hy u =>
    hy.of_same (execOp_put oi hsi a oj.dst u h3) (wanted_put oi a oj.dst u h3)
  unfold sOp at *
  simp only [hj] at *
  rw [wanted_put oj a oi.dst v h1] at h
  split
  · rename_i hw
    simp only [hw, if_true] at h
    unfold goes at *
    rw [execOp_put oj hsj a oi.dst v h1] at h
    generalize (execOp a.eval oj).run P w = r at *
    cases r with
    | ok n w' =>
      cases n <;> simp only [goesUpon] at h ⊢
      case value u => exact ⟨h.1, keep a hy u, by rw [← Act.put_comm a v u h2]; exact h.2⟩
      case skip => exact ⟨h.1, keep a hy _, by rw [← Act.put_comm a v undef h2]; exact h.2⟩
      case enter f args =>
        exact Calls.mono h fun e w'' ⟨u, he, hS, hk⟩ => ⟨u, he, hS, keep a hy u, by rw [← Act.put_comm a v u h2]; exact hk⟩
    | halt x w' => simp only [goesUpon] at h
  · rename_i hw
    simp only [hw] at h
    exact ⟨keep a hy _, by rw [← Act.put_comm a v undef h2]; exact h⟩
/-- An operation that may come up now, and yields its value in every world of which S holds, may be taken first. -/
theorem wpS_first {K : Act → World → Prop} {i : Nat} {oi : Oper} {v : Value} (hi : ops[i]? = some oi) (hsel : ∀ (j : Nat) (o : Oper) cs b, ops[j]? = some o → o.op ≠ .select cs b) :
    ∀ (fuel : Nat) (listed : Array Bool) (a : Act) (w : World),
      (∀ j oj, ops[j]? = some oj → j ≠ i → listed.getD j true = false → (∀ e ∈ oj.after, Region.binds md e = true → e.on ≠ i) → oi.apart ops oj = true) →
      i ∈ Region.ready md ops listed → YieldsS P ops S oi v a → S w →
      wpS P md ops S K fuel (listed.setIfInBounds i true) (a.put oi.dst v) w → wpS P md ops S K (fuel + 1) listed a w := by
  intro fuel
  induction fuel with
  | zero =>
    intro listed a w _ hr hy hS H
    refine ⟨fun h => (by rw [h] at hr; cases hr), fun j hj => ?_⟩
    by_cases hji : j = i
    · subst hji; exact hy.sOp hi hS (fun _ => hS) H
    · have := ready_mono hj hji
      rw [H.1] at this
      cases this
  | succ fuel ih =>
    intro listed a w hfree hr hy hS H
    refine ⟨fun h => (by rw [h] at hr; cases hr), fun j hj => ?_⟩
    by_cases hji : j = i
    · subst hji; exact hy.sOp hi hS (fun _ => hS) H
    · have h1 := H.2 j (ready_mono hj hji)
      obtain ⟨hjun, oj, hoj, hall⟩ := mem_ready.1 hj
      have hnot : ∀ e ∈ oj.after, Region.binds md e = true → e.on ≠ i := fun e he hb heq => by
        have h1 := hall e he hb
        have h0 := (mem_ready.1 hr).1
        rw [heq] at h1
        rcases Nat.lt_or_ge i listed.size with h' | h'
        · simp [h'] at h0 h1; rw [h0] at h1; cases h1
        · simp [Array.getElem?_eq_none h'] at h1
      have h2 := sOp_put hoj (hfree j oj hoj hji hjun hnot) (fun cs b => hsel i oi cs b hi) (fun cs b => hsel j oj cs b hoj) hy h1
      have hfree' : ∀ k ok, ops[k]? = some ok → k ≠ i → (listed.setIfInBounds j true).getD k true = false →
          (∀ e ∈ ok.after, Region.binds md e = true → e.on ≠ i) → oi.apart ops ok = true := fun k ok hk hki hun hno => by
        refine hfree k ok hk hki ?_ hno
        by_cases hjk : j = k
        · subst hjk; exact hjun
        · rw [getD_set_ne true hjk] at hun; exact hun
      have step : ∀ a' w', S w' → (YieldsS P ops S oi v a' ∧ wpS P md ops S K fuel ((listed.setIfInBounds i true).setIfInBounds j true) (a'.put oi.dst v) w') → wpS P md ops S K (fuel + 1) (listed.setIfInBounds j true) a' w' := fun a' w' hS' h3 =>
        ih (listed.setIfInBounds j true) a' w' hfree' (ready_mono hr (Ne.symm hji)) h3.1 hS' (by rw [Array.setIfInBounds_comm _ _ hji]; exact h3.2)
      have hnb : needB md ops j = true := needB_of hi hoj hji hnot
      unfold sOp at h2 ⊢
      simp only [hoj] at h2 ⊢
      split
      · next hw => simp only [hw, if_true] at h2; exact goes_mono (fun a' w' ⟨hS', h3⟩ => ⟨hS', step a' w' (hS' hnb) h3⟩) h2
      · next hw => simp only [hw] at h2; exact step _ _ hS h2

/-- One value each, in every world of which S holds. -/
def allS (P : Program) (ops : Array Oper) (S : World → Prop) (Q : Act → Prop) : List Oper → Act → Prop
  | [], a => Q a
  | o :: l, a => ∃ v, YieldsS P ops S o v a ∧ allS P ops S Q l (a.put o.dst v)
theorem quiet_keeps {C : World → Prop} {A : Act} {t : Nat} : ∀ (l : List Oper) (a : Act), (∀ o ∈ l, o.dst ≠ some t) → wpQuiet P ops C (fun a' => a' = A) l a → A.tmps[t]? = a.tmps[t]?
  | [], a, _, h => by rw [show a = A from h]
  | o :: l, a, hd, h => by
    have hput : ∀ v, (a.put o.dst v).tmps[t]? = a.tmps[t]? := fun v => by
      have := hd o List.mem_cons_self
      unfold Act.put
      split
      · next k hk => rw [hk] at this; simp [show ¬ k = t from fun e => this (by rw [e])]
      · rfl
    unfold wpQuiet at h
    split at h
    · obtain ⟨v, _, hn⟩ := h
      exact (quiet_keeps l _ (fun o ho => hd o (List.mem_cons_of_mem _ ho)) hn).trans (hput v)
    · exact (quiet_keeps l _ (fun o ho => hd o (List.mem_cons_of_mem _ ho)) h).trans (hput undef)
/-- The temporaries are told apart. -/
def apartB : List Oper → Nat → Bool
  | [], _ => true
  | o :: l, n => (match o.dst with
    | some t => decide (t < n) && l.all (fun o' => o'.dst != some t)
    | none => false) && apartB l n
theorem put_size (a : Act) (d : Option Tmp) (v : Value) : (a.put d v).tmps.size = a.tmps.size := by unfold Act.put; split <;> simp
/-- One world alone, of which S holds. -/
structure SK (S : World → Prop) (p0 : World) where
  s : SW S
  eq : s.w = p0
theorem quietAt_one {o : Oper} {a : Act} {v : Value} {w : World} (h : o.quietAt P a (fun w' => ∃ q : SK S w, w' = q.s.w) w v) : o.quietAt P a (fun w' => w' = w) w v := by
  unfold Oper.quietAt at *
  generalize (execOp a.eval o).run P w = r at *
  cases r with
  | ok n w' =>
    cases n <;> simp only [Oper.quietUpon] at h ⊢
    case value u => exact h
    case skip => exact h
    case enter f args => exact ⟨h.1, h.2.mono fun e w'' ⟨he, q, hq⟩ => ⟨he, hq.trans q.eq⟩⟩
  | halt x w' => simp only [Oper.quietUpon] at h
theorem allS_of {A : Act} (p0 : SW S) : ∀ (l : List Oper) (a : Act), apartB l a.tmps.size = true → (∀ p : SW S, wpQuiet P ops (fun w' => ∃ q : SK S p.w, w' = q.s.w) (fun a' => a' = A) l a) → allS P ops S (fun a' => a' = A) l a
  | [], a, _, h => h p0
  | o :: l, a, hB, h => by
    simp only [apartB, Bool.and_eq_true] at hB
    obtain ⟨h1, h2⟩ := hB
    cases hd : o.dst with
    | none => rw [hd] at h1; cases h1
    | some t =>
      rw [hd] at h1
      simp only [Bool.and_eq_true, decide_eq_true_eq, List.all_eq_true, bne_iff_ne, ne_eq] at h1
      by_cases hw : Region.wanted o (yielded ops a.tmps) = true
      · have hv : ∀ p : SW S, ∃ v, (∀ w, (∃ q : SK S p.w, w = q.s.w) → o.quietAt P a (fun w' => ∃ q : SK S p.w, w' = q.s.w) w v) ∧ wpQuiet P ops (fun w' => ∃ q : SK S p.w, w' = q.s.w) (fun a' => a' = A) l (a.put o.dst v) := fun p => by
          have := h p
          unfold wpQuiet at this
          rw [if_pos hw] at this
          exact this
        have hval : ∀ (p : SW S) v, wpQuiet P ops (fun w' => ∃ q : SK S p.w, w' = q.s.w) (fun a' => a' = A) l (a.put o.dst v) → v = A.tmps.getD t undef := fun p v hq => by
          have := quiet_keeps l _ (fun o' ho => h1.2 o' ho) hq
          rw [Array.getD_eq_getD_getElem?, this, hd]
          unfold Act.put
          simp [h1.1]
        refine ⟨A.tmps.getD t undef, .inl ⟨hw, fun w hS => ?_⟩, allS_of p0 l _ (by rw [put_size]; exact h2) fun p => ?_⟩
        · obtain ⟨v, hq, hn⟩ := hv ⟨w, hS⟩
          rw [← hval _ v hn]
          exact quietAt_one (hq w ⟨⟨⟨w, hS⟩, rfl⟩, rfl⟩)
        · obtain ⟨v, hq, hn⟩ := hv p
          rw [← hval p v hn]
          exact hn
      · have hw' : Region.wanted o (yielded ops a.tmps) = false := by simpa using hw
        refine ⟨undef, .inr ⟨hw', rfl⟩, allS_of p0 l _ (by rw [put_size]; exact h2) fun p => ?_⟩
        have := h p
        unfold wpQuiet at this
        rw [if_neg hw] at this
        exact this
/-- Those operations of a list that a mask names. -/
def pickM : List Bool → List Oper → List Oper
  | true :: m, o :: l => o :: pickM m l
  | false :: m, _ :: l => pickM m l
  | _, _ => []
/-- .. with their numbers. -/
def pickZ : List Bool → List Oper → Nat → List (Nat × Oper)
  | true :: m, o :: l, k => (k, o) :: pickZ m l (k + 1)
  | false :: m, _ :: l, k => pickZ m l (k + 1)
  | _, _, _ => []
theorem pickZ_snd : ∀ (m : List Bool) (l : List Oper) (k : Nat), (pickZ m l k).map Prod.snd = pickM m l
  | true :: m, o :: l, k => by simp [pickZ, pickM, pickZ_snd m l (k + 1)]
  | false :: m, _ :: l, k => by simp [pickZ, pickM, pickZ_snd m l (k + 1)]
  | [], _, _ => by simp [pickZ, pickM]
  | true :: _, [], _ => by simp [pickZ, pickM]
  | false :: _, [], _ => by simp [pickZ, pickM]
theorem pickZ_mem : ∀ (m : List Bool) (l : List Oper) (k : Nat), ∀ z ∈ pickZ m l k, k ≤ z.1 ∧ l[z.1 - k]? = some z.2
  | true :: m, o :: l, k, z, hz => by
    rcases List.mem_cons.1 (by simpa [pickZ] using hz) with rfl | hz
    · simp
    · obtain ⟨h1, h2⟩ := pickZ_mem m l (k + 1) z hz
      refine ⟨by omega, ?_⟩
      rw [show z.1 - k = (z.1 - (k + 1)) + 1 by omega, List.getElem?_cons_succ]; exact h2
  | false :: m, _ :: l, k, z, hz => by
    obtain ⟨h1, h2⟩ := pickZ_mem m l (k + 1) z (by simpa [pickZ] using hz)
    refine ⟨by omega, ?_⟩
    rw [show z.1 - k = (z.1 - (k + 1)) + 1 by omega, List.getElem?_cons_succ]; exact h2
  | [], _, _, z, hz => by simp [pickZ] at hz
  | true :: _, [], _, z, hz => by simp [pickZ] at hz
  | false :: _, [], _, z, hz => by simp [pickZ] at hz
/-- The operations that turn the world come up one behind the other. -/
def chZ (md : Region.Mode) (ops : Array Oper) : List (Nat × Oper) → Array Bool → Bool
  | [], listed => Region.ready md ops listed == []
  | z :: Z, listed => (Region.ready md ops listed == [z.1]) && chZ md ops Z (listed.setIfInBounds z.1 true)
/-- .. behind all others. -/
def quZ (md : Region.Mode) (ops : Array Oper) (Z2 : List (Nat × Oper)) : List (Nat × Oper) → Array Bool → Bool
  | [], listed => chZ md ops Z2 listed
  | z :: Z, listed => (Region.ready md ops listed).contains z.1 && freeB md ops listed z.1 z.2 && quZ md ops Z2 Z (listed.setIfInBounds z.1 true)
/-- What is asked of those that turn the world: S is kept, but by one that waits for all others. -/
def chainM (P : Program) (md : Region.Mode) (ops : Array Oper) (S : World → Prop) (K : Act → World → Prop) : List (Nat × Oper) → Act → World → Prop
  | [], a, w => K a w
  | z :: l, a, w => Region.wanted z.2 (yielded ops a.tmps) = true ∧ goes P z.2 a w (fun a' w' => (needB md ops z.1 = true → S w') ∧ chainM P md ops S K l a' w')
theorem wpS_chain {K : Act → World → Prop} : ∀ (Z : List (Nat × Oper)) (listed : Array Bool) (a : Act) (w : World), (∀ z ∈ Z, ops[z.1]? = some z.2) → chZ md ops Z listed = true → chainM P md ops S K Z a w → wpS P md ops S K Z.length listed a w
  | [], _, _, _, _, hB, h => ⟨by simpa [chZ] using hB, h⟩
  | z :: Z, listed, a, w, hz, hB, h => by
    simp only [chZ, Bool.and_eq_true, beq_iff_eq] at hB
    refine ⟨fun h0 => (by rw [hB.1] at h0; cases h0), fun i hi => ?_⟩
    rw [hB.1, List.mem_singleton] at hi
    subst hi
    unfold sOp
    simp only [hz z List.mem_cons_self]
    obtain ⟨hw, hg⟩ := h
    rw [if_pos hw]
    exact goes_mono (fun a' w' ⟨h1, h2⟩ => ⟨h1, wpS_chain Z _ a' w' (fun y hy => hz y (List.mem_cons_of_mem _ hy)) hB.2 h2⟩) hg
theorem wpS_quiet {K : Act → World → Prop} {Q : Act → Prop} {Z2 : List (Nat × Oper)} {w : World} (hs : Region.noSelect ops = true) (hz2 : ∀ z ∈ Z2, ops[z.1]? = some z.2) (hS : S w) (hQ : ∀ a, Q a → chainM P md ops S K Z2 a w) :
    ∀ (Z : List (Nat × Oper)) (listed : Array Bool) (a : Act), (∀ z ∈ Z, ops[z.1]? = some z.2) → quZ md ops Z2 Z listed = true → allS P ops S Q (Z.map Prod.snd) a → wpS P md ops S K (Z.length + Z2.length) listed a w
  | [], listed, a, _, hB, h => by
    rw [List.length_nil, Nat.zero_add]
    exact wpS_chain Z2 listed a w hz2 hB (hQ a h)
  | z :: Z, listed, a, hz, hB, h => by
    simp only [quZ, Bool.and_eq_true] at hB
    obtain ⟨⟨hr, hf⟩, hB'⟩ := hB
    obtain ⟨v, hy, hK⟩ := h
    have e : (z :: Z).length + Z2.length = (Z.length + Z2.length) + 1 := by rw [List.length_cons]; omega
    rw [e]
    exact wpS_first (hz z List.mem_cons_self) (Region.noSelect_spec hs) _ listed a w (free_of hf) (by simpa using hr) hy hS
      (wpS_quiet hs hz2 hS hQ Z _ _ (fun y hy => hz y (List.mem_cons_of_mem _ hy)) hB' hK)
/-- May it be walked so? m1: those that yield, m2: those that turn the world. -/
def chainB (os : List Oper) (m1 m2 : List Bool) : Bool :=
  Region.noSelect os.toArray && decide ((pickZ m1 os 0).length + (pickZ m2 os 0).length = os.length) && quZ .any os.toArray (pickZ m2 os 0) (pickZ m1 os 0) (Array.replicate os.length false)
theorem wp_region_chain {S : World → Prop} {os : List Oper} {id : Nat} {Q : Exit → Act → World → Prop} {a : Act} {w : World} (m1 m2 : List Bool) (hm : P.follows .mixedOrders = true) (hB : chainB os m1 m2 = true) (hA : apartB (pickM m1 os) a.tmps.size = true) (hS : S w.drew)
    (h : ∃ A, (∀ p : SW S, wpQuiet P os.toArray (fun w' => ∃ q : SK S p.w, w' = q.s.w) (fun a' => a' = A) (pickM m1 os) a) ∧ chainM P .any os.toArray S (fun a' w' => Q .normal a' w') (pickZ m2 os 0) A w.drew) : (Code.region id os.toArray true).wp P Q a w := by
  obtain ⟨A, hq, hc⟩ := h
  simp only [chainB, Bool.and_eq_true, decide_eq_true_eq] at hB
  obtain ⟨⟨hs, hlen⟩, hZ⟩ := hB
  have hz : ∀ m, ∀ z ∈ pickZ m os 0, os.toArray[z.1]? = some z.2 := fun m z hz => by
    rw [List.getElem?_toArray]; simpa using (pickZ_mem m os 0 z hz).2
  refine wp_region_any hm (wpAny_of_S (S := S) (K := fun a' w' => Q .normal a' w') (fun _ _ h => h) _ _ _ _ ?_)
  have key := wpS_quiet (md := .any) (S := S) (K := fun a' w' => Q .normal a' w') (Q := fun a' => a' = A) (Z2 := pickZ m2 os 0) (w := w.drew) hs (hz m2) hS (fun a' ha => by rw [show a' = A from ha]; exact hc)
    (pickZ m1 os 0) (Array.replicate os.length false) a (hz m1) hZ (by rw [pickZ_snd]; exact allS_of ⟨_, hS⟩ _ _ hA hq)
  rw [hlen] at key
  simpa using key
/-- A step of those that turn the world: one that yields a value. -/
theorem chain_step {K : Act → World → Prop} {j : Nat} {o : Oper} {l : List (Nat × Oper)} {a : Act} {w : World} (v : Value) (w' : World) (hg : o.guard = none) (hr : (execOp a.eval o).run P w = .ok (.value v) w') (hS : S w')
    (h : chainM P md ops S K l (a.put o.dst v) w') : chainM P md ops S K ((j, o) :: l) a w := by
  refine ⟨by unfold Region.wanted; rw [hg], ?_⟩
  unfold goes
  rw [hr]
  exact ⟨fun _ => hS, h⟩
/-- .. one that yields none. -/
theorem chain_skip {K : Act → World → Prop} {j : Nat} {o : Oper} {l : List (Nat × Oper)} {a : Act} {w : World} (w' : World) (hg : o.guard = none) (hr : (execOp a.eval o).run P w = .ok .skip w') (hS : S w')
    (h : chainM P md ops S K l (a.put o.dst undef) w') : chainM P md ops S K ((j, o) :: l) a w := by
  refine ⟨by unfold Region.wanted; rw [hg], ?_⟩
  unfold goes
  rw [hr]
  exact ⟨fun _ => hS, h⟩
/-- .. one that waits for all others. -/
theorem chain_last {K : Act → World → Prop} {j : Nat} {o : Oper} {a : Act} {w : World} (w' : World) (hn : needB md ops j = false) (hg : o.guard = none) (hr : (execOp a.eval o).run P w = .ok .skip w')
    (h : K (a.put o.dst undef) w') : chainM P md ops S K [(j, o)] a w := by
  refine ⟨by unfold Region.wanted; rw [hg], ?_⟩
  unfold goes
  rw [hr]
  exact ⟨fun h0 => (by rw [hn] at h0; cases h0), h⟩
/-- .. a call. -/
theorem chain_call {K : Act → World → Prop} {j : Nat} {o : Oper} {l : List (Nat × Oper)} {a : Act} {w : World} (f : FuncId) (args : Array Value) (hg : o.guard = none) (hr : (execOp a.eval o).run P w = .ok (.enter f args) w)
    (h : Calls P f args w fun e w' => ∃ v, e = .returned v ∧ S w' ∧ chainM P md ops S K l (a.put o.dst v) w') : chainM P md ops S K ((j, o) :: l) a w := by
  refine ⟨by unfold Region.wanted; rw [hg], ?_⟩
  unfold goes
  rw [hr]
  exact h.mono fun e w' ⟨v, he, hS, hc⟩ => ⟨v, he, fun _ => hS, hc⟩
end
end Go.Proofs.YtigmhljaoicdbaaGreat

namespace Go.Proofs.YtigmhljaoicdbaaGreat

/-- A key stands ahead of another one. -/
def keyLt : List UInt8 → List UInt8 → Bool
  | _, [] => false
  | [], _ :: _ => true
  | a :: l, b :: m => if a = b then keyLt l m else decide (a < b)
theorem keyLt_irrefl : ∀ k, keyLt k k = false
  | [] => rfl
  | a :: l => by rw [keyLt, if_pos rfl]; exact keyLt_irrefl l
theorem u8_lt_irrefl (a : UInt8) : ¬ a < a := fun h => by have : a.toNat < a.toNat := UInt8.lt_iff_toNat_lt.1 h; omega
theorem u8_total {a b : UInt8} (h : ¬ a = b) : a < b ∨ b < a := by
  have : a.toNat ≠ b.toNat := fun e => h (UInt8.toNat_inj.1 e)
  rcases Nat.lt_or_ge a.toNat b.toNat with h' | h'
  · exact .inl (UInt8.lt_iff_toNat_lt.2 h')
  · exact .inr (UInt8.lt_iff_toNat_lt.2 (by omega))
theorem u8_trans {a b c : UInt8} (h : a < b) (k : b < c) : a < c := by
  rw [UInt8.lt_iff_toNat_lt] at *; omega
theorem keyLt_trans : ∀ {a b c : List UInt8}, keyLt a b = true → keyLt b c = true → keyLt a c = true
  | _, [], _, h, _ => by simp [keyLt] at h
  | _, _ :: _, [], _, k => by simp [keyLt] at k
  | [], _ :: _, _ :: _, _, _ => rfl
  | a :: l, b :: m, c :: n, h, k => by
    rw [keyLt] at h k ⊢
    by_cases e1 : a = b
    · subst e1
      rw [if_pos rfl] at h
      by_cases e2 : a = c
      · subst e2
        rw [if_pos rfl] at k ⊢
        exact keyLt_trans h k
      · rw [if_neg e2] at k ⊢; exact k
    · rw [if_neg e1] at h
      by_cases e2 : b = c
      · subst e2
        rw [if_neg e1]; exact h
      · rw [if_neg e2] at k
        have hh : a < c := u8_trans (of_decide_eq_true h) (of_decide_eq_true k)
        have ne : ¬ a = c := fun e => u8_lt_irrefl a (by rw [← e] at hh; exact hh)
        rw [if_neg ne]; exact decide_eq_true hh
theorem keyLt_total : ∀ {a b : List UInt8}, ¬ a = b → keyLt a b = true ∨ keyLt b a = true
  | [], [], h => absurd rfl h
  | [], _ :: _, _ => .inl rfl
  | _ :: _, [], _ => .inr rfl
  | a :: l, b :: m, h => by
    rw [keyLt, keyLt]
    by_cases e : a = b
    · subst e
      rw [if_pos rfl, if_pos rfl]
      exact keyLt_total (fun e => h (by rw [e]))
    · rw [if_neg e, if_neg (fun e' => e e'.symm)]
      rcases u8_total e with h' | h'
      · exact .inl (decide_eq_true h')
      · exact .inr (decide_eq_true h')

/-- A window: its key, its Start, and what its values add up to. -/
structure Win (α : Type) where
  key : List UInt8
  start : Int
  agg : α
variable {α : Type}

/-- A window stands ahead of another one. -/
def ahead (a b : Win α) : Bool := decide (a.start < b.start) || (decide (a.start = b.start) && keyLt a.key b.key)
theorem ahead_iff {a b : Win α} : ahead a b = true ↔ a.start < b.start ∨ (a.start = b.start ∧ keyLt a.key b.key = true) := by simp [ahead]
/-- The same window, whatever it adds up to. -/
def at_ (k : List UInt8) (s : Int) (a : Win α) : Prop := a.key = k ∧ a.start = s
instance (k : List UInt8) (s : Int) (a : Win α) : Decidable (at_ k s a) := by unfold at_; infer_instance
theorem ahead_irrefl {a b : Win α} (h : at_ b.key b.start a) : ahead a b = false := by
  obtain ⟨h1, h2⟩ := h
  cases e : ahead a b with
  | false => rfl
  | true =>
    rcases ahead_iff.1 e with h | ⟨_, h⟩
    · omega
    · rw [h1, keyLt_irrefl] at h; cases h
theorem ahead_trans {a b c : Win α} (h : ahead a b = true) (k : ahead b c = true) : ahead a c = true := by
  rw [ahead_iff] at *
  rcases h with h | ⟨h, h'⟩ <;> rcases k with k | ⟨k, k'⟩
  · exact .inl (by omega)
  · exact .inl (by omega)
  · exact .inl (by omega)
  · exact .inr ⟨by omega, keyLt_trans h' k'⟩
theorem ahead_total {a b : Win α} (h : ¬ at_ b.key b.start a) : ahead a b = true ∨ ahead b a = true := by
  rw [ahead_iff, ahead_iff]
  by_cases e : a.start = b.start
  · rcases keyLt_total (fun e' => h ⟨e', e⟩) with k | k
    · exact .inl (.inr ⟨e, k⟩)
    · exact .inr (.inr ⟨e.symm, k⟩)
  · rcases Int.lt_or_lt_of_ne e with k | k
    · exact .inl (.inl k)
    · exact .inr (.inl k)
theorem ahead_asymm {a b : Win α} (h : ahead a b = true) : ahead b a = false := by
  cases e : ahead b a with
  | false => rfl
  | true =>
    have := ahead_trans h e
    rw [ahead_irrefl ⟨rfl, rfl⟩] at this; cases this
theorem ahead_not {a b : Win α} (h : ahead a b = true) : ¬ at_ b.key b.start a := fun k => by rw [ahead_irrefl k] at h; cases h

/-- Windows in their row. -/
def Rise (l : List (Win α)) : Prop := l.Pairwise (fun a b => ahead a b = true)
/-- What a row tells of a window. -/
def look (l : List (Win α)) (k : List UInt8) (s : Int) : Option α := match l with
  | [] => none
  | a :: l => if at_ k s a then some a.agg else look l k s
/-- A window put into its place, instead of what was there. -/
def ins (w : Win α) : List (Win α) → List (Win α)
  | [] => [w]
  | a :: l => if ahead a w = true then a :: ins w l else if ahead w a = true then w :: a :: l else w :: l

theorem look_none {l : List (Win α)} {k : List UInt8} {s : Int} (h : ∀ a ∈ l, ¬ at_ k s a) : look l k s = none := by
  induction l with
  | nil => rfl
  | cons a l ih => rw [look, if_neg (h a List.mem_cons_self)]; exact ih (fun b hb => h b (List.mem_cons_of_mem _ hb))
theorem look_mem {l : List (Win α)} (h : Rise l) {a : Win α} (ha : a ∈ l) : look l a.key a.start = some a.agg := by
  induction l with
  | nil => cases ha
  | cons b l ih =>
    rw [look]
    rcases List.mem_cons.1 ha with rfl | ha
    · rw [if_pos ⟨rfl, rfl⟩]
    · have hb := (List.pairwise_cons.1 h).1 a ha
      rw [if_neg (ahead_not hb)]
      exact ih (List.pairwise_cons.1 h).2 ha
theorem look_some {l : List (Win α)} {k : List UInt8} {s : Int} {x : α} (h : look l k s = some x) : (⟨k, s, x⟩ : Win α) ∈ l := by
  induction l with
  | nil => cases h
  | cons b l ih =>
    rw [look] at h
    split at h
    · rename_i e
      obtain ⟨rfl, rfl⟩ := e
      cases h
      exact List.mem_cons_self
    · exact List.mem_cons_of_mem _ (ih h)
theorem ins_mem {w : Win α} : ∀ {l : List (Win α)} {b : Win α}, b ∈ ins w l → b = w ∨ b ∈ l
  | [], b, h => .inl (by simpa [ins] using h)
  | a :: l, b, h => by
    rw [ins] at h
    split at h
    · rcases List.mem_cons.1 h with rfl | h
      · exact .inr List.mem_cons_self
      · exact (ins_mem h).imp id (List.mem_cons_of_mem _)
    · split at h
      · rcases List.mem_cons.1 h with rfl | h
        · exact .inl rfl
        · exact .inr h
      · rcases List.mem_cons.1 h with rfl | h
        · exact .inl rfl
        · exact .inr (List.mem_cons_of_mem _ h)
theorem same_place {a w : Win α} (h1 : ¬ ahead a w = true) (h2 : ¬ ahead w a = true) : at_ w.key w.start a := by
  by_cases h : at_ w.key w.start a
  · exact h
  · rcases ahead_total h with k | k
    · exact absurd k h1
    · exact absurd k h2
theorem ahead_same {a w b : Win α} (h : at_ w.key w.start a) (k : ahead a b = true) : ahead w b = true := by
  obtain ⟨h1, h2⟩ := h
  rw [ahead_iff] at k ⊢
  rw [← h1, ← h2]; exact k
theorem ins_rise {w : Win α} : ∀ {l : List (Win α)}, Rise l → Rise (ins w l)
  | [], _ => List.pairwise_singleton _ _
  | a :: l, h => by
    obtain ⟨h1, h2⟩ := List.pairwise_cons.1 h
    rw [ins]
    split
    · rename_i e
      refine List.pairwise_cons.2 ⟨fun b hb => ?_, ins_rise h2⟩
      rcases ins_mem hb with rfl | hb
      · exact e
      · exact h1 b hb
    · rename_i e
      split
      · rename_i e2
        refine List.pairwise_cons.2 ⟨fun b hb => ?_, h⟩
        rcases List.mem_cons.1 hb with rfl | hb
        · exact e2
        · exact ahead_trans e2 (h1 b hb)
      · rename_i e2
        exact List.pairwise_cons.2 ⟨fun b hb => ahead_same (same_place e e2) (h1 b hb), h2⟩
theorem look_ins {w : Win α} {k : List UInt8} {s : Int} : ∀ {l : List (Win α)}, Rise l → look (ins w l) k s = if at_ k s w then some w.agg else look l k s
  | [], _ => by simp only [ins, look]
  | a :: l, h => by
    obtain ⟨h1, h2⟩ := List.pairwise_cons.1 h
    rw [ins]
    split
    · rename_i e
      rw [look, look, look_ins h2]
      by_cases ha : at_ k s a
      · have hw : ¬ at_ k s w := fun hw => ahead_not e ⟨ha.1.trans hw.1.symm, ha.2.trans hw.2.symm⟩
        rw [if_pos ha, if_neg hw, if_pos ha]
      · rw [if_neg ha, if_neg ha]
    · rename_i e
      split
      · rw [look]
      · rename_i e2
        rw [look, look]
        have hs := same_place e e2
        by_cases hw : at_ k s w
        · rw [if_pos hw, if_pos hw]
        · rw [if_neg hw, if_neg hw, if_neg (fun ha => hw ⟨hs.1.symm.trans ha.1, hs.2.symm.trans ha.2⟩)]
/-- Two rows that tell the same of every window are one row. -/
theorem rise_ext : ∀ {l m : List (Win α)}, Rise l → Rise m → (∀ k s, look l k s = look m k s) → l = m
  | [], [], _, _, _ => rfl
  | [], b :: m, _, hm, h => by
    have := h b.key b.start
    rw [look_mem hm List.mem_cons_self] at this; cases this
  | a :: l, [], hl, _, h => by
    have := h a.key a.start
    rw [look_mem hl List.mem_cons_self] at this; cases this
  | a :: l, b :: m, hl, hm, h => by
    obtain ⟨l1, l2⟩ := List.pairwise_cons.1 hl
    obtain ⟨m1, m2⟩ := List.pairwise_cons.1 hm
    have ha := look_mem hl List.mem_cons_self
    have hb := look_mem hm List.mem_cons_self
    have ha' := look_some ((h a.key a.start).symm.trans ha)
    have hb' := look_some ((h b.key b.start).trans hb)
    have e : a = b := by
      rcases List.mem_cons.1 ha' with e | ha'
      · cases a; cases b; simpa using e
      · rcases List.mem_cons.1 hb' with e | hb'
        · cases a; cases b; simpa using e.symm
        · have x := m1 _ ha'
          have y := l1 _ hb'
          have x' : ahead b a = true := x
          have y' : ahead a b = true := y
          rw [ahead_asymm x'] at y'; cases y'
    subst e
    congr 1
    refine rise_ext l2 m2 fun k s => ?_
    have := h k s
    rw [look, look] at this
    by_cases hk : at_ k s a
    · rw [look_none (fun b hb hx => ahead_not (l1 b hb) ⟨hk.1.trans hx.1.symm, hk.2.trans hx.2.symm⟩), look_none (fun b hb hx => ahead_not (m1 b hb) ⟨hk.1.trans hx.1.symm, hk.2.trans hx.2.symm⟩)]
    · rw [if_neg hk, if_neg hk] at this; exact this
/-- Two windows may be put in in either row. -/
theorem ins_comm {a b : Win α} {l : List (Win α)} (h : Rise l) (hn : ¬ at_ b.key b.start a) : ins a (ins b l) = ins b (ins a l) := by
  refine rise_ext (ins_rise (ins_rise h)) (ins_rise (ins_rise h)) fun k s => ?_
  rw [look_ins (ins_rise h), look_ins h, look_ins (ins_rise h), look_ins h]
  by_cases ha : at_ k s a
  · rw [if_pos ha, if_neg (fun hb => hn ⟨ha.1.trans hb.1.symm, ha.2.trans hb.2.symm⟩), if_pos ha]
  · rw [if_neg ha, if_neg ha]
theorem ins_len {w : Win α} : ∀ {l : List (Win α)}, Rise l → (ins w l).length = if (look l w.key w.start).isSome then l.length else l.length + 1
  | [], _ => by simp [ins, look]
  | a :: l, h => by
    obtain ⟨h1, h2⟩ := List.pairwise_cons.1 h
    rw [ins, look]
    split
    · rename_i e
      rw [if_neg (ahead_not e), List.length_cons, ins_len h2]
      split <;> rfl
    · rename_i e
      split
      · rename_i e2
        have hn : ¬ at_ w.key w.start a := fun hx => by
          rw [ahead_irrefl ⟨hx.1.symm, hx.2.symm⟩] at e2; cases e2
        rw [if_neg hn, look_none (fun b hb hx => ahead_not (ahead_trans e2 (h1 b hb)) ⟨hx.1.symm, hx.2.symm⟩)]
        rfl
      · rename_i e2
        rw [if_pos (same_place e e2)]
        rfl
/-- Some windows alone. -/
theorem rise_filter {p : Win α → Bool} {l : List (Win α)} (h : Rise l) : Rise (l.filter p) := List.Pairwise.filter _ h
theorem look_filter {p : Int → Bool} {l : List (Win α)} (k : List UInt8) (s : Int) : look (l.filter (fun a => p a.start)) k s = if p s then look l k s else none := by
  induction l with
  | nil => simp [look]
  | cons a l ih =>
    rw [List.filter_cons, look]
    split
    · rename_i e
      rw [look, ih]
      by_cases ha : at_ k s a
      · rw [if_pos ha, if_pos ha, ha.2] at *; rw [if_pos e]
      · rw [if_neg ha, if_neg ha]
    · rename_i e
      rw [ih]
      by_cases ha : at_ k s a
      · have : ¬ p s = true := by rw [← ha.2]; exact e
        rw [if_neg this, if_neg this]
      · rw [if_neg ha]
/-- A row, put window by window into an empty one, the last one first, is that row. -/
theorem ins_all : ∀ {l : List (Win α)}, Rise l → l.reverse.foldl (fun r w => ins w r) [] = l
  | [], _ => rfl
  | a :: l, h => by
    obtain ⟨h1, h2⟩ := List.pairwise_cons.1 h
    rw [List.reverse_cons, List.foldl_append, ins_all h2]
    show ins a l = a :: l
    cases l with
    | nil => rfl
    | cons b l =>
      have hb := h1 b List.mem_cons_self
      rw [ins, if_neg (by rw [ahead_asymm hb]; exact Bool.false_ne_true), if_pos hb]
end Go.Proofs.YtigmhljaoicdbaaGreat

namespace Go.Proofs.YtigmhljaoicdbaaGreat
open Go.Maps Go.WideShapes
variable {α : Type}

/-- What keys read as: no two as one. -/
structure KeyL (kl : List UInt8 → Int → Lit) (ok : List UInt8 → Int → Prop) : Prop where
  inj : ∀ {k s k' s'}, ok k s → ok k' s' → kl k s = kl k' s' → k = k' ∧ s = s'
  key : ∀ {k s}, ok k s → WideAt.IsKeyLit (kl k s)
variable {kl : List UInt8 → Int → Lit} {ok : List UInt8 → Int → Prop}

def dat (kl : List UInt8 → Int → Lit) (w : Win α) : Lit × DataW α := (kl w.key w.start, .held w.agg)
/-- A datum that is these windows. -/
def DIs (kl : List UInt8 → Int → Lit) (D : DataW α) (l : List (Win α)) : Prop := ∃ E, D = .map E ∧ E.Perm (l.map (dat kl))
def Oks (ok : List UInt8 → Int → Prop) (l : List (Win α)) : Prop := ∀ a ∈ l, ok a.key a.start

theorem same_kl (L : KeyL kl ok) {k k' : List UInt8} {s s' : Int} (h : ok k s) (h' : ok k' s') : (kl k s).sameKey (kl k' s') = decide (k = k' ∧ s = s') := by
  by_cases e : k = k' ∧ s = s'
  · obtain ⟨rfl, rfl⟩ := e
    simp [WideAt.sameKey_self (L.key h)]
  · rw [decide_eq_false e]
    exact sameKey_ne fun e' => e (L.inj h h' e')
theorem rise_apart {l : List (Win α)} (h : Rise l) : l.Pairwise (fun a b => ¬ at_ b.key b.start a) := h.imp fun hab => ahead_not hab
theorem dis_apart (L : KeyL kl ok) {l : List (Win α)} (ho : Oks ok l) (h : Rise l) {E : List (Lit × DataW α)} (hE : E.Perm (l.map (dat kl))) : E.Pairwise (fun p q => p.1 ≠ q.1) := by
  refine (hE.symm.pairwise_iff (fun {a b} (h : a.1 ≠ b.1) => h.symm)).1 ?_
  rw [List.pairwise_map]
  refine List.Pairwise.imp_of_mem (R := fun a b => ¬ at_ b.key b.start a) (fun {a b} ha hb hab e => ?_) (rise_apart h)
  exact hab (L.inj (ho a ha) (ho b hb) e)
theorem dis_has (L : KeyL kl ok) {D : DataW α} {l : List (Win α)} (h : DIs kl D l) (ho : Oks ok l) {k : List UInt8} {s : Int} (hk : ok k s) : has D (kl k s) = (look l k s).isSome := by
  obtain ⟨E, rfl, hE⟩ := h
  rw [has_eq, hE.any_eq]
  clear hE
  induction l with
  | nil => rfl
  | cons a l ih =>
    rw [List.map_cons, List.any_cons, ih (fun b hb => ho b (List.mem_cons_of_mem _ hb)), look]
    have e : (dat kl a).1.sameKey (kl k s) = decide (at_ k s a) := same_kl L (ho a List.mem_cons_self) hk
    rw [e]
    by_cases ha : at_ k s a
    · simp [ha]
    · simp [ha]
theorem dis_at (L : KeyL kl ok) {D : DataW α} {l : List (Win α)} (h : DIs kl D l) (ho : Oks ok l) (hr : Rise l) {k : List UInt8} {s : Int} {a : α} (hl : look l k s = some a) (z : DataW α) : D.atKey (kl k s) z = .held a := by
  obtain ⟨E, rfl, hE⟩ := h
  have hm := look_some hl
  have hk : ok k s := ho _ hm
  have hp : (kl k s, (.held a : DataW α)) ∈ E := hE.mem_iff.2 (List.mem_map.2 ⟨_, hm, rfl⟩)
  exact WideAt.atKey_mem z (L.key hk) (dis_apart L ho hr hE) hp
theorem dis_none (L : KeyL kl ok) {D : DataW α} {l : List (Win α)} (h : DIs kl D l) (ho : Oks ok l) {k : List UInt8} {s : Int} (hk : ok k s) (hl : look l k s = none) (z : DataW α) : D.atKey (kl k s) z = z :=
  atKey_of_not_has (by rw [dis_has L h ho hk, hl]; rfl) z
theorem dis_size {D : DataW α} {l : List (Win α)} (h : DIs kl D l) : size D = l.length := by
  obtain ⟨E, rfl, hE⟩ := h
  rw [size_eq, hE.length_eq, List.length_map]
theorem dis_empty : DIs kl (.map [] : DataW α) [] := ⟨[], rfl, List.Perm.refl _⟩
theorem ins_perm {w : Win α} : ∀ {l : List (Win α)}, Rise l → (ins w l).Perm (w :: l.filter (fun a => !decide (at_ w.key w.start a)))
  | [], _ => List.Perm.refl _
  | a :: l, h => by
    obtain ⟨h1, h2⟩ := List.pairwise_cons.1 h
    rw [ins, List.filter_cons]
    split
    · rename_i e
      have hn : ¬ at_ w.key w.start a := ahead_not e
      rw [if_pos (by simp [hn])]
      exact ((ins_perm h2).cons a).trans (List.Perm.swap _ _ _)
    · rename_i e
      have stay : ∀ {m : List (Win α)}, (∀ b ∈ m, ahead w b = true) → m.filter (fun a => !decide (at_ w.key w.start a)) = m := fun {m} hm => List.filter_eq_self.2 fun b hb => by
        have : ¬ at_ w.key w.start b := fun hx => by
          have := hm b hb
          rw [ahead_irrefl ⟨hx.1.symm, hx.2.symm⟩] at this; cases this
        simp [this]
      split
      · rename_i e2
        have hn : ¬ at_ w.key w.start a := fun hx => by rw [ahead_irrefl ⟨hx.1.symm, hx.2.symm⟩] at e2; cases e2
        rw [if_pos (by simp [hn]), stay fun b hb => ahead_trans e2 (h1 b hb)]
      · rename_i e2
        have hs := same_place e e2
        rw [if_neg (by simp [hs]), stay fun b hb => ahead_same hs (h1 b hb)]
theorem dis_del (L : KeyL kl ok) {D : DataW α} {l : List (Win α)} (h : DIs kl D l) (ho : Oks ok l) {k : List UInt8} {s : Int} (hk : ok k s) : DIs kl (D.del (kl k s)) (l.filter (fun a => !decide (at_ k s a))) := by
  obtain ⟨E, rfl, hE⟩ := h
  refine ⟨E.filter (fun p => !p.1.sameKey (kl k s)), rfl, (hE.filter _).trans ?_⟩
  rw [List.filter_map]
  refine List.Perm.of_eq (congrArg _ (List.filter_congr fun a ha => ?_))
  have e : (dat kl a).1.sameKey (kl k s) = decide (at_ k s a) := same_kl L (ho a ha) hk
  show (!(dat kl a).1.sameKey (kl k s)) = _
  rw [e]
theorem dis_put (L : KeyL kl ok) {D : DataW α} {l : List (Win α)} (h : DIs kl D l) (ho : Oks ok l) (hr : Rise l) {w : Win α} (hw : ok w.key w.start) : DIs kl (D.put (kl w.key w.start) (.held w.agg)) (ins w l) := by
  obtain ⟨E, hD, hE⟩ := dis_del L h ho hw
  obtain ⟨E0, rfl, _⟩ := h
  have hE' : E0.filter (fun p => !p.1.sameKey (kl w.key w.start)) = E := by
    have : (DataW.map E0).del (kl w.key w.start) = .map (E0.filter fun p => !p.1.sameKey (kl w.key w.start)) := rfl
    rw [this] at hD
    exact DataW.map.inj hD
  refine ⟨DataW.insert (kl w.key w.start, .held w.agg) E, ?_, (WideShapes.insert_perm _ _).trans (((hE.cons _).trans (List.Perm.of_eq rfl)).trans ((ins_perm hr).map (dat kl)).symm)⟩
  rw [← hE']; rfl
/-- An entry that is still to come is a window of the row. -/
theorem dis_entry (L : KeyL kl ok) {D : DataW α} {l : List (Win α)} (h : DIs kl D l) (ho : Oks ok l) (hr : Rise l) {q : Lit} {y : DataW α} (hat : ∀ z, D.atKey q z = y) : ∃ w ∈ l, q = kl w.key w.start ∧ y = .held w.agg := by
  have hh := has_true_of_atKey hat
  have h' := h
  obtain ⟨E, rfl, hE⟩ := h
  rw [has_eq] at hh
  obtain ⟨p, hp, hpk⟩ := List.any_eq_true.1 hh
  obtain ⟨w, hw, rfl⟩ := List.mem_map.1 (hE.mem_iff.1 hp)
  have e : kl w.key w.start = q := WideAt.sameKey_eq hpk
  refine ⟨w, hw, e.symm, ?_⟩
  rw [← hat y, ← e]
  exact dis_at L h' ho hr (look_mem hr hw) _

/-- What a range has collected, beside what is still to come. -/
def Coll (kl : List UInt8 → Int → Lit) (l : List (Win α)) (left : Lit → Bool) (c : List (Win α)) : Prop := (c ++ l.filter (fun w => left (kl w.key w.start))).Perm l
theorem coll_start (L : KeyL kl ok) {D : DataW α} {l : List (Win α)} (h : DIs kl D l) (ho : Oks ok l) (hr : Rise l) : Coll kl l (has D) [] := by
  refine List.Perm.of_eq (List.filter_eq_self.2 fun w hw => ?_)
  rw [dis_has L h ho (ho w hw), look_mem hr hw]; rfl
theorem coll_end {l : List (Win α)} {left : Lit → Bool} {c : List (Win α)} (h : Coll kl l left c) (hl : ∀ q, left q = false) : c.Perm l := by
  unfold Coll at h
  rw [List.filter_eq_nil_iff.2 (fun w _ => by rw [hl]; simp), List.append_nil] at h
  exact h
theorem coll_step (L : KeyL kl ok) {l : List (Win α)} (ho : Oks ok l) (hr : Rise l) {left : Lit → Bool} {c : List (Win α)} (h : Coll kl l left c) {w : Win α} (hw : w ∈ l) (hl : left (kl w.key w.start) = true) :
    Coll kl l (fun z => left z && !z.sameKey (kl w.key w.start)) (c ++ [w]) := by
  refine List.Perm.trans ?_ h
  rw [List.append_assoc]
  refine List.Perm.append_left c ?_
  have aux : ∀ {m : List (Win α)}, Rise m → Oks ok m → w ∈ m → ([w] ++ m.filter (fun a => left (kl a.key a.start) && !(kl a.key a.start).sameKey (kl w.key w.start))).Perm (m.filter (fun a => left (kl a.key a.start))) := by
    intro m
    induction m with
    | nil => intro _ _ h; cases h
    | cons b m ih =>
      intro hm hom hwm
      obtain ⟨h1, h2⟩ := List.pairwise_cons.1 hm
      rcases List.mem_cons.1 hwm with rfl | hwm
      · rw [List.filter_cons, List.filter_cons, if_neg (by rw [WideAt.sameKey_self (L.key (ho w hw))]; simp), if_pos hl]
        refine List.Perm.of_eq (congrArg (w :: ·) (List.filter_congr fun a ha => ?_))
        rw [same_kl L (hom a (List.mem_cons_of_mem _ ha)) (ho w hw), decide_eq_false (fun e => ahead_not (h1 a ha) ⟨e.1.symm, e.2.symm⟩)]; simp
      · have hb : ¬ (b.key = w.key ∧ b.start = w.start) := fun e => ahead_not (h1 w hwm) e
        have ih' := ih h2 (fun a ha => hom a (List.mem_cons_of_mem _ ha)) hwm
        rw [List.filter_cons, List.filter_cons, same_kl L (hom b List.mem_cons_self) (ho w hw), decide_eq_false hb]
        by_cases e : left (kl b.key b.start) = true
        · rw [if_pos (by simp [e]), if_pos e]
          exact (List.Perm.swap _ _ _).trans (ih'.cons b)
        · rw [if_neg (by simp [e]), if_neg e]
          exact ih'
  exact aux hr ho hw
theorem coll_len {l : List (Win α)} {left : Lit → Bool} {c : List (Win α)} (h : Coll kl l left c) : c.length ≤ l.length := by
  have := h.length_eq
  rw [List.length_append] at this
  omega
theorem coll_mem {l : List (Win α)} {left : Lit → Bool} {c : List (Win α)} (h : Coll kl l left c) : ∀ w ∈ c, w ∈ l := fun _ hw => h.mem_iff.1 (List.mem_append_left _ hw)
/-- A row's windows, in whatever order, brought into their row, are the row. -/
theorem rise_perm : ∀ {l m : List (Win α)}, Rise l → Rise m → l.Perm m → l = m
  | [], m, _, _, h => (List.Perm.nil_eq h)
  | a :: l, [], _, _, h => by have := h.length_eq; simp at this
  | a :: l, b :: m, hl, hm, h => by
    obtain ⟨l1, l2⟩ := List.pairwise_cons.1 hl
    obtain ⟨m1, m2⟩ := List.pairwise_cons.1 hm
    have e : a = b := by
      rcases List.mem_cons.1 (h.mem_iff.1 List.mem_cons_self) with e | ha
      · exact e
      · rcases List.mem_cons.1 (h.mem_iff.2 List.mem_cons_self) with e | hb
        · exact e.symm
        · have x := m1 a ha
          have y := l1 b hb
          rw [ahead_asymm x] at y; cases y
    subst e
    rw [rise_perm l2 m2 (List.Perm.cons_inv h)]
end Go.Proofs.YtigmhljaoicdbaaGreat

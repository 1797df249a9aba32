/- What SeenOnce counts and keeps, as plain facts: which code each item was given, how many codes a source has. No Go program. -/
import Derived.Test.YtoofaldblldncaaKMap
namespace Go.Proofs.Ytoofaldblldncaa

/-- The code that an item was given, or 0. -/
def given1 (l : List Ent) (x : Int × Int) : Int := (rlook l x.1 x.2).getD 0
theorem rlook_snoc (l : List Ent) (x : Ent) (s q : Int) : rlook (l ++ [x]) s q = match rlook l s q with | some c => some c | none => if x.src = s ∧ x.seq = q then some x.code else none := by
  induction l with
  | nil => rfl
  | cons y l ih =>
    rw [List.cons_append, rlook, rlook]
    split
    · rfl
    · exact ih
theorem given1_same {l : List Ent} {s q : Int} (c : Int) (h : rlook l s q = none) : given1 (l ++ [⟨s, q, c⟩]) (s, q) = c := by
  unfold given1
  simp only
  rw [rlook_snoc, h]
  simp
theorem given1_other {l : List Ent} {s q : Int} (c : Int) {y : Int × Int} (h : y ≠ (s, q)) : given1 (l ++ [⟨s, q, c⟩]) y = given1 l y := by
  unfold given1
  rw [rlook_snoc]
  have : ¬ (s = y.1 ∧ q = y.2) := fun e => h (by rw [e.1, e.2])
  cases rlook l y.1 y.2 with
  | some c => rfl
  | none => simp only [if_neg this]
theorem given1_fresh {W : RefS} {s q lo : Int} (h : (rask W s q lo).1 = 3) : rlook W.l s q = none := by
  unfold rask at h
  split at h
  · split at h
    · simp at h
    · cases hx : rlook W.l s q with
      | none => rfl
      | some c => rw [hx] at h; simp at h
  · simp at h
theorem given1_known {W : RefS} {s q lo : Int} (h : (rask W s q lo).1 = 2) : given1 W.l (s, q) = (rask W s q lo).2 := by
  unfold rask at h ⊢
  unfold given1
  split
  · rename_i hm
    rw [if_pos hm] at h
    split
    · rename_i hl
      rw [if_pos hl] at h; simp at h
    · rename_i hl
      rw [if_neg hl] at h
      simp only
      cases hx : rlook W.l s q with
      | none => rw [hx] at h; simp at h
      | some c => rfl
  · rename_i hm
    rw [if_neg hm] at h; simp at h
theorem rnoteE_fresh {W : RefS} {s q lo c : Int} (h : rnoteE W s q lo c = 0) : (rask W s q lo).1 = 3 := by
  have hst : (rask W s q lo).1 = 0 ∨ (rask W s q lo).1 = 1 ∨ (rask W s q lo).1 = 2 ∨ (rask W s q lo).1 = 3 := by
    unfold rask
    split
    · split
      · simp
      · split <;> simp
    · simp
  unfold rnoteE at h
  rcases hst with e | e | e | e
  · rw [e] at h; simp at h
  · rw [e] at h; split at h <;> simp at h
  · rw [e] at h; split at h <;> simp at h
  · exact e
theorem note_low (T : Tab) (src seq low code : Int) (i : Nat) : (T i).low ≤ (note T src seq low code i).low := by
  unfold note
  split
  · rw [noted_low]
    split
    · split <;> omega
    · exact Int.le_refl _
  · exact Int.le_refl _
/-- How many of the first j are of a source. -/
def manyTo (l : List Ent) (j : Nat) (s : Int) : Int := (((l.take j).filter fun x => decide (x.src = s)).length : Int)
theorem manyTo_zero (l : List Ent) : manyTo l 0 = fun _ => 0 := by funext s; unfold manyTo; rw [List.take_zero]; rfl
theorem manyTo_same {l : List Ent} {j : Nat} {x : Ent} (h : l[j]? = some x) : manyTo l (j + 1) x.src = manyTo l j x.src + 1 := by
  unfold manyTo
  rw [take_snoc h, List.filter_append]
  simp
theorem manyTo_other {l : List Ent} {j : Nat} {x : Ent} (h : l[j]? = some x) {s : Int} (hs : s ≠ x.src) : manyTo l (j + 1) s = manyTo l j s := by
  unfold manyTo
  rw [take_snoc h, List.filter_append]
  have : ¬ x.src = s := fun e => hs e.symm
  simp [this]
theorem filter_ents (k : Nat) (l : Codes) (s : Int) : (ents k l).filter (fun x => decide (x.src = s)) = if s = k then ents k l else [] := by
  split
  · rename_i h
    exact List.filter_eq_self.2 fun x hx => by rw [(mem_ents.1 hx).1, h]; simp
  · rename_i h
    exact List.filter_eq_nil_iff.2 fun x hx => by rw [(mem_ents.1 hx).1]; simp; omega
theorem filter_allTo {T : Tab} (hT : T.Ok) (s : Int) : ∀ n : Nat, ((allTo T n).filter (fun x => decide (x.src = s))).length ≤ if 0 ≤ s ∧ s < n then 16 else 0
  | 0 => by
    split
    · omega
    · exact Nat.le_refl _
  | n + 1 => by
    have ih := filter_allTo hT s n
    rw [allTo, List.filter_append, List.length_append, filter_ents]
    by_cases e : s = (n : Int)
    · rw [if_pos e]
      rw [if_neg (by omega)] at ih
      have h1 := (hT n).len16
      have h2 : (ents n (T n).codes).length = (T n).codes.length := by unfold ents; rw [List.length_map]
      rw [if_pos (by omega)]
      omega
    · rw [if_neg e]
      simp only [List.length_nil, Nat.add_zero]
      refine Nat.le_trans ih ?_
      split <;> split <;> omega
theorem manyTo_le {T : Tab} (hT : T.Ok) (j : Nat) (s : Int) : manyTo (all T) j s ≤ 16 ∧ 0 ≤ manyTo (all T) j s := by
  have h1 := filter_allTo hT s 4
  have h2 : ((all T).filter (fun x => decide (x.src = s))).length ≤ 16 := by
    unfold all
    refine Nat.le_trans h1 ?_
    split <;> omega
  have h3 : (((all T).take j).filter (fun x => decide (x.src = s))).length ≤ ((all T).filter (fun x => decide (x.src = s))).length := ((List.take_sublist j (all T)).filter _).length_le
  unfold manyTo
  omega
theorem kept_facts {T : Tab} {W : RefS} (h : Rel T W) (hT : T.Ok) {x : Ent} (hx : x ∈ all T) : (0 ≤ x.src ∧ x.src < 4) ∧ (T x.src.toNat).low ≤ x.seq ∧ x.seq < (T x.src.toNat).low + 16 ∧ given1 W.l (x.src, x.seq) = x.code := by
  have hl : x ∈ live W := h.perm.mem_iff.2 hx
  have hw : x ∈ W.l := (List.mem_filter.1 hl).1
  have hm := hx
  unfold all at hm
  rw [mem_allTo] at hm
  have hn := (hT x.src.toNat).near _ hm.2.2
  refine ⟨⟨hm.1, by have := hm.2.1; omega⟩, hn.1, hn.2, ?_⟩
  unfold given1
  simp only
  rw [rlook_mem h.once hw]; rfl
end Go.Proofs.Ytoofaldblldncaa

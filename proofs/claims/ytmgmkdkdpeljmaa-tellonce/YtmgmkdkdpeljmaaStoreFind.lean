/- Where a window is in its row, or would be: the place, and whether it is there. No Go. -/
import Derived.Test.YtmgmkdkdpeljmaaStoreMath
namespace Go.Proofs.Ytmgmkdkdpeljmaa
variable {α : Type}

def pos (w : Win α) : List (Win α) → Nat
  | [] => 0
  | a :: l => if ahead a w = true then pos w l + 1 else 0
def opens (w : Win α) : List (Win α) → Bool
  | [] => false
  | a :: l => if ahead a w = true then opens w l else !ahead w a
theorem pos_le (w : Win α) : ∀ l : List (Win α), pos w l ≤ l.length
  | [] => Nat.le_refl _
  | a :: l => by rw [pos]; split <;> simp [pos_le w l]
theorem pos_ahead (w : Win α) : ∀ (l : List (Win α)) (i : Nat) (a : Win α), i < pos w l → l[i]? = some a → ahead a w = true
  | [], _, _, h, _ => by simp [pos] at h
  | b :: l, i, a, h, ha => by
    rw [pos] at h
    split at h
    · rename_i e
      cases i with
      | zero => cases ha; exact e
      | succ i => exact pos_ahead w l i a (by omega) ha
    · omega
theorem pos_stop (w : Win α) : ∀ (l : List (Win α)) (a : Win α), l[pos w l]? = some a → ahead a w = false ∧ opens w l = !ahead w a
  | [], _, h => by simp at h
  | b :: l, a, h => by
    rw [pos] at h
    rw [opens]
    split
    · rename_i e
      rw [if_pos e, List.getElem?_cons_succ] at h
      exact pos_stop w l a h
    · rename_i e
      rw [if_neg e] at h
      cases h
      exact ⟨by simpa using e, rfl⟩
theorem pos_end (w : Win α) : ∀ (l : List (Win α)), pos w l = l.length → opens w l = false
  | [], _ => rfl
  | b :: l, h => by
    rw [pos] at h
    rw [opens]
    split
    · rename_i e
      rw [if_pos e] at h
      exact pos_end w l (by simpa using h)
    · rename_i e
      rw [if_neg e] at h
      simp at h
/-- A count that goes up as long as what stands there is ahead ends at the place. -/
theorem pos_is {w : Win α} : ∀ {l : List (Win α)} {i : Nat}, i ≤ l.length → (∀ j a, j < i → l[j]? = some a → ahead a w = true) → (∀ a, l[i]? = some a → ahead a w = false) → i = pos w l
  | [], i, h, _, _ => by simp at h; rw [h]; rfl
  | b :: l, 0, _, _, h => by rw [pos, if_neg (by rw [h b rfl]; simp)]
  | b :: l, i + 1, hi, h1, h2 => by
    rw [pos, if_pos (h1 0 b (by omega) rfl)]
    rw [pos_is (l := l) (i := i) (by simpa using hi) (fun j a hj ha => h1 (j + 1) a (by omega) ha) (fun a ha => h2 a ha)]
theorem ins_pos (w : Win α) : ∀ l : List (Win α), ins w l = l.take (pos w l) ++ w :: l.drop (if opens w l = true then pos w l + 1 else pos w l)
  | [] => by simp [ins, pos, opens]
  | a :: l => by
    rw [ins, pos, opens]
    by_cases e : ahead a w = true
    · rw [if_pos e, if_pos e, if_pos e, ins_pos w l]
      split <;> simp
    · rw [if_neg e, if_neg e, if_neg e]
      by_cases e2 : ahead w a = true
      · rw [if_pos e2, e2]; simp
      · rw [if_neg e2, Bool.eq_false_iff.2 e2]; simp
theorem look_pos {w : Win α} : ∀ {l : List (Win α)}, Rise l → look l w.key w.start = if opens w l = true then (l[pos w l]?).map Win.agg else none
  | [], _ => by simp [look, opens]
  | a :: l, h => by
    obtain ⟨h1, h2⟩ := List.pairwise_cons.1 h
    rw [look, pos, opens]
    by_cases e : ahead a w = true
    · rw [if_pos e, if_pos e, if_neg (ahead_not e), look_pos h2, List.getElem?_cons_succ]
    · rw [if_neg e, if_neg e]
      by_cases e2 : ahead w a = true
      · have hn : ¬ at_ w.key w.start a := fun hx => by rw [ahead_irrefl ⟨hx.1.symm, hx.2.symm⟩] at e2; cases e2
        rw [if_neg hn, look_none (fun b hb hx => ahead_not (ahead_trans e2 (h1 b hb)) ⟨hx.1.symm, hx.2.symm⟩), e2]
        simp
      · rw [if_pos (same_place e e2), Bool.eq_false_iff.2 e2]
        simp
theorem look_open {w : Win α} {l : List (Win α)} (h : Rise l) : (look l w.key w.start).isSome = opens w l := by
  rw [look_pos h]
  cases ho : opens w l with
  | false => rfl
  | true =>
    have : pos w l < l.length := by
      rcases Nat.lt_or_ge (pos w l) l.length with k | k
      · exact k
      · rw [pos_end w l (Nat.le_antisymm (pos_le w l) k)] at ho; cases ho
    simp [this]
end Go.Proofs.Ytmgmkdkdpeljmaa

/- Which of two keys stands ahead, as a walk byte by byte finds it. No Go. -/
import Derived.Test.YtmgmkdkdpeljmaaStoreMath
namespace Go.Proofs.Ytmgmkdkdpeljmaa

/-- Two keys are the same up to a place. -/
def sameTo (a b : List UInt8) (i : Nat) : Prop := a.take i = b.take i
theorem sameTo_zero (a b : List UInt8) : sameTo a b 0 := by simp [sameTo]
theorem sameTo_succ {a b : List UInt8} {i : Nat} (h : sameTo a b i) (ha : i < a.length) (hb : i < b.length) (e : a.getD i 0 = b.getD i 0) : sameTo a b (i + 1) := by
  unfold sameTo at *
  rw [List.take_succ_eq_append_getElem ha, List.take_succ_eq_append_getElem hb, h]
  simp only [List.getD_eq_getElem?_getD, List.getElem?_eq_getElem ha, List.getElem?_eq_getElem hb, Option.getD_some] at e
  rw [e]
/-- The first byte in which they differ tells. -/
theorem keyLt_differ : ∀ {a b : List UInt8} {i : Nat}, sameTo a b i → i < a.length → i < b.length → ¬ a.getD i 0 = b.getD i 0 → keyLt a b = decide (a.getD i 0 < b.getD i 0)
  | [], _, _, _, h, _, _ => by simp at h
  | _ :: _, [], _, _, _, h, _ => by simp at h
  | x :: a, y :: b, 0, _, _, _, hn => by
    simp only [List.getD_cons_zero] at hn ⊢
    rw [keyLt, if_neg hn]
  | x :: a, y :: b, i + 1, hs, ha, hb, hn => by
    unfold sameTo at hs
    simp only [List.take_succ_cons, List.cons.injEq] at hs
    obtain ⟨rfl, hs⟩ := hs
    simp only [List.getD_cons_succ] at hn ⊢
    rw [keyLt, if_pos rfl]
    exact keyLt_differ hs (by simpa using ha) (by simpa using hb) hn
/-- If they don't differ, the shorter one stands ahead. -/
theorem keyLt_short : ∀ {a b : List UInt8} {i : Nat}, sameTo a b i → (i = a.length ∨ i = b.length) → i ≤ a.length → i ≤ b.length → keyLt a b = decide (a.length < b.length)
  | [], [], _, _, _, _, _ => rfl
  | [], _ :: _, _, _, _, _, _ => by simp [keyLt]
  | _ :: _, [], _, _, _, _, _ => by simp [keyLt]
  | x :: a, y :: b, 0, _, h, _, _ => by simp at h
  | x :: a, y :: b, i + 1, hs, h, ha, hb => by
    unfold sameTo at hs
    simp only [List.take_succ_cons, List.cons.injEq] at hs
    obtain ⟨rfl, hs⟩ := hs
    rw [keyLt, if_pos rfl, keyLt_short hs (by simpa using h) (by simpa using ha) (by simpa using hb)]
    simp
end Go.Proofs.Ytmgmkdkdpeljmaa

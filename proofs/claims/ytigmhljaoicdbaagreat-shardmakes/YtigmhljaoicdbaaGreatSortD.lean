/- Windows brought into their row by a sort: which of two stands ahead is a strict weak order; what is sorted and has the row's windows is the row. No Go program. -/
import Derived.Test.YtigmhljaoicdbaaGreatGShelf
import Derived.Test.YtigmhljaoicdbaaGreatMath
import Derived.Sort.Statements
namespace Go.Proofs.YtigmhljaoicdbaaGreat
open Go.Sort

instance : Inhabited (Win AggV) := ⟨⟨[], 0, zero⟩⟩
/-- Which of two numbers stands ahead, as a number: below nought, nought or above it. -/
def cmpI (a b : Int) : Int := if a < b then -1 else if b < a then 1 else 0
def cmpK (a b : List UInt8) : Int := if keyLt a b = true then -1 else if keyLt b a = true then 1 else 0
def cmpW (a b : Win AggV) : Int := if cmpI a.start b.start = 0 then cmpK a.key b.key else cmpI a.start b.start
theorem cmpW_lt (a b : Win AggV) : decide (cmpW a b < 0) = ahead a b := by
  unfold cmpW cmpI cmpK ahead
  by_cases h1 : a.start < b.start
  · simp [h1]
  · by_cases h2 : b.start < a.start
    · have h3 : ¬ a.start = b.start := by omega
      simp [h1, h2, h3]
    · have h3 : a.start = b.start := by omega
      simp only [h3, Int.lt_irrefl, if_false, if_true, decide_true, decide_false, Bool.true_and, Bool.false_or]
      cases e : keyLt a.key b.key with
      | true => simp
      | false =>
        simp only [Bool.false_eq_true, if_false]
        split <;> simp
theorem ahead_swo : SWO (fun a b : Win AggV => decide (cmpW a b < 0)) where
  irrefl x := by rw [cmpW_lt]; exact ahead_irrefl ⟨rfl, rfl⟩
  trans x y z h1 h2 := by rw [cmpW_lt] at *; exact ahead_trans h1 h2
  ntrans x y z h1 h2 := by
    rw [cmpW_lt] at *
    cases e : ahead x z with
    | false => rfl
    | true =>
      have hyz : ¬ ahead y z = true := by rw [h2]; simp
      by_cases hs : at_ z.key z.start y
      · have : ahead x y = true := by
          rw [ahead_iff] at e ⊢
          rw [hs.1, hs.2]; exact e
        rw [h1] at this; cases this
      · rcases ahead_total hs with k | k
        · exact absurd k hyz
        · have := ahead_trans e k
          rw [h1] at this; cases this
theorem sorted_rise {l : List (Win AggV)} (hr : Rise l) {d : Array (Win AggV)} (hp : d.toList.Perm l) (hs : SortedIn (fun a b : Win AggV => decide (cmpW a b < 0)) 0 d.size d) : d.toList = l := by
  refine rise_perm ?_ hr hp
  have hap : d.toList.Pairwise (fun a b => ¬ at_ b.key b.start a) := (hp.symm.pairwise_iff (fun {a b} h k => h ⟨k.1.symm, k.2.symm⟩)).1 (rise_apart hr)
  unfold Rise
  rw [List.pairwise_iff_getElem] at hap ⊢
  intro i j hi hj hij
  have hi' : i < d.size := by simpa using hi
  have hj' : j < d.size := by simpa using hj
  have h1 := hs i j (Nat.zero_le _) hij hj'
  dsimp only at h1
  rw [cmpW_lt, getElem!_pos d i hi', getElem!_pos d j hj'] at h1
  have h2 := hap i j hi hj hij
  simp only [Array.getElem_toList] at h2 ⊢
  rcases ahead_total h2 with k | k
  · exact k
  · rw [h1] at k; cases k
theorem perm_in {d d' : Array (Win AggV)} (h : PermIn 0 d.size d d') : d'.toList.Perm d.toList := by
  obtain ⟨h1, _, h3⟩ := h
  rw [← h1] at h3
  have e : d'.extract 0 d'.size = d' := by simp
  rw [e, h1] at h3
  simpa using h3
end Go.Proofs.YtigmhljaoicdbaaGreat

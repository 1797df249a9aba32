/- The chapter's first examples: computed. No conditions. -/
import Derived.Test.YtmgmkdkdpeljmabHere
namespace Go.Proofs.Ytmgmkdkdpeljmab
open Go.RowKit
def wb : AggV := put (put zero 5) 1
def wk1 : List (Win AggV) := [⟨[98], 10, put zero 5⟩]
def wk2 : List (Win AggV) := [⟨[97], 0, put zero 2⟩, ⟨[98], 10, put zero 5⟩]
def wk3 : List (Win AggV) := [⟨[97], 0, put zero 2⟩, ⟨[98], 10, wb⟩]
theorem wk1_eq : putS SO [] [98] 12 5 = (wk1, 0) := by kernel_rfl
theorem wk2_eq : putS SO wk1 [97] 3 2 = (wk2, 0) := by kernel_rfl
theorem wk3_eq : putS SO wk2 [98] 10 1 = (wk3, 0) := by kernel_rfl
theorem wk3_look : look wk3 [98] 10 = some wb := by kernel_rfl
theorem wk3_take : takeS SO wk3 15 = ([⟨[98], 10, wb⟩], [⟨[97], 0, put zero 2⟩]) := by kernel_rfl
theorem wb_sum : wb.sum = 6 := by kernel_rfl
theorem wb_count : wb.count = 2 := by kernel_rfl
instance (x : Int) : Decidable (i64 x) := by unfold i64; infer_instance
instance (a : AggV) : Decidable a.In := decidable_of_iff (i64 a.count ∧ i64 a.sum ∧ i64 a.mn ∧ i64 a.mx ∧ i64 a.h0 ∧ i64 a.h1 ∧ i64 a.h2 ∧ i64 a.h3) ⟨fun ⟨a, b, c, d, e, f, g, h⟩ => ⟨a, b, c, d, e, f, g, h⟩, fun ⟨a, b, c, d, e, f, g, h⟩ => ⟨a, b, c, d, e, f, g, h⟩⟩
theorem wk1_in : ∀ a ∈ wk1, a.agg.In := by decide +kernel
theorem wk2_in : ∀ a ∈ wk2, a.agg.In := by decide +kernel
theorem okc {k : List UInt8} {s : Int} (hk : k.length ≤ 1000) (h0 : 0 ≤ s) (h1 : s ≤ 1099511627776) : okk k s := ⟨by simp [maxLen]; omega, by unfold i64; omega⟩
theorem wk_put1 {w v : World} {p : Nat} (h : Here w v p [] []) : Calls Try.prog 20 #[.pointer (some ⟨p, 0, none⟩), .string ⟨#[98]⟩, .int .i64 12, .int .i64 5] v fun e v' => e = .returned (.int .i64 0) ∧ Here w v' p wk1 [] := by
  have := h.put (Nat.zero_le _) (fun _ h => by cases h) [98] 12 5 (by unfold i64; omega)
  rw [wk1_eq] at this; exact this
theorem wk_put2 {w v : World} {p : Nat} (h : Here w v p wk1 []) : Calls Try.prog 20 #[.pointer (some ⟨p, 0, none⟩), .string ⟨#[97]⟩, .int .i64 3, .int .i64 2] v fun e v' => e = .returned (.int .i64 0) ∧ Here w v' p wk2 [] := by
  have := h.put (by decide) wk1_in [97] 3 2 (by unfold i64; omega)
  rw [wk2_eq] at this; exact this
theorem wk_put3 {w v : World} {p : Nat} (h : Here w v p wk2 []) : Calls Try.prog 20 #[.pointer (some ⟨p, 0, none⟩), .string ⟨#[98]⟩, .int .i64 10, .int .i64 1] v fun e v' => e = .returned (.int .i64 0) ∧ Here w v' p wk3 [] := by
  have := h.put (by decide) wk2_in [98] 10 1 (by unfold i64; omega)
  rw [wk3_eq] at this; exact this
theorem wk_taken {w v : World} {p : Nat} {F : Nat → Prop} (h : HereF w v p F wk3 []) : Calls Try.prog 23 #[.pointer (some ⟨p, 0, none⟩), .int .i64 15] v fun e v' => ∃ g c l, e = .returned (.slice (some ⟨g, 0, none⟩) 1 c) ∧ v'.cell? ⟨g, 0, none⟩ = some (.string ⟨#[97]⟩) ∧ l.length = 1 ∧ Here w v' p l [] ∧ Moved F v v' := by
  have := h.taken (by decide) 15
  rw [wk3_take] at this
  refine this.mono ?_
  rintro e v' ⟨a, c, h1, h2, h3⟩
  obtain ⟨g, hg, hc, _⟩ := held_at (h2.rows _ List.mem_cons_self).1 (j := 0) rfl
  cases hg
  exact ⟨g, c, _, h1, hc 0 _ rfl, rfl, Here.drop ⟨F, h2⟩ (fun _ h => by cases h), h3⟩
end Go.Proofs.Ytmgmkdkdpeljmab

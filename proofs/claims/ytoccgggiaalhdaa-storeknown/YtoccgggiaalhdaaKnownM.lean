/- The chapter's examples and the limit, computed. No conditions. -/
import Derived.Test.YtoccgggiaalhdaaWakes
namespace Go.Proofs.Ytoccgggiaalhdaa
open Go.RowKit
deriving instance DecidableEq for Win
def kn2 : List (Win AggV) := [⟨[97], 10, ⟨1, 7, 7, 7, 0, 1, 0, 0⟩⟩, ⟨[98], 10, ⟨1, 5, 5, 5, 0, 1, 0, 0⟩⟩]
def kn3 : List (Win AggV) := [⟨[97], 10, ⟨1, 7, 7, 7, 0, 1, 0, 0⟩⟩, ⟨[98], 10, ⟨2, 6, 1, 5, 0, 2, 0, 0⟩⟩]
def kn4 : List (Win AggV) := [⟨[97], 0, ⟨1, 2, 2, 2, 0, 1, 0, 0⟩⟩, ⟨[97], 10, ⟨1, 7, 7, 7, 0, 1, 0, 0⟩⟩, ⟨[98], 10, ⟨2, 6, 1, 5, 0, 2, 0, 0⟩⟩]
def kk (n : Nat) : List (Win AggV) := (List.range n).map fun (j : Nat) => ⟨[107], 10 * (j : Int), ⟨1, 1, 1, 1, 0, 1, 0, 0⟩⟩
def kkl : List (Win AggV) := (putS SO (kk 32) [107] 5 1).1
theorem kn2_eq : putS SO wk1 [97] 19 7 = (kn2, 0) := by decide +kernel
theorem kn3_eq : putS SO kn2 [98] 10 1 = (kn3, 0) := by decide +kernel
theorem kn4_eq : putS SO kn3 [97] 3 2 = (kn4, 0) := by decide +kernel
theorem kn5_eq : takeS SO kn4 14 = (kn4, []) := by decide +kernel
theorem kn6_eq : takeS SO kn4 15 = (kn3, [⟨[97], 0, ⟨1, 2, 2, 2, 0, 1, 0, 0⟩⟩]) := by decide +kernel
theorem kn7_eq : putS SO kn3 [] 3 2 = (kn3, 1) := by decide +kernel
theorem kn8_eq : putS SO kn3 [97] (-1) 1 = (kn3, 1) := by decide +kernel
theorem kn9_eq : setS SO kn3 ⟨[97], 3, ⟨1, 2, 2, 2, 0, 1, 0, 0⟩⟩ = (kn3, 1) := by decide +kernel
theorem kn10_eq : setS SO kn3 ⟨[97], 10, ⟨1, 7, 7, 7, 0, 1, 0, 0⟩⟩ = (kn3, 5) := by decide +kernel
theorem kn11_eq : setS SO kn3 ⟨[97], 0, ⟨0, 0, 0, 0, 0, 0, 0, 0⟩⟩ = (kn3, 1) := by decide +kernel
theorem kk_put : ∀ i, i < 32 → putS SO (kk i) [107] (10 * (i : Int)) 1 = (kk (i + 1), 0) := by decide +kernel
theorem kk_full : putS SO (kk 32) [107] 320 1 = (kk 32, 6) := by decide +kernel
theorem kk_again : putS SO (kk 32) [107] 5 1 = (kkl, 0) := by decide +kernel
theorem kk_set : setS SO kkl ⟨[122], 0, ⟨1, 2, 2, 2, 0, 1, 0, 0⟩⟩ = (kkl, 6) := by decide +kernel
theorem kkl_len : kkl.length = 32 := by decide +kernel
theorem kk_len (i : Nat) : (kk i).length = i := by simp [kk]
theorem kone_in : AggV.In ⟨1, 1, 1, 1, 0, 1, 0, 0⟩ := by decide +kernel
theorem two_in : AggV.In ⟨1, 2, 2, 2, 0, 1, 0, 0⟩ := by decide +kernel
theorem seven_in : AggV.In ⟨1, 7, 7, 7, 0, 1, 0, 0⟩ := by decide +kernel
theorem zero_in' : AggV.In ⟨0, 0, 0, 0, 0, 0, 0, 0⟩ := by decide +kernel
theorem kk_in (i : Nat) : ∀ a ∈ kk i, a.agg.In := by
  intro a ha
  simp only [kk, List.mem_map] at ha
  obtain ⟨j, _, rfl⟩ := ha
  exact kone_in
theorem kn2_in : ∀ a ∈ kn2, a.agg.In := by decide +kernel
theorem kn3_in : ∀ a ∈ kn3, a.agg.In := by decide +kernel
theorem kn4_in : ∀ a ∈ kn4, a.agg.In := by decide +kernel
theorem kk_zero : kk 0 = [] := rfl
theorem kp1 {w v : World} {p : Nat} {R : List Held} (h : Here w v p [] R) : Calls Try.prog 12 #[.pointer (some ⟨p, 0, none⟩), .string ⟨#[98]⟩, .int .i64 12, .int .i64 5] v fun e v' => e = .returned (.int .i64 0) ∧ Here w v' p wk1 R := by
  have := h.put (by decide +kernel) (fun _ h => by cases h) [98] 12 5 (by unfold i64; omega)
  rw [wk1_eq] at this; exact this
theorem kp2 {w v : World} {p : Nat} {R : List Held} (h : Here w v p wk1 R) : Calls Try.prog 12 #[.pointer (some ⟨p, 0, none⟩), .string ⟨#[97]⟩, .int .i64 19, .int .i64 7] v fun e v' => e = .returned (.int .i64 0) ∧ Here w v' p kn2 R := by
  have := h.put (by decide +kernel) wk1_in [97] 19 7 (by unfold i64; omega)
  rw [kn2_eq] at this; exact this
theorem kp3 {w v : World} {p : Nat} {R : List Held} (h : Here w v p kn2 R) : Calls Try.prog 12 #[.pointer (some ⟨p, 0, none⟩), .string ⟨#[98]⟩, .int .i64 10, .int .i64 1] v fun e v' => e = .returned (.int .i64 0) ∧ Here w v' p kn3 R := by
  have := h.put (by decide +kernel) kn2_in [98] 10 1 (by unfold i64; omega)
  rw [kn3_eq] at this; exact this
theorem kp4 {w v : World} {p : Nat} {R : List Held} (h : Here w v p kn3 R) : Calls Try.prog 12 #[.pointer (some ⟨p, 0, none⟩), .string ⟨#[97]⟩, .int .i64 3, .int .i64 2] v fun e v' => e = .returned (.int .i64 0) ∧ Here w v' p kn4 R := by
  have := h.put (by decide +kernel) kn3_in [97] 3 2 (by unfold i64; omega)
  rw [kn4_eq] at this; exact this
theorem kp5 {w v : World} {p : Nat} {R : List Held} (h : Here w v p kn3 R) : Calls Try.prog 12 #[.pointer (some ⟨p, 0, none⟩), .string ⟨#[]⟩, .int .i64 3, .int .i64 2] v fun e v' => e = .returned (.int .i64 1) ∧ Here w v' p kn3 R := by
  have := h.put (by decide +kernel) kn3_in [] 3 2 (by unfold i64; omega)
  rw [kn7_eq] at this; exact this
theorem kp6 {w v : World} {p : Nat} {R : List Held} (h : Here w v p kn3 R) : Calls Try.prog 12 #[.pointer (some ⟨p, 0, none⟩), .string ⟨#[97]⟩, .int .i64 (-1), .int .i64 1] v fun e v' => e = .returned (.int .i64 1) ∧ Here w v' p kn3 R := by
  have := h.put (by decide +kernel) kn3_in [97] (-1) 1 (by unfold i64; omega)
  rw [kn8_eq] at this; exact this
theorem kp7 {w v : World} {p : Nat} {R : List Held} (h : Here w v p (kk 32) R) : Calls Try.prog 12 #[.pointer (some ⟨p, 0, none⟩), .string ⟨#[107]⟩, .int .i64 320, .int .i64 1] v fun e v' => e = .returned (.int .i64 6) ∧ Here w v' p (kk 32) R := by
  have := h.put (by decide +kernel) (kk_in 32) [107] 320 1 (by unfold i64; omega)
  rw [kk_full] at this; exact this
theorem kp8 {w v : World} {p : Nat} {R : List Held} (h : Here w v p (kk 32) R) : Calls Try.prog 12 #[.pointer (some ⟨p, 0, none⟩), .string ⟨#[107]⟩, .int .i64 5, .int .i64 1] v fun e v' => e = .returned (.int .i64 0) ∧ Here w v' p kkl R := by
  have := h.put (by decide +kernel) (kk_in 32) [107] 5 1 (by unfold i64; omega)
  rw [kk_again] at this; exact this
theorem ks1 {w v : World} {p : Nat} {R : List Held} (h : Here w v p kn3 R) : Calls Try.prog 14 #[.pointer (some ⟨p, 0, none⟩), .agg #[.string ⟨#[97]⟩, .int .i64 3, .int .i64 1, .int .i64 2, .int .i64 2, .int .i64 2, .int .i64 0, .int .i64 1, .int .i64 0, .int .i64 0]] v fun e v' => e = .returned (.int .i64 1) ∧ Here w v' p kn3 R := by
  have := h.set (by decide +kernel) ⟨[97], 3, ⟨1, 2, 2, 2, 0, 1, 0, 0⟩⟩ two_in (okc (by dsimp only; decide) (by dsimp only; omega) (by dsimp only; omega))
  rw [kn9_eq] at this; exact this
theorem ks2 {w v : World} {p : Nat} {R : List Held} (h : Here w v p kn3 R) : Calls Try.prog 14 #[.pointer (some ⟨p, 0, none⟩), .agg #[.string ⟨#[97]⟩, .int .i64 10, .int .i64 1, .int .i64 7, .int .i64 7, .int .i64 7, .int .i64 0, .int .i64 1, .int .i64 0, .int .i64 0]] v fun e v' => e = .returned (.int .i64 5) ∧ Here w v' p kn3 R := by
  have := h.set (by decide +kernel) ⟨[97], 10, ⟨1, 7, 7, 7, 0, 1, 0, 0⟩⟩ seven_in (okc (by dsimp only; decide) (by dsimp only; omega) (by dsimp only; omega))
  rw [kn10_eq] at this; exact this
theorem ks3 {w v : World} {p : Nat} {R : List Held} (h : Here w v p kn3 R) : Calls Try.prog 14 #[.pointer (some ⟨p, 0, none⟩), .agg #[.string ⟨#[97]⟩, .int .i64 0, .int .i64 0, .int .i64 0, .int .i64 0, .int .i64 0, .int .i64 0, .int .i64 0, .int .i64 0, .int .i64 0]] v fun e v' => e = .returned (.int .i64 1) ∧ Here w v' p kn3 R := by
  have := h.set (by decide +kernel) ⟨[97], 0, ⟨0, 0, 0, 0, 0, 0, 0, 0⟩⟩ zero_in' (okc (by dsimp only; decide) (by dsimp only; omega) (by dsimp only; omega))
  rw [kn11_eq] at this; exact this
theorem ks4 {w v : World} {p : Nat} {R : List Held} (h : Here w v p kkl R) : Calls Try.prog 14 #[.pointer (some ⟨p, 0, none⟩), .agg #[.string ⟨#[122]⟩, .int .i64 0, .int .i64 1, .int .i64 2, .int .i64 2, .int .i64 2, .int .i64 0, .int .i64 1, .int .i64 0, .int .i64 0]] v fun e v' => e = .returned (.int .i64 6) ∧ Here w v' p kkl R := by
  have := h.set (by decide +kernel) ⟨[122], 0, ⟨1, 2, 2, 2, 0, 1, 0, 0⟩⟩ two_in (okc (by dsimp only; decide) (by dsimp only; omega) (by dsimp only; omega))
  rw [kk_set] at this; exact this
theorem kpi {w v : World} {p : Nat} {R : List Held} {i : Nat} (hi : i < 32) (h : Here w v p (kk i) R) : Calls Try.prog 12 #[.pointer (some ⟨p, 0, none⟩), .string ⟨#[107]⟩, .int .i64 (10 * (i : Int)), .int .i64 1] v fun e v' => e = .returned (.int .i64 0) ∧ Here w v' p (kk (i + 1)) R := by
  have := h.put (by rw [kk_len]; omega) (kk_in i) [107] (10 * (i : Int)) 1 (by unfold i64; omega)
  rw [kk_put i hi] at this; exact this
theorem kall {w v : World} {p : Nat} (h : Here w v p kn4 []) : Calls Try.prog 24 #[.pointer (some ⟨p, 0, none⟩)] v fun e v' => ∃ g c, e = .returned (.slice (some ⟨g, 0, none⟩) 3 c) ∧ Here w v' p kn4 [(some ⟨g, 0, none⟩, c, kn4)] := by
  refine (h.all (by decide +kernel)).mono ?_
  rintro e v' ⟨a, c, h1, h2⟩
  obtain ⟨g, hg, _⟩ := held_at (h2.row List.mem_cons_self) (j := 0) (x := ⟨[97], 0, ⟨1, 2, 2, 2, 0, 1, 0, 0⟩⟩) (show kn4[0]? = _ by decide +kernel)
  cases hg
  exact ⟨g, c, h1, h2⟩
theorem ktake1 {w v : World} {p : Nat} {R : List Held} (h : Here w v p kn4 R) : Calls Try.prog 16 #[.pointer (some ⟨p, 0, none⟩), .int .i64 14] v fun e v' => ∃ a c, e = .returned (.slice a 0 c) ∧ Here w v' p kn4 R := by
  have := h.taken (by decide +kernel) 14
  rw [kn5_eq] at this
  exact this.mono fun e v' ⟨a, c, h1, h2⟩ => ⟨a, c, h1, h2.drop (fun r hr => List.mem_cons_of_mem _ hr)⟩
theorem ktake2 {w v : World} {p : Nat} {R : List Held} (h : Here w v p kn4 R) : Calls Try.prog 16 #[.pointer (some ⟨p, 0, none⟩), .int .i64 15] v fun e v' => ∃ a c, e = .returned (.slice a 1 c) ∧ Here w v' p kn3 R := by
  have := h.taken (by decide +kernel) 15
  rw [kn6_eq] at this
  exact this.mono fun e v' ⟨a, c, h1, h2⟩ => ⟨a, c, h1, h2.drop (fun r hr => List.mem_cons_of_mem _ hr)⟩
theorem klen {w v : World} {p : Nat} {R : List Held} (h : Here w v p kn3 R) : Calls Try.prog 21 #[.pointer (some ⟨p, 0, none⟩)] v fun e v' => e = .returned (.int .i64 2) ∧ v' = v := h.len
theorem kklen {w v : World} {p : Nat} {R : List Held} (h : Here w v p kkl R) : Calls Try.prog 21 #[.pointer (some ⟨p, 0, none⟩)] v fun e v' => e = .returned (.int .i64 32) ∧ v' = v := by
  have := h.len
  rw [kkl_len] at this; exact this
theorem knew {w v : World} {p : Nat} {l : List (Win AggV)} {R : List Held} (h : Here w v p l R) : Calls Try.prog 11 #[] v fun e v' => e = .returned (.pointer (some ⟨v.heap.size, 0, none⟩)) ∧ Here w v' v.heap.size (kk 0) R := Here.new h.bel (fun _ hr => h.row hr)
/-- The row that All gave. -/
theorem krow {w v : World} {p g c : Nat} {l : List (Win AggV)} (h : Here w v p l [(some ⟨g, 0, none⟩, c, kn4)]) {j : Nat} {x : Win AggV} (hx : kn4[j]? = some x) : v.rangeAt g (j * 10) (outV x) := by
  obtain ⟨g', hg, hr, _⟩ := held_at (h.row List.mem_cons_self) hx
  cases hg; exact hr
theorem kr0 : kn4[0]? = some ⟨[97], 0, ⟨1, 2, 2, 2, 0, 1, 0, 0⟩⟩ := by decide +kernel
theorem kr1 : kn4[1]? = some ⟨[97], 10, ⟨1, 7, 7, 7, 0, 1, 0, 0⟩⟩ := by decide +kernel
theorem kr2 : kn4[2]? = some ⟨[98], 10, ⟨2, 6, 1, 5, 0, 2, 0, 0⟩⟩ := by decide +kernel
theorem kagg {w v : World} {p g c : Nat} {l : List (Win AggV)} (h : Here w v p l [(some ⟨g, 0, none⟩, c, kn4)]) : v.rangeAt g 2 [.int .i64 1, .int .i64 2, .int .i64 2, .int .i64 2, .int .i64 0, .int .i64 1, .int .i64 0, .int .i64 0] := fun j u hu => by
  have := krow h kr0 (2 + j) u (by rw [outV_eq, ← hu, Nat.add_comm 2 j]; rfl)
  rw [show 2 + j = 0 * 10 + (2 + j) by omega]; exact this
theorem kout {w v : World} {p g c : Nat} {l : List (Win AggV)} (h : Here w v p l [(some ⟨g, 0, none⟩, c, kn4)]) : v.rangeAt g 10 [.string ⟨#[97]⟩, .int .i64 10, .int .i64 1, .int .i64 7, .int .i64 7, .int .i64 7, .int .i64 0, .int .i64 1, .int .i64 0, .int .i64 0] := krow h kr1
end Go.Proofs.Ytoccgggiaalhdaa

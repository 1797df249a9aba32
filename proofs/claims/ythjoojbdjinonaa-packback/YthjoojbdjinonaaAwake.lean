/- What awake, num and begins of the statements answer. Condition: texts are no longer than a machine's. -/
import Derived.Test.YthjoojbdjinonaaInB
namespace Go.Proofs.Ythjoojbdjinonaa
open Pk Go.RowKit

/-- A new Out. -/
abbrev newOut : Obj := .cells #[.slice none 0 0] 24
theorem out_new (w : World) : OutAt (w.alloc newOut) w.heap.size none 0 [] :=
  ⟨by simp, by simp, World.ownsRow_nil _ _ _ _, fun _ h => by cases h⟩
theorem foot_none {p k : Nat} (h : foot p none k) : k = p := by
  rcases h with h | ⟨x, h, _⟩
  · exact h
  · cases h
theorem foot_ge {B p : Nat} {a : Option Addr} {w : World} {k : Nat} (hp : B ≤ p) (ha : ∀ x, a = some x → B ≤ x.block) (h : foot p a k) : B ≤ k ∨ w.heap.size ≤ k := by
  rcases h with rfl | ⟨x, rfl, rfl⟩
  · exact .inl hp
  · exact .inl (ha x rfl)

theorem nb300 : numBytes 300 = [172, 2] := by
  rw [numBytes, if_neg (by decide), numBytes, if_pos (by decide)]; rfl
theorem tb_ab : textBytes [97, 98] = [2, 97, 98] := by
  unfold textBytes
  rw [numBytes, if_pos (by decide)]; rfl

set_option maxRecDepth 100000 in
theorem awake_any (w : World) : Calls Try.prog 18 #[] w fun e w' => e = .returned (.bool true) ∧ Below w.heap.size w w' := by
  have O0 := hide (out_new w)
  have B0 := hide ((Below.refl w.heap.size w).alloc (Nat.le_refl _) newOut)
  go_enter Try.func18, Try.ntmps18
  go_wp2_with fail
  refine (num_any (unhide O0) 300 (by decide) (by decide)).mono ?_
  rintro e w1 ⟨rfl, a0, c0, o, f, m⟩
  have ha0 : ∀ y, a0 = some y → w.heap.size ≤ y.block := fun y hy => by
    rcases f y hy with h | h
    · cases h
    · simp at h; omega
  have B := hide ((unhide B0).trans (m.below (fun i h => by have := foot_none h; omega) (by simp)))
  have hl : [] ++ numBytes 300 = [172, 2] := by rw [nb300]; rfl
  rw [hl] at o
  have O := hide o
  clear o f m hl O0 B0
  go_wp2_with fail
  refine (text_any (unhide O) ⟨#[97, 98]⟩ (by decide +kernel)).mono ?_
  rintro e w2 ⟨rfl, a1, c1, o, f, m⟩
  have ha1 : ∀ y, a1 = some y → w.heap.size ≤ y.block := fun y hy => by
    rcases f y hy with h | h
    · exact ha0 y h
    · exact Nat.le_trans (unhide B).size h
  replace B := hide ((unhide B).trans (m.below (fun i h => (foot_ge (w := w1) (Nat.le_refl _) ha0 h).elim id (fun h => Nat.le_trans (unhide B).size h)) (unhide B).size))
  have hl : [172, 2] ++ textBytes (ByteArray.mk #[97, 98]).data.toList = [172, 2, 2, 97, 98] := by rw [show (ByteArray.mk #[97, 98]).data.toList = [97, 98] from rfl, tb_ab]; rfl
  rw [hl] at o
  clear O f m hl ha0
  have O := hide o
  clear o
  obtain ⟨X, hX⟩ : ∃ X, X = w2.heap.size := ⟨_, rfl⟩
  have hlt : ∀ k, foot w.heap.size a1 k → k < X := fun k hk => by rw [hX]; exact (unhide O).lt k hk
  have hwX : w.heap.size ≤ X := by rw [hX]; exact (unhide B).size
  have HX := hide hX
  clear hX
  go_wp2_with fail
  refine (string_any (unhide O)).mono ?_
  rintro e w3 ⟨rfl, rfl⟩
  go_wp2_with fail
  refine (of_any _ (by decide +kernel) _).mono ?_
  rintro e w4 ⟨rfl, i, m⟩
  have hXx : X ≤ w3.heap.size := by rw [unhide HX]; exact Nat.le_refl _
  have Ix := hide i
  clear i
  replace O := hide ((unhide O).keep m (fun _ h => h.elim))
  replace B := hide ((unhide B).trans (m.below (fun _ h => h.elim) (unhide B).size))
  clear m
  generalize w3.heap.size = xx at * 
  go_wp2_with fail
  refine (in_num (unhide Ix)).mono ?_
  rintro e w5 ⟨rfl, i, m⟩
  rw [show outNum ⟨#[172, 2, 2, 97, 98]⟩ 0 0 = (300, 2, 0) from by decide +kernel]
  replace Ix : Hid (InAt w5 xx ⟨#[172, 2, 2, 97, 98]⟩ 2 0) := hide i
  clear i
  replace O := hide ((unhide O).keep m (fun k hk hf => by have := hlt k hf; have hk' : k = xx := hk; omega))
  replace B := hide ((unhide B).trans (m.below (fun i h => by have h' : i = xx := h; omega) (unhide B).size))
  clear m
  go_wp2_with fail
  refine (in_text (unhide Ix) 9 (by decide)).mono ?_
  rintro e w6 ⟨rfl, i, m⟩
  rw [show outText 9 ⟨#[172, 2, 2, 97, 98]⟩ 2 0 = ([97, 98], 3, 0) from by decide +kernel]
  replace Ix : Hid (InAt w6 xx ⟨#[172, 2, 2, 97, 98]⟩ 5 0) := hide i
  clear i
  replace O := hide ((unhide O).keep m (fun k hk hf => by have := hlt k hf; have hk' : k = xx := hk; omega))
  replace B := hide ((unhide B).trans (m.below (fun i h => by have h' : i = xx := h; omega) (unhide B).size))
  clear m
  go_wp2_with fail
  refine (string_any (unhide O)).mono ?_
  rintro e w7 ⟨rfl, rfl⟩
  go_wp2_with fail
  refine (end_any (unhide Ix)).mono ?_
  rintro e w8 ⟨rfl, m⟩
  rw [show endOf ⟨#[172, 2, 2, 97, 98]⟩ 5 0 = 0 from by decide +kernel]
  replace Ix := hide ((unhide Ix).keep m id)
  replace O := hide ((unhide O).keep m (fun _ h => h.elim))
  replace B := hide ((unhide B).trans (m.below (fun _ h => h.elim) (unhide B).size))
  clear m
  go_wp2_with fail
  go_ret
  exact ⟨rfl, unhide B⟩

end Go.Proofs.Ythjoojbdjinonaa

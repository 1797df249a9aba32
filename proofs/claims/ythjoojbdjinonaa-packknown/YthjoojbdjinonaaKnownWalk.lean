/- What PackKnown does: it answers true, and of what was there nothing has turned. No conditions. -/
import Derived.Test.YthjoojbdjinonaaAwake
namespace Go.Proofs.Ythjoojbdjinonaa
open Pk Go.RowKit

set_option maxRecDepth 100000 in
set_option maxHeartbeats 2000000 in
theorem known_any (w : World) : Calls Try.prog 3 #[] w fun e w' => e = .returned (.bool true) ∧ Below w.heap.size w w' := by
  have O0 := hide (out_new w)
  have B0 := hide ((Below.refl w.heap.size w).alloc (Nat.le_refl _) newOut)
  go_enter Try.func3, Try.ntmps3
  go_wp2_with fail
  refine (num_any (unhide O0) 0 (by decide) (by decide)).mono ?_
  rintro e w1 ⟨rfl, a0, c0, o, f, m⟩
  have ha0 : ∀ y, a0 = some y → w.heap.size ≤ y.block := fun y hy => by
    rcases f y hy with h | h
    · cases h
    · simp at h; omega
  have B := hide ((unhide B0).trans (m.below (fun i h => by have := foot_none h; omega) (by simp)))
  have hl : [] ++ numBytes 0 = [0] := by rw [numBytes, if_pos (by decide)]; rfl
  rw [hl] at o
  have O := hide o
  clear o f m hl O0 B0
  go_wp2_with fail
  refine (int_any (unhide O) (-1) (by decide) (by decide)).mono ?_
  rintro e w2 ⟨rfl, a1, c1, o, f, m⟩
  have ha1 : ∀ y, a1 = some y → w.heap.size ≤ y.block := fun y hy => by
    rcases f y hy with h | h
    · exact ha0 y h
    · exact Nat.le_trans (unhide B).size h
  replace B := hide ((unhide B).trans (m.below (fun i h => (foot_ge (w := w1) (Nat.le_refl _) ha0 h).elim id (fun h => Nat.le_trans (unhide B).size h)) (unhide B).size))
  have hl : [0] ++ numBytes (zig (-1)) = [0, 1] := by rw [show zig (-1) = 1 from rfl, numBytes, if_pos (by decide)]; rfl
  rw [hl] at o
  clear O f m hl ha0
  have O := hide o
  clear o
  go_wp2_with fail
  refine (int_any (unhide O) 64 (by decide) (by decide)).mono ?_
  rintro e w3 ⟨rfl, a2, c2, o, f, m⟩
  have ha2 : ∀ y, a2 = some y → w.heap.size ≤ y.block := fun y hy => by
    rcases f y hy with h | h
    · exact ha1 y h
    · exact Nat.le_trans (unhide B).size h
  replace B := hide ((unhide B).trans (m.below (fun i h => (foot_ge (w := w2) (Nat.le_refl _) ha1 h).elim id (fun h => Nat.le_trans (unhide B).size h)) (unhide B).size))
  have hl : [0, 1] ++ numBytes (zig 64) = [0, 1, 128, 1] := by rw [show zig 64 = 128 from rfl, numBytes, if_neg (by decide), numBytes, if_pos (by decide)]; rfl
  rw [hl] at o
  clear O f m hl ha1
  have O := hide o
  clear o
  obtain ⟨X, hX⟩ : ∃ X, X = w3.heap.size := ⟨_, rfl⟩
  have hlt : ∀ k, foot w.heap.size a2 k → k < X := fun k hk => by rw [hX]; exact (unhide O).lt k hk
  have hwX : w.heap.size ≤ X := by rw [hX]; exact (unhide B).size
  have HX := hide hX
  clear hX
  go_wp2_with fail
  refine (of_any _ (by decide +kernel) _).mono ?_
  rintro e w4 ⟨rfl, i, m⟩
  have hXa : X ≤ w3.heap.size := by rw [unhide HX]; exact Nat.le_refl _
  have Ia := hide i
  clear i
  replace O := hide ((unhide O).keep m (fun _ h => h.elim))
  replace B := hide ((unhide B).trans (m.below (fun _ h => h.elim) (unhide B).size))
  clear m
  generalize w3.heap.size = xa at * 
  go_wp2_with fail
  refine (of_any _ (by decide +kernel) _).mono ?_
  rintro e w5 ⟨rfl, i, m⟩
  have lab := (unhide Ia).lt
  have hXb : X ≤ w4.heap.size := by omega
  have Ib := hide i
  clear i
  replace Ia := hide ((unhide Ia).keep m id)
  replace O := hide ((unhide O).keep m (fun _ h => h.elim))
  replace B := hide ((unhide B).trans (m.below (fun _ h => h.elim) (unhide B).size))
  clear m
  generalize w4.heap.size = xb at *
  go_wp2_with fail
  refine (in_num (unhide Ia)).mono ?_
  rintro e w6 ⟨rfl, i, m⟩
  rw [show (((outNum ⟨#[128]⟩ 0 0).1 : Nat) : Int) = 0 from by decide +kernel]
  replace Ia : Hid (InAt w6 xa ⟨#[128]⟩ 0 7) := hide i
  clear i
  replace Ib := hide ((unhide Ib).keep m (show ¬ (xb = xa) by omega))
  replace O := hide ((unhide O).keep m (fun k hk hf => by have := hlt k hf; have hk' : k = xa := hk; omega))
  replace B := hide ((unhide B).trans (m.below (fun i h => by have h' : i = xa := h; omega) (unhide B).size))
  clear m
  go_wp2_with fail
  refine (in_num (unhide Ib)).mono ?_
  rintro e w7 ⟨rfl, i, m⟩
  rw [show (((outNum ⟨#[128, 0]⟩ 0 0).1 : Nat) : Int) = 0 from by decide +kernel]
  replace Ib : Hid (InAt w7 xb ⟨#[128, 0]⟩ 0 8) := hide i
  clear i
  replace Ia := hide ((unhide Ia).keep m (show ¬ (xa = xb) by omega))
  replace O := hide ((unhide O).keep m (fun k hk hf => by have := hlt k hf; have hk' : k = xb := hk; omega))
  replace B := hide ((unhide B).trans (m.below (fun i h => by have h' : i = xb := h; omega) (unhide B).size))
  clear m
  go_wp2_with fail
  refine (fault_any (unhide Ia)).mono ?_
  rintro e w8 ⟨rfl, m⟩
  rw [show (((if (7 : Nat) = 0 then 0 else 0 : Nat)) : Int) = 0 from rfl]
  replace Ia := hide ((unhide Ia).keep m id)
  replace Ib := hide ((unhide Ib).keep m id)
  replace O := hide ((unhide O).keep m (fun _ h => h.elim))
  replace B := hide ((unhide B).trans (m.below (fun _ h => h.elim) (unhide B).size))
  clear m
  go_wp2_with fail
  refine (fault_any (unhide Ib)).mono ?_
  rintro e w9 ⟨rfl, m⟩
  rw [show (((if (8 : Nat) = 0 then 0 else 0 : Nat)) : Int) = 0 from rfl]
  replace Ia := hide ((unhide Ia).keep m id)
  replace Ib := hide ((unhide Ib).keep m id)
  replace O := hide ((unhide O).keep m (fun _ h => h.elim))
  replace B := hide ((unhide B).trans (m.below (fun _ h => h.elim) (unhide B).size))
  clear m
  go_wp2_with fail
  refine (of_any _ (by decide +kernel) _).mono ?_
  rintro e w10 ⟨rfl, i, m⟩
  have lac := (unhide Ia).lt
  have lbc := (unhide Ib).lt
  have hXc : X ≤ w9.heap.size := by omega
  have Ic := hide i
  clear i
  replace Ia := hide ((unhide Ia).keep m id)
  replace Ib := hide ((unhide Ib).keep m id)
  replace O := hide ((unhide O).keep m (fun _ h => h.elim))
  replace B := hide ((unhide B).trans (m.below (fun _ h => h.elim) (unhide B).size))
  clear m
  generalize w9.heap.size = xc at *
  go_wp2_with fail
  refine (in_most (unhide Ic) 5 (by decide)).mono ?_
  rintro e w11 ⟨rfl, i, m⟩
  rw [show (((outMost 5 ⟨#[5, 3, 97]⟩ 0 0).1 : Nat) : Int) = 5 from by decide +kernel]
  replace Ic : Hid (InAt w11 xc ⟨#[5, 3, 97]⟩ 1 0) := hide i
  clear i
  replace Ia := hide ((unhide Ia).keep m (show ¬ (xa = xc) by omega))
  replace Ib := hide ((unhide Ib).keep m (show ¬ (xb = xc) by omega))
  replace O := hide ((unhide O).keep m (fun k hk hf => by have := hlt k hf; have hk' : k = xc := hk; omega))
  replace B := hide ((unhide B).trans (m.below (fun i h => by have h' : i = xc := h; omega) (unhide B).size))
  clear m
  go_wp2_with fail
  refine (in_text (unhide Ic) 9 (by decide)).mono ?_
  rintro e w12 ⟨rfl, i, m⟩
  rw [show (outText 9 ⟨#[5, 3, 97]⟩ 1 0).1 = [] from by decide +kernel]
  replace Ic : Hid (InAt w12 xc ⟨#[5, 3, 97]⟩ 1 7) := hide i
  clear i
  replace Ia := hide ((unhide Ia).keep m (show ¬ (xa = xc) by omega))
  replace Ib := hide ((unhide Ib).keep m (show ¬ (xb = xc) by omega))
  replace O := hide ((unhide O).keep m (fun k hk hf => by have := hlt k hf; have hk' : k = xc := hk; omega))
  replace B := hide ((unhide B).trans (m.below (fun i h => by have h' : i = xc := h; omega) (unhide B).size))
  clear m
  go_wp2_with fail
  refine (in_byte (unhide Ic)).mono ?_
  rintro e w13 ⟨rfl, i, m⟩
  rw [show (((outByte ⟨#[5, 3, 97]⟩ 1 7).1.toNat : Nat) : Int) = 0 from by decide +kernel]
  replace Ic : Hid (InAt w13 xc ⟨#[5, 3, 97]⟩ 1 7) := hide i
  clear i
  replace Ia := hide ((unhide Ia).keep m (show ¬ (xa = xc) by omega))
  replace Ib := hide ((unhide Ib).keep m (show ¬ (xb = xc) by omega))
  replace O := hide ((unhide O).keep m (fun k hk hf => by have := hlt k hf; have hk' : k = xc := hk; omega))
  replace B := hide ((unhide B).trans (m.below (fun i h => by have h' : i = xc := h; omega) (unhide B).size))
  clear m
  go_wp2_with fail
  refine (fault_any (unhide Ic)).mono ?_
  rintro e w14 ⟨rfl, m⟩
  rw [show (((if (7 : Nat) = 0 then 0 else 1 : Nat)) : Int) = 1 from rfl]
  replace Ia := hide ((unhide Ia).keep m id)
  replace Ib := hide ((unhide Ib).keep m id)
  replace Ic := hide ((unhide Ic).keep m id)
  replace O := hide ((unhide O).keep m (fun _ h => h.elim))
  replace B := hide ((unhide B).trans (m.below (fun _ h => h.elim) (unhide B).size))
  clear m
  go_wp2_with fail
  refine (of_any _ (by decide +kernel) _).mono ?_
  rintro e w15 ⟨rfl, i, m⟩
  have lad := (unhide Ia).lt
  have lbd := (unhide Ib).lt
  have lcd := (unhide Ic).lt
  have hXd : X ≤ w14.heap.size := by omega
  have Id := hide i
  clear i
  replace Ia := hide ((unhide Ia).keep m id)
  replace Ib := hide ((unhide Ib).keep m id)
  replace Ic := hide ((unhide Ic).keep m id)
  replace O := hide ((unhide O).keep m (fun _ h => h.elim))
  replace B := hide ((unhide B).trans (m.below (fun _ h => h.elim) (unhide B).size))
  clear m
  generalize w14.heap.size = xd at *
  go_wp2_with fail
  refine (in_most (unhide Id) 4 (by decide)).mono ?_
  rintro e w16 ⟨rfl, i, m⟩
  rw [show (((outMost 4 ⟨#[5]⟩ 0 0).1 : Nat) : Int) = 0 from by decide +kernel]
  replace Id : Hid (InAt w16 xd ⟨#[5]⟩ 0 8) := hide i
  clear i
  replace Ia := hide ((unhide Ia).keep m (show ¬ (xa = xd) by omega))
  replace Ib := hide ((unhide Ib).keep m (show ¬ (xb = xd) by omega))
  replace Ic := hide ((unhide Ic).keep m (show ¬ (xc = xd) by omega))
  replace O := hide ((unhide O).keep m (fun k hk hf => by have := hlt k hf; have hk' : k = xd := hk; omega))
  replace B := hide ((unhide B).trans (m.below (fun i h => by have h' : i = xd := h; omega) (unhide B).size))
  clear m
  go_wp2_with fail
  refine (fault_any (unhide Id)).mono ?_
  rintro e w17 ⟨rfl, m⟩
  rw [show (((if (8 : Nat) = 0 then 0 else 0 : Nat)) : Int) = 0 from rfl]
  replace Ia := hide ((unhide Ia).keep m id)
  replace Ib := hide ((unhide Ib).keep m id)
  replace Ic := hide ((unhide Ic).keep m id)
  replace Id := hide ((unhide Id).keep m id)
  replace O := hide ((unhide O).keep m (fun _ h => h.elim))
  replace B := hide ((unhide B).trans (m.below (fun _ h => h.elim) (unhide B).size))
  clear m
  go_wp2_with fail
  refine (of_any _ (by decide +kernel) _).mono ?_
  rintro e w18 ⟨rfl, i, m⟩
  have laz := (unhide Ia).lt
  have lbz := (unhide Ib).lt
  have lcz := (unhide Ic).lt
  have ldz := (unhide Id).lt
  have hXz : X ≤ w17.heap.size := by omega
  have Iz := hide i
  clear i
  replace Ia := hide ((unhide Ia).keep m id)
  replace Ib := hide ((unhide Ib).keep m id)
  replace Ic := hide ((unhide Ic).keep m id)
  replace Id := hide ((unhide Id).keep m id)
  replace O := hide ((unhide O).keep m (fun _ h => h.elim))
  replace B := hide ((unhide B).trans (m.below (fun _ h => h.elim) (unhide B).size))
  clear m
  generalize w17.heap.size = xz at *
  go_wp2_with fail
  refine (in_byte (unhide Iz)).mono ?_
  rintro e w19 ⟨rfl, i, m⟩
  rw [show (((outByte ⟨#[1, 2]⟩ 0 0).1.toNat : Nat) : Int) = 1 from by decide +kernel]
  replace Iz : Hid (InAt w19 xz ⟨#[1, 2]⟩ 1 0) := hide i
  clear i
  replace Ia := hide ((unhide Ia).keep m (show ¬ (xa = xz) by omega))
  replace Ib := hide ((unhide Ib).keep m (show ¬ (xb = xz) by omega))
  replace Ic := hide ((unhide Ic).keep m (show ¬ (xc = xz) by omega))
  replace Id := hide ((unhide Id).keep m (show ¬ (xd = xz) by omega))
  replace O := hide ((unhide O).keep m (fun k hk hf => by have := hlt k hf; have hk' : k = xz := hk; omega))
  replace B := hide ((unhide B).trans (m.below (fun i h => by have h' : i = xz := h; omega) (unhide B).size))
  clear m
  go_wp2_with fail
  refine (string_any (unhide O)).mono ?_
  rintro e w20 ⟨rfl, rfl⟩
  go_wp2_with fail
  refine (left_any (unhide Ic)).mono ?_
  rintro e w21 ⟨rfl, m⟩
  rw [show (((ByteArray.mk #[5, 3, 97]).size - 1 : Nat) : Int) = 2 from by decide +kernel]
  replace Ia := hide ((unhide Ia).keep m id)
  replace Ib := hide ((unhide Ib).keep m id)
  replace Ic := hide ((unhide Ic).keep m id)
  replace Id := hide ((unhide Id).keep m id)
  replace Iz := hide ((unhide Iz).keep m id)
  replace O := hide ((unhide O).keep m (fun _ h => h.elim))
  replace B := hide ((unhide B).trans (m.below (fun _ h => h.elim) (unhide B).size))
  clear m
  go_wp2_with fail
  refine (fault_nil _).mono ?_
  rintro e w22 ⟨rfl, rfl⟩
  go_wp2_with fail
  refine (awake_any _).mono ?_
  rintro e w23 ⟨rfl, m0⟩
  have m := Moved.of_below (F := fun _ => False) m0
  clear m0
  replace Ia := hide ((unhide Ia).keep m id)
  replace Ib := hide ((unhide Ib).keep m id)
  replace Ic := hide ((unhide Ic).keep m id)
  replace Id := hide ((unhide Id).keep m id)
  replace Iz := hide ((unhide Iz).keep m id)
  replace O := hide ((unhide O).keep m (fun _ h => h.elim))
  replace B := hide ((unhide B).trans (m.below (fun _ h => h.elim) (unhide B).size))
  clear m
  go_wp2_with fail
  refine (end_any (unhide Iz)).mono ?_
  rintro e w24 ⟨rfl, m⟩
  rw [show endOf ⟨#[1, 2]⟩ 1 0 = 8 from by decide +kernel]
  replace Ia := hide ((unhide Ia).keep m id)
  replace Ib := hide ((unhide Ib).keep m id)
  replace Ic := hide ((unhide Ic).keep m id)
  replace Id := hide ((unhide Id).keep m id)
  replace Iz := hide ((unhide Iz).keep m id)
  replace O := hide ((unhide O).keep m (fun _ h => h.elim))
  replace B := hide ((unhide B).trans (m.below (fun _ h => h.elim) (unhide B).size))
  clear m
  go_wp2_with fail
  refine (num_nil_in _).mono ?_
  rintro e w25 ⟨rfl, m⟩
  replace Ia := hide ((unhide Ia).keep m id)
  replace Ib := hide ((unhide Ib).keep m id)
  replace Ic := hide ((unhide Ic).keep m id)
  replace Id := hide ((unhide Id).keep m id)
  replace Iz := hide ((unhide Iz).keep m id)
  replace O := hide ((unhide O).keep m (fun _ h => h.elim))
  replace B := hide ((unhide B).trans (m.below (fun _ h => h.elim) (unhide B).size))
  clear m
  go_wp2_with fail
  refine (int_nil_in _).mono ?_
  rintro e w26 ⟨rfl, m⟩
  replace Ia := hide ((unhide Ia).keep m id)
  replace Ib := hide ((unhide Ib).keep m id)
  replace Ic := hide ((unhide Ic).keep m id)
  replace Id := hide ((unhide Id).keep m id)
  replace Iz := hide ((unhide Iz).keep m id)
  replace O := hide ((unhide O).keep m (fun _ h => h.elim))
  replace B := hide ((unhide B).trans (m.below (fun _ h => h.elim) (unhide B).size))
  clear m
  go_wp2_with fail
  refine (text_nil_in _ _).mono ?_
  rintro e w27 ⟨rfl, m⟩
  replace Ia := hide ((unhide Ia).keep m id)
  replace Ib := hide ((unhide Ib).keep m id)
  replace Ic := hide ((unhide Ic).keep m id)
  replace Id := hide ((unhide Id).keep m id)
  replace Iz := hide ((unhide Iz).keep m id)
  replace O := hide ((unhide O).keep m (fun _ h => h.elim))
  replace B := hide ((unhide B).trans (m.below (fun _ h => h.elim) (unhide B).size))
  clear m
  go_wp2_with fail
  refine (byte_nil_in _).mono ?_
  rintro e w28 ⟨rfl, m⟩
  replace Ia := hide ((unhide Ia).keep m id)
  replace Ib := hide ((unhide Ib).keep m id)
  replace Ic := hide ((unhide Ic).keep m id)
  replace Id := hide ((unhide Id).keep m id)
  replace Iz := hide ((unhide Iz).keep m id)
  replace O := hide ((unhide O).keep m (fun _ h => h.elim))
  replace B := hide ((unhide B).trans (m.below (fun _ h => h.elim) (unhide B).size))
  clear m
  go_wp2_with fail
  refine (most_nil_in _ _).mono ?_
  rintro e w29 ⟨rfl, m⟩
  replace Ia := hide ((unhide Ia).keep m id)
  replace Ib := hide ((unhide Ib).keep m id)
  replace Ic := hide ((unhide Ic).keep m id)
  replace Id := hide ((unhide Id).keep m id)
  replace Iz := hide ((unhide Iz).keep m id)
  replace O := hide ((unhide O).keep m (fun _ h => h.elim))
  replace B := hide ((unhide B).trans (m.below (fun _ h => h.elim) (unhide B).size))
  clear m
  go_wp2_with fail
  refine (left_nil _).mono ?_
  rintro e w30 ⟨rfl, rfl⟩
  go_wp2_with fail
  refine (end_nil _).mono ?_
  rintro e w31 ⟨rfl, rfl⟩
  go_wp2_with fail
  go_ret
  exact ⟨rfl, unhide B⟩
end Go.Proofs.Ythjoojbdjinonaa

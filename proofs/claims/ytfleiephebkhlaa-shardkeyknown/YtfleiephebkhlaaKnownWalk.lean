/- What ShardkeyKnown does: it answers true, and nothing that was there has turned. No conditions. -/
import Derived.Test.YtfleiephebkhlaaLaws
import Derived.WalkSmall
namespace Go.Proofs.Ytfleiephebkhlaa
open Go.RowKit

/-- Which shards of n the first b bytes have, as keys. -/
def seenTo (n b j : Nat) : Bool := (List.range b).any fun c => ofKey [UInt8.ofNat c] (n : Int) == (j : Int)
theorem seenTo_succ (n b j : Nat) : seenTo n (b + 1) j = (seenTo n b j || ofKey [UInt8.ofNat b] (n : Int) == (j : Int)) := by
  simp [seenTo, List.range_succ]
theorem beq_cast (k j : Nat) : ((k : Int) == (j : Int)) = (k == j) := by rw [Bool.eq_iff_iff]; simp only [beq_iff_eq]; omega
theorem seen_fin : ∀ n : Fin 9, ∀ j : Fin 8, j.val < n.val → seenTo n.val 256 j.val = true := by decide +kernel
theorem seen_all (n j : Nat) (hn : n ≤ 8) (hj : j < n) : seenTo n 256 j = true := seen_fin ⟨n, by omega⟩ ⟨j, by omega⟩ hj

/-- Block B: eight flags. -/
def Flags (w : World) (B : Nat) (g : Nat → Bool) : Prop :=
  B < w.heap.size ∧ (∀ j, j < 8 → w.cell? ⟨B, j, none⟩ = some (.bool (g j))) ∧ ∀ j, j < 8 → w.frozen? ⟨B, j, none⟩ = false
theorem Flags.set {w : World} {B : Nat} {g g' : Nat → Bool} (h : Flags w B g) (i : Nat) (hi : i < 8) (hg : ∀ j, g' j = (g j || i == j)) : Flags (w.setCell ⟨B, i, none⟩ (.bool true)) B g' := by
  refine ⟨by rw [World.size_setCell]; exact h.1, fun j hj => ?_, fun j hj => ?_⟩
  · by_cases e : i = j
    · subst e
      rw [World.cell?_setCell_same (h := h.2.1 i hi), hg]; simp
    · rw [World.cell?_setCell_other (h := fun he => e (congrArg Addr.off he)), h.2.1 j hj, hg]; simp [e]
  · rw [World.frozen?_setCell]; exact h.2.2 j hj
theorem Flags.below {w w' : World} {B D : Nat} {g : Nat → Bool} (h : Flags w B g) (hb : Below D w w') (hB : B < D) : Flags w' B g :=
  ⟨Nat.lt_of_lt_of_le h.1 hb.size, fun j hj => by rw [hb.cell (p := ⟨B, j, none⟩) hB]; exact h.2.1 j hj, fun j hj => by rw [hb.frozen (p := ⟨B, j, none⟩) hB]; exact h.2.2 j hj⟩
theorem Flags.alloc {w : World} {B : Nat} {g : Nat → Bool} (h : Flags w B g) (o : Obj) : Flags (w.alloc o) B g := h.below ((Below.refl _ _).alloc (Nat.le_refl _) o) h.1
theorem flags_new (w : World) (n : Nat) : Flags (w.alloc (.cells #[.bool false, .bool false, .bool false, .bool false, .bool false, .bool false, .bool false, .bool false] 22)) w.heap.size (seenTo n 0) := by
  refine ⟨by simp, fun j hj => ?_, fun j hj => World.frozen?_alloc_new w _ 22 j⟩
  rw [World.cell?_alloc_new]
  have : j = 0 ∨ j = 1 ∨ j = 2 ∨ j = 3 ∨ j = 4 ∨ j = 5 ∨ j = 6 ∨ j = 7 := by omega
  rcases this with rfl | rfl | rfl | rfl | rfl | rfl | rfl | rfl <;> rfl

theorem of_byte (b n : Nat) (w : World) (hn : n ≤ 8) :
    Calls Try.prog 8 #[.string (strOfNums [(b : Int)]), .int .i64 (n : Int)] w fun e w' => e = .returned (.int .i64 (ofKey [UInt8.ofNat b] (n : Int))) ∧ w' = w := by
  refine (of_any _ _ _ (by rw [size1]; decide) (by omega)).mono ?_
  rintro e w' ⟨rfl, rfl⟩
  rw [strOfNums_data]
  exact ⟨rfl, rfl⟩

set_option maxHeartbeats 1000000 in
set_option maxRecDepth 10000 in
theorem known_any (w : World) :
    Calls Try.prog 3 #[] w fun e w' => e = .returned (.bool true) ∧ Below w.heap.size w w' := by
  have hcv := conv1
  go_enter Try.func3, Try.ntmps3
  go_wp2_with fail
  go_loopw [1] (fun nv wr => ∃ n : Nat, 1 ≤ n ∧ n ≤ 9 ∧ nv = .int .i64 n ∧ Below w.heap.size w wr) (fun nv _ => 9 - (intOf nv).toNat)
  case atStart => exact ⟨1, by omega, by omega, rfl, Below.refl _ _⟩
  case round =>
    obtain ⟨n, hn1, hn9, rfl, hB⟩ := hrel
    have HB := hide hB
    clear hB
    by_cases hlt : n ≤ 8
    · have dn : decide ((n : Int) ≤ 8) = true := decide_eq_true (by omega)
      go_wp2_with fail
      generalize hw1 : wr.alloc _ = w1
      have F0 : Hid (Flags w1 wr.heap.size (seenTo n 0)) := hide (by rw [← hw1]; exact flags_new wr n)
      have B0 : Hid (Below w.heap.size w w1) := hide (by rw [← hw1]; exact (unhide HB).alloc (unhide HB).size _)
      have hA : Hid (w.heap.size ≤ wr.heap.size) := hide (unhide HB).size
      clear hw1 HB
      generalize wr.heap.size = A at *
      go_loopw [3] (fun bv wq => ∃ b : Nat, b ≤ 256 ∧ bv = .int .i64 b ∧ Below w.heap.size w wq ∧ Flags wq A (seenTo n b)) (fun bv _ => 256 - (intOf bv).toNat)
      case atStart => exact ⟨0, by omega, rfl, unhide B0, unhide F0⟩
      case round =>
        obtain ⟨b, hb, rfl, hB, hF⟩ := hrel
        have HB := hide hB
        have HF := hide hF
        clear hB hF
        by_cases hlt2 : b < 256
        · have db : decide ((b : Int) < 256) = true := decide_eq_true (by omega)
          have hbb : (b : Int) % 256 = b := by omega
          have hlo := ofKey_lo [UInt8.ofNat b] (n : Int)
          have hhi := ofKey_hi [UInt8.ofNat b] (n : Int) (by omega)
          obtain ⟨k, hk⟩ : ∃ k : Nat, ofKey [UInt8.ofNat b] (n : Int) = (k : Int) := ⟨(ofKey [UInt8.ofNat b] (n : Int)).toNat, by omega⟩
          rw [hk] at hlo hhi
          have Hk := hide hk
          clear hk
          go_wp2_with fail
          refine (of_byte b n _ hlt).mono ?_
          rintro e w2 ⟨rfl, hw2⟩
          have F2 : Hid (Flags w2 A (seenTo n b)) := hide (by rw [hw2]; exact (unhide HF).alloc _)
          have B2 : Hid (Below w.heap.size w w2) := hide (by rw [hw2]; exact (unhide HB).alloc (unhide HB).size _)
          clear hw2 HF HB
          rw [unhide Hk]
          have c2 := (unhide F2).2.1 k (by omega)
          have f2 := (unhide F2).2.2 k (by omega)
          generalize hv : seenTo n b k = v at c2
          clear hv
          have dk : decide ((k : Int) < 0) = false := by simp
          have dk2 : decide ((n : Int) ≤ (k : Int)) = false := by simp; omega
          go_wp2_with fail
          go_roundw
          case rel =>
            refine ⟨b + 1, by omega, by go_num, (unhide B2).setCell (unhide hA) _, ?_⟩
            refine (unhide F2).set k (by omega) fun j => ?_
            rw [seenTo_succ, unhide Hk]
            rw [beq_cast]
          case measure => simp [intOf]; omega
        · have hb2 : b = 256 := by omega
          subst hb2
          go_wp2_with fail
          go_loopw [5] (fun kv wq => ∃ k : Nat, k ≤ n ∧ kv = .int .i64 k ∧ Below w.heap.size w wq ∧ Flags wq A (seenTo n 256)) (fun kv _ => n - (intOf kv).toNat)
          case atStart => exact ⟨0, by omega, rfl, unhide HB, unhide HF⟩
          case round =>
            obtain ⟨k, hk, rfl, hB, hF⟩ := hrel
            have HB := hide hB
            have HF := hide hF
            clear hB hF
            by_cases hlt3 : k < n
            · have c2 := (unhide HF).2.1 k (by omega)
              rw [seen_all n k hlt hlt3] at c2
              go_wp2_with fail
              go_roundw
              case rel => exact ⟨k + 1, by omega, by go_num, unhide HB, unhide HF⟩
              case measure => simp [intOf]; omega
            · go_wp2_with fail
              go_roundw
              case rel => exact ⟨n + 1, by omega, by omega, by go_num, unhide HB⟩
              case measure => simp [intOf]; omega
    · go_wp2_with fail
      refine (awake_any _).mono ?_
      rintro e w' ⟨rfl, rfl⟩
      go_wp2_with fail
      refine (print_any _ _ (by decide +kernel)).mono ?_
      rintro e w' ⟨rfl, rfl⟩
      rw [show (((fnv (ByteArray.mk #[]).data.toList).toNat : Nat) : Int) = 14695981039346656037 from ex0]
      go_wp2_with fail
      refine (of_any _ _ _ (by decide +kernel) (by decide)).mono ?_
      rintro e w' ⟨rfl, rfl⟩
      rw [show ofKey (ByteArray.mk #[97]).data.toList 1 = 0 by decide +kernel]
      go_wp2_with fail
      refine (of_any _ _ _ (by decide +kernel) (by decide)).mono ?_
      rintro e w' ⟨rfl, rfl⟩
      rw [show ofKey (ByteArray.mk #[97]).data.toList 0 = 0 by decide +kernel]
      go_wp2_with fail
      refine (of_any _ _ _ (by decide +kernel) (by decide)).mono ?_
      rintro e w' ⟨rfl, rfl⟩
      rw [show ofKey (ByteArray.mk #[97]).data.toList (-3) = 0 by decide +kernel]
      go_wp2_with fail
      go_ret
      exact ⟨rfl, unhide HB⟩
end Go.Proofs.Ytfleiephebkhlaa

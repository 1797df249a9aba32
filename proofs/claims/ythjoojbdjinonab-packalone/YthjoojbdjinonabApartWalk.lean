/- What num and begins of the statements answer, and what PackApart does, for any numbers and texts: it answers true, and of what was there nothing has turned. No conditions. -/
import Derived.Test.YthjoojbdjinonabAwake
namespace Go.Proofs.Ythjoojbdjinonab
open Pk Go.RowKit

/-- Is a text the beginning of another one? -/
def pre (a b : List UInt8) : Bool := a.isPrefixOf b
theorem pre_iff (a b : List UInt8) : pre a b = true ↔ ∃ t, b = a ++ t := by
  unfold pre
  rw [List.isPrefixOf_iff_prefix]
  exact ⟨fun ⟨t, h⟩ => ⟨t, h.symm⟩, fun ⟨t, h⟩ => ⟨t, h.symm⟩⟩
theorem begins_any (a b : ByteArray) (_ha : a.size ≤ maxLen) (_hb : b.size ≤ maxLen) (w : World) : Calls Try.prog 8 #[.string a, .string b] w fun e w' => e = .returned (.bool (pre a.data.toList b.data.toList)) ∧ w' = w := by
  unfold maxLen at _ha _hb
  by_cases h : a.size ≤ b.size
  · have d1 : decide ((a.size : Int) ≤ (b.size : Int)) = true := decide_eq_true (by omega)
    have hi : (a.size : Int) ≤ (b.size : Int) := by omega
    have heq : ((b.extract 0 a.size).toList == a.toList) = pre a.data.toList b.data.toList := by
      rw [ByteArray.toList_eq, ByteArray.toList_eq, ByteArray.data_extract, Array.toList_extract, List.extract_eq_take_drop, Bool.eq_iff_iff, pre_iff]
      simp only [List.drop_zero, Nat.sub_zero, beq_iff_eq]
      constructor
      · intro e
        exact ⟨b.data.toList.drop a.size, by rw [← e, List.take_append_drop]⟩
      · rintro ⟨t, e⟩
        rw [e, List.take_append_of_le_length (by simp), List.take_of_length_le (by simp)]
    generalize pre a.data.toList b.data.toList = r at *
    go_enter Try.func8, Try.ntmps8
    go_wp2_with fail
    go_ret
    exact ⟨rfl, rfl⟩
  · have d1 : decide ((a.size : Int) ≤ (b.size : Int)) = false := decide_eq_false (by omega)
    have hp : pre a.data.toList b.data.toList = false := by
      rw [Bool.eq_false_iff]
      intro hp
      obtain ⟨t, e⟩ := (pre_iff _ _).1 hp
      have := congrArg List.length e
      simp at this
      omega
    rw [hp]
    go_enter Try.func8, Try.ntmps8
    go_wp2_with fail
    go_ret
    exact ⟨rfl, rfl⟩

theorem pre_num (a b : Nat) (ha : a < 2 ^ 64) (hb : b < 2 ^ 64) : pre (numBytes a) (numBytes b) = ((a : Int) == (b : Int)) := by
  rw [Bool.eq_iff_iff, pre_iff]
  simp only [beq_iff_eq]
  constructor
  · rintro ⟨t, e⟩
    have := num_prefix hb ha (t := []) (u := t) (by rw [List.append_nil]; exact e)
    omega
  · intro e
    have : a = b := by omega
    subst this
    exact ⟨[], by simp⟩
theorem pre_zig (i k : Int) (hi : -9223372036854775808 ≤ i ∧ i ≤ 9223372036854775807) (hk : -9223372036854775808 ≤ k ∧ k ≤ 9223372036854775807) : pre (numBytes (zig i)) (numBytes (zig k)) = (i == k) := by
  rw [pre_num _ _ (zig_lt i hi) (zig_lt k hk), Bool.eq_iff_iff]
  simp only [beq_iff_eq]
  constructor
  · intro e; exact zig_inj (by omega)
  · rintro rfl; rfl
theorem pre_text (s t : ByteArray) (hs : s.size ≤ 60000) (ht : t.size ≤ 60000) : pre (textBytes s.data.toList) (textBytes t.data.toList) = (s.toList == t.toList) := by
  rw [Bool.eq_iff_iff, pre_iff, ByteArray.toList_eq, ByteArray.toList_eq]
  simp only [beq_iff_eq]
  have e1 : s.data.toList.length = s.size := by simp
  have e2 : t.data.toList.length = t.size := by simp
  constructor
  · rintro ⟨u, e⟩
    unfold textBytes at e
    rw [List.append_assoc] at e
    obtain ⟨h1, h2⟩ := num_prefix (by omega) (by omega) e
    exact (List.append_inj (by rw [List.append_nil]; exact h2.symm : s.data.toList ++ u = t.data.toList ++ []) h1.symm).1
  · intro e
    exact ⟨[], by rw [e, List.append_nil]⟩

theorem out_size (l : List UInt8) : (ByteArray.mk l.toArray).size = l.length := by
  show l.toArray.size = l.length
  simp

theorem out_alloc {w : World} {p : Nat} {a : Option Addr} {c : Nat} {l : List UInt8} (h : OutAt w p a c l) (o : Obj) : OutAt (w.alloc o) p a c l :=
  h.keep (F := fun _ => False) ((Moved.refl _ _).alloc o) (fun _ h => h.elim)

end Go.Proofs.Ythjoojbdjinonab

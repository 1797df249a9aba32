/- What num and begins of the statements answer, and what PackApart does, for any numbers and texts: it answers true, and of what was there nothing has turned. No conditions. -/
import Derived.Test.YthjoojbdjinonaaAwake
namespace Go.Proofs.Ythjoojbdjinonaa
open Pk Go.RowKit

theorem numlaw_any (n : Nat) (hn : n < 2 ^ 64) (w : World) : Calls Try.prog 26 #[.int .u64 (n : Int)] w fun e w' => e = .returned (.string ⟨(numBytes n).toArray⟩) ∧ Below w.heap.size w w' := by
  have H1 := hide (out_new w)
  go_enter Try.func26, Try.ntmps26
  go_wp2_with fail
  refine (num_any (unhide H1) n hn (by decide)).mono ?_
  rintro e w1 ⟨rfl, a1, c1, o1, f1, m1⟩
  rw [List.nil_append] at o1
  have B := hide (((Below.refl _ w).alloc (Nat.le_refl _) newOut).trans (m1.below (fun i h => by have := foot_none h; omega) (by simp)))
  have O := hide o1
  clear o1 f1 m1
  go_wp2_with fail
  refine (string_any (unhide O)).mono ?_
  rintro e w2 ⟨rfl, rfl⟩
  go_wp2_with fail
  go_ret
  exact ⟨rfl, unhide B⟩

/-- Is a text the beginning of another one? -/
def pre (a b : List UInt8) : Bool := a.isPrefixOf b
theorem pre_iff (a b : List UInt8) : pre a b = true ↔ ∃ t, b = a ++ t := by
  unfold pre
  rw [List.isPrefixOf_iff_prefix]
  exact ⟨fun ⟨t, h⟩ => ⟨t, h.symm⟩, fun ⟨t, h⟩ => ⟨t, h.symm⟩⟩
theorem begins_any (a b : ByteArray) (_ha : a.size ≤ maxLen) (_hb : b.size ≤ maxLen) (w : World) : Calls Try.prog 25 #[.string a, .string b] w fun e w' => e = .returned (.bool (pre a.data.toList b.data.toList)) ∧ w' = w := by
  unfold maxLen at _ha _hb
  by_cases h : a.size ≤ b.size
  · have d1 : decide ((a.size : Int) ≤ (b.size : Int)) = true := decide_eq_true (by omega)
    have hi : (a.size : Int) ≤ (b.size : Int) := by omega
    have heq : ((b.extract 0 a.size).toList == a.toList) = pre a.data.toList b.data.toList := by
      rw [ByteArray.toList_eq, ByteArray.toList_eq, ByteArray.data_extract, Array.toList_extract, List.extract_eq_take_drop, Bool.eq_iff_iff, pre_iff]
      simp only [List.drop_zero, Nat.sub_zero, beq_iff_eq]
      constructor
      · intro e
        exact ⟨b.data.toList.drop a.size, by rw [← e, List.take_append_drop]⟩
      · rintro ⟨t, e⟩
        rw [e, List.take_append_of_le_length (by simp), List.take_of_length_le (by simp)]
    generalize pre a.data.toList b.data.toList = r at *
    go_enter Try.func25, Try.ntmps25
    go_wp2_with fail
    go_ret
    exact ⟨rfl, rfl⟩
  · have d1 : decide ((a.size : Int) ≤ (b.size : Int)) = false := decide_eq_false (by omega)
    have hp : pre a.data.toList b.data.toList = false := by
      rw [Bool.eq_false_iff]
      intro hp
      obtain ⟨t, e⟩ := (pre_iff _ _).1 hp
      have := congrArg List.length e
      simp at this
      omega
    rw [hp]
    go_enter Try.func25, Try.ntmps25
    go_wp2_with fail
    go_ret
    exact ⟨rfl, rfl⟩

theorem pre_num (a b : Nat) (ha : a < 2 ^ 64) (hb : b < 2 ^ 64) : pre (numBytes a) (numBytes b) = ((a : Int) == (b : Int)) := by
  rw [Bool.eq_iff_iff, pre_iff]
  simp only [beq_iff_eq]
  constructor
  · rintro ⟨t, e⟩
    have := num_prefix hb ha (t := []) (u := t) (by rw [List.append_nil]; exact e)
    omega
  · intro e
    have : a = b := by omega
    subst this
    exact ⟨[], by simp⟩
theorem pre_zig (i k : Int) (hi : -9223372036854775808 ≤ i ∧ i ≤ 9223372036854775807) (hk : -9223372036854775808 ≤ k ∧ k ≤ 9223372036854775807) : pre (numBytes (zig i)) (numBytes (zig k)) = (i == k) := by
  rw [pre_num _ _ (zig_lt i hi) (zig_lt k hk), Bool.eq_iff_iff]
  simp only [beq_iff_eq]
  constructor
  · intro e; exact zig_inj (by omega)
  · rintro rfl; rfl
theorem pre_text (s t : ByteArray) (hs : s.size ≤ 60000) (ht : t.size ≤ 60000) : pre (textBytes s.data.toList) (textBytes t.data.toList) = (s.toList == t.toList) := by
  rw [Bool.eq_iff_iff, pre_iff, ByteArray.toList_eq, ByteArray.toList_eq]
  simp only [beq_iff_eq]
  have e1 : s.data.toList.length = s.size := by simp
  have e2 : t.data.toList.length = t.size := by simp
  constructor
  · rintro ⟨u, e⟩
    unfold textBytes at e
    rw [List.append_assoc] at e
    obtain ⟨h1, h2⟩ := num_prefix (by omega) (by omega) e
    exact (List.append_inj (by rw [List.append_nil]; exact h2.symm : s.data.toList ++ u = t.data.toList ++ []) h1.symm).1
  · intro e
    exact ⟨[], by rw [e, List.append_nil]⟩

theorem out_size (l : List UInt8) : (ByteArray.mk l.toArray).size = l.length := by
  show l.toArray.size = l.length
  simp

theorem out_alloc {w : World} {p : Nat} {a : Option Addr} {c : Nat} {l : List UInt8} (h : OutAt w p a c l) (o : Obj) : OutAt (w.alloc o) p a c l :=
  h.keep (F := fun _ => False) ((Moved.refl _ _).alloc o) (fun _ h => h.elim)

set_option maxRecDepth 100000 in
set_option maxHeartbeats 1000000 in
theorem apart_any (a b : Nat) (i k : Int) (s t : ByteArray) (w : World) (ha : a < 2 ^ 64) (hb : b < 2 ^ 64) (hi : -9223372036854775808 ≤ i ∧ i ≤ 9223372036854775807) (hk : -9223372036854775808 ≤ k ∧ k ≤ 9223372036854775807) (hs : s.size ≤ maxLen) (ht : t.size ≤ maxLen) :
    Calls Try.prog 6 #[.int .u64 (a : Int), .int .u64 (b : Int), .int .i64 i, .int .i64 k, .string s, .string t] w fun e w' => e = .returned (.bool true) ∧ Below w.heap.size w w' := by
  unfold maxLen at hs ht
  by_cases hs6 : (60000 : Int) < (s.size : Int)
  · have d1 : decide ((60000 : Int) < (s.size : Int)) = true := decide_eq_true hs6
    go_enter Try.func6, Try.ntmps6
    go_wp2_with fail
    refine (awake_any _).mono ?_
    rintro e w1 ⟨rfl, hB⟩
    have B := hide hB
    clear hB
    go_wp2_with fail
    go_ret
    exact ⟨rfl, unhide B⟩
  · have d1 : decide ((60000 : Int) < (s.size : Int)) = false := decide_eq_false hs6
    by_cases ht6 : (60000 : Int) < (t.size : Int)
    · have d2 : decide ((60000 : Int) < (t.size : Int)) = true := decide_eq_true ht6
      go_enter Try.func6, Try.ntmps6
      go_wp2_with fail
      refine (awake_any _).mono ?_
      rintro e w1 ⟨rfl, hB⟩
      have B := hide hB
      clear hB
      go_wp2_with fail
      go_ret
      exact ⟨rfl, unhide B⟩
    · have d2 : decide ((60000 : Int) < (t.size : Int)) = false := decide_eq_false ht6
      have q1 := hide (pre_num a b ha hb)
      have q2 := hide (pre_zig i k hi hk)
      have q3 := hide (pre_text s t (by omega) (by omega))
      have ln : ∀ n, n < 2 ^ 64 → (ByteArray.mk (numBytes n).toArray).size ≤ maxLen := fun n hn => by rw [out_size]; have := numBytes_length n hn; unfold maxLen; omega
      have lt : ∀ z : ByteArray, z.size ≤ 60000 → (ByteArray.mk (textBytes z.data.toList).toArray).size ≤ maxLen := fun z hz => by
        have e1 : z.data.toList.length = z.size := by simp
        rw [out_size]; unfold textBytes; rw [List.length_append, e1]; have := numBytes_length z.size (by omega); unfold maxLen; omega
      have LN := hide ln
      have LT := hide lt
      clear ln lt
      go_enter Try.func6, Try.ntmps6
      go_wp2_with fail
      refine (awake_any _).mono ?_
      rintro e w1 ⟨rfl, hB⟩
      have B := hide hB
      have n0 := out_alloc (out_alloc (out_alloc (out_new w1) newOut) newOut) newOut
      have n1 := out_alloc (out_alloc (out_new (w1.alloc newOut)) newOut) newOut
      have n2 := out_alloc (out_new ((w1.alloc newOut).alloc newOut)) newOut
      have n3 := out_new (((w1.alloc newOut).alloc newOut).alloc newOut)
      have B2 := hide (hB.trans ((((((Below.refl w.heap.size w1).alloc hB.size newOut).alloc (by have := hB.size; simp; omega) newOut).alloc (by have := hB.size; simp; omega) newOut)).alloc (by have := hB.size; simp; omega) newOut))
      have hx := hB.size
      simp only [World.size_alloc] at n1 n2 n3
      have O0 := hide n0
      have O1 := hide n1
      have O2 := hide n2
      have O3 := hide n3
      clear hB n0 n1 n2 n3 B
      go_wp2_with fail
      have hz : ((((w1.alloc newOut).alloc newOut).alloc newOut).alloc newOut).heap.size = w1.heap.size + 4 := by simp
      generalize (((w1.alloc newOut).alloc newOut).alloc newOut).alloc newOut = wA at *
      generalize w1.heap.size = x at *
      refine (int_any (unhide O0) i hi (by decide)).mono ?_
      rintro e w2 ⟨rfl, a0, c0, o0, f0, m0⟩
      rw [List.nil_append] at o0
      have g0 : ∀ y, a0 = some y → x + 4 ≤ y.block := fun y hy => by
        rcases f0 y hy with h | h
        · cases h
        · omega
      have z0 : x + 4 ≤ w2.heap.size := by have := m0.size; omega
      replace B2 := hide ((unhide B2).trans (m0.below (fun y h => by have := foot_none h; omega) (unhide B2).size))
      replace O1 := hide ((unhide O1).keep m0 (fun y hy hf => by have h1 := foot_none hy; have h2 := foot_none hf; omega))
      replace O2 := hide ((unhide O2).keep m0 (fun y hy hf => by have h1 := foot_none hy; have h2 := foot_none hf; omega))
      replace O3 := hide ((unhide O3).keep m0 (fun y hy hf => by have h1 := foot_none hy; have h2 := foot_none hf; omega))
      clear O0 f0 m0
      have O0 := hide o0
      clear o0
      go_wp2_with fail
      refine (int_any (unhide O1) k hk (by decide)).mono ?_
      rintro e w3 ⟨rfl, a1, c1, o1, f1, m1⟩
      rw [List.nil_append] at o1
      have g1 : ∀ y, a1 = some y → x + 4 ≤ y.block := fun y hy => by
        rcases f1 y hy with h | h
        · cases h
        · omega
      have z1 : x + 4 ≤ w3.heap.size := by have := m1.size; omega
      replace B2 := hide ((unhide B2).trans (m1.below (fun y h => by have := foot_none h; omega) (unhide B2).size))
      replace O0 := hide ((unhide O0).keep m1 (fun y hy hf => by
        have h1 := foot_none hy
        rcases hf with h2 | ⟨u, h2, h3⟩
        · omega
        · have := g0 u h2; omega))
      replace O2 := hide ((unhide O2).keep m1 (fun y hy hf => by have h1 := foot_none hy; have h2 := foot_none hf; omega))
      replace O3 := hide ((unhide O3).keep m1 (fun y hy hf => by have h1 := foot_none hy; have h2 := foot_none hf; omega))
      clear O1 f1 m1
      have O1 := hide o1
      clear o1
      go_wp2_with fail
      refine (text_any (unhide O2) s (by simp only [List.length_nil]; omega)).mono ?_
      rintro e w4 ⟨rfl, a2, c2, o2, f2, m2⟩
      rw [List.nil_append] at o2
      have g2 : ∀ y, a2 = some y → x + 4 ≤ y.block := fun y hy => by
        rcases f2 y hy with h | h
        · cases h
        · omega
      have z2 : x + 4 ≤ w4.heap.size := by have := m2.size; omega
      replace B2 := hide ((unhide B2).trans (m2.below (fun y h => by have := foot_none h; omega) (unhide B2).size))
      replace O0 := hide ((unhide O0).keep m2 (fun y hy hf => by
        have h1 := foot_none hy
        rcases hf with h2 | ⟨u, h2, h3⟩
        · omega
        · have := g0 u h2; omega))
      replace O1 := hide ((unhide O1).keep m2 (fun y hy hf => by
        have h1 := foot_none hy
        rcases hf with h2 | ⟨u, h2, h3⟩
        · omega
        · have := g1 u h2; omega))
      replace O3 := hide ((unhide O3).keep m2 (fun y hy hf => by have h1 := foot_none hy; have h2 := foot_none hf; omega))
      clear O2 f2 m2
      have O2 := hide o2
      clear o2
      go_wp2_with fail
      refine (text_any (unhide O3) t (by simp only [List.length_nil]; omega)).mono ?_
      rintro e w5 ⟨rfl, a3, c3, o3, f3, m3⟩
      rw [List.nil_append] at o3
      have g3 : ∀ y, a3 = some y → x + 4 ≤ y.block := fun y hy => by
        rcases f3 y hy with h | h
        · cases h
        · omega
      have z3 : x + 4 ≤ w5.heap.size := by have := m3.size; omega
      replace B2 := hide ((unhide B2).trans (m3.below (fun y h => by have := foot_none h; omega) (unhide B2).size))
      replace O0 := hide ((unhide O0).keep m3 (fun y hy hf => by
        have h1 := foot_none hy
        rcases hf with h2 | ⟨u, h2, h3⟩
        · omega
        · have := g0 u h2; omega))
      replace O1 := hide ((unhide O1).keep m3 (fun y hy hf => by
        have h1 := foot_none hy
        rcases hf with h2 | ⟨u, h2, h3⟩
        · omega
        · have := g1 u h2; omega))
      replace O2 := hide ((unhide O2).keep m3 (fun y hy hf => by
        have h1 := foot_none hy
        rcases hf with h2 | ⟨u, h2, h3⟩
        · omega
        · have := g2 u h2; omega))
      clear O3 f3 m3
      have O3 := hide o3
      clear o3
      go_wp2_with fail
      refine (numlaw_any a ha _).mono ?_
      rintro e w6 ⟨rfl, hb'⟩
      have m := Moved.of_below (F := fun _ => False) hb'
      replace B2 := hide ((unhide B2).trans (m.below (fun y h => h.elim) (unhide B2).size))
      replace O0 := hide ((unhide O0).keep m (fun _ h => h.elim))
      replace O1 := hide ((unhide O1).keep m (fun _ h => h.elim))
      replace O2 := hide ((unhide O2).keep m (fun _ h => h.elim))
      replace O3 := hide ((unhide O3).keep m (fun _ h => h.elim))
      clear m hb'
      go_wp2_with fail
      refine (numlaw_any b hb _).mono ?_
      rintro e w7 ⟨rfl, hb'⟩
      have m := Moved.of_below (F := fun _ => False) hb'
      replace B2 := hide ((unhide B2).trans (m.below (fun y h => h.elim) (unhide B2).size))
      replace O0 := hide ((unhide O0).keep m (fun _ h => h.elim))
      replace O1 := hide ((unhide O1).keep m (fun _ h => h.elim))
      replace O2 := hide ((unhide O2).keep m (fun _ h => h.elim))
      replace O3 := hide ((unhide O3).keep m (fun _ h => h.elim))
      clear m hb'
      go_wp2_with fail
      refine (begins_any _ _ (unhide LN a ha) (unhide LN b hb) _).mono ?_
      rintro e w8 ⟨rfl, rfl⟩
      rw [show pre (ByteArray.mk (numBytes a).toArray).data.toList (ByteArray.mk (numBytes b).toArray).data.toList = ((a : Int) == (b : Int)) from unhide q1]
      go_wp2_with fail
      refine (string_any (unhide O0)).mono ?_
      rintro e w9 ⟨rfl, rfl⟩
      go_wp2_with fail
      refine (string_any (unhide O1)).mono ?_
      rintro e w10 ⟨rfl, rfl⟩
      go_wp2_with fail
      refine (begins_any _ _ (unhide LN _ (zig_lt i hi)) (unhide LN _ (zig_lt k hk)) _).mono ?_
      rintro e w11 ⟨rfl, rfl⟩
      rw [show pre (ByteArray.mk (numBytes (zig i)).toArray).data.toList (ByteArray.mk (numBytes (zig k)).toArray).data.toList = (i == k) from unhide q2]
      go_wp2_with fail
      refine (string_any (unhide O2)).mono ?_
      rintro e w12 ⟨rfl, rfl⟩
      go_wp2_with fail
      refine (string_any (unhide O3)).mono ?_
      rintro e w13 ⟨rfl, rfl⟩
      go_wp2_with fail
      refine (begins_any _ _ (unhide LT s (by omega)) (unhide LT t (by omega)) _).mono ?_
      rintro e w14 ⟨rfl, rfl⟩
      rw [show pre (ByteArray.mk (textBytes s.data.toList).toArray).data.toList (ByteArray.mk (textBytes t.data.toList).toArray).data.toList = (s.toList == t.toList) from unhide q3]
      go_wp2_with fail
      go_ret
      exact ⟨rfl, unhide B2⟩
end Go.Proofs.Ythjoojbdjinonaa

/- What SumPieces does, for any list of texts: it answers true, and the world stays as it is. Condition: the table's sixteen cells hold its numbers. -/
import Derived.Test.YtgnodokjfaibbaaDoorRowMem
namespace Go.Proofs.YtgnodokjfaibbaaDoor
open Crc Go.RowKit

/-- A slice of strings that came in. -/
def IsStrs (w : World) (a : Option Addr) (len cap : Nat) (ss : List ByteArray) : Prop :=
  (a = none ∧ len = 0 ∧ cap = 0 ∧ ss = []) ∨
  ∃ x, a = some x ∧ len ≤ cap ∧ cap ≤ maxLen ∧ ss.length = cap ∧ (∀ i, i < ss.length → w.cell? (x.add i) = some (.string (ss.getD i ByteArray.empty))) ∧ ∀ s ∈ ss, s.size ≤ maxLen
theorem IsStrs.at {w : World} {a : Option Addr} {len cap : Nat} {ss : List ByteArray} (h : IsStrs w a len cap ss) (k : Nat) (hk : k < len) :
    ∃ x, a = some x ∧ w.cell? (x.add k) = some (.string (ss.getD k ByteArray.empty)) ∧ (ss.getD k ByteArray.empty).size ≤ maxLen := by
  rcases h with ⟨_, h0, _⟩ | ⟨x, rfl, h1, h2, h3, h4, h5⟩
  · omega
  · refine ⟨x, rfl, h4 k (by omega), ?_⟩
    have hk' : k < ss.length := by omega
    rw [List.getD_eq_getElem?_getD, List.getElem?_eq_getElem hk']
    exact h5 _ (List.getElem_mem hk')
theorem IsStrs.small {w : World} {a : Option Addr} {len cap : Nat} {ss : List ByteArray} (h : IsStrs w a len cap ss) : len ≤ maxLen := by
  rcases h with ⟨_, h0, _⟩ | ⟨x, rfl, h1, h2, _⟩
  · unfold maxLen; omega
  · omega

/-- The pieces' lengths, each held at 30001, added up; the pieces put together. -/
def sumTo (ss : List ByteArray) : Nat → Nat
  | 0 => 0
  | k + 1 => sumTo ss k + min (ss.getD k ByteArray.empty).size 30001
def catTo (ss : List ByteArray) : Nat → ByteArray
  | 0 => ⟨#[]⟩
  | k + 1 => catTo ss k ++ ss.getD k ByteArray.empty
theorem sumTo_le (ss : List ByteArray) (k : Nat) : sumTo ss k ≤ 30001 * k := by
  induction k with
  | zero => simp [sumTo]
  | succ k ih => simp only [sumTo]; omega
theorem sumTo_mono (ss : List ByteArray) (k n : Nat) (h : k ≤ n) : sumTo ss k ≤ sumTo ss n := by
  induction n with
  | zero => have : k = 0 := by omega
            subst this; exact Nat.le_refl _
  | succ n ih =>
    by_cases e : k = n + 1
    · subst e; exact Nat.le_refl _
    · have := ih (by omega); simp only [sumTo]; omega
theorem catTo_size (ss : List ByteArray) (k : Nat) (h : sumTo ss k ≤ 30000) : (catTo ss k).size = sumTo ss k := by
  induction k with
  | zero => rfl
  | succ k ih =>
    simp only [sumTo] at h
    simp only [catTo, sumTo, ByteArray.size_append]
    rw [ih (by omega)]
    omega
theorem catTo_crc (ss : List ByteArray) (k : Nat) : more (crc (catTo ss k).data.toList) (ss.getD k ByteArray.empty).data.toList = crc (catTo ss (k + 1)).data.toList := by
  rw [crc_append]
  simp only [catTo, ByteArray.data_append, Array.toList_append]

theorem val_i64 {a b : Int} (h : a = b) : Value.int .i64 a = .int .i64 b := by rw [h]

set_option maxHeartbeats 1000000 in
theorem pieces_any (a : Option Addr) (len cap : Nat) (ss : List ByteArray) (w : World) (hs : IsStrs w a len cap ss) (hT : Tab w) :
    Calls Tryd.prog 8 #[.slice a len cap] w fun e w' => e = .returned (.bool true) ∧ Below w.heap.size w w' := by
  have HT : Hid (Tab w) := hide hT
  have HS := hide hs
  have hl := hs.small
  unfold maxLen at hl
  clear hT hs
  go_enter Tryd.func8, Tryd.ntmps8
  go_wp2_with fail
  refine (awake_any _ (unhide HT)).mono ?_
  rintro e w' ⟨rfl, rfl⟩
  go_wp2_with fail
  go_loop [3, 4] (fun n i => ∃ k : Nat, k ≤ len ∧ k ≤ 301 ∧ i = .int .i64 k ∧ n = .int .i64 ((sumTo ss k : Nat) : Int)) (fun _ i => len - (intOf i).toNat)
  case atStart => exact ⟨0, by omega, by omega, rfl, rfl⟩
  case round =>
    obtain ⟨k, hk, hk2, rfl, rfl⟩ := hrel
    have hb := sumTo_le ss k
    by_cases hlt : k < len
    · by_cases h300 : k ≤ 300
      · obtain ⟨x, rfl, hcell, hsz⟩ := (unhide HS).at k hlt
        unfold maxLen at hsz
        have hstep : sumTo ss (k + 1) = sumTo ss k + min (ss.getD k ByteArray.empty).size 30001 := rfl
        generalize ss.getD k ByteArray.empty = s at *
        have Hstep := hide hstep
        clear hstep
        generalize sumTo ss k = m at *
        go_wp2_with fail
        go_round
        case rel =>
          refine ⟨k + 1, by omega, by omega, by go_num, val_i64 ?_⟩
          rw [unhide Hstep]
          split <;> omega
        case measure => simp [intOf]; omega
      · have hg : (300 : Int) < len := by omega
        have dg : decide ((300 : Int) < len) = true := decide_eq_true hg
        go_wp2_with fail
        go_ret
        exact ⟨rfl, Below.refl _ _⟩
    · have hkl : k = len := by omega
      have Hkl := hide hkl
      clear hkl
      by_cases hg : (300 : Int) < len
      · have dg : decide ((300 : Int) < len) = true := decide_eq_true hg
        go_wp2_with fail
        go_ret
        exact ⟨rfl, Below.refl _ _⟩
      · have dg : decide ((300 : Int) < len) = false := decide_eq_false hg
        by_cases hm : (30000 : Int) < ((sumTo ss k : Nat) : Int)
        · have dm : decide ((30000 : Int) < ((sumTo ss k : Nat) : Int)) = true := decide_eq_true hm
          go_wp2_with fail
          go_ret
          exact ⟨rfl, Below.refl _ _⟩
        · have dm : decide ((30000 : Int) < ((sumTo ss k : Nat) : Int)) = false := decide_eq_false hm
          have HM : Hid (sumTo ss len ≤ 30000) := hide (by rw [← unhide Hkl]; omega)
          go_wp2_with fail
          refine (crc_any _ _ (by decide +kernel) (unhide HT)).mono ?_
          rintro e w'' ⟨rfl, rfl⟩
          rw [show (((crc (ByteArray.mk #[]).data.toList).toNat : Nat) : Int) = 0 from ex0]
          go_wp2_with fail
          go_loopw [5, 6, 7] (fun al c i wr => wr = w'' ∧ ∃ j : Nat, j ≤ len ∧ i = .int .i64 j ∧ al = .string (catTo ss j) ∧ c = .int .u32 (((crc (catTo ss j).data.toList).toNat : Nat) : Int)) (fun _ _ i _ => len - (intOf i).toNat)
          case atStart => exact ⟨rfl, 0, by omega, rfl, rfl, val_u32 ex0.symm⟩
          case round =>
            obtain ⟨rfl, j, hj, rfl, rfl, rfl⟩ := hrel
            by_cases hjl : j < len
            · obtain ⟨x, rfl, hcell, hsz⟩ := (unhide HS).at j hjl
              have hcs := catTo_size ss j (Nat.le_trans (sumTo_mono ss j len hj) (unhide HM))
              have hcs2 := catTo_size ss (j + 1) (Nat.le_trans (sumTo_mono ss (j + 1) len hjl) (unhide HM))
              have hcr := catTo_crc ss j
              have hst : catTo ss (j + 1) = catTo ss j ++ ss.getD j ByteArray.empty := rfl
              have hle := Nat.le_trans (sumTo_mono ss (j + 1) len hjl) (unhide HM)
              rw [hst] at hcs2 hcr
              rw [← hcs2] at hle
              have Hst := hide hst
              clear hst hcs hcs2
              generalize ss.getD j ByteArray.empty = s at *
              generalize catTo ss j = A at *
              have hAs : (A ++ s).size ≤ maxLen := by unfold maxLen; omega
              rw [ByteArray.size_append] at hle
              have hcn : (((more (crc A.data.toList) s.data.toList).toNat : Nat) : Int) = (((crc (A ++ s).data.toList).toNat : Nat) : Int) := by rw [hcr]
              have Hcn := hide hcn
              have Hcr := hide hcr
              clear hcn hcr
              go_wp2_with fail
              refine (more_any _ s _ hsz (unhide HT)).mono ?_
              rintro e w3 ⟨rfl, rfl⟩
              rw [unhide Hcn]
              by_cases hse : s.toList = []
              · have hs0 : s = ⟨#[]⟩ := bytes_ext (by rw [← ByteArray.toList_eq s, hse])
                have hsame : (((crc (A ++ s).data.toList).toNat : Nat) : Int) = (((crc A.data.toList).toNat : Nat) : Int) := by
                  rw [← unhide Hcr, hs0]; exact congrArg (fun x : BitVec 32 => ((x.toNat : Nat) : Int)) (more_nil _)
                subst hs0
                have Hsame := hide hsame
                clear hsame hse
                rw [unhide Hsame]
                go_wp2_with fail
                refine (crc_any _ _ hAs (unhide HT)).mono ?_
                rintro e w4 ⟨rfl, rfl⟩
                rw [unhide Hsame]
                go_wp2_with fail
                go_roundw
                case rel => exact ⟨trivial, j + 1, by omega, by go_num, by rw [unhide Hst], val_u32 (by rw [unhide Hst, unhide Hsame])⟩
                case measure => simp [intOf]; omega
              · generalize hcc : (((crc (A ++ s).data.toList).toNat : Nat) : Int) = cc
                have Hcc := hide hcc
                clear hcc
                go_wp2_with fail
                refine (crc_any (A ++ s) _ hAs (unhide HT)).mono ?_
                rintro e w4 ⟨rfl, rfl⟩
                rw [unhide Hcc]
                go_wp2_with fail
                go_roundw
                case rel => exact ⟨trivial, j + 1, by omega, by go_num, by rw [unhide Hst], val_u32 (by rw [unhide Hst, unhide Hcc])⟩
                case measure => simp [intOf]; omega
            · go_wp2_with fail
              go_ret
              exact ⟨rfl, Below.refl _ _⟩
end Go.Proofs.YtgnodokjfaibbaaDoor

/- What FrameMany does, for any list of texts and any text behind: it answers true, and nothing that was there has turned. Condition: the table's sixteen cells hold its numbers. -/
import Derived.Test.YthklhnmageekgaaDoorApartWalk
namespace Go.Proofs.YthklhnmageekgaaDoor
open Crc Go.RowKit

/-- A slice of strings that came in. -/
def IsStrs (w : World) (a : Option Addr) (len cap : Nat) (ss : List ByteArray) : Prop :=
  (a = none ∧ len = 0 ∧ cap = 0 ∧ ss = []) ∨
  ∃ x, a = some x ∧ len ≤ cap ∧ cap ≤ maxLen ∧ ss.length = cap ∧ (∀ i, i < ss.length → w.cell? (x.add i) = some (.string (ss.getD i ByteArray.empty))) ∧ ∀ s ∈ ss, s.size ≤ maxLen
theorem IsStrs.at {w : World} {a : Option Addr} {len cap : Nat} {ss : List ByteArray} (h : IsStrs w a len cap ss) (k : Nat) (hk : k < len) :
    ∃ x, a = some x ∧ w.cell? (x.add k) = some (.string (ss.getD k ByteArray.empty)) ∧ (ss.getD k ByteArray.empty).size ≤ maxLen := by
  rcases h with ⟨_, h0, _⟩ | ⟨x, rfl, h1, h2, h3, h4, h5⟩
  · omega
  · refine ⟨x, rfl, h4 k (by omega), ?_⟩
    have hk' : k < ss.length := by omega
    rw [List.getD_eq_getElem?_getD, List.getElem?_eq_getElem hk']
    exact h5 _ (List.getElem_mem hk')
theorem IsStrs.small {w : World} {a : Option Addr} {len cap : Nat} {ss : List ByteArray} (h : IsStrs w a len cap ss) : len ≤ maxLen := by
  rcases h with ⟨_, h0, _⟩ | ⟨x, rfl, h1, h2, _⟩
  · unfold maxLen; omega
  · omega
theorem IsStrs.below {w w' : World} {a : Option Addr} {len cap : Nat} {ss : List ByteArray} (h : IsStrs w a len cap ss) (b : Below w.heap.size w w') : IsStrs w' a len cap ss := by
  rcases h with h | ⟨x, rfl, h1, h2, h3, h4, h5⟩
  · exact .inl h
  · refine .inr ⟨x, rfl, h1, h2, h3, fun i hi => ?_, h5⟩
    have hc := h4 i hi
    rw [b.cell (World.block_lt_of_cell? _ _ hc)]
    exact hc

/-- The texts' lengths, each held at 16385, added up; their frames put together. -/
def sumTo (ss : List ByteArray) : Nat → Nat
  | 0 => 0
  | k + 1 => sumTo ss k + min (ss.getD k ByteArray.empty).size 16385
def fr (s : ByteArray) : ByteArray := ⟨(frameOf s.data.toList).toArray⟩
def catTo (ss : List ByteArray) : Nat → ByteArray
  | 0 => ⟨#[]⟩
  | k + 1 => catTo ss k ++ fr (ss.getD k ByteArray.empty)
theorem fr_size (s : ByteArray) : (fr s).size = s.size + 12 := frame_size rfl
theorem fr_list (s : ByteArray) : (fr s).data.toList = frameOf s.data.toList := rfl
theorem sumTo_le (ss : List ByteArray) (k : Nat) : sumTo ss k ≤ 16385 * k := by
  induction k with
  | zero => simp [sumTo]
  | succ k ih => simp only [sumTo]; omega
theorem sumTo_mono (ss : List ByteArray) (k n : Nat) (h : k ≤ n) : sumTo ss k ≤ sumTo ss n := by
  induction n with
  | zero => have : k = 0 := by omega
            subst this; exact Nat.le_refl _
  | succ n ih =>
    by_cases e : k = n + 1
    · subst e; exact Nat.le_refl _
    · have := ih (by omega); simp only [sumTo]; omega
theorem each_le (ss : List ByteArray) (k n : Nat) (h : k < n) (hs : sumTo ss n ≤ 16384) : (ss.getD k ByteArray.empty).size ≤ 16384 := by
  have h1 := sumTo_mono ss (k + 1) n h
  simp only [sumTo] at h1
  omega
theorem catTo_size (ss : List ByteArray) (k : Nat) (h : sumTo ss k ≤ 16384) : (catTo ss k).size = sumTo ss k + 12 * k := by
  induction k with
  | zero => rfl
  | succ k ih =>
    simp only [sumTo] at h
    simp only [catTo, sumTo, ByteArray.size_append, fr_size]
    rw [ih (by omega)]
    omega
/-- The frames, parted at one of them. -/
theorem catTo_part (ss : List ByteArray) (t : List UInt8) (k n : Nat) (h : k < n) : ∃ r, (catTo ss n).data.toList ++ t = (catTo ss k).data.toList ++ frameOf (ss.getD k ByteArray.empty).data.toList ++ r := by
  induction n generalizing t with
  | zero => omega
  | succ n ih =>
    have e : (catTo ss (n + 1)).data.toList = (catTo ss n).data.toList ++ frameOf (ss.getD n ByteArray.empty).data.toList := by
      simp only [catTo, ByteArray.data_append, Array.toList_append, fr_list]
    rw [e]
    by_cases hk : k = n
    · subst hk; exact ⟨t, rfl⟩
    · obtain ⟨r, hr⟩ := ih (frameOf (ss.getD n ByteArray.empty).data.toList ++ t) (by omega)
      exact ⟨r, by rw [← hr, List.append_assoc]⟩
theorem read_one (ss : List ByteArray) (b : ByteArray) (k n : Nat) (h : k < n) (hs : sumTo ss n ≤ 16384) :
    nextAt (catTo ss n ++ b).data.toList (catTo ss k).size = ((ss.getD k ByteArray.empty).data.toList, (catTo ss (k + 1)).size, 0) := by
  obtain ⟨r, hr⟩ := catTo_part ss b.data.toList k n h
  have hle := each_le ss k n h hs
  unfold nextAt
  rw [ByteArray.data_append, Array.toList_append, hr, List.append_assoc, ← text_len, List.drop_left, frame_back _ r (by rw [text_len]; omega)]
  simp only [if_true, Prod.mk.injEq, and_true, true_and]
  simp only [catTo, ByteArray.size_append, fr_size, text_len]
theorem read_end (c b : ByteArray) (h : b.size ≤ 7) : nextAt (c ++ b).data.toList c.size = ([], 0, 7) := by
  unfold nextAt
  rw [ByteArray.data_append, Array.toList_append, ← text_len c, List.drop_left]
  have e : nextOf b.data.toList = ([], 0, 7) := if_pos (by rw [text_len]; omega)
  rw [e]; rfl
theorem cat_le (ss : List ByteArray) (b : ByteArray) (k n : Nat) (h : k ≤ n) (hs : sumTo ss n ≤ 16384) (hn : n ≤ 100) (hb : b.size ≤ 7) : (catTo ss k).size ≤ (catTo ss n ++ b).size ∧ (catTo ss n ++ b).size ≤ 20000 := by
  have h1 := sumTo_mono ss k n h
  rw [ByteArray.size_append, catTo_size ss n hs, catTo_size ss k (by omega)]
  omega
theorem val_i64 {a b : Int} (h : a = b) : Value.int .i64 a = .int .i64 b := by rw [h]
theorem body_text (s : ByteArray) : (⟨s.data.toList.toArray⟩ : ByteArray) = s := bytes_ext rfl

set_option maxRecDepth 100000 in
set_option maxHeartbeats 1000000 in
theorem many_any (a : Option Addr) (len cap : Nat) (ss : List ByteArray) (b : ByteArray) (w : World) (hs : IsStrs w a len cap ss) (_hbm : b.size ≤ maxLen) (hT : Tab w) :
    Calls Tryd.prog 7 #[.slice a len cap, .string b] w fun e w' => e = .returned (.bool true) ∧ Below w.heap.size w w' := by
  have HT : Hid (Tab w) := hide hT
  have HS := hide hs
  have hl := hs.small
  unfold maxLen at hl
  clear hT hs
  go_enter Tryd.func7, Tryd.ntmps7
  go_wp2_with fail
  refine (awake_any _ (unhide HT)).mono ?_
  rintro e w1 ⟨rfl, m⟩
  have B := hide m
  replace HS := hide ((unhide HS).below m)
  clear m
  go_wp2_with fail
  go_loop [5, 6] (fun n i => ∃ k : Nat, k ≤ len ∧ k ≤ 101 ∧ i = .int .i64 k ∧ n = .int .i64 ((sumTo ss k : Nat) : Int)) (fun _ i => len - (intOf i).toNat)
  case atStart => exact ⟨0, by omega, by omega, rfl, rfl⟩
  case round =>
    obtain ⟨k, hk, hk2, rfl, rfl⟩ := hrel
    have hb := sumTo_le ss k
    by_cases hlt : k < len
    · by_cases h100 : k ≤ 100
      · obtain ⟨x, rfl, hcell, hsz⟩ := (unhide HS).at k hlt
        unfold maxLen at hsz
        have hstep : sumTo ss (k + 1) = sumTo ss k + min (ss.getD k ByteArray.empty).size 16385 := rfl
        generalize ss.getD k ByteArray.empty = s at *
        have Hstep := hide hstep
        clear hstep
        generalize sumTo ss k = m at *
        go_wp2_with fail
        go_round
        case rel =>
          refine ⟨k + 1, by omega, by omega, by go_num, val_i64 ?_⟩
          rw [unhide Hstep]
          omega
        case measure => simp [intOf]; omega
      · have hg : (100 : Int) < len := by omega
        have dg : decide ((100 : Int) < len) = true := decide_eq_true hg
        go_wp2_with fail
        go_ret
        exact ⟨rfl, unhide B⟩
    · have hkl : k = len := by omega
      have Hkl := hide hkl
      clear hkl
      by_cases hg : (100 : Int) < len
      · have dg : decide ((100 : Int) < len) = true := decide_eq_true hg
        go_wp2_with fail
        go_ret
        exact ⟨rfl, unhide B⟩
      · have dg : decide ((100 : Int) < len) = false := decide_eq_false hg
        by_cases hm : (16384 : Int) < ((sumTo ss k : Nat) : Int)
        · have dm : decide ((16384 : Int) < ((sumTo ss k : Nat) : Int)) = true := decide_eq_true hm
          go_wp2_with fail
          go_ret
          exact ⟨rfl, unhide B⟩
        · have dm : decide ((16384 : Int) < ((sumTo ss k : Nat) : Int)) = false := decide_eq_false hm
          by_cases hb7 : (7 : Int) < (b.size : Int)
          · have d7 : decide ((7 : Int) < (b.size : Int)) = true := decide_eq_true hb7
            go_wp2_with fail
            go_ret
            exact ⟨rfl, unhide B⟩
          · have d7 : decide ((7 : Int) < (b.size : Int)) = false := decide_eq_false hb7
            have HM : Hid (sumTo ss len ≤ 16384) := hide (by rw [← unhide Hkl]; omega)
            have hlen : len ≤ 100 := by omega
            go_wp2_with fail
            go_loopw [7, 8] (fun al i wr => Below w1.heap.size w1 wr ∧ ∃ j : Nat, j ≤ len ∧ i = .int .i64 j ∧ al = .string (catTo ss j)) (fun _ i _ => len - (intOf i).toNat)
            case atStart => exact ⟨Below.refl _ _, 0, by omega, rfl, rfl⟩
            case round =>
              obtain ⟨hBr, j, hj, rfl, rfl⟩ := hrel
              have Br := hide hBr
              clear hBr
              by_cases hjl : j < len
              · obtain ⟨x, rfl, hcell, hsz⟩ := ((unhide HS).below (unhide Br)).at j hjl
                have hle := each_le ss j len hjl (unhide HM)
                have hcs := catTo_size ss j (Nat.le_trans (sumTo_mono ss j len hj) (unhide HM))
                have hms := Nat.le_trans (sumTo_mono ss j len hj) (unhide HM)
                have hst : catTo ss (j + 1) = catTo ss j ++ fr (ss.getD j ByteArray.empty) := rfl
                have hfs := fr_size (ss.getD j ByteArray.empty)
                have hput : putOf (ss.getD j ByteArray.empty).data.toList = (frameOf (ss.getD j ByteArray.empty).data.toList, 0) := put_is (by omega)
                have hfr : fr (ss.getD j ByteArray.empty) = ⟨(frameOf (ss.getD j ByteArray.empty).data.toList).toArray⟩ := rfl
                generalize ss.getD j ByteArray.empty = s at *
                generalize fr s = F at *
                generalize catTo ss j = A at *
                have hAs : A.size ≤ 20000 := by omega
                have Hst := hide (And.intro hst (And.intro hput hfr))
                have Hcs := hide hcs
                clear hst hput hfr hcs hms
                go_wp2_with fail
                refine (put_any s _ hsz ((unhide HT).below ((unhide B).trans ((unhide Br).mono (unhide B).size)))).mono ?_
                rintro e w3 ⟨rfl, m⟩
                replace Br := hide ((unhide Br).trans (m.mono (unhide Br).size))
                clear m
                rw [(unhide Hst).2.1, ← (unhide Hst).2.2]
                go_wp2_with fail
                go_roundw
                case rel => exact ⟨unhide Br, j + 1, by omega, by go_num, by rw [(unhide Hst).1]⟩
                case measure => simp [intOf]; omega
              · have hjl2 : j = len := by omega
                subst hjl2
                have hcat := cat_le ss b j j (Nat.le_refl _) (unhide HM) hlen (by omega)
                have hsplit : (catTo ss j ++ b).size = (catTo ss j).size + b.size := ByteArray.size_append
                have RO := hide (fun i hi => read_one ss b i j hi (unhide HM))
                have CL := hide (fun i hi => cat_le ss b i j hi (unhide HM) hlen (by omega))
                have RE := hide (read_end (catTo ss j) b (by omega))
                obtain ⟨A, hA⟩ : ∃ A : ByteArray, A = catTo ss j ++ b := ⟨_, rfl⟩
                obtain ⟨C, hC⟩ : ∃ C : ByteArray, C = catTo ss j := ⟨_, rfl⟩
                rw [← hA] at hcat hsplit RO CL RE
                rw [← hC] at hcat hsplit RE hA ⊢
                have HC := hide hC
                have HA := hide hA
                have hCs : C.size ≤ 20000 := by omega
                have hAs : A.size ≤ maxLen := by unfold maxLen; omega
                clear hC
                have hcl : C ++ b = A := hA.symm
                clear hA
                have B2 := hide ((unhide B).trans ((unhide Br).mono (unhide B).size))
                go_wp2_with fail
                go_loopw [11, 12] (fun at_ i ws => Below w1.heap.size w1 ws ∧ ∃ q : Nat, q ≤ j ∧ i = .int .i64 q ∧ at_ = .int .i64 (((catTo ss q).size : Nat) : Int)) (fun _ i _ => j - (intOf i).toNat)
                case atStart => exact ⟨unhide Br, 0, by omega, rfl, rfl⟩
                case round =>
                  obtain ⟨hBs, q, hq, rfl, rfl⟩ := hrel
                  have Bs := hide hBs
                  clear hBs
                  by_cases hqj : q < j
                  · obtain ⟨x, rfl, hcell, hsz⟩ := ((unhide HS).below (unhide Bs)).at q hqj
                    have hro := unhide RO q hqj
                    have hle := each_le ss q j hqj (unhide HM)
                    have hst : (catTo ss (q + 1)).size = (catTo ss q).size + ((ss.getD q ByteArray.empty).size + 12) := by simp only [catTo, ByteArray.size_append, fr_size]
                    have hca := (unhide CL q hq).1
                    generalize hyy : (catTo ss (q + 1)).size = y at *
                    have HY := hide hyy
                    clear hyy
                    generalize ss.getD q ByteArray.empty = s at *
                    generalize (catTo ss q).size = z at *
                    have HRO := hide hro
                    have hto : (z : Int) + (s.size : Int) + 12 = (y : Int) := by omega
                    clear hro hst
                    have hw : s.toList = s.toList := rfl
                    go_wp2_with fail
                    refine (next_any A z _ hAs hca ((unhide HT).below ((unhide B).trans ((unhide Bs).mono (unhide B).size)))).mono ?_
                    rintro e w4 ⟨rfl, m⟩
                    have hcell2 : w4.cell? (x.add q) = some (.string s) := by rw [m.cell (World.block_lt_of_cell? _ _ hcell)]; exact hcell
                    replace Bs := hide ((unhide Bs).trans (m.mono (unhide Bs).size))
                    clear m hcell
                    rw [unhide HRO, body_text]
                    go_wp2_with fail
                    go_roundw
                    case rel => exact ⟨unhide Bs, q + 1, by omega, by go_num, val_i64 (by rw [unhide HY])⟩
                    case measure => simp [intOf]; omega
                  · have hqj2 : q = j := by omega
                    subst hqj2
                    rw [← unhide HC]
                    have hfin : (C.size : Int) + (b.size : Int) = (A.size : Int) := by omega
                    clear hsplit
                    go_wp2_with fail
                    refine (next_any A C.size _ hAs hcat.1 ((unhide HT).below ((unhide B).trans ((unhide Bs).mono (unhide B).size)))).mono ?_
                    rintro e w4 ⟨rfl, m⟩
                    replace Bs := hide ((unhide Bs).trans (m.mono (unhide Bs).size))
                    clear m
                    rw [unhide RE]
                    go_wp2_with fail
                    go_ret
                    exact ⟨rfl, (unhide B).trans ((unhide Bs).mono (unhide B).size)⟩
end Go.Proofs.YthklhnmageekgaaDoor

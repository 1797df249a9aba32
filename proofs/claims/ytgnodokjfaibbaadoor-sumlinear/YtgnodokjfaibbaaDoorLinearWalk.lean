/- What SumLinear does, for any three texts: it answers true, and nothing that was there has turned. Condition: the table's sixteen cells hold its numbers. -/
import Derived.Test.YtgnodokjfaibbaaDoorRowMem
import Derived.Test.YtgnodokjfaibbaaDoorFill
import Derived.RegionTactic
import Derived.ChangeAlike
import Derived.Deep.QuietTactic
import Derived.BigQuiet
import Derived.Deep.RegionWith
import Derived.Deep.CutRange
import Derived.WalkSmall
namespace Go.Proofs.YtgnodokjfaibbaaDoor
open Crc Go.RowKit

theorem byte_at (s : ByteArray) (k : Nat) (h : k < s.size) : s.data.toList.getD k 0 = s[k] := by
  rw [List.getD_eq_getElem?_getD, List.getElem?_eq_getElem (by simpa using h)]; rfl
theorem byte_out (s : ByteArray) (k : Nat) (h : s.size ≤ k) : s.data.toList.getD k 0 = 0 := by
  rw [List.getD_eq_getElem?_getD, List.getElem?_eq_none (by simpa using h)]; rfl
theorem xor8 (u v : UInt8) : bits .xor .u8 (u.toNat : Int) (v.toNat : Int) = (((u ^^^ v).toNat : Nat) : Int) := by
  rw [u8_xor_nat _ _ u.toNat_lt v.toNat_lt, UInt8.toNat_xor]
theorem RowIs.drewN {w : World} {B : Nat} {l : List UInt8} (h : RowIs w B l) (n : Nat) : RowIs (w.drewN n) B l := h
theorem Tab.drewN {w : World} (h : Tab w) (n : Nat) : Tab (w.drewN n) := h

theorem ret_bool {a b : Bool} (h : a = b) : Ending.returned (.bool a) = .returned (.bool b) := by rw [h]

set_option maxHeartbeats 2000000 in
theorem linear_near (a b c : ByteArray) (w w1 w2 w3 : World) (B1 B2 B3 : Nat) (ha : a.size ≤ 30000) (hb : b.size ≤ 30000) (hc : c.size ≤ 30000) (hT : Tab w)
    (hm1 : Sem.run Tryd.prog (Instr.makeSlice 27 (.int .i64 (a.size : Int)) (.int .i64 (a.size : Int))) w = .ok (.slice (some ⟨B1, 0, none⟩) a.size a.size) w1)
    (hm2 : Sem.run Tryd.prog (Instr.makeSlice 27 (.int .i64 (a.size : Int)) (.int .i64 (a.size : Int))) w1 = .ok (.slice (some ⟨B2, 0, none⟩) a.size a.size) w2)
    (hm3 : Sem.run Tryd.prog (Instr.makeSlice 27 (.int .i64 (a.size : Int)) (.int .i64 (a.size : Int))) w2 = .ok (.slice (some ⟨B3, 0, none⟩) a.size a.size) w3)
    (hB : Below w.heap.size w w3) (h1 : w.heap.size ≤ B1) (h2 : w.heap.size ≤ B2) (h3 : w.heap.size ≤ B3) (n12 : B1 ≠ B2) (n13 : B1 ≠ B3) (n23 : B2 ≠ B3)
    (R1 : RowIs w3 B1 (List.replicate a.size 0)) (R2 : RowIs w3 B2 (List.replicate a.size 0)) (R3 : RowIs w3 B3 (List.replicate a.size 0)) :
    Calls Tryd.prog 6 #[.string a, .string b, .string c] w fun e w' => e = .returned (.bool true) ∧ Below w.heap.size w w' := by
  have HT : Hid (Tab w) := hide hT
  have HB := hide hB
  have HH : Hid (w.heap.size ≤ B1 ∧ w.heap.size ≤ B2 ∧ w.heap.size ≤ B3 ∧ B1 ≠ B2 ∧ B1 ≠ B3 ∧ B2 ≠ B3) := hide ⟨h1, h2, h3, n12, n13, n23⟩
  have HR : Hid (RowIs w3 B1 (List.replicate a.size 0) ∧ RowIs w3 B2 (List.replicate a.size 0) ∧ RowIs w3 B3 (List.replicate a.size 0)) := hide ⟨R1, R2, R3⟩
  clear hT hB h1 h2 h3 n12 n13 n23 R1 R2 R3
  have ga : ¬ (30000 : Int) < a.size := by omega
  have gb : ¬ (30000 : Int) < b.size := by omega
  have gc : ¬ (30000 : Int) < c.size := by omega
  have da : decide ((30000 : Int) < a.size) = false := decide_eq_false ga
  have db : decide ((30000 : Int) < b.size) = false := decide_eq_false gb
  have dc : decide ((30000 : Int) < c.size) = false := decide_eq_false gc
  go_enter Tryd.func6, Tryd.ntmps6
  go_wp2_with fail
  refine (awake_any _ (unhide HT)).mono ?_
  rintro e w' ⟨rfl, rfl⟩
  go_wp2_with fail
  go_loopw [10] (fun i wr => ∃ k : Nat, k ≤ a.size ∧ i = .int .i64 k ∧ Below w'.heap.size w' wr ∧ RowIs wr B1 (fill (fun j => b.data.toList.getD j 0) a.size k) ∧ RowIs wr B2 (fill (fun j => c.data.toList.getD j 0) a.size k)
    ∧ RowIs wr B3 (fill (fun j => a.data.toList.getD j 0 ^^^ b.data.toList.getD j 0 ^^^ c.data.toList.getD j 0) a.size k)) (fun i _ => a.size - (intOf i).toNat)
  case atStart =>
    refine ⟨0, by omega, rfl, unhide HB, ?_⟩
    rw [fill_zero, fill_zero, fill_zero]; exact unhide HR
  case round =>
    obtain ⟨k, hk, rfl, hBr, R1, R2, R3⟩ := hrel
    have HBr := hide hBr
    have H1 := hide R1
    have H2 := hide R2
    have H3 := hide R3
    clear hBr R1 R2 R3
    by_cases hlt : k < a.size
    · go_upto_if 44 with fail
      go_cut [] from 35 to 76 (fun wx => Below w'.heap.size w' wx ∧ RowIs wx B1 (fill (fun j => b.data.toList.getD j 0) a.size (k + 1)) ∧ RowIs wx B2 (fill (fun j => c.data.toList.getD j 0) a.size k)
        ∧ RowIs wx B3 (fill (fun j => a.data.toList.getD j 0 ^^^ b.data.toList.getD j 0 ^^^ c.data.toList.getD j 0) a.size k))
      case first =>
        by_cases kb : k < b.size
        · have c1 := (unhide H1).2.1 k (by rw [fill_length]; exact hlt)
          rw [fill_at _ _ _ _ hlt, if_neg (by omega)] at c1
          have f1 := (unhide H1).2.2 k (by rw [fill_length]; exact hlt)
          go_wp2_with fail
          go_meet
          case rel =>
            refine ⟨(unhide HBr).setCell (unhide HH).1 _, ?_, (unhide H2).setOther _ _ (unhide HH).2.2.2.1, (unhide H3).setOther _ _ (unhide HH).2.2.2.2.1⟩
            rw [← fill_set, byte_at b k kb]
            exact (unhide H1).set k (by rw [fill_length]; exact hlt) _
        · go_wp2_with fail
          go_meet
          case rel =>
            refine ⟨unhide HBr, ?_, unhide H2, unhide H3⟩
            rw [fill_same _ _ _ (byte_out b k (by omega))]
            exact unhide H1
      case rest =>
        obtain ⟨hBr, R1, R2, R3⟩ := hcut
        clear HBr H1 H2 H3
        have HBr := hide hBr
        have H1 := hide R1
        have H2 := hide R2
        have H3 := hide R3
        clear hBr R1 R2 R3
        go_upto_if 54 with fail
        go_cut [] from 35 to 76 (fun wx => Below w'.heap.size w' wx ∧ RowIs wx B1 (fill (fun j => b.data.toList.getD j 0) a.size (k + 1)) ∧ RowIs wx B2 (fill (fun j => c.data.toList.getD j 0) a.size (k + 1))
          ∧ RowIs wx B3 (fill (fun j => a.data.toList.getD j 0 ^^^ b.data.toList.getD j 0 ^^^ c.data.toList.getD j 0) a.size k))
        case first =>
          by_cases kc : k < c.size
          · have c2 := (unhide H2).2.1 k (by rw [fill_length]; exact hlt)
            rw [fill_at _ _ _ _ hlt, if_neg (by omega)] at c2
            have f2 := (unhide H2).2.2 k (by rw [fill_length]; exact hlt)
            go_wp2_with fail
            go_meet
            case rel =>
              refine ⟨(unhide HBr).setCell (unhide HH).2.1 _, (unhide H1).setOther _ _ (unhide HH).2.2.2.1.symm, ?_, (unhide H3).setOther _ _ (unhide HH).2.2.2.2.2⟩
              rw [← fill_set, byte_at c k kc]
              exact (unhide H2).set k (by rw [fill_length]; exact hlt) _
          · go_wp2_with fail
            go_meet
            case rel =>
              refine ⟨unhide HBr, unhide H1, ?_, unhide H3⟩
              rw [fill_same _ _ _ (byte_out c k (by omega))]
              exact unhide H2
        case rest =>
          obtain ⟨hBr, R1, R2, R3⟩ := hcut
          clear HBr H1 H2 H3
          have HBr := hide hBr
          have H1 := hide R1
          have H2 := hide R2
          have H3 := hide R3
          clear hBr R1 R2 R3
          have c1 := (unhide H1).2.1 k (by rw [fill_length]; exact hlt)
          have c2 := (unhide H2).2.1 k (by rw [fill_length]; exact hlt)
          have c3 := (unhide H3).2.1 k (by rw [fill_length]; exact hlt)
          have f3 := (unhide H3).2.2 k (by rw [fill_length]; exact hlt)
          rw [fill_at _ _ _ _ hlt, if_pos (by omega)] at c1 c2
          rw [fill_at _ _ _ _ hlt, if_neg (by omega)] at c3
          generalize hvb : b.data.toList.getD k 0 = vb at c1
          generalize hvc : c.data.toList.getD k 0 = vc at c2
          have Hvb := hide hvb
          have Hvc := hide hvc
          clear hvb hvc
          go_wp2_with fail
          go_region
          go_wp2_with fail
          go_roundw
          case rel =>
            refine ⟨k + 1, by omega, by go_num, ?_⟩
            rw [xor8, xor8]
            refine ⟨((unhide HBr).setCell (unhide HH).2.2.1 _).drew, ((unhide H1).setOther _ _ (unhide HH).2.2.2.2.1.symm).drewN 1, ((unhide H2).setOther _ _ (unhide HH).2.2.2.2.2.symm).drewN 1, ?_⟩
            rw [← fill_set, byte_at a k hlt, unhide Hvb, unhide Hvc]
            exact ((unhide H3).set k (by rw [fill_length]; exact hlt) _).drewN 1
          case measure => simp [intOf]; omega
    · have hk2 : k = a.size := by omega
      have HL : Hid (crc (fill (fun j => a.data.toList.getD j 0 ^^^ b.data.toList.getD j 0 ^^^ c.data.toList.getD j 0) a.size a.size) = crc a.data.toList ^^^ crc (fill (fun j => b.data.toList.getD j 0) a.size a.size) ^^^ crc (fill (fun j => c.data.toList.getD j 0) a.size a.size)) :=
        hide (fill_linear a.data.toList b.data.toList c.data.toList a.size (by simp))
      have l1 := fill_length (fun j => b.data.toList.getD j 0) a.size a.size
      have l2 := fill_length (fun j => c.data.toList.getD j 0) a.size a.size
      have l3 := fill_length (fun j => a.data.toList.getD j 0 ^^^ b.data.toList.getD j 0 ^^^ c.data.toList.getD j 0) a.size a.size
      rw [hk2] at H1 H2 H3
      generalize fill (fun j => b.data.toList.getD j 0) a.size a.size = X at *
      generalize fill (fun j => c.data.toList.getD j 0) a.size a.size = Y at *
      generalize fill (fun j => a.data.toList.getD j 0 ^^^ b.data.toList.getD j 0 ^^^ c.data.toList.getD j 0) a.size a.size = Z at *
      have v1 := fun n => conv_out ((unhide H1).drewN n) a.size a.size l1
      have v2 := fun n => conv_out ((unhide H2).drewN n) a.size a.size l2
      have v3 := fun n => conv_out ((unhide H3).drewN n) a.size a.size l3
      have s0 : a.size ≤ maxLen := by unfold maxLen; omega
      have s1 : (ByteArray.mk X.toArray).size ≤ maxLen := by show X.toArray.size ≤ maxLen; rw [List.size_toArray, l1]; exact s0
      have s2 : (ByteArray.mk Y.toArray).size ≤ maxLen := by show Y.toArray.size ≤ maxLen; rw [List.size_toArray, l2]; exact s0
      have s3 : (ByteArray.mk Z.toArray).size ≤ maxLen := by show Z.toArray.size ≤ maxLen; rw [List.size_toArray, l3]; exact s0
      have HS : Hid (a.size ≤ maxLen ∧ (ByteArray.mk X.toArray).size ≤ maxLen ∧ (ByteArray.mk Y.toArray).size ≤ maxLen ∧ (ByteArray.mk Z.toArray).size ≤ maxLen) := hide ⟨s0, s1, s2, s3⟩
      have HT2 : Hid (Tab wr) := hide ((unhide HT).below (unhide HBr))
      have Hk := hide hk2
      clear l1 l2 l3 s0 s1 s2 s3 hk2
      go_wp2_with fail
      go_quiet (first
        | (go_at_call_of 10 (Value.string a); exact Calls.quiet_of_same (crc_any _ _ (unhide HS).1 ((unhide HT2).drewN _)))
        | (go_at_call_of 10 (Value.string (ByteArray.mk X.toArray)); exact Calls.quiet_of_same (crc_any _ _ (unhide HS).2.1 ((unhide HT2).drewN _)))
        | (go_at_call_of 10 (Value.string (ByteArray.mk Y.toArray)); exact Calls.quiet_of_same (crc_any _ _ (unhide HS).2.2.1 ((unhide HT2).drewN _)))
        | (go_at_call_of 10 (Value.string (ByteArray.mk Z.toArray)); exact Calls.quiet_of_same (crc_any _ _ (unhide HS).2.2.2 ((unhide HT2).drewN _))))
      go_wp2
      go_ret
      refine ⟨ret_bool ?_, below_drewN (unhide HBr) _⟩
      rw [xor_bv, xor_bv, ← unhide HL]
      exact beq_self_eq_true _

theorem linear_far1 (a b c : ByteArray) (w : World) (_ha : a.size ≤ maxLen) (_hb : b.size ≤ maxLen) (_hc : c.size ≤ maxLen) (hT : Tab w) (ga : (30000 : Int) < a.size) :
    Calls Tryd.prog 6 #[.string a, .string b, .string c] w fun e w' => e = .returned (.bool true) ∧ Below w.heap.size w w' := by
  have HT : Hid (Tab w) := hide hT
  clear hT
  unfold maxLen at _ha _hb _hc
  have da : decide ((30000 : Int) < a.size) = true := decide_eq_true ga
  go_enter Tryd.func6, Tryd.ntmps6
  go_wp2_with fail
  refine (awake_any _ (unhide HT)).mono ?_
  rintro e w' ⟨rfl, rfl⟩
  go_wp2_with fail
  go_ret
  exact ⟨rfl, Below.refl _ _⟩
theorem linear_far2 (a b c : ByteArray) (w : World) (_hb : b.size ≤ maxLen) (_hc : c.size ≤ maxLen) (hT : Tab w) (ga : ¬ (30000 : Int) < a.size) (gb : (30000 : Int) < b.size) :
    Calls Tryd.prog 6 #[.string a, .string b, .string c] w fun e w' => e = .returned (.bool true) ∧ Below w.heap.size w w' := by
  have HT : Hid (Tab w) := hide hT
  clear hT
  unfold maxLen at _hb _hc
  have da : decide ((30000 : Int) < a.size) = false := decide_eq_false ga
  have db : decide ((30000 : Int) < b.size) = true := decide_eq_true gb
  go_enter Tryd.func6, Tryd.ntmps6
  go_wp2_with fail
  refine (awake_any _ (unhide HT)).mono ?_
  rintro e w' ⟨rfl, rfl⟩
  go_wp2_with fail
  go_ret
  exact ⟨rfl, Below.refl _ _⟩
theorem linear_far3 (a b c : ByteArray) (w : World) (_hc : c.size ≤ maxLen) (hT : Tab w) (ga : ¬ (30000 : Int) < a.size) (gb : ¬ (30000 : Int) < b.size) (gc : (30000 : Int) < c.size) :
    Calls Tryd.prog 6 #[.string a, .string b, .string c] w fun e w' => e = .returned (.bool true) ∧ Below w.heap.size w w' := by
  have HT : Hid (Tab w) := hide hT
  clear hT
  unfold maxLen at _hc
  have da : decide ((30000 : Int) < a.size) = false := decide_eq_false ga
  have db : decide ((30000 : Int) < b.size) = false := decide_eq_false gb
  have dc : decide ((30000 : Int) < c.size) = true := decide_eq_true gc
  go_enter Tryd.func6, Tryd.ntmps6
  go_wp2_with fail
  refine (awake_any _ (unhide HT)).mono ?_
  rintro e w' ⟨rfl, rfl⟩
  go_wp2_with fail
  go_ret
  exact ⟨rfl, Below.refl _ _⟩
theorem linear_any (a b c : ByteArray) (w : World) (ha : a.size ≤ maxLen) (hb : b.size ≤ maxLen) (hc : c.size ≤ maxLen) (hT : Tab w) :
    Calls Tryd.prog 6 #[.string a, .string b, .string c] w fun e w' => e = .returned (.bool true) ∧ Below w.heap.size w w' := by
  by_cases ga : (30000 : Int) < a.size
  · exact linear_far1 a b c w ha hb hc hT ga
  by_cases gb : (30000 : Int) < b.size
  · exact linear_far2 a b c w hb hc hT ga gb
  by_cases gc : (30000 : Int) < c.size
  · exact linear_far3 a b c w hc hT ga gb gc
  obtain ⟨w1, m1, b1, r1, z1⟩ := make_in w a.size (by omega)
  obtain ⟨w2, m2, b2, r2, z2⟩ := make_in w1 a.size (by omega)
  obtain ⟨w3, m3, b3, r3, z3⟩ := make_in w2 a.size (by omega)
  exact linear_near a b c w w1 w2 w3 w.heap.size w1.heap.size w2.heap.size (by omega) (by omega) (by omega) hT m1 m2 m3
    ((b1.trans (b2.mono b1.size)).trans (b3.mono (Nat.le_trans b1.size b2.size))) (Nat.le_refl _) b1.size (Nat.le_trans b1.size b2.size) (by omega) (by omega) (by omega)
    ((r1.below b2 z1).below b3 (by omega)) (r2.below b3 z2) r3
end Go.Proofs.YtgnodokjfaibbaaDoor

/- What PackAlone does, for any list of parts: it answers true, and of what was there nothing has turned. No conditions. -/
import Derived.Test.YthjoojbdjinonabWritesWalk
import Derived.Deep.OwnRows
namespace Go.Proofs.Ythjoojbdjinonab
open Pk Go.RowKit

/-- Block B's first cells are l's bytes, and may be written. -/
def RowIs (w : World) (B : Nat) (l : List UInt8) : Prop :=
  B < w.heap.size ∧ (∀ j, j < l.length → w.cell? ⟨B, j, none⟩ = some (.int .u8 ((l.getD j 0).toNat : Int))) ∧ ∀ j, j < l.length → w.frozen? ⟨B, j, none⟩ = false
theorem RowIs.set {w : World} {B : Nat} {l : List UInt8} (h : RowIs w B l) (i : Nat) (hi : i < l.length) (v : UInt8) : RowIs (w.setCell ⟨B, i, none⟩ (.int .u8 (v.toNat : Int))) B (l.set i v) := by
  refine ⟨by rw [World.size_setCell]; exact h.1, fun j hj => ?_, fun j hj => ?_⟩
  · rw [List.length_set] at hj
    by_cases e : i = j
    · subst e
      rw [World.cell?_setCell_same (h := h.2.1 i hi), List.getD_eq_getElem?_getD, List.getElem?_set_self hi]
      rfl
    · rw [World.cell?_setCell_other (h := fun he => e (congrArg Addr.off he)), h.2.1 j hj, List.getD_eq_getElem?_getD (l := l.set i v), List.getElem?_set_ne e, ← List.getD_eq_getElem?_getD]
  · rw [List.length_set] at hj
    rw [World.frozen?_setCell]; exact h.2.2 j hj
/-- 'make([]byte, n)'. -/
theorem make_in (w : World) (n : Nat) (hn : n ≤ 30000) : ∃ w1 : World,
    Sem.run Try.prog (Instr.makeSlice 25 (.int .i64 (n : Int)) (.int .i64 (n : Int))) w = .ok (.slice (some ⟨w.heap.size, 0, none⟩) n n) w1 ∧ Below w.heap.size w w1 ∧ RowIs w1 w.heap.size (List.replicate n 0) := by
  refine ⟨_, run_make_row' 25 5 (.int .u8 0) 1 Try.underlying25 info5 rfl .i64 .i64 n (by omega) (by omega) w, (Below.refl _ _).alloc (Nat.le_refl _) _, ⟨by simp, fun j hj => ?_, fun j hj => ?_⟩⟩
  · have hj' : j < n := by simpa using hj
    rw [World.cell?_alloc_new]
    simp [madeCells, hj', List.getD_eq_getElem?_getD, Nat.mod_one]
  · exact World.frozen?_alloc_new w _ 5 j
/-- 'string(t)'. -/
theorem conv_out {w : World} {B : Nat} {l : List UInt8} (h : RowIs w B l) (n cap : Nat) (hn : l.length = n) :
    Sem.run Try.prog (convert 25 9 (.slice (some ⟨B, 0, none⟩) n cap)) w = .ok (.string ⟨l.toArray⟩) w := by
  subst hn
  refine run_convert_bytes_back w 25 9 5 ⟨B, 0, none⟩ cap l Try.underlying25 Try.underlying5 Try.underlying9 ?_
  intro j hj
  have hplain : (⟨B, 0, none⟩ : Addr).add j = ⟨B, j, none⟩ := by unfold Addr.add; split <;> simp_all
  rw [hplain, h.2.1 j hj, List.getD_eq_getElem?_getD, List.getElem?_eq_getElem hj]
  rfl

/-- The bytes from 0 on, k of n laid. -/
def rowOf (n k : Nat) : List UInt8 := (List.range n).map fun j => if j < k then UInt8.ofNat j else 0
def markList (n : Nat) : List UInt8 := (List.range n).map UInt8.ofNat
theorem rowOf_zero (n : Nat) : rowOf n 0 = List.replicate n 0 := by
  unfold rowOf
  rw [List.eq_replicate_iff]
  exact ⟨by simp, fun b hb => by simp at hb; exact hb.2.symm⟩
theorem rowOf_all (n : Nat) : rowOf n n = markList n := by
  unfold rowOf markList
  apply List.map_congr_left
  intro j hj
  rw [if_pos (List.mem_range.1 hj)]
theorem rowOf_set (n k : Nat) : (rowOf n k).set k (UInt8.ofNat k) = rowOf n (k + 1) := by
  apply List.ext_getElem?
  intro j
  unfold rowOf
  rw [List.getElem?_set]
  by_cases e : k = j
  · subst e
    by_cases hn : k < n
    · simp [hn]
    · simp [hn]
  · rw [if_neg e]
    by_cases hn : j < n
    · have : (j < k + 1) = (j < k) := propext ⟨fun h => by omega, fun h => by omega⟩
      simp [hn, this]
    · simp [hn]
theorem rowOf_length (n k : Nat) : (rowOf n k).length = n := by simp [rowOf]
theorem markList_succ (n : Nat) : markList (n + 1) = markList n ++ [UInt8.ofNat n] := by
  unfold markList
  rw [List.range_succ, List.map_append]; rfl
theorem markList_length (n : Nat) : (markList n).length = n := by simp [markList]

set_option maxHeartbeats 1000000 in
theorem marks_any (n : Nat) (hn : n ≤ 501) (w : World) : Calls Try.prog 9 #[.int .i64 (n : Int)] w fun e w' => ∃ B, e = .returned (.slice (some ⟨B, 0, none⟩) n n) ∧ RowIs w' B (markList n) ∧ Below w.heap.size w w' := by
  obtain ⟨w1, hmk, hb1, hr1⟩ := make_in w n (by omega)
  have Hb := hide hb1
  have Hr := hide hr1
  clear hb1 hr1
  go_enter Try.func9, Try.ntmps9
  go_wp2_with fail
  go_loopw [4] (fun i wr => ∃ k : Nat, k ≤ n ∧ i = .int .i64 k ∧ RowIs wr w.heap.size (rowOf n k) ∧ Below w.heap.size w wr) (fun i _ => n - (intOf i).toNat)
  case atStart => exact ⟨0, by omega, rfl, by rw [rowOf_zero]; exact unhide Hr, unhide Hb⟩
  case round =>
    obtain ⟨k, hk, rfl, hr, hb⟩ := hrel
    have Hb2 := hide hb
    clear hb
    by_cases hlt : k < n
    · have hc := hr.2.1 k (by rw [rowOf_length]; exact hlt)
      have hf := hr.2.2 k (by rw [rowOf_length]; exact hlt)
      have hs := hr.set k (by rw [rowOf_length]; exact hlt) (UInt8.ofNat k)
      rw [rowOf_set] at hs
      have hv : (((UInt8.ofNat k).toNat : Nat) : Int) = (k : Int) % 256 := by rw [UInt8.toNat_ofNat']; omega
      rw [hv] at hs
      have Hs := hide hs
      clear hr hs hv
      go_wp2_with fail
      go_roundw
      case rel => exact ⟨k + 1, by omega, by go_num, unhide Hs, (unhide Hb2).setCell (Nat.le_refl _) _⟩
      case measure => simp [intOf]; omega
    · have hkn : k = n := by omega
      subst hkn
      have Hr2 := hide hr
      clear hr
      go_wp2_with fail
      go_ret
      refine ⟨w.heap.size, rfl, ?_, unhide Hb2⟩
      have := unhide Hr2
      rw [rowOf_all] at this
      exact this

theorem mark_ok (b : UInt8) : PartV.Ok ⟨3, 0, 0, ⟨#[]⟩, b, 0⟩ :=
  ⟨(show i64In 3 from ⟨by decide, by decide⟩), (show 0 < 2 ^ 64 by decide), (show i64In 0 from ⟨by decide, by decide⟩), (show (ByteArray.mk #[]).size ≤ maxLen from Nat.zero_le _), (show i64In 0 from ⟨by decide, by decide⟩)⟩
theorem mark_bytes (b : UInt8) : partBytes ⟨3, 0, 0, ⟨#[]⟩, b, 0⟩ = [b] := by simp [partBytes]

set_option maxRecDepth 100000 in
set_option maxHeartbeats 2000000 in
theorem alone_any (a : Option Addr) (len cap : Nat) (z : List PartV) (w : World) (hs : IsParts w a len cap z) :
    Calls Try.prog 3 #[.slice a len cap] w fun e w' => e = .returned (.bool true) ∧ Below w.heap.size w w' := by
  have HS := hide hs
  have hl := hs.max
  have hz := hs.size_
  unfold maxLen at hl
  have OK : Hid (∀ k, k < z.length → (z.getD k PartV.zero).Ok) := hide (fun k hk => by obtain ⟨_, _, _, _, ok, _⟩ := hs.at_ k (by omega); exact ok)
  clear hs
  cases hg : great z with
  | true =>
    have Hg := hide hg
    clear hg
    go_enter Try.func3, Try.ntmps3
    go_wp2_with fail
    refine (awake_any _).mono ?_
    rintro e w1 ⟨rfl, hB⟩
    have B := hide hB
    clear hB
    go_wp2_with fail
    refine (great_any a len cap z _ ((unhide HS).below (unhide B))).mono ?_
    rintro e w2 ⟨rfl, rfl⟩
    rw [unhide Hg]
    go_wp2_with fail
    go_ret
    exact ⟨rfl, unhide B⟩
  | false =>
    have Hg := hide hg
    have hlen := (great_false hg).1
    clear hg
    go_enter Try.func3, Try.ntmps3
    go_wp2_with fail
    refine (awake_any _).mono ?_
    rintro e w1 ⟨rfl, hB⟩
    have B := hide hB
    clear hB
    go_wp2_with fail
    refine (great_any a len cap z _ ((unhide HS).below (unhide B))).mono ?_
    rintro e w2 ⟨rfl, rfl⟩
    rw [unhide Hg]
    have hx : w.heap.size ≤ w2.heap.size := (unhide B).size
    have n0 := out_alloc (out_new w2) newOut
    have n1 := out_new (w2.alloc newOut)
    simp only [World.size_alloc] at n1
    have O0 := hide n0
    have O1 := hide n1
    have B2 := hide ((unhide B).trans (((Below.refl w.heap.size w2).alloc hx newOut).alloc (by simp; omega) newOut))
    clear B n0 n1
    go_wp2_with fail
    generalize (w2.alloc newOut).alloc newOut = wA at *
    generalize w2.heap.size = x at *
    go_loopw [5] (fun i wr => ∃ k : Nat, k ≤ len ∧ i = .int .i64 k ∧ ∃ a1 c1 a2 c2, OutAt wr x a1 c1 (catTo z k) ∧ OutAt wr (x + 1) a2 c2 (markList k) ∧ (∀ y, a1 = some y → w.heap.size ≤ y.block) ∧ (∀ y, a2 = some y → w.heap.size ≤ y.block) ∧ (∀ i, foot x a1 i → ¬ foot (x + 1) a2 i) ∧ Below w.heap.size w wr) (fun i _ => len - (intOf i).toNat)
    case atStart => exact ⟨0, by omega, rfl, none, 0, none, 0, unhide O0, unhide O1, (fun y hy => by cases hy), (fun y hy => by cases hy), (fun i h1 h2 => by have := foot_none h1; have := foot_none h2; omega), unhide B2⟩
    case round =>
      obtain ⟨k, hk, rfl, a1, c1, a2, c2, ho, hp, ha1, ha2, hd, hB⟩ := hrel
      have B := hide hB
      have O := hide ho
      have P := hide hp
      have A1 := hide ha1
      have A2 := hide ha2
      have D := hide hd
      clear ho hp ha1 ha2 hd hB O0 O1 B2
      by_cases hlt : k < len
      · obtain ⟨b, o, rfl, hat, ok, hb⟩ := (unhide HS).at_ k hlt
        have hps := part_small (unhide Hg) k (by omega)
        have hc := catTo_small (unhide Hg) (unhide OK) k (by omega)
        have hc2 := catTo_small (unhide Hg) (unhide OK) (k + 1) (by omega)
        have hst := hide (show catTo z (k + 1) = catTo z k ++ partBytes (z.getD k PartV.zero) from rfl)
        rw [unhide hst] at hc2
        generalize z.getD k PartV.zero = p at *
        generalize catTo z k = l at *
        have HAT := hide (fun (w' : World) (hB : Below w.heap.size w w') => hat.keep (Moved.of_below (F := fun _ => False) hB) hb id)
        clear hat
        have hml := markList_length k
        have hms := hide (markList_succ k)
        generalize markList k = ml at *
        have hv : (k : Int) % 256 = (((UInt8.ofNat k).toNat : Nat) : Int) := by rw [UInt8.toNat_ofNat']; omega
        generalize UInt8.ofNat k = kb at *
        go_wp2_with fail
        refine (string_any (unhide O)).mono ?_
        rintro e w3 ⟨rfl, rfl⟩
        obtain ⟨e0, e1, e2, e3, e4, e5⟩ := unhide HAT _ (unhide B)
        go_wp2_with fail
        refine (write_any p ok (unhide O) (by omega)).mono ?_
        rintro e w4 ⟨rfl, a3, c3, o3, f3, m3⟩
        have ha3 : ∀ y, a3 = some y → w.heap.size ≤ y.block := fun y hy => by
          rcases f3 y hy with h | h
          · exact unhide A1 y h
          · exact Nat.le_trans (unhide B).size h
        have B3 := hide ((unhide B).trans (m3.below (fun i h => (foot_ge (w := w3) hx (unhide A1) h).elim id (fun h => Nat.le_trans (unhide B).size h)) (unhide B).size))
        have P3 := hide ((unhide P).keep m3 (unhide D))
        have D3 := hide (fun i (h1 : foot x a3 i) (h2 : foot (x + 1) a2 i) => by
          rcases f3.foot i h1 with h | h
          · exact unhide D i h h2
          · have := (unhide P).lt i h2
            omega)
        have O3 := hide o3
        have A3 := hide ha3
        clear e0 e1 e2 e3 e4 e5 o3 f3 m3 ha3 O P D B A1
        go_wp2_with fail
        have hval : PartV.val ⟨3, 0, 0, ⟨#[]⟩, kb, 0⟩ = .agg #[.int .i64 3, .int .u64 0, .int .i64 0, .string ⟨#[]⟩, .int .u8 ((kb.toNat : Nat) : Int), .int .i64 0] := rfl
        rw [← hval]
        refine (write_any _ (mark_ok kb) (unhide P3) (by show ml.length + 10 + 0 ≤ 1099511627776; omega)).mono ?_
        rintro e w5 ⟨rfl, a4, c4, o4, f4, m4⟩
        rw [mark_bytes kb] at o4
        have ha4 : ∀ y, a4 = some y → w.heap.size ≤ y.block := fun y hy => by
          rcases f4 y hy with h | h
          · exact unhide A2 y h
          · exact Nat.le_trans (unhide B3).size h
        have B4 := hide ((unhide B3).trans (m4.below (fun i h => (foot_ge (w := w4) (by omega) (unhide A2) h).elim id (fun h => Nat.le_trans (unhide B3).size h)) (unhide B3).size))
        have O4 := hide ((unhide O3).keep m4 (fun i h1 h2 => unhide D3 i h2 h1))
        have D4 := hide (fun i (h1 : foot x a3 i) (h2 : foot (x + 1) a4 i) => by
          rcases f4.foot i h2 with h | h
          · exact unhide D3 i h1 h
          · have := (unhide O3).lt i h1
            omega)
        have P4 := hide o4
        have A4 := hide ha4
        clear o4 f4 m4 ha4 O3 P3 D3 B3 A2 hval
        go_wp2_with fail
        refine (string_any (unhide O4)).mono ?_
        rintro e w6 ⟨rfl, rfl⟩
        go_wp2_with fail
        refine (begins_any _ _ (by rw [out_size]; unfold maxLen; omega) (by rw [out_size]; unfold maxLen; omega) _).mono ?_
        rintro e w7 ⟨rfl, rfl⟩
        rw [show pre (ByteArray.mk l.toArray).data.toList (ByteArray.mk (l ++ partBytes p).toArray).data.toList = true from (pre_iff _ _).2 ⟨partBytes p, by simp⟩]
        go_wp2_with fail
        refine (string_any (unhide P4)).mono ?_
        rintro e w8 ⟨rfl, rfl⟩
        go_wp2_with fail
        have hcast : (k : Int) + 1 = ((k + 1 : Nat) : Int) := by omega
        rw [hcast]
        refine (marks_any (k + 1) (by omega) _).mono ?_
        rintro e w9 ⟨B9, rfl, r9, b9⟩
        have hcv := conv_out r9 (k + 1) (k + 1) (markList_length _)
        rw [unhide hms] at hcv
        have B5 := hide ((unhide B4).trans (b9.mono (unhide B4).size))
        replace O4 := hide ((unhide O4).keep (Moved.of_below (F := fun _ => False) b9) (fun _ h => h.elim))
        replace P4 := hide ((unhide P4).keep (Moved.of_below (F := fun _ => False) b9) (fun _ h => h.elim))
        clear r9 b9 B4 hcast
        go_wp2_with fail
        go_roundw
        case rel => exact ⟨k + 1, by omega, by go_num, a3, c3, a4, c4, by rw [unhide hst]; exact unhide O4, by rw [unhide hms]; exact unhide P4, unhide A3, unhide A4, unhide D4, unhide B5⟩
        case measure => simp [intOf]; omega
      · have hkl : k = len := by omega
        have hc := catTo_small (unhide Hg) (unhide OK) k (by omega)
        generalize catTo z k = l at *
        have hsz := out_size l
        have LT := hide (unhide O).lt
        go_wp2_with fail
        refine (string_any (unhide O)).mono ?_
        rintro e w3 ⟨rfl, rfl⟩
        go_wp2_with fail
        refine (of_any ⟨l.toArray⟩ (by omega) _).mono ?_
        rintro e w4 ⟨rfl, i, m⟩
        have hx1 := (unhide B).size
        have B4 := hide ((unhide B).trans (m.below (fun _ h => h.elim) (unhide B).size))
        replace O := hide ((unhide O).keep m (fun _ h => h.elim))
        have I := hide i
        have hlt1 := i.lt
        generalize w3.heap.size = xi at *
        clear i m B
        go_wp2_with fail
        refine (of_any ⟨l.toArray⟩ (by omega) _).mono ?_
        rintro e w5 ⟨rfl, i, m⟩
        have B5 := hide ((unhide B4).trans (m.below (fun _ h => h.elim) (unhide B4).size))
        replace O := hide ((unhide O).keep m (fun _ h => h.elim))
        replace I := hide ((unhide I).keep m id)
        have J := hide i
        generalize w4.heap.size = xj at *
        clear i m B4
        go_wp2_with fail
        refine (in_byte (unhide J)).mono ?_
        rintro e w6 ⟨rfl, i, m⟩
        have B6 := hide ((unhide B5).trans (m.below (fun i h => by have h' : i = xj := h; omega) (unhide B5).size))
        replace O := hide ((unhide O).keep m (fun k hk hf => by have := (unhide LT) k hf; have hk' : k = xj := hk; omega))
        replace I := hide ((unhide I).keep m (show ¬ (xi = xj) by omega))
        clear J m B5
        have J := hide i
        clear i
        go_wp2_with fail
        refine (in_num (unhide J)).mono ?_
        rintro e w7 ⟨rfl, i, m⟩
        have B7 := hide ((unhide B6).trans (m.below (fun i h => by have h' : i = xj := h; omega) (unhide B6).size))
        replace O := hide ((unhide O).keep m (fun k hk hf => by have := (unhide LT) k hf; have hk' : k = xj := hk; omega))
        replace I := hide ((unhide I).keep m (show ¬ (xi = xj) by omega))
        clear J m B6 i
        go_wp2_with fail
        refine (left_any (unhide I)).mono ?_
        rintro e w8 ⟨rfl, m⟩
        replace O := hide ((unhide O).keep m (fun _ h => h.elim))
        have B8 := hide ((unhide B7).trans (m.below (fun _ h => h.elim) (unhide B7).size))
        clear m
        rw [Nat.sub_zero]
        go_wp2_with fail
        refine (string_any (unhide O)).mono ?_
        rintro e w9 ⟨rfl, rfl⟩
        go_wp2_with fail
        go_ret
        exact ⟨rfl, unhide B8⟩
end Go.Proofs.Ythjoojbdjinonab

/- What SumTail does, for any two texts: it answers true, and nothing that was there has turned. Condition: the table's sixteen cells hold its numbers. -/
import Derived.Test.YtgnodokjfaibbaaDoorRowMem
import Derived.Laws.BytesArg
namespace Go.Proofs.YtgnodokjfaibbaaDoor
open Crc Go.RowKit

theorem conv4 (w : World) (z0 z1 z2 z3 : Int) :
    Sem.run Tryd.prog (convert 27 9 (.slice (some ⟨w.heap.size, 0, none⟩) 4 4)) (w.alloc (.cells #[.int .u8 z0, .int .u8 z1, .int .u8 z2, .int .u8 z3] 5)) =
      .ok (.string (strOfNums [z0, z1, z2, z3])) (w.alloc (.cells #[.int .u8 z0, .int .u8 z1, .int .u8 z2, .int .u8 z3] 5)) := by
  refine run_convert_bytes_arg _ 27 5 Tryd.underlying27 Tryd.underlying5 w.heap.size 0 4 4 [z0, z1, z2, z3] rfl ?_ 9 Tryd.underlying9
  intro i hi
  have : i = 0 ∨ i = 1 ∨ i = 2 ∨ i = 3 := by omega
  rcases this with rfl | rfl | rfl | rfl <;> simp

theorem size4 (z0 z1 z2 z3 : Int) : (strOfNums [z0, z1, z2, z3]).size = 4 := by rw [strOfNums_size]; rfl
theorem tail_bytes (s : ByteArray) (c : BitVec 32) : s ++ strOfNums [(c.toNat : Int) % 256, (c.toNat : Int) / 256 % 256, (c.toNat : Int) / 65536 % 256, (c.toNat : Int) / 16777216] = ⟨(s.data.toList ++ four c).toArray⟩ := by
  apply bytes_ext
  rw [ByteArray.data_append, Array.toList_append, strOfNums_data]
  have hc := c.isLt
  have e0 : UInt8.ofNat ((c.toNat : Int) % 256).toNat = UInt8.ofNat c.toNat := by
    apply UInt8.toNat_inj.1; simp only [UInt8.toNat_ofNat']; omega
  have e1 : UInt8.ofNat ((c.toNat : Int) / 256 % 256).toNat = UInt8.ofNat (c.toNat / 256) := by
    apply UInt8.toNat_inj.1; simp only [UInt8.toNat_ofNat']; omega
  have e2 : UInt8.ofNat ((c.toNat : Int) / 65536 % 256).toNat = UInt8.ofNat (c.toNat / 65536) := by
    apply UInt8.toNat_inj.1; simp only [UInt8.toNat_ofNat']; omega
  have e3 : UInt8.ofNat ((c.toNat : Int) / 16777216).toNat = UInt8.ofNat (c.toNat / 16777216) := by
    apply UInt8.toNat_inj.1; simp only [UInt8.toNat_ofNat']; omega
  simp only [List.map_cons, List.map_nil, e0, e1, e2, e3, four]
set_option maxHeartbeats 400000 in
theorem tailed_any (s : ByteArray) (w : World) (hs : s.size ≤ 30000) (hT : Tab w) :
    Calls Tryd.prog 14 #[.string s] w fun e w' => e = .returned (.string ⟨(s.data.toList ++ four (crc s.data.toList)).toArray⟩) ∧ Below w.heap.size w w' := by
  have HT : Hid (Tab w) := hide hT
  clear hT
  have hs' : s.size ≤ maxLen := by unfold maxLen; omega
  have hcv := conv4
  have hsz := size4
  go_enter Tryd.func14, Tryd.ntmps14
  go_wp2_with fail
  refine (crc_any _ _ hs' (unhide HT)).mono ?_
  rintro e w' ⟨rfl, rfl⟩
  generalize hc : crc s.data.toList = c
  have Hc := hide hc
  clear hc
  go_wp2_with fail
  go_ret
  refine ⟨ret_string ?_, (Below.refl _ _).alloc (Nat.le_refl _) _⟩
  rw [tail_bytes, unhide Hc]

def tailC : Int := (((~~~ (Ln 32 (~~~ 0#32))).toNat : Nat) : Int)
theorem tail_crc (a : ByteArray) (w : World) (ha : a.size ≤ 30000) (hT : Tab w) :
    Calls Tryd.prog 10 #[.string ⟨(a.data.toList ++ four (crc a.data.toList)).toArray⟩] w fun e w' => e = .returned (.int .u32 tailC) ∧ w' = w := by
  refine (crc_any ⟨(a.data.toList ++ four (crc a.data.toList)).toArray⟩ w ?_ hT).mono ?_
  · have h4 : (four (crc a.data.toList)).length = 4 := rfl
    have e : (ByteArray.mk (a.data.toList ++ four (crc a.data.toList)).toArray).size = a.size + 4 := by
      simp only [ByteArray.size, List.size_toArray, List.length_append, h4, Array.length_toList]
    rw [e]; unfold maxLen; omega
  · rintro e w' ⟨rfl, rfl⟩
    refine ⟨ret_u32 ?_, rfl⟩
    show (((crc (a.data.toList ++ four (crc a.data.toList))).toNat : Nat) : Int) = tailC
    rw [crc_tail]
    rfl

set_option maxHeartbeats 400000 in
theorem tail_near (a b : ByteArray) (w : World) (ha : a.size ≤ 30000) (hb : b.size ≤ 30000) (hT : Tab w) :
    Calls Tryd.prog 7 #[.string a, .string b] w fun e w' => e = .returned (.bool true) ∧ Below w.heap.size w w' := by
  have HT : Hid (Tab w) := hide hT
  clear hT
  have ga : ¬ (30000 : Int) < a.size := by omega
  have gb : ¬ (30000 : Int) < b.size := by omega
  go_enter Tryd.func7, Tryd.ntmps7
  go_wp2_with fail
  refine (awake_any _ (unhide HT)).mono ?_
  rintro e w' ⟨rfl, rfl⟩
  go_wp2_with fail
  refine (tailed_any a _ ha (unhide HT)).mono ?_
  rintro e w1 ⟨rfl, b1⟩
  have HT1 : Hid (Tab w1) := hide ((unhide HT).below b1)
  have B1 := hide b1
  clear b1
  go_wp2_with fail
  refine (tail_crc a _ ha (unhide HT1)).mono ?_
  rintro e w2 ⟨rfl, rfl⟩
  go_wp2_with fail
  refine (tailed_any b _ hb (unhide HT1)).mono ?_
  rintro e w3 ⟨rfl, b3⟩
  have HT3 : Hid (Tab w3) := hide ((unhide HT1).below b3)
  have B3 := hide b3
  clear b3
  go_wp2_with fail
  refine (tail_crc b _ hb (unhide HT3)).mono ?_
  rintro e w4 ⟨rfl, rfl⟩
  go_wp2_with fail
  go_ret
  exact ⟨rfl, (unhide B1).trans ((unhide B3).mono (unhide B1).size)⟩

theorem tail_far (a b : ByteArray) (w : World) (_ha : a.size ≤ maxLen) (_hb : b.size ≤ maxLen) (h : (30000 : Int) < a.size ∨ ((30000 : Int) < a.size) = False ∧ (30000 : Int) < b.size) (hT : Tab w) :
    Calls Tryd.prog 7 #[.string a, .string b] w fun e w' => e = .returned (.bool true) ∧ Below w.heap.size w w' := by
  have HT : Hid (Tab w) := hide hT
  clear hT
  unfold maxLen at _ha _hb
  rcases h with h | ⟨h', h⟩
  · go_enter Tryd.func7, Tryd.ntmps7
    go_wp2_with fail
    refine (awake_any _ (unhide HT)).mono ?_
    rintro e w' ⟨rfl, rfl⟩
    go_wp2_with fail
    go_ret
    exact ⟨rfl, Below.refl _ _⟩
  · go_enter Tryd.func7, Tryd.ntmps7
    go_wp2_with fail
    refine (awake_any _ (unhide HT)).mono ?_
    rintro e w' ⟨rfl, rfl⟩
    go_wp2_with fail
    go_ret
    exact ⟨rfl, Below.refl _ _⟩

theorem tail_any (a b : ByteArray) (w : World) (ha : a.size ≤ maxLen) (hb : b.size ≤ maxLen) (hT : Tab w) :
    Calls Tryd.prog 7 #[.string a, .string b] w fun e w' => e = .returned (.bool true) ∧ Below w.heap.size w w' := by
  by_cases h1 : (30000 : Int) < a.size
  · exact tail_far a b w ha hb (.inl h1) hT
  · by_cases h2 : (30000 : Int) < b.size
    · exact tail_far a b w ha hb (.inr ⟨eq_false h1, h2⟩) hT
    · exact tail_near a b w (by omega) (by omega) hT
end Go.Proofs.YtgnodokjfaibbaaDoor

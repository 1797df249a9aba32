/- What the program's written, sumOf, read and Clone, and the document's own four, answer. Condition: the table's sixteen cells hold its numbers. -/
import Derived.Test.YtkbmbcmcnpeabaaDoorFRowMem
import Derived.Test.YtkbmbcmcnpeabaaDoorFFrameMath
import Derived.BigQuiet
import Derived.Deep.RegionWith
import Derived.Deep.CutRange
import Derived.RegionTactic
import Derived.Deep.QuietTactic
import Derived.WalkSmall
import Derived.Lib.EndianBits
import Derived.Test.YtkbmbcmcnpeabaaDoorFClone
namespace Go.Proofs.YtkbmbcmcnpeabaaDoor.Fm
open Crc Go.RowKit

/-- The block of a number's four bytes, and what it reads as. -/
def fourBlock (c : BitVec 32) : Obj := .cells #[.int .u8 ((c.toNat : Int) % 256), .int .u8 ((c.toNat : Int) / 256 % 256), .int .u8 ((c.toNat : Int) / 65536 % 256), .int .u8 ((c.toNat : Int) / 16777216)] 5
theorem four_conv (c : BitVec 32) (w : World) :
    Sem.run Tryd.prog (convert 48 9 (.slice (some ⟨w.heap.size, 0, none⟩) 4 4)) (w.alloc (.cells #[.int .u8 ((c.toNat : Int) % 256), .int .u8 ((c.toNat : Int) / 256 % 256), .int .u8 ((c.toNat : Int) / 65536 % 256), .int .u8 ((c.toNat : Int) / 16777216)] 5)) = .ok (.string ⟨(four c).toArray⟩) (w.alloc (fourBlock c)) := by
  have hc := c.isLt
  refine run_convert_bytes_back _ 48 9 5 ⟨w.heap.size, 0, none⟩ 4 (four c) Tryd.underlying48 Tryd.underlying5 Tryd.underlying9 ?_
  intro j hj
  have hj' : j < 4 := hj
  have hplain : (⟨w.heap.size, 0, none⟩ : Addr).add j = ⟨w.heap.size, j, none⟩ := by unfold Addr.add; split <;> simp_all
  rw [hplain]
  refine (World.cell?_alloc_new ..).trans ?_
  match j, hj' with
  | 0, _ => simp [four]
  | 1, _ => simp [four]
  | 2, _ => simp [four]
  | 3, _ =>
    simp [four]
    omega

set_option maxHeartbeats 400000 in
theorem written_any (c : BitVec 32) (w : World) :
    Calls Tryd.prog 58 #[.int .u32 (c.toNat : Int)] w fun e w' => e = .returned (.string ⟨(four c).toArray⟩) ∧ Below w.heap.size w w' := by
  have hc := c.isLt
  have hv := four_conv c w
  go_enter Tryd.func58, Tryd.ntmps58
  go_wp2_with fail
  go_ret
  exact ⟨rfl, (Below.refl _ _).alloc (Nat.le_refl _) _⟩
set_option maxHeartbeats 400000 in
theorem ref_four_any (c : BitVec 32) (w : World) :
    Calls Tryd.prog 33 #[.int .u32 (c.toNat : Int)] w fun e w' => e = .returned (.string ⟨(four c).toArray⟩) ∧ Below w.heap.size w w' := by
  have hc := c.isLt
  have hv := four_conv c w
  go_enter Tryd.func33, Tryd.ntmps33
  go_wp2_with fail
  go_ret
  exact ⟨rfl, (Below.refl _ _).alloc (Nat.le_refl _) _⟩
theorem sumOf_any (s : ByteArray) (w : World) (hs : s.size ≤ maxLen) (hT : Tab w) :
    Calls Tryd.prog 59 #[.string s] w fun e w' => e = .returned (.string ⟨(four (crc s.data.toList)).toArray⟩) ∧ Below w.heap.size w w' := by
  have HT : Hid (Tab w) := hide hT
  clear hT
  go_enter Tryd.func59, Tryd.ntmps59
  go_wp2_with fail
  refine (crc_any s _ hs (unhide HT)).mono ?_
  rintro e w' ⟨rfl, rfl⟩
  go_wp2_with fail
  refine (written_any _ _).mono ?_
  rintro e w1 ⟨rfl, hB⟩
  have B := hide hB
  clear hB
  go_wp2_with fail
  go_ret
  exact ⟨rfl, unhide B⟩

theorem byte_at (s : ByteArray) (k : Nat) (h : k < s.size) : s.data.toList.getD k 0 = s[k] := by
  rw [List.getD_eq_getElem?_getD, List.getElem?_eq_getElem (by simpa using h)]; rfl
theorem take4_at (l : List UInt8) (k : Nat) (h : k < 4) : (l.take 4).getD k 0 = l.getD k 0 := by
  rw [List.getD_eq_getElem?_getD, List.getD_eq_getElem?_getD, List.getElem?_take_of_lt h]
theorem le4_at (s : ByteArray) (h : 4 ≤ s.size) : le4 (s.data.toList.take 4) = s[0].toNat + 256 * s[1].toNat + 65536 * s[2].toNat + 16777216 * s[3].toNat := by
  unfold le4
  rw [take4_at _ 0 (by decide), take4_at _ 1 (by decide), take4_at _ 2 (by decide), take4_at _ 3 (by decide), byte_at s 0 (by omega), byte_at s 1 (by omega), byte_at s 2 (by omega), byte_at s 3 (by omega)]
/-- Four bytes, put together by shifts. -/
theorem or4 (a b c d : UInt8) : bits .or .u32 (bits .or .u32 (bits .or .u32 ((a.toNat : Int) % 4294967296) ((b.toNat : Int) % 4294967296 * 256 % 4294967296)) ((c.toNat : Int) % 4294967296 * 65536 % 4294967296)) ((d.toNat : Int) % 4294967296 * 16777216 % 4294967296)
    = ((a.toNat + 256 * b.toNat + 65536 * c.toNat + 16777216 * d.toNat : Nat) : Int) := by
  have ha := a.toNat_lt
  have hb := b.toNat_lt
  have hc := c.toNat_lt
  have hd := d.toNat_lt
  simp (disch := omega) only [u32_or8, u32_or16, u32_or24]
  omega
theorem read_any (s : ByteArray) (w : World) (h4 : 4 ≤ s.size) :
    Calls Tryd.prog 75 #[.string s] w fun e w' => e = .returned (.int .u32 (le4 (s.data.toList.take 4) : Nat)) ∧ ∃ n, w' = w.drewN n := by
  have h0 : 0 < s.size := by omega
  have h1 : (1 : Int) < (s.size : Int) := by omega
  have h2 : (2 : Int) < (s.size : Int) := by omega
  have h3 : (3 : Int) < (s.size : Int) := by omega
  go_enter Tryd.func75, Tryd.ntmps75
  go_wp2_with fail
  go_quiet (fail)
  go_wp2
  go_ret
  refine ⟨ret_u32 ?_, _, rfl⟩
  rw [le4_at s h4]
  exact or4 _ _ _ _
end Go.Proofs.YtkbmbcmcnpeabaaDoor.Fm

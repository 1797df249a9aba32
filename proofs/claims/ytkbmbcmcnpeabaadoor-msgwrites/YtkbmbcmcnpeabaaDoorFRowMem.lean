/- A row of bytes in memory: a block whose first cells are a list's bytes, none of them frozen: made by a conversion or by make, written cell by cell, read back as a string. No conditions. -/
import Derived.Test.YtkbmbcmcnpeabaaDoorFMore
import Derived.Laws.IdiomStrings
import Derived.Deep.OwnRows
namespace Go.Proofs.YtkbmbcmcnpeabaaDoor.Fm
open Crc Go.RowKit

/-- Block B's first cells are l's bytes, and may be written. -/
def RowIs (w : World) (B : Nat) (l : List UInt8) : Prop :=
  B < w.heap.size ∧ (∀ j, j < l.length → w.cell? ⟨B, j, none⟩ = some (.int .u8 ((l.getD j 0).toNat : Int))) ∧ ∀ j, j < l.length → w.frozen? ⟨B, j, none⟩ = false

theorem RowIs.set {w : World} {B : Nat} {l : List UInt8} (h : RowIs w B l) (i : Nat) (hi : i < l.length) (v : UInt8) : RowIs (w.setCell ⟨B, i, none⟩ (.int .u8 (v.toNat : Int))) B (l.set i v) := by
  refine ⟨by rw [World.size_setCell]; exact h.1, fun j hj => ?_, fun j hj => ?_⟩
  · rw [List.length_set] at hj
    by_cases e : i = j
    · subst e
      rw [World.cell?_setCell_same (h := h.2.1 i hi), List.getD_eq_getElem?_getD, List.getElem?_set_self hi]
      rfl
    · rw [World.cell?_setCell_other (h := fun he => e (congrArg Addr.off he)), h.2.1 j hj, List.getD_eq_getElem?_getD (l := l.set i v), List.getElem?_set_ne e, ← List.getD_eq_getElem?_getD]
  · rw [List.length_set] at hj
    rw [World.frozen?_setCell]; exact h.2.2 j hj
theorem RowIs.setOther {w : World} {B C : Nat} {l : List UInt8} (h : RowIs w B l) (i : Nat) (v : Value) (hne : C ≠ B) : RowIs (w.setCell ⟨C, i, none⟩ v) B l := by
  refine ⟨by rw [World.size_setCell]; exact h.1, fun j hj => ?_, fun j hj => ?_⟩
  · rw [World.cell?_setCell_other (h := fun he => hne (congrArg Addr.block he))]; exact h.2.1 j hj
  · rw [World.frozen?_setCell]; exact h.2.2 j hj
theorem RowIs.below {w w' : World} {B D : Nat} {l : List UInt8} (h : RowIs w B l) (hb : Below D w w') (hB : B < D) : RowIs w' B l :=
  ⟨Nat.lt_of_lt_of_le h.1 hb.size, fun j hj => by rw [hb.cell (p := ⟨B, j, none⟩) hB]; exact h.2.1 j hj, fun j hj => by rw [hb.frozen (p := ⟨B, j, none⟩) hB]; exact h.2.2 j hj⟩

/-- '[]byte(a)'. -/
theorem conv_in (w : World) (a : ByteArray) : ∃ (w1 : World) (cap : Nat),
    Sem.run Tryd.prog (convert 9 48 (.string a)) w = .ok (.slice (some ⟨w.heap.size, 0, none⟩) a.size cap) w1 ∧ Below w.heap.size w w1 ∧ RowIs w1 w.heap.size a.data.toList := by
  refine ⟨_, _, run_bytes_of_string w 9 48 5 a Tryd.underlying9 Tryd.underlying48 Tryd.underlying5, ?_, ?_⟩
  · exact ((Below.refl _ _).drew).alloc (Nat.le_refl _) _
  · generalize grownCap w a.size 0 5 = cap
    have hsz : a.size ≤ (bytesRow a cap).size := by simp [bytesRow]
    refine ⟨by simp, fun j hj => ?_, fun j hj => ?_⟩
    · have hj' : j < a.size := by simpa using hj
      have e := World.cell?_alloc_mark w.drew (bytesRow a cap) 5 ((bytesRow a cap).size, (bytesRow a cap).size + 1) j
      refine e.trans ?_
      unfold bytesRow
      rw [Array.getElem?_append_left (by simpa using hj')]
      simp [List.getD_eq_getElem?_getD, hj']
    · have hj' : j < a.size := by simpa using hj
      have e := World.frozen?_alloc_mark w.drew (bytesRow a cap) 5 (bytesRow a cap).size ((bytesRow a cap).size + 1) j
      refine e.trans ?_
      simp; omega
theorem info5 : (Tryd.prog.info? 5).map (fun i => (i.zero, i.size, i.bytes)) = some (some (.int .u8 0), 1, 1) := by kernel_rfl
/-- 'make([]byte, n)'. -/
theorem make_in (w : World) (n : Nat) (hn : n ≤ 30000) : ∃ w1 : World,
    Sem.run Tryd.prog (Instr.makeSlice 48 (.int .i64 (n : Int)) (.int .i64 (n : Int))) w = .ok (.slice (some ⟨w.heap.size, 0, none⟩) n n) w1 ∧ Below w.heap.size w w1 ∧ RowIs w1 w.heap.size (List.replicate n 0) ∧ w.heap.size < w1.heap.size := by
  refine ⟨_, run_make_row' 48 5 (.int .u8 0) 1 Tryd.underlying48 info5 rfl .i64 .i64 n (by omega) (by omega) w, (Below.refl _ _).alloc (Nat.le_refl _) _, ⟨by simp, fun j hj => ?_, fun j hj => ?_⟩, by simp⟩
  · have hj' : j < n := by simpa using hj
    rw [World.cell?_alloc_new]
    simp [madeCells, hj', List.getD_eq_getElem?_getD, Nat.mod_one]
  · exact World.frozen?_alloc_new w _ 5 j
/-- 'string(t)'. -/
theorem conv_out {w : World} {B : Nat} {l : List UInt8} (h : RowIs w B l) (n cap : Nat) (hn : l.length = n) :
    Sem.run Tryd.prog (convert 48 9 (.slice (some ⟨B, 0, none⟩) n cap)) w = .ok (.string ⟨l.toArray⟩) w := by
  subst hn
  refine run_convert_bytes_back w 48 9 5 ⟨B, 0, none⟩ cap l Tryd.underlying48 Tryd.underlying5 Tryd.underlying9 ?_
  intro j hj
  have hplain : (⟨B, 0, none⟩ : Addr).add j = ⟨B, j, none⟩ := by unfold Addr.add; split <;> simp_all
  rw [hplain, h.2.1 j hj, List.getD_eq_getElem?_getD, List.getElem?_eq_getElem hj]
  rfl

theorem Tab.below {w w' : World} (h : Tab w) (hb : Below w.heap.size w w') : Tab w' := by
  intro i hi
  have h0 : (0 : Nat) < w.heap.size := by
    have := h i hi
    rcases Nat.lt_or_ge 0 w.heap.size with h' | h'
    · exact h'
    · exfalso
      simp [World.cell?, Array.getElem?_eq_none (show w.heap.size ≤ 0 by omega)] at this
  rw [hb.cell (p := ⟨0, i, none⟩) h0]
  exact h i hi
theorem bytes_ext {s t : ByteArray} (h : s.data.toList = t.data.toList) : s = t := by
  cases s; cases t; simp only [ByteArray.mk.injEq]; exact Array.toList_inj.1 h
theorem ret_string {a b : ByteArray} (h : a = b) : Ending.returned (.string a) = .returned (.string b) := by rw [h]
end Go.Proofs.YtkbmbcmcnpeabaaDoor.Fm

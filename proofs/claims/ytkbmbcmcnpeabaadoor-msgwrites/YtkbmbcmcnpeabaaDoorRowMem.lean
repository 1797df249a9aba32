/- A row of bytes in memory: a block whose first cells are a list's bytes, none of them frozen: made by a conversion or by make, written cell by cell, read back as a string; a message kept in a new block. No conditions. -/
import Derived.Test.YtkbmbcmcnpeabaaDoorSameB
import Derived.Laws.IdiomStrings
import Derived.Deep.OwnRows
namespace Go.Proofs.YtkbmbcmcnpeabaaDoor
open Pk Go.RowKit

/-- Block B's first cells are l's bytes, and may be written. -/
def RowIs (w : World) (B : Nat) (l : List UInt8) : Prop :=
  B < w.heap.size ∧ (∀ j, j < l.length → w.cell? ⟨B, j, none⟩ = some (.int .u8 ((l.getD j 0).toNat : Int))) ∧ ∀ j, j < l.length → w.frozen? ⟨B, j, none⟩ = false

theorem RowIs.set {w : World} {B : Nat} {l : List UInt8} (h : RowIs w B l) (i : Nat) (hi : i < l.length) (v : UInt8) : RowIs (w.setCell ⟨B, i, none⟩ (.int .u8 (v.toNat : Int))) B (l.set i v) := by
  refine ⟨by rw [World.size_setCell]; exact h.1, fun j hj => ?_, fun j hj => ?_⟩
  · rw [List.length_set] at hj
    by_cases e : i = j
    · subst e
      rw [World.cell?_setCell_same (h := h.2.1 i hi), List.getD_eq_getElem?_getD, List.getElem?_set_self hi]
      rfl
    · rw [World.cell?_setCell_other (h := fun he => e (congrArg Addr.off he)), h.2.1 j hj, List.getD_eq_getElem?_getD (l := l.set i v), List.getElem?_set_ne e, ← List.getD_eq_getElem?_getD]
  · rw [List.length_set] at hj
    rw [World.frozen?_setCell]; exact h.2.2 j hj
theorem RowIs.setOther {w : World} {B C : Nat} {l : List UInt8} (h : RowIs w B l) (i : Nat) (v : Value) (hne : C ≠ B) : RowIs (w.setCell ⟨C, i, none⟩ v) B l := by
  refine ⟨by rw [World.size_setCell]; exact h.1, fun j hj => ?_, fun j hj => ?_⟩
  · rw [World.cell?_setCell_other (h := fun he => hne (congrArg Addr.block he))]; exact h.2.1 j hj
  · rw [World.frozen?_setCell]; exact h.2.2 j hj
theorem RowIs.below {w w' : World} {B D : Nat} {l : List UInt8} (h : RowIs w B l) (hb : Below D w w') (hB : B < D) : RowIs w' B l :=
  ⟨Nat.lt_of_lt_of_le h.1 hb.size, fun j hj => by rw [hb.cell (p := ⟨B, j, none⟩) hB]; exact h.2.1 j hj, fun j hj => by rw [hb.frozen (p := ⟨B, j, none⟩) hB]; exact h.2.2 j hj⟩

set_option maxRecDepth 100000 in
/-- '[]byte(a)'. -/
theorem conv_in (w : World) (a : ByteArray) : ∃ (w1 : World) (cap : Nat),
    Sem.run Tryd.prog (convert 9 48 (.string a)) w = .ok (.slice (some ⟨w.heap.size, 0, none⟩) a.size cap) w1 ∧ Below w.heap.size w w1 ∧ RowIs w1 w.heap.size a.data.toList := by
  refine ⟨_, _, run_bytes_of_string w 9 48 5 a Tryd.underlying9 Tryd.underlying48 Tryd.underlying5, ?_, ?_⟩
  · exact ((Below.refl _ _).drew).alloc (Nat.le_refl _) _
  · generalize grownCap w a.size 0 5 = cap
    have hsz : a.size ≤ (bytesRow a cap).size := by simp [bytesRow]
    refine ⟨by simp, fun j hj => ?_, fun j hj => ?_⟩
    · have hj' : j < a.size := by simpa using hj
      have e := World.cell?_alloc_mark w.drew (bytesRow a cap) 5 ((bytesRow a cap).size, (bytesRow a cap).size + 1) j
      refine e.trans ?_
      unfold bytesRow
      rw [Array.getElem?_append_left (by simpa using hj')]
      simp [List.getD_eq_getElem?_getD, hj']
    · have hj' : j < a.size := by simpa using hj
      have e := World.frozen?_alloc_mark w.drew (bytesRow a cap) 5 (bytesRow a cap).size ((bytesRow a cap).size + 1) j
      refine e.trans ?_
      simp; omega
set_option maxRecDepth 100000 in
/-- 'make([]byte, n)'. -/
theorem make_in (w : World) (n : Nat) (hn : n ≤ 30000) : ∃ w1 : World,
    Sem.run Tryd.prog (Instr.makeSlice 48 (.int .i64 (n : Int)) (.int .i64 (n : Int))) w = .ok (.slice (some ⟨w.heap.size, 0, none⟩) n n) w1 ∧ Below w.heap.size w w1 ∧ RowIs w1 w.heap.size (List.replicate n 0) ∧ w.heap.size < w1.heap.size := by
  refine ⟨_, run_make_row' 48 5 (.int .u8 0) 1 Tryd.underlying48 info5 rfl .i64 .i64 n (by omega) (by omega) w, (Below.refl _ _).alloc (Nat.le_refl _) _, ⟨by simp, fun j hj => ?_, fun j hj => ?_⟩, by simp⟩
  · have hj' : j < n := by simpa using hj
    rw [World.cell?_alloc_new]
    simp [madeCells, hj', List.getD_eq_getElem?_getD, Nat.mod_one]
  · exact World.frozen?_alloc_new w _ 5 j
set_option maxRecDepth 100000 in
/-- 'string(t)'. -/
theorem conv_out {w : World} {B : Nat} {l : List UInt8} (h : RowIs w B l) (n cap : Nat) (hn : l.length = n) :
    Sem.run Tryd.prog (convert 48 9 (.slice (some ⟨B, 0, none⟩) n cap)) w = .ok (.string ⟨l.toArray⟩) w := by
  subst hn
  refine run_convert_bytes_back w 48 9 5 ⟨B, 0, none⟩ cap l Tryd.underlying48 Tryd.underlying5 Tryd.underlying9 ?_
  intro j hj
  have hplain : (⟨B, 0, none⟩ : Addr).add j = ⟨B, j, none⟩ := by unfold Addr.add; split <;> simp_all
  rw [hplain, h.2.1 j hj, List.getD_eq_getElem?_getD, List.getElem?_eq_getElem hj]
  rfl


theorem cells_one (m : MsgV) (a1 a2 : Option Addr) (c1 c2 : Nat) : (msgCells m a1 c1 a2 c2).toArray.all (·.oneCell') = true := by simp [msgCells, Value.oneCell']
/-- A message is kept in a new block. -/
theorem keep_at (w : World) (m : MsgV) (a1 a2 : Option Addr) (c1 c2 : Nat) : ∃ wf, (w.alloc (.cells #[.int .u8 0, .int .i64 0, .int .i64 0, .int .i64 0, .int .i64 0, .int .i64 0, .int .i64 0, .int .u64 0, .int .i64 0, .int .i64 0, .int .i64 0, .int .i64 0, .int .u8 0, .string ⟨#[]⟩, .int .i64 0, .int .i64 0, .int .i64 0, .int .i64 0, .int .i64 0, .slice none 0 0, .slice none 0 0, .string ⟨#[]⟩] 29)).setCells w.heap.size 0 (msgCells m a1 c1 a2 c2) = wf ∧ RowAt wf w.heap.size (msgCells m a1 c1 a2 c2) ∧ Moved (fun _ => False) w wf ∧ (w.alloc (.cells #[.int .u8 0, .int .i64 0, .int .i64 0, .int .i64 0, .int .i64 0, .int .i64 0, .int .i64 0, .int .u64 0, .int .i64 0, .int .i64 0, .int .i64 0, .int .i64 0, .int .u8 0, .string ⟨#[]⟩, .int .i64 0, .int .i64 0, .int .i64 0, .int .i64 0, .int .i64 0, .slice none 0 0, .slice none 0 0, .string ⟨#[]⟩] 29)).there w.heap.size 0 (msgCells m a1 c1 a2 c2).toArray.size := by
  have h0 := row_new w (msgCells MsgV.zero none 0 none 0) 29
  have mv := setCells_moved (w.alloc (.cells (msgCells MsgV.zero none 0 none 0).toArray 29)) w.heap.size 0 (msgCells m a1 c1 a2 c2)
  exact ⟨_, rfl, h0.put (msgCells m a1 c1 a2 c2) rfl, ((Moved.refl _ w).alloc _).trans mv fun i hi => .inr (by omega), h0.there⟩
/-- A load of a whole struct in a plain region, where its guard lets it. -/
theorem wpList_load_on {P : Program} {ops : Array Oper} {rest : List Oper} {op : Oper} {a : Act} {w : World} {Q : Exit → Act → World → Prop} (hw : Region.wanted op (yielded ops a.tmps) = true) (ty : TypeId) (x : Operand) (ho : op.op = .load ty x)
    (b o : Nat) (hx : a.eval x = .pointer (some ⟨b, o, none⟩)) (cs : List Value) (d : TypeDesc) (hc : w.rangeAt b o cs)
    (hu : P.underlying ty = some d) (hd : d.isRow = true) (hi : (P.info? ty).map (·.size) = some cs.length)
    (h : wpList P ops Q rest (a.put op.dst (.agg cs.toArray)) w) : wpList P ops Q (op :: rest) a w := by
  unfold wpList
  rw [if_pos hw]
  exact .inl (wp_load_mid ty x ho b o hx cs d hc hu hd hi h)
/-- A struct is kept in a new block. -/
theorem keep_row (w : World) (ty : TypeId) (zs cs : List Value) (hl : zs.length = cs.length) : ∃ wf, (w.alloc (.cells zs.toArray ty)).setCells w.heap.size 0 cs = wf ∧ RowAt wf w.heap.size cs ∧ Moved (fun _ => False) w wf ∧ (w.alloc (.cells zs.toArray ty)).there w.heap.size 0 cs.length := by
  have h0 := row_new w zs ty
  have mv := setCells_moved (w.alloc (.cells zs.toArray ty)) w.heap.size 0 cs
  exact ⟨_, rfl, h0.put cs hl, ((Moved.refl _ w).alloc _).trans mv fun i hi => .inr (by omega), by rw [← hl]; exact h0.there⟩
end Go.Proofs.YtkbmbcmcnpeabaaDoor

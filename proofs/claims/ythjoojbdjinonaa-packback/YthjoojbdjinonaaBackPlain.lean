/- Plain facts on what was written and is read back, part by part, and on what is read and written again. No conditions. -/
import Derived.Test.YthjoojbdjinonaaWritesWalk
namespace Go.Proofs.Ythjoojbdjinonaa
open Pk Go.RowKit

theorem catTo_split (z : List PartV) (k n : Nat) (h : k ≤ n) : ∃ t, catTo z n = catTo z k ++ t := by
  induction n with
  | zero => have : k = 0 := by omega
            subst this; exact ⟨[], by simp⟩
  | succ n ih =>
    by_cases e : k = n + 1
    · subst e; exact ⟨[], by simp⟩
    · obtain ⟨t, ht⟩ := ih (by omega)
      exact ⟨t ++ partBytes (z.getD n PartV.zero), by simp [catTo, ht]⟩
theorem catTo_drop (z : List PartV) (k n : Nat) (h : k < n) : ∃ t, (catTo z n).drop (catTo z k).length = partBytes (z.getD k PartV.zero) ++ t := by
  obtain ⟨t, ht⟩ := catTo_split z (k + 1) n h
  refine ⟨t, ?_⟩
  rw [ht]
  simp only [catTo, List.append_assoc, List.drop_left]

theorem back_num {s : ByteArray} {κ : Nat} {t : List UInt8} (n : Nat) (hn : n < 2 ^ 64) (h : s.data.toList.drop κ = numBytes n ++ t) : outNum s κ 0 = (n, (numBytes n).length, 0) := by
  unfold outNum
  rw [if_pos rfl, h, num_of n t hn]
theorem back_text {s : ByteArray} {κ : Nat} {t : List UInt8} (x : ByteArray) (hx : x.size ≤ 60000) (h : s.data.toList.drop κ = textBytes x.data.toList ++ t) : outText (x.size : Int) s κ 0 = (x.data.toList, (textBytes x.data.toList).length, 0) := by
  have h2 : x.data.toList.length = x.size := by simp
  unfold outText txt
  rw [if_pos rfl, h]
  unfold textBytes
  rw [h2]
  have hnum : numTo (x.size : Int) (numBytes x.size ++ x.data.toList ++ t) = (x.size, (numBytes x.size).length, 0) := by
    unfold numTo
    rw [List.append_assoc, num_of _ _ (by omega)]
    simp only
    rw [if_neg (by simp), if_neg (by omega)]
  rw [hnum]
  simp only
  rw [if_neg (by simp), if_neg (by rw [List.length_append, List.length_append, h2]; omega)]
  rw [List.append_assoc, List.drop_left, List.take_left' h2, List.length_append, h2]
theorem back_byte {s : ByteArray} {κ : Nat} {t : List UInt8} (b : UInt8) (h : s.data.toList.drop κ = [b] ++ t) : outByte s κ 0 = (b, 1, 0) := by
  unfold outByte
  rw [if_pos rfl, h]
  rfl
/-- What is read without a fault is what would be written. -/
theorem again_num {s : ByteArray} {κ n t : Nat} (h : outNum s κ 0 = (n, t, 0)) : numBytes n = (s.data.toList.drop κ).take t ∧ κ + t ≤ s.size := by
  unfold outNum at h
  rw [if_pos rfl] at h
  have hb := num_back h
  refine ⟨hb.2.2.1.symm, ?_⟩
  have := hb.2.2.2
  have hp := numBytes_pos n
  rw [List.length_drop] at this
  simp at this
  omega
theorem again_byte {s : ByteArray} {κ t : Nat} {b : UInt8} (h : outByte s κ 0 = (b, t, 0)) : [b] = (s.data.toList.drop κ).take t ∧ κ + t ≤ s.size := by
  unfold outByte at h
  rw [if_pos rfl] at h
  cases hl : s.data.toList.drop κ with
  | nil => rw [hl] at h; simp [byt] at h
  | cons c r =>
    rw [hl] at h
    simp only [byt, Prod.mk.injEq] at h
    obtain ⟨rfl, rfl, _⟩ := h
    refine ⟨rfl, ?_⟩
    have := congrArg List.length hl
    simp at this
    have e : s.data.size = s.size := rfl
    omega
theorem again_text {s : ByteArray} {κ t : Nat} {most : Int} {l : List UInt8} (hk : κ ≤ s.size) (h : outText most s κ 0 = (l, t, 0)) : textBytes l = (s.data.toList.drop κ).take t ∧ κ + t ≤ s.size := by
  unfold outText txt at h
  rw [if_pos rfl] at h
  by_cases h1 : (numTo most (s.data.toList.drop κ)).2.2 = 0
  · rw [if_neg (by simpa using h1)] at h
    obtain ⟨e1, _, _⟩ := numTo_ok h1
    rw [e1] at h
    split at h
    · simp at h
    · rename_i h2
      have hlen : (s.data.toList.drop κ).length = s.size - κ := by simp
      generalize s.data.toList.drop κ = d at *
      rw [e1] at h1
      obtain ⟨n, j, e⟩ : ∃ n j, num d = (n, j, 0) := ⟨(num d).1, (num d).2.1, by rw [← h1]⟩
      have hb := num_back e
      rw [e] at h h2
      simp only [Prod.mk.injEq, and_true] at h h2
      obtain ⟨rfl, rfl⟩ := h
      have hl : ((d.drop j).take n).length = n := by rw [List.length_take, List.length_drop]; omega
      refine ⟨?_, by omega⟩
      unfold textBytes
      rw [hl, ← hb.2.2.1, ← List.take_add]
  · rw [if_pos (by simpa using h1)] at h
    simp only [Prod.mk.injEq] at h
    exact absurd h.2.2 h1
theorem same_text (s : ByteArray) : (⟨s.data.toList.toArray⟩ : ByteArray) = s := bytes_ext rfl
theorem take_on {s : ByteArray} {κ t : Nat} {l : List UInt8} (h : l = (s.data.toList.drop κ).take t) : s.data.toList.take κ ++ l = s.data.toList.take (κ + t) := by
  rw [h, List.take_add]
theorem cut_take (s : ByteArray) (κ : Nat) : s.extract 0 κ = ⟨(s.data.toList.take κ).toArray⟩ := by
  apply bytes_ext
  rw [ByteArray.data_extract, Array.toList_extract, List.extract_eq_take_drop]
  simp
/-- A part in a block of its own. -/
structure QAt (w : World) (Q : Nat) (p : PartV) : Prop where
  c0 : w.cell? ⟨Q, 0, none⟩ = some (.int .i64 p.kind)
  c1 : w.cell? ⟨Q, 1, none⟩ = some (.int .u64 (p.n : Int))
  c2 : w.cell? ⟨Q, 2, none⟩ = some (.int .i64 p.i)
  c3 : w.cell? ⟨Q, 3, none⟩ = some (.string p.s)
  c4 : w.cell? ⟨Q, 4, none⟩ = some (.int .u8 ((p.b.toNat : Nat) : Int))
  c5 : w.cell? ⟨Q, 5, none⟩ = some (.int .i64 p.most)
  fr : ∀ i, w.frozen? ⟨Q, i, none⟩ = false
theorem QAt.new (w : World) (p : PartV) : QAt (w.alloc (.cells #[.int .i64 p.kind, .int .u64 (p.n : Int), .int .i64 p.i, .string p.s, .int .u8 ((p.b.toNat : Nat) : Int), .int .i64 p.most] 47)) w.heap.size p :=
  ⟨by simp, by simp, by simp, by simp, by simp, by simp, fun i => by simp⟩
theorem QAt.lt {w : World} {Q : Nat} {p : PartV} (h : QAt w Q p) : Q < w.heap.size := World.block_lt_of_cell? _ _ h.c0
theorem QAt.keep {F : Nat → Prop} {w w' : World} {Q : Nat} {p : PartV} (h : QAt w Q p) (m : Moved F w w') (hF : ¬ F Q) : QAt w' Q p :=
  ⟨(m.cell (p := ⟨Q, 0, none⟩) h.lt hF).trans h.c0, (m.cell (p := ⟨Q, 1, none⟩) h.lt hF).trans h.c1, (m.cell (p := ⟨Q, 2, none⟩) h.lt hF).trans h.c2, (m.cell (p := ⟨Q, 3, none⟩) h.lt hF).trans h.c3, (m.cell (p := ⟨Q, 4, none⟩) h.lt hF).trans h.c4, (m.cell (p := ⟨Q, 5, none⟩) h.lt hF).trans h.c5, fun i => (m.frozen (p := ⟨Q, i, none⟩) h.lt hF).trans (h.fr i)⟩
theorem other_cell {w : World} {Q i j : Nat} {u : Value} {v : Option Value} (hne : i ≠ j) (h : w.cell? ⟨Q, j, none⟩ = v) : (w.setCell ⟨Q, i, none⟩ u).cell? ⟨Q, j, none⟩ = v :=
  (World.cell?_setCell_other _ _ _ _ (fun e => hne (congrArg Addr.off e))).trans h
theorem QAt.set1 {w : World} {Q : Nat} {p : PartV} (h : QAt w Q p) (n : Nat) : QAt (w.setCell ⟨Q, 1, none⟩ (.int .u64 (n : Int))) Q ⟨p.kind, n, p.i, p.s, p.b, p.most⟩ :=
  ⟨other_cell (by decide) h.c0, World.cell?_setCell_same _ _ _ h.c1, other_cell (by decide) h.c2, other_cell (by decide) h.c3, other_cell (by decide) h.c4, other_cell (by decide) h.c5, fun i => by rw [World.frozen?_setCell]; exact h.fr i⟩
theorem QAt.set2 {w : World} {Q : Nat} {p : PartV} (h : QAt w Q p) (i : Int) : QAt (w.setCell ⟨Q, 2, none⟩ (.int .i64 i)) Q ⟨p.kind, p.n, i, p.s, p.b, p.most⟩ :=
  ⟨other_cell (by decide) h.c0, other_cell (by decide) h.c1, World.cell?_setCell_same _ _ _ h.c2, other_cell (by decide) h.c3, other_cell (by decide) h.c4, other_cell (by decide) h.c5, fun i => by rw [World.frozen?_setCell]; exact h.fr i⟩
theorem QAt.set3 {w : World} {Q : Nat} {p : PartV} (h : QAt w Q p) (s : ByteArray) : QAt (w.setCell ⟨Q, 3, none⟩ (.string s)) Q ⟨p.kind, p.n, p.i, s, p.b, p.most⟩ :=
  ⟨other_cell (by decide) h.c0, other_cell (by decide) h.c1, other_cell (by decide) h.c2, World.cell?_setCell_same _ _ _ h.c3, other_cell (by decide) h.c4, other_cell (by decide) h.c5, fun i => by rw [World.frozen?_setCell]; exact h.fr i⟩
theorem QAt.set4 {w : World} {Q : Nat} {p : PartV} (h : QAt w Q p) (b : UInt8) : QAt (w.setCell ⟨Q, 4, none⟩ (.int .u8 ((b.toNat : Nat) : Int))) Q ⟨p.kind, p.n, p.i, p.s, b, p.most⟩ :=
  ⟨other_cell (by decide) h.c0, other_cell (by decide) h.c1, other_cell (by decide) h.c2, other_cell (by decide) h.c3, World.cell?_setCell_same _ _ _ h.c4, other_cell (by decide) h.c5, fun i => by rw [World.frozen?_setCell]; exact h.fr i⟩

/-- What a reading leaves: the reader, what it may be written as again. -/
structure Turned (s : ByteArray) (κ κ' f : Nat) (p : PartV) : Prop where
  ok : p.Ok
  small : p.s.size ≤ 60000
  goes : f = 0 → s.data.toList.take κ ++ partBytes p = s.data.toList.take κ'
  stays : f ≠ 0 → κ' = κ

theorem turned_num {s : ByteArray} {κ : Nat} {p : PartV} (ok : p.Ok) (hp : p.s.size ≤ 60000) (hk : p.kind = 0) : Turned s κ (ahead κ (outNum s κ 0).2.1 (outNum s κ 0).2.2) (outNum s κ 0).2.2 ⟨p.kind, (outNum s κ 0).1, p.i, p.s, p.b, p.most⟩ := by
  have hlt := outNum_lt s κ 0
  refine ⟨⟨ok.kind, hlt, ok.i, ok.s, ok.most⟩, hp, fun h0 => ?_, fun h0 => ?_⟩
  · have hb := again_num (s := s) (κ := κ) (n := (outNum s κ 0).1) (t := (outNum s κ 0).2.1) (Prod.ext rfl (Prod.ext rfl h0))
    unfold ahead partBytes
    rw [if_pos hk, if_pos h0]
    exact take_on hb.1
  · unfold ahead; rw [if_neg h0]
theorem turned_int {s : ByteArray} {κ : Nat} {p : PartV} (ok : p.Ok) (hp : p.s.size ≤ 60000) (hk : p.kind = 1) : Turned s κ (ahead κ (outNum s κ 0).2.1 (outNum s κ 0).2.2) (outNum s κ 0).2.2 ⟨p.kind, p.n, zag (outNum s κ 0).1, p.s, p.b, p.most⟩ := by
  have hlt := outNum_lt s κ 0
  refine ⟨⟨ok.kind, ok.n, zag_in _ hlt, ok.s, ok.most⟩, hp, fun h0 => ?_, fun h0 => ?_⟩
  · have hb := again_num (s := s) (κ := κ) (n := (outNum s κ 0).1) (t := (outNum s κ 0).2.1) (Prod.ext rfl (Prod.ext rfl h0))
    unfold ahead partBytes
    rw [if_neg (by rw [hk]; decide), if_pos hk, if_pos h0, zig_zag]
    exact take_on hb.1
  · unfold ahead; rw [if_neg h0]
theorem txt_small (most : Int) (l : List UInt8) : (txt most l).1.length ≤ l.length := by
  unfold txt
  split
  · simp
  · split
    · simp
    · simp only [List.length_take, List.length_drop]; omega
theorem turned_text {s : ByteArray} {κ : Nat} {p : PartV} (hs : s.size ≤ 60000) (hκ : κ ≤ s.size) (ok : p.Ok) (hk : p.kind = 2) : Turned s κ (ahead κ (outText p.most s κ 0).2.1 (outText p.most s κ 0).2.2) (outText p.most s κ 0).2.2 ⟨p.kind, p.n, p.i, ⟨(outText p.most s κ 0).1.toArray⟩, p.b, p.most⟩ := by
  have hsm : (ByteArray.mk (outText p.most s κ 0).1.toArray).size ≤ 60000 := by
    rw [out_size]
    have := txt_small p.most (s.data.toList.drop κ)
    unfold outText
    rw [if_pos rfl]
    rw [List.length_drop] at this
    simp at this
    omega
  refine ⟨⟨ok.kind, ok.n, ok.i, by show _ ≤ maxLen; unfold maxLen; exact Nat.le_trans hsm (by decide), ok.most⟩, hsm, fun h0 => ?_, fun h0 => ?_⟩
  · have hb := again_text (s := s) (κ := κ) (most := p.most) (l := (outText p.most s κ 0).1) (t := (outText p.most s κ 0).2.1) hκ (Prod.ext rfl (Prod.ext rfl h0))
    unfold ahead partBytes
    rw [if_neg (by rw [hk]; decide), if_neg (by rw [hk]; decide), if_pos hk, if_pos h0]
    exact take_on hb.1
  · unfold ahead; rw [if_neg h0]
theorem turned_byte {s : ByteArray} {κ : Nat} {p : PartV} (ok : p.Ok) (hp : p.s.size ≤ 60000) (hk : p.kind = 3) : Turned s κ (ahead κ (outByte s κ 0).2.1 (outByte s κ 0).2.2) (outByte s κ 0).2.2 ⟨p.kind, p.n, p.i, p.s, (outByte s κ 0).1, p.most⟩ := by
  refine ⟨⟨ok.kind, ok.n, ok.i, ok.s, ok.most⟩, hp, fun h0 => ?_, fun h0 => ?_⟩
  · have hb := again_byte (s := s) (κ := κ) (b := (outByte s κ 0).1) (t := (outByte s κ 0).2.1) (Prod.ext rfl (Prod.ext rfl h0))
    unfold ahead partBytes
    rw [if_neg (by rw [hk]; decide), if_neg (by rw [hk]; decide), if_neg (by rw [hk]; decide), if_pos hk, if_pos h0]
    exact take_on hb.1
  · unfold ahead; rw [if_neg h0]
theorem turned_none {s : ByteArray} {κ : Nat} {p : PartV} (ok : p.Ok) (hp : p.s.size ≤ 60000) (h0 : ¬ p.kind = 0) (h1 : ¬ p.kind = 1) (h2 : ¬ p.kind = 2) (h3 : ¬ p.kind = 3) : Turned s κ κ 0 p := by
  refine ⟨ok, hp, fun _ => ?_, fun h => absurd rfl h⟩
  unfold partBytes
  rw [if_neg h0, if_neg h1, if_neg h2, if_neg h3, List.append_nil]
end Go.Proofs.Ythjoojbdjinonaa

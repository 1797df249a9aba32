/- A message of the statements that came in: its fields, out of the row's reading. No conditions. -/
import Derived.Test.YtkbmbcmcnpeabaaFieldsW
import Derived.ProofKit
import Derived.OpenShut
import Derived.ChangeSlices
namespace Go.Proofs.Ytkbmbcmcnpeabaa
open Pk Go.RowKit Go.ChangeShapes Go.WideShapes

theorem mcells3 : Try.prog.cellsOf 3 = 1 := by kernel_rfl
theorem mcells2 : Try.prog.cellsOf 2 = 1 := by kernel_rfl
theorem mcells25 : Try.prog.cellsOf 25 = 1 := by kernel_rfl
theorem mcells5 : Try.prog.cellsOf 5 = 1 := by kernel_rfl
theorem mcells9 : Try.prog.cellsOf 9 = 1 := by kernel_rfl
theorem mcells28 : Try.prog.cellsOf 28 = 1 := by kernel_rfl
theorem mcells27 : Try.prog.cellsOf 27 = 8 := by kernel_rfl
theorem mcells30 : Try.prog.cellsOf 30 = 3 := by kernel_rfl
theorem mcells32 : Try.prog.cellsOf 32 = 22 := by kernel_rfl
theorem ints_in {H : Type} {enc : TypeId × Value → H} {w : World} {base : Nat} {spare : Nat → Bool} {held : Bool} {fuel : Nat} {cs : List Value} {x : DataW H × List MemPlace} (h : DataW.trod enc Try.prog w base spare held fuel 28 cs = some x) : ∃ (a : Option Addr) (c : Nat) (xs : List Int), cs = [.slice a xs.length c] ∧ xs.length ≤ maxLen ∧ Ints w a xs := by
  rcases Go.ChangeShapes.open_ints Try.underlying28 Try.underlying3 mcells3 h with ⟨rfl, _⟩ | ⟨a, len, cap, zs, rfl, _, hl, hm, hz, _, hc, _⟩
  · exact ⟨none, 0, [], rfl, Nat.zero_le _, fun i hi => by simp at hi⟩
  · have hle : len ≤ zs.length := by rw [hz]; split <;> omega
    have hlen : (zs.take len).length = len := by rw [List.length_take]; omega
    refine ⟨some a, cap, zs.take len, by rw [hlen], by omega, fun i hi => ⟨a, rfl, ?_⟩⟩
    rw [hc i (by omega)]
    simp only [List.getD_eq_getElem?_getD, List.getElem?_take_of_lt (show i < len by omega)]
set_option maxRecDepth 100000 in
theorem item_in {H : Type} {enc : TypeId × Value → H} {w : World} {base : Nat} {spare : Nat → Bool} {held : Bool} {fuel : Nat} {cs : List Value} {x : DataW H × List MemPlace} (h : DataW.trod enc Try.prog w base spare held fuel 27 cs = some x) : ∃ y : ItemV, I64 y.at_ ∧ I64 y.n ∧ y.key.length ≤ maxLen ∧ cs = [.int .i64 y.src, .int .i64 y.seq, .int .i64 y.low, .int .u8 (y.kind.toNat : Int), .string ⟨y.key.toArray⟩, .int .i64 y.part, .int .i64 y.at_, .int .i64 y.n] := by
  obtain ⟨xs, n, rfl, rfl, hl, hxl, hf⟩ := DataW.trod_struct Try.underlying27 h
  rw [mcells27] at hl
  match cs, hl, xs, hxl with
  | [v0, v1, v2, v3, v4, v5, v6, v7], _, [y0, y1, y2, y3, y4, y5, y6, y7], _ =>
    have g0 : DataW.trod enc Try.prog w base spare held n 3 (List.take (Try.prog.cellsOf 3) (List.drop 0 [v0, v1, v2, v3, v4, v5, v6, v7])) = some y0 := hf 0 _ rfl
    rw [mcells3] at g0
    have k0 : DataW.trod enc Try.prog w base spare held n 3 [v0] = some y0 := g0
    have g1 : DataW.trod enc Try.prog w base spare held n 3 (List.take (Try.prog.cellsOf 3) (List.drop 1 [v0, v1, v2, v3, v4, v5, v6, v7])) = some y1 := hf 1 _ rfl
    rw [mcells3] at g1
    have k1 : DataW.trod enc Try.prog w base spare held n 3 [v1] = some y1 := g1
    have g2 : DataW.trod enc Try.prog w base spare held n 3 (List.take (Try.prog.cellsOf 3) (List.drop 2 [v0, v1, v2, v3, v4, v5, v6, v7])) = some y2 := hf 2 _ rfl
    rw [mcells3] at g2
    have k2 : DataW.trod enc Try.prog w base spare held n 3 [v2] = some y2 := g2
    have g3 : DataW.trod enc Try.prog w base spare held n 5 (List.take (Try.prog.cellsOf 5) (List.drop 3 [v0, v1, v2, v3, v4, v5, v6, v7])) = some y3 := hf 3 _ rfl
    rw [mcells5] at g3
    have k3 : DataW.trod enc Try.prog w base spare held n 5 [v3] = some y3 := g3
    have g4 : DataW.trod enc Try.prog w base spare held n 9 (List.take (Try.prog.cellsOf 9) (List.drop 4 [v0, v1, v2, v3, v4, v5, v6, v7])) = some y4 := hf 4 _ rfl
    rw [mcells9] at g4
    have k4 : DataW.trod enc Try.prog w base spare held n 9 [v4] = some y4 := g4
    have g5 : DataW.trod enc Try.prog w base spare held n 3 (List.take (Try.prog.cellsOf 3) (List.drop 5 [v0, v1, v2, v3, v4, v5, v6, v7])) = some y5 := hf 5 _ rfl
    rw [mcells3] at g5
    have k5 : DataW.trod enc Try.prog w base spare held n 3 [v5] = some y5 := g5
    have g6 : DataW.trod enc Try.prog w base spare held n 2 (List.take (Try.prog.cellsOf 2) (List.drop 6 [v0, v1, v2, v3, v4, v5, v6, v7])) = some y6 := hf 6 _ rfl
    rw [mcells2] at g6
    have k6 : DataW.trod enc Try.prog w base spare held n 2 [v6] = some y6 := g6
    have g7 : DataW.trod enc Try.prog w base spare held n 2 (List.take (Try.prog.cellsOf 2) (List.drop 7 [v0, v1, v2, v3, v4, v5, v6, v7])) = some y7 := hf 7 _ rfl
    rw [mcells2] at g7
    have k7 : DataW.trod enc Try.prog w base spare held n 2 [v7] = some y7 := g7
    obtain ⟨x0, e0, _, w0⟩ := DataW.trod_int Try.underlying3 k0
    obtain ⟨x1, e1, _, w1⟩ := DataW.trod_int Try.underlying3 k1
    obtain ⟨x2, e2, _, w2⟩ := DataW.trod_int Try.underlying3 k2
    obtain ⟨x5, e5, _, w5⟩ := DataW.trod_int Try.underlying3 k5
    obtain ⟨x6, e6, _, w6⟩ := DataW.trod_int Try.underlying2 k6
    obtain ⟨x7, e7, _, w7⟩ := DataW.trod_int Try.underlying2 k7
    obtain ⟨x3, e3, _, w3⟩ := DataW.trod_int Try.underlying5 k3
    obtain ⟨x4, e4, _, w4⟩ := DataW.trod_string Try.underlying9 k4
    simp only [List.cons.injEq, and_true] at e0 e1 e2 e3 e4 e5 e6 e7
    have b3 := bounds_u8 w3
    have c3 : (((UInt8.ofNat x3.toNat).toNat : Nat) : Int) = x3 := by rw [toNat_ofNat_lt (by omega)]; omega
    refine ⟨⟨x0, x1, x2, UInt8.ofNat x3.toNat, x4.data.toList, x5, x6, x7⟩, bounds_i64 w6, bounds_i64 w7, w4, ?_⟩
    rw [e0, e1, e2, e3, e4, e5, e6, e7]
    simp only [c3, Array.toArray_toList]
set_option maxRecDepth 100000 in
theorem table_in {H : Type} {enc : TypeId × Value → H} {w : World} {base : Nat} {spare : Nat → Bool} {held : Bool} {fuel : Nat} {cs : List Value} {x : DataW H × List MemPlace} (h : DataW.trod enc Try.prog w base spare held fuel 30 cs = some x) : ∃ (ep nd : Int) (a : Option Addr) (c : Nat) (xs : List Int), cs = [.int .i64 ep, .int .i64 nd, .slice a xs.length c] ∧ xs.length ≤ maxLen ∧ Ints w a xs := by
  obtain ⟨xs, n, rfl, rfl, hl, hxl, hf⟩ := DataW.trod_struct Try.underlying30 h
  rw [mcells30] at hl
  match cs, hl, xs, hxl with
  | [v0, v1, v2], _, [y0, y1, y2], _ =>
    have g0 : DataW.trod enc Try.prog w base spare held n 3 (List.take (Try.prog.cellsOf 3) (List.drop 0 [v0, v1, v2])) = some y0 := hf 0 _ rfl
    rw [mcells3] at g0
    have k0 : DataW.trod enc Try.prog w base spare held n 3 [v0] = some y0 := g0
    have g1 : DataW.trod enc Try.prog w base spare held n 3 (List.take (Try.prog.cellsOf 3) (List.drop 1 [v0, v1, v2])) = some y1 := hf 1 _ rfl
    rw [mcells3] at g1
    have k1 : DataW.trod enc Try.prog w base spare held n 3 [v1] = some y1 := g1
    have g2 : DataW.trod enc Try.prog w base spare held n 28 (List.take (Try.prog.cellsOf 28) (List.drop 2 [v0, v1, v2])) = some y2 := hf 2 _ rfl
    rw [mcells28] at g2
    have k2 : DataW.trod enc Try.prog w base spare held n 28 [v2] = some y2 := g2
    obtain ⟨x0, e0, _, w0⟩ := DataW.trod_int Try.underlying3 k0
    obtain ⟨x1, e1, _, w1⟩ := DataW.trod_int Try.underlying3 k1
    obtain ⟨a, c, zs, e2, hz, hI⟩ := ints_in k2
    simp only [List.cons.injEq, and_true] at e0 e1 e2
    exact ⟨x0, x1, a, c, zs, by rw [e0, e1, e2], hz, hI⟩
set_option maxRecDepth 100000 in
set_option maxHeartbeats 1000000 in
theorem msg_in {H : Type} {enc : TypeId × Value → H} {w : World} {base : Nat} {spare : Nat → Bool} {held : Bool} {fuel : Nat} {cs : List Value} {x : DataW H × List MemPlace} (h : DataW.trod enc Try.prog w base spare held fuel 32 cs = some x) : ∃ (m : MsgV) (a1 a2 : Option Addr) (c1 c2 : Nat), Fit m ∧ cs = msgCells m a1 c1 a2 c2 ∧ Ints w a1 m.owner ∧ Ints w a2 m.set := by
  obtain ⟨xs, n, rfl, rfl, hl, hxl, hf⟩ := DataW.trod_struct Try.underlying32 h
  rw [mcells32] at hl
  match cs, hl, xs, hxl with
  | [v0, v1, v2, v3, v4, v5, v6, v7, v8, v9, v10, v11, v12, v13, v14, v15, v16, v17, v18, v19, v20, v21], _, [y0, y1, y2, y3, y4, y5, y6, y7, y8, y9, y10, y11, y12], _ =>
    have g0 : DataW.trod enc Try.prog w base spare held n 5 (List.take (Try.prog.cellsOf 5) (List.drop 0 [v0, v1, v2, v3, v4, v5, v6, v7, v8, v9, v10, v11, v12, v13, v14, v15, v16, v17, v18, v19, v20, v21])) = some y0 := hf 0 _ rfl
    rw [mcells5] at g0
    have k0 : DataW.trod enc Try.prog w base spare held n 5 [v0] = some y0 := g0
    have g1 : DataW.trod enc Try.prog w base spare held n 3 (List.take (Try.prog.cellsOf 3) (List.drop 1 [v0, v1, v2, v3, v4, v5, v6, v7, v8, v9, v10, v11, v12, v13, v14, v15, v16, v17, v18, v19, v20, v21])) = some y1 := hf 1 _ rfl
    rw [mcells3] at g1
    have k1 : DataW.trod enc Try.prog w base spare held n 3 [v1] = some y1 := g1
    have g2 : DataW.trod enc Try.prog w base spare held n 3 (List.take (Try.prog.cellsOf 3) (List.drop 2 [v0, v1, v2, v3, v4, v5, v6, v7, v8, v9, v10, v11, v12, v13, v14, v15, v16, v17, v18, v19, v20, v21])) = some y2 := hf 2 _ rfl
    rw [mcells3] at g2
    have k2 : DataW.trod enc Try.prog w base spare held n 3 [v2] = some y2 := g2
    have g3 : DataW.trod enc Try.prog w base spare held n 3 (List.take (Try.prog.cellsOf 3) (List.drop 3 [v0, v1, v2, v3, v4, v5, v6, v7, v8, v9, v10, v11, v12, v13, v14, v15, v16, v17, v18, v19, v20, v21])) = some y3 := hf 3 _ rfl
    rw [mcells3] at g3
    have k3 : DataW.trod enc Try.prog w base spare held n 3 [v3] = some y3 := g3
    have g4 : DataW.trod enc Try.prog w base spare held n 3 (List.take (Try.prog.cellsOf 3) (List.drop 4 [v0, v1, v2, v3, v4, v5, v6, v7, v8, v9, v10, v11, v12, v13, v14, v15, v16, v17, v18, v19, v20, v21])) = some y4 := hf 4 _ rfl
    rw [mcells3] at g4
    have k4 : DataW.trod enc Try.prog w base spare held n 3 [v4] = some y4 := g4
    have g5 : DataW.trod enc Try.prog w base spare held n 3 (List.take (Try.prog.cellsOf 3) (List.drop 5 [v0, v1, v2, v3, v4, v5, v6, v7, v8, v9, v10, v11, v12, v13, v14, v15, v16, v17, v18, v19, v20, v21])) = some y5 := hf 5 _ rfl
    rw [mcells3] at g5
    have k5 : DataW.trod enc Try.prog w base spare held n 3 [v5] = some y5 := g5
    have g6 : DataW.trod enc Try.prog w base spare held n 3 (List.take (Try.prog.cellsOf 3) (List.drop 6 [v0, v1, v2, v3, v4, v5, v6, v7, v8, v9, v10, v11, v12, v13, v14, v15, v16, v17, v18, v19, v20, v21])) = some y6 := hf 6 _ rfl
    rw [mcells3] at g6
    have k6 : DataW.trod enc Try.prog w base spare held n 3 [v6] = some y6 := g6
    have g7 : DataW.trod enc Try.prog w base spare held n 25 (List.take (Try.prog.cellsOf 25) (List.drop 7 [v0, v1, v2, v3, v4, v5, v6, v7, v8, v9, v10, v11, v12, v13, v14, v15, v16, v17, v18, v19, v20, v21])) = some y7 := hf 7 _ rfl
    rw [mcells25] at g7
    have k7 : DataW.trod enc Try.prog w base spare held n 25 [v7] = some y7 := g7
    have g8 : DataW.trod enc Try.prog w base spare held n 2 (List.take (Try.prog.cellsOf 2) (List.drop 8 [v0, v1, v2, v3, v4, v5, v6, v7, v8, v9, v10, v11, v12, v13, v14, v15, v16, v17, v18, v19, v20, v21])) = some y8 := hf 8 _ rfl
    rw [mcells2] at g8
    have k8 : DataW.trod enc Try.prog w base spare held n 2 [v8] = some y8 := g8
    have g9 : DataW.trod enc Try.prog w base spare held n 27 (List.take (Try.prog.cellsOf 27) (List.drop 9 [v0, v1, v2, v3, v4, v5, v6, v7, v8, v9, v10, v11, v12, v13, v14, v15, v16, v17, v18, v19, v20, v21])) = some y9 := hf 9 _ rfl
    rw [mcells27] at g9
    have k9 : DataW.trod enc Try.prog w base spare held n 27 [v9, v10, v11, v12, v13, v14, v15, v16] = some y9 := g9
    have g10 : DataW.trod enc Try.prog w base spare held n 30 (List.take (Try.prog.cellsOf 30) (List.drop 17 [v0, v1, v2, v3, v4, v5, v6, v7, v8, v9, v10, v11, v12, v13, v14, v15, v16, v17, v18, v19, v20, v21])) = some y10 := hf 10 _ rfl
    rw [mcells30] at g10
    have k10 : DataW.trod enc Try.prog w base spare held n 30 [v17, v18, v19] = some y10 := g10
    have g11 : DataW.trod enc Try.prog w base spare held n 28 (List.take (Try.prog.cellsOf 28) (List.drop 20 [v0, v1, v2, v3, v4, v5, v6, v7, v8, v9, v10, v11, v12, v13, v14, v15, v16, v17, v18, v19, v20, v21])) = some y11 := hf 11 _ rfl
    rw [mcells28] at g11
    have k11 : DataW.trod enc Try.prog w base spare held n 28 [v20] = some y11 := g11
    have g12 : DataW.trod enc Try.prog w base spare held n 9 (List.take (Try.prog.cellsOf 9) (List.drop 21 [v0, v1, v2, v3, v4, v5, v6, v7, v8, v9, v10, v11, v12, v13, v14, v15, v16, v17, v18, v19, v20, v21])) = some y12 := hf 12 _ rfl
    rw [mcells9] at g12
    have k12 : DataW.trod enc Try.prog w base spare held n 9 [v21] = some y12 := g12
    obtain ⟨x0, e0, _, w0⟩ := DataW.trod_int Try.underlying5 k0
    obtain ⟨x1, e1, _, w1⟩ := DataW.trod_int Try.underlying3 k1
    obtain ⟨x2, e2, _, w2⟩ := DataW.trod_int Try.underlying3 k2
    obtain ⟨x3, e3, _, w3⟩ := DataW.trod_int Try.underlying3 k3
    obtain ⟨x4, e4, _, w4⟩ := DataW.trod_int Try.underlying3 k4
    obtain ⟨x5, e5, _, w5⟩ := DataW.trod_int Try.underlying3 k5
    obtain ⟨x6, e6, _, w6⟩ := DataW.trod_int Try.underlying3 k6
    obtain ⟨x7, e7, _, w7⟩ := DataW.trod_int Try.underlying25 k7
    obtain ⟨x8, e8, _, w8⟩ := DataW.trod_int Try.underlying2 k8
    obtain ⟨y, hy1, hy2, hy3, e9⟩ := item_in k9
    obtain ⟨ep, nd, a1, c1, ow, e10, ho, hI1⟩ := table_in k10
    obtain ⟨a2, c2, st, e11, hs, hI2⟩ := ints_in k11
    obtain ⟨x12, e12, _, w12⟩ := DataW.trod_string Try.underlying9 k12
    simp only [List.cons.injEq, and_true] at e0 e1 e2 e3 e4 e5 e6 e7 e8 e9 e10 e11 e12
    obtain ⟨p0, p1, p2, p3, p4, p5, p6, p7⟩ := e9
    obtain ⟨q0, q1, q2⟩ := e10
    have b0 := bounds_u8 w0
    have b7 := bounds_u64 w7
    have c0 : (((UInt8.ofNat x0.toNat).toNat : Nat) : Int) = x0 := by rw [toNat_ofNat_lt (by omega)]; omega
    have c7 : ((x7.toNat : Nat) : Int) = x7 := by omega
    refine ⟨⟨UInt8.ofNat x0.toNat, x1, x2, x3, x4, x5, x6, x7.toNat, x8, y, ep, nd, ow, st, x12.data.toList⟩, a1, a2, c1, c2, ⟨by show x7.toNat < 2 ^ 64; omega, bounds_i64 w8, hy1, hy2, hy3, ho, hs, w12⟩, ?_, hI1, hI2⟩
    rw [e0, e1, e2, e3, e4, e5, e6, e7, e8, p0, p1, p2, p3, p4, p5, p6, p7, q0, q1, q2, e11, e12]
    simp only [msgCells, c0, c7, Array.toArray_toList]
set_option maxRecDepth 100000 in
/-- A message that is handed in. -/
theorem msg_arg {H : Type} {enc : TypeId × Value → H} {w : World} {base : Nat} {spare : Nat → Bool} {held : Bool} {r : Reach} {b0 : Nat} {v : Value} {d : DataW H} {pl : List MemPlace} (hv : Value.okWide Try.prog w r b0 32 v) (h : DataW.Trod enc Try.prog w base spare held 32 v d pl) :
    ∃ (m : MsgV) (a1 a2 : Option Addr) (c1 c2 : Nat), Fit m ∧ v = .agg (msgCells m a1 c1 a2 c2).toArray ∧ Ints w a1 m.owner ∧ Ints w a2 m.set := by
  obtain ⟨cs, rfl, _⟩ := okWide_struct Try.underlying32 hv
  obtain ⟨fuel, hf⟩ := h
  obtain ⟨m, a1, a2, c1, c2, hF, hcs, h1, h2⟩ := msg_in hf
  refine ⟨m, a1, a2, c1, c2, hF, ?_, h1, h2⟩
  have : cs.toList = msgCells m a1 c1 a2 c2 := hcs
  rw [← this, Array.toArray_toList]
end Go.Proofs.Ytkbmbcmcnpeabaa

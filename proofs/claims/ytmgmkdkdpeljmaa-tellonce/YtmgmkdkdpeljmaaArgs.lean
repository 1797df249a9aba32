/- Aggregates and windows that came in, out of a row's reading. No conditions. -/
import Derived.Test.YtmgmkdkdpeljmaaFind
import Derived.ProofKit
import Derived.OpenShut
import Derived.ChangeSlices
namespace Go.Proofs.Ytmgmkdkdpeljmaa
open Go.RowKit Go.ChangeShapes Go.WideShapes

theorem mcells2 : Try.prog.cellsOf 2 = 1 := by kernel_rfl
theorem mcells22 : Try.prog.cellsOf 32 = 4 := by kernel_rfl
theorem mcells24 : Try.prog.cellsOf 34 = 8 := by kernel_rfl
set_option maxRecDepth 100000 in
theorem hist_in {H : Type} {enc : TypeId × Value → H} {w : World} {base : Nat} {spare : Nat → Bool} {held : Bool} {fuel : Nat} {cs : List Value} {x : DataW H × List MemPlace} (h : DataW.trod enc Try.prog w base spare held fuel 32 cs = some x) :
    ∃ h0 h1 h2 h3 : Int, i64 h0 ∧ i64 h1 ∧ i64 h2 ∧ i64 h3 ∧ cs = [.int .i64 h0, .int .i64 h1, .int .i64 h2, .int .i64 h3] := by
  obtain ⟨xs, n, rfl, rfl, hl, hxl, hf⟩ := DataW.trod_array Try.underlying32 h
  rw [mcells22] at hl
  rw [mcells2] at hf
  match cs, hl, xs, hxl with
  | [v0, v1, v2, v3], _, [y0, y1, y2, y3], _ =>
    have k0 : DataW.trod enc Try.prog w base spare held n 2 [v0] = some y0 := hf 0 (by omega)
    have k1 : DataW.trod enc Try.prog w base spare held n 2 [v1] = some y1 := hf 1 (by omega)
    have k2 : DataW.trod enc Try.prog w base spare held n 2 [v2] = some y2 := hf 2 (by omega)
    have k3 : DataW.trod enc Try.prog w base spare held n 2 [v3] = some y3 := hf 3 (by omega)
    obtain ⟨x0, e0, _, w0⟩ := DataW.trod_int Try.underlying2 k0
    obtain ⟨x1, e1, _, w1⟩ := DataW.trod_int Try.underlying2 k1
    obtain ⟨x2, e2, _, w2⟩ := DataW.trod_int Try.underlying2 k2
    obtain ⟨x3, e3, _, w3⟩ := DataW.trod_int Try.underlying2 k3
    simp only [List.cons.injEq, and_true] at e0 e1 e2 e3
    refine ⟨x0, x1, x2, x3, ?_, ?_, ?_, ?_, by rw [e0, e1, e2, e3]⟩
    · have := bounds_i64 w0; unfold i64; omega
    · have := bounds_i64 w1; unfold i64; omega
    · have := bounds_i64 w2; unfold i64; omega
    · have := bounds_i64 w3; unfold i64; omega
set_option maxRecDepth 100000 in
theorem agg_in {H : Type} {enc : TypeId × Value → H} {w : World} {base : Nat} {spare : Nat → Bool} {held : Bool} {fuel : Nat} {cs : List Value} {x : DataW H × List MemPlace} (h : DataW.trod enc Try.prog w base spare held fuel 34 cs = some x) :
    ∃ a : AggV, a.In ∧ cs = cellsA a := by
  obtain ⟨xs, n, rfl, rfl, hl, hxl, hf⟩ := DataW.trod_struct Try.underlying34 h
  rw [mcells24] at hl
  match cs, hl, xs, hxl with
  | [v0, v1, v2, v3, v4, v5, v6, v7], _, [y0, y1, y2, y3, y4], _ =>
    have g0 : DataW.trod enc Try.prog w base spare held n 2 (List.take (Try.prog.cellsOf 2) (List.drop 0 [v0, v1, v2, v3, v4, v5, v6, v7])) = some y0 := hf 0 _ rfl
    have g1 : DataW.trod enc Try.prog w base spare held n 2 (List.take (Try.prog.cellsOf 2) (List.drop 1 [v0, v1, v2, v3, v4, v5, v6, v7])) = some y1 := hf 1 _ rfl
    have g2 : DataW.trod enc Try.prog w base spare held n 2 (List.take (Try.prog.cellsOf 2) (List.drop 2 [v0, v1, v2, v3, v4, v5, v6, v7])) = some y2 := hf 2 _ rfl
    have g3 : DataW.trod enc Try.prog w base spare held n 2 (List.take (Try.prog.cellsOf 2) (List.drop 3 [v0, v1, v2, v3, v4, v5, v6, v7])) = some y3 := hf 3 _ rfl
    have g4 : DataW.trod enc Try.prog w base spare held n 32 (List.take (Try.prog.cellsOf 32) (List.drop 4 [v0, v1, v2, v3, v4, v5, v6, v7])) = some y4 := hf 4 _ rfl
    rw [mcells2] at g0 g1 g2 g3
    rw [mcells22] at g4
    have k0 : DataW.trod enc Try.prog w base spare held n 2 [v0] = some y0 := g0
    have k1 : DataW.trod enc Try.prog w base spare held n 2 [v1] = some y1 := g1
    have k2 : DataW.trod enc Try.prog w base spare held n 2 [v2] = some y2 := g2
    have k3 : DataW.trod enc Try.prog w base spare held n 2 [v3] = some y3 := g3
    have k4 : DataW.trod enc Try.prog w base spare held n 32 [v4, v5, v6, v7] = some y4 := g4
    obtain ⟨x0, e0, _, w0⟩ := DataW.trod_int Try.underlying2 k0
    obtain ⟨x1, e1, _, w1⟩ := DataW.trod_int Try.underlying2 k1
    obtain ⟨x2, e2, _, w2⟩ := DataW.trod_int Try.underlying2 k2
    obtain ⟨x3, e3, _, w3⟩ := DataW.trod_int Try.underlying2 k3
    obtain ⟨h0, h1, h2, h3, i0, i1, i2, i3, e4⟩ := hist_in k4
    simp only [List.cons.injEq, and_true] at e0 e1 e2 e3 e4
    obtain ⟨p0, p1, p2, p3⟩ := e4
    refine ⟨⟨x0, x1, x2, x3, h0, h1, h2, h3⟩, ⟨?_, ?_, ?_, ?_, i0, i1, i2, i3⟩, by rw [e0, e1, e2, e3, p0, p1, p2, p3]; rfl⟩
    · have := bounds_i64 w0; unfold i64; simp only; omega
    · have := bounds_i64 w1; unfold i64; simp only; omega
    · have := bounds_i64 w2; unfold i64; simp only; omega
    · have := bounds_i64 w3; unfold i64; simp only; omega
set_option maxRecDepth 100000 in
theorem agg_arg {H : Type} {enc : TypeId × Value → H} {w : World} {base : Nat} {spare : Nat → Bool} {held : Bool} {r : Reach} {b0 : Nat} {v : Value} {d : DataW H} {pl : List MemPlace} (hv : Value.okWide Try.prog w r b0 34 v) (h : DataW.Trod enc Try.prog w base spare held 34 v d pl) :
    ∃ a : AggV, a.In ∧ v = aggV a := by
  obtain ⟨cs, rfl, _⟩ := okWide_struct Try.underlying34 hv
  obtain ⟨fuel, hf⟩ := h
  obtain ⟨a, ha, hcs⟩ := agg_in hf
  refine ⟨a, ha, ?_⟩
  have : cs.toList = cellsA a := hcs
  unfold aggV
  rw [← this, Array.toArray_toList]
theorem mcells9 : Try.prog.cellsOf 9 = 1 := by kernel_rfl
theorem mcells38 : Try.prog.cellsOf 38 = 10 := by kernel_rfl
set_option maxRecDepth 100000 in
theorem out_in {H : Type} {enc : TypeId × Value → H} {w : World} {base : Nat} {spare : Nat → Bool} {held : Bool} {fuel : Nat} {cs : List Value} {x : DataW H × List MemPlace} (h : DataW.trod enc Try.prog w base spare held fuel 38 cs = some x) :
    ∃ a : Win AggV, a.agg.In ∧ i64 a.start ∧ a.key.length ≤ maxLen ∧ cs = outV a := by
  obtain ⟨xs, n, rfl, rfl, hl, hxl, hf⟩ := DataW.trod_struct Try.underlying38 h
  rw [mcells38] at hl
  match cs, hl, xs, hxl with
  | [v0, v1, v2, v3, v4, v5, v6, v7, v8, v9], _, [y0, y1, y2], _ =>
    have g0 : DataW.trod enc Try.prog w base spare held n 9 (List.take (Try.prog.cellsOf 9) (List.drop 0 [v0, v1, v2, v3, v4, v5, v6, v7, v8, v9])) = some y0 := hf 0 _ rfl
    have g1 : DataW.trod enc Try.prog w base spare held n 2 (List.take (Try.prog.cellsOf 2) (List.drop 1 [v0, v1, v2, v3, v4, v5, v6, v7, v8, v9])) = some y1 := hf 1 _ rfl
    have g2 : DataW.trod enc Try.prog w base spare held n 34 (List.take (Try.prog.cellsOf 34) (List.drop 2 [v0, v1, v2, v3, v4, v5, v6, v7, v8, v9])) = some y2 := hf 2 _ rfl
    rw [mcells9] at g0
    rw [mcells2] at g1
    rw [mcells24] at g2
    have k0 : DataW.trod enc Try.prog w base spare held n 9 [v0] = some y0 := g0
    have k1 : DataW.trod enc Try.prog w base spare held n 2 [v1] = some y1 := g1
    have k2 : DataW.trod enc Try.prog w base spare held n 34 [v2, v3, v4, v5, v6, v7, v8, v9] = some y2 := g2
    obtain ⟨s, e0, _, w0⟩ := DataW.trod_string Try.underlying9 k0
    obtain ⟨x1, e1, _, w1⟩ := DataW.trod_int Try.underlying2 k1
    obtain ⟨a, ha, e2⟩ := agg_in k2
    simp only [List.cons.injEq, and_true] at e0 e1
    refine ⟨⟨s.data.toList, x1, a⟩, ha, ?_, ?_, ?_⟩
    · have := bounds_i64 w1; unfold i64; simp only; omega
    · simp only [Array.length_toList]; exact w0
    · rw [e0, e1, e2]; rfl
set_option maxRecDepth 100000 in
theorem out_arg {H : Type} {enc : TypeId × Value → H} {w : World} {base : Nat} {spare : Nat → Bool} {held : Bool} {r : Reach} {b0 : Nat} {v : Value} {d : DataW H} {pl : List MemPlace} (hv : Value.okWide Try.prog w r b0 38 v) (h : DataW.Trod enc Try.prog w base spare held 38 v d pl) :
    ∃ a : Win AggV, a.agg.In ∧ i64 a.start ∧ a.key.length ≤ maxLen ∧ v = .agg (outV a).toArray := by
  obtain ⟨cs, rfl, _⟩ := okWide_struct Try.underlying38 hv
  obtain ⟨fuel, hf⟩ := h
  obtain ⟨a, ha, hs, hk, hcs⟩ := out_in hf
  refine ⟨a, ha, hs, hk, ?_⟩
  have : cs.toList = outV a := hcs
  rw [← this, Array.toArray_toList]
end Go.Proofs.Ytmgmkdkdpeljmaa

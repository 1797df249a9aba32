/- Aggregates and rows of numbers that came in, out of a row's reading. No conditions. -/
import Derived.Test.YtiokfnkcjicheaaOf
import Derived.ProofKit
import Derived.OpenShut
import Derived.ChangeSlices
namespace Go.Proofs.Ytiokfnkcjicheaa
open Go.RowKit Go.ChangeShapes Go.WideShapes

theorem mcells2 : Try.prog.cellsOf 2 = 1 := by kernel_rfl
theorem mcells22 : Try.prog.cellsOf 22 = 4 := by kernel_rfl
theorem mcells24 : Try.prog.cellsOf 24 = 8 := by kernel_rfl
set_option maxRecDepth 100000 in
theorem hist_in {H : Type} {enc : TypeId × Value → H} {w : World} {base : Nat} {spare : Nat → Bool} {held : Bool} {fuel : Nat} {cs : List Value} {x : DataW H × List MemPlace} (h : DataW.trod enc Try.prog w base spare held fuel 22 cs = some x) :
    ∃ h0 h1 h2 h3 : Int, i64 h0 ∧ i64 h1 ∧ i64 h2 ∧ i64 h3 ∧ cs = [.int .i64 h0, .int .i64 h1, .int .i64 h2, .int .i64 h3] := by
  obtain ⟨xs, n, rfl, rfl, hl, hxl, hf⟩ := DataW.trod_array Try.underlying22 h
  rw [mcells22] at hl
  rw [mcells2] at hf
  match cs, hl, xs, hxl with
  | [v0, v1, v2, v3], _, [y0, y1, y2, y3], _ =>
    have k0 : DataW.trod enc Try.prog w base spare held n 2 [v0] = some y0 := hf 0 (by omega)
    have k1 : DataW.trod enc Try.prog w base spare held n 2 [v1] = some y1 := hf 1 (by omega)
    have k2 : DataW.trod enc Try.prog w base spare held n 2 [v2] = some y2 := hf 2 (by omega)
    have k3 : DataW.trod enc Try.prog w base spare held n 2 [v3] = some y3 := hf 3 (by omega)
    obtain ⟨x0, e0, _, w0⟩ := DataW.trod_int Try.underlying2 k0
    obtain ⟨x1, e1, _, w1⟩ := DataW.trod_int Try.underlying2 k1
    obtain ⟨x2, e2, _, w2⟩ := DataW.trod_int Try.underlying2 k2
    obtain ⟨x3, e3, _, w3⟩ := DataW.trod_int Try.underlying2 k3
    simp only [List.cons.injEq, and_true] at e0 e1 e2 e3
    refine ⟨x0, x1, x2, x3, ?_, ?_, ?_, ?_, by rw [e0, e1, e2, e3]⟩
    · have := bounds_i64 w0; unfold i64; omega
    · have := bounds_i64 w1; unfold i64; omega
    · have := bounds_i64 w2; unfold i64; omega
    · have := bounds_i64 w3; unfold i64; omega
set_option maxRecDepth 100000 in
theorem agg_in {H : Type} {enc : TypeId × Value → H} {w : World} {base : Nat} {spare : Nat → Bool} {held : Bool} {fuel : Nat} {cs : List Value} {x : DataW H × List MemPlace} (h : DataW.trod enc Try.prog w base spare held fuel 24 cs = some x) :
    ∃ a : AggV, a.In ∧ cs = cellsA a := by
  obtain ⟨xs, n, rfl, rfl, hl, hxl, hf⟩ := DataW.trod_struct Try.underlying24 h
  rw [mcells24] at hl
  match cs, hl, xs, hxl with
  | [v0, v1, v2, v3, v4, v5, v6, v7], _, [y0, y1, y2, y3, y4], _ =>
    have g0 : DataW.trod enc Try.prog w base spare held n 2 (List.take (Try.prog.cellsOf 2) (List.drop 0 [v0, v1, v2, v3, v4, v5, v6, v7])) = some y0 := hf 0 _ rfl
    have g1 : DataW.trod enc Try.prog w base spare held n 2 (List.take (Try.prog.cellsOf 2) (List.drop 1 [v0, v1, v2, v3, v4, v5, v6, v7])) = some y1 := hf 1 _ rfl
    have g2 : DataW.trod enc Try.prog w base spare held n 2 (List.take (Try.prog.cellsOf 2) (List.drop 2 [v0, v1, v2, v3, v4, v5, v6, v7])) = some y2 := hf 2 _ rfl
    have g3 : DataW.trod enc Try.prog w base spare held n 2 (List.take (Try.prog.cellsOf 2) (List.drop 3 [v0, v1, v2, v3, v4, v5, v6, v7])) = some y3 := hf 3 _ rfl
    have g4 : DataW.trod enc Try.prog w base spare held n 22 (List.take (Try.prog.cellsOf 22) (List.drop 4 [v0, v1, v2, v3, v4, v5, v6, v7])) = some y4 := hf 4 _ rfl
    rw [mcells2] at g0 g1 g2 g3
    rw [mcells22] at g4
    have k0 : DataW.trod enc Try.prog w base spare held n 2 [v0] = some y0 := g0
    have k1 : DataW.trod enc Try.prog w base spare held n 2 [v1] = some y1 := g1
    have k2 : DataW.trod enc Try.prog w base spare held n 2 [v2] = some y2 := g2
    have k3 : DataW.trod enc Try.prog w base spare held n 2 [v3] = some y3 := g3
    have k4 : DataW.trod enc Try.prog w base spare held n 22 [v4, v5, v6, v7] = some y4 := g4
    obtain ⟨x0, e0, _, w0⟩ := DataW.trod_int Try.underlying2 k0
    obtain ⟨x1, e1, _, w1⟩ := DataW.trod_int Try.underlying2 k1
    obtain ⟨x2, e2, _, w2⟩ := DataW.trod_int Try.underlying2 k2
    obtain ⟨x3, e3, _, w3⟩ := DataW.trod_int Try.underlying2 k3
    obtain ⟨h0, h1, h2, h3, i0, i1, i2, i3, e4⟩ := hist_in k4
    simp only [List.cons.injEq, and_true] at e0 e1 e2 e3 e4
    obtain ⟨p0, p1, p2, p3⟩ := e4
    refine ⟨⟨x0, x1, x2, x3, h0, h1, h2, h3⟩, ⟨?_, ?_, ?_, ?_, i0, i1, i2, i3⟩, by rw [e0, e1, e2, e3, p0, p1, p2, p3]; rfl⟩
    · have := bounds_i64 w0; unfold i64; simp only; omega
    · have := bounds_i64 w1; unfold i64; simp only; omega
    · have := bounds_i64 w2; unfold i64; simp only; omega
    · have := bounds_i64 w3; unfold i64; simp only; omega
set_option maxRecDepth 100000 in
theorem agg_arg {H : Type} {enc : TypeId × Value → H} {w : World} {base : Nat} {spare : Nat → Bool} {held : Bool} {r : Reach} {b0 : Nat} {v : Value} {d : DataW H} {pl : List MemPlace} (hv : Value.okWide Try.prog w r b0 24 v) (h : DataW.Trod enc Try.prog w base spare held 24 v d pl) :
    ∃ a : AggV, a.In ∧ v = aggV a := by
  obtain ⟨cs, rfl, _⟩ := okWide_struct Try.underlying24 hv
  obtain ⟨fuel, hf⟩ := h
  obtain ⟨a, ha, hcs⟩ := agg_in hf
  refine ⟨a, ha, ?_⟩
  have : cs.toList = cellsA a := hcs
  unfold aggV
  rw [← this, Array.toArray_toList]
/-- A row of numbers that came in. -/
structure IntsIn (w : World) (a : Option Addr) (len : Nat) (xs : List Int) : Prop where
  len : len = xs.length
  max : xs.length ≤ maxLen
  row : Ints w a xs
  all : ∀ v ∈ xs, i64 v
theorem ints_arg {H : Type} {enc : TypeId × Value → H} {w : World} {base : Nat} {spare : Nat → Bool} {held : Bool} {a : Option Addr} {len cap : Nat} {d : DataW H} {pl : List MemPlace} (h : DataW.Trod enc Try.prog w base spare held 31 (.slice a len cap) d pl) :
    ∃ xs : List Int, IntsIn w a len xs := by
  obtain ⟨fuel, hf⟩ := h
  rcases Go.ChangeShapes.open_ints Try.underlying31 Try.underlying2 mcells2 hf with ⟨hcs, _⟩ | ⟨ad, l, c, zs, hcs, _, hl, hm, hz, _, hc, hwf⟩
  · have e : [Value.slice a len cap] = [.slice none 0 0] := hcs
    simp only [List.cons.injEq, Value.slice.injEq, and_true] at e
    obtain ⟨rfl, rfl, rfl⟩ := e
    exact ⟨[], rfl, Nat.zero_le _, fun i hi => by simp at hi, fun v hv => by simp at hv⟩
  · have e : [Value.slice a len cap] = [.slice (some ad) l c] := hcs
    simp only [List.cons.injEq, Value.slice.injEq, and_true] at e
    obtain ⟨rfl, rfl, rfl⟩ := e
    have hle : len ≤ zs.length := by rw [hz]; split <;> omega
    have hlen : (zs.take len).length = len := by rw [List.length_take]; omega
    refine ⟨zs.take len, hlen.symm, by omega, fun i hi => ⟨ad, rfl, ?_⟩, fun v hv => ?_⟩
    · rw [hc i (by omega)]
      simp only [List.getD_eq_getElem?_getD, List.getElem?_take_of_lt (show i < len by omega)]
    · have := bounds_i64 (hwf v (List.mem_of_mem_take hv)); unfold i64; omega
end Go.Proofs.Ytiokfnkcjicheaa

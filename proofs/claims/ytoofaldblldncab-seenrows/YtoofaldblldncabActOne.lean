/- An act that came in as a value. No conditions. -/
import Derived.Test.YtoofaldblldncabIns
namespace Go.Proofs.Ytoofaldblldncab
open Go.RowKit Go.ChangeShapes Go.WideShapes
set_option maxRecDepth 100000 in
theorem act_arg {H : Type} {enc : TypeId × Value → H} {w : World} {base : Nat} {spare : Nat → Bool} {held : Bool} {r : Reach} {b0 : Nat} {v : Value} {d : DataW H} {pl : List MemPlace} (hv : Value.okWide Try.prog w r b0 24 v) (h : DataW.Trod enc Try.prog w base spare held 24 v d pl) :
    ∃ p : ActV, p.In ∧ v = .agg (actC p).toArray := by
  obtain ⟨cs, rfl, _⟩ := okWide_struct Try.underlying24 hv
  obtain ⟨fuel, hf⟩ := h
  obtain ⟨p, ok, hcs⟩ := act_of hf
  refine ⟨p, ok, ?_⟩
  have : cs.toList = actC p := hcs
  rw [← this, Array.toArray_toList]
end Go.Proofs.Ytoofaldblldncab

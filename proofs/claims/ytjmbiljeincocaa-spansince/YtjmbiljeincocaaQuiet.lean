/- A region that draws its order, whose operations yield one value each in every world of a class. No conditions. -/
import Derived.Test.YtjmbiljeincocaaSt
import Derived.BigQuiet
import Derived.Deep.QuietTactic
namespace Go.Proofs.Ytjmbiljeincocaa

/-- A world of which St holds. -/
structure SW (St : World → Prop) where
  w : World
  ok : St w
theorem wp_region_sw {P : Program} {St : World → Prop} {id : Nat} {Q : Exit → Act → World → Prop} {a : Act} {w : World} {l : List Oper} (hm : P.follows .mixedOrders = true) (hB : Region.lexB .any l.toArray = true) (hS : St w.drew)
    (h : wpQuiet P l.toArray (fun w' => ∃ p : SW St, w' = p.w) (fun a' => ∀ w', (∃ p : SW St, w' = p.w) → Q .normal a' w') l a) : (Code.region id l.toArray true).wp P Q a w :=
  wp_region_quiet (C := fun w' => ∃ p : SW St, w' = p.w) hm hB ⟨⟨_, hS⟩, rfl⟩ (by simpa using h)
theorem St.drew {w0 W : World} {bs : List (Nat × TypeId × Value)} {rs : List (Value × List Int)} {Ds : List Nat} (h : St w0 bs rs Ds W) : St w0 bs rs Ds W.drew :=
  ⟨h.box, h.row, h.mark, h.ge, h.mge, h.below.drew⟩
end Go.Proofs.Ytjmbiljeincocaa

/- Which of two windows stands ahead, as the document's own less tells. Condition: the first key is no longer than 2^40. -/
import Derived.Test.YtmgmkdkdpeljmabStoreKey
import Derived.Test.YtmgmkdkdpeljmabCalls
import Derived.WalkKit
import Derived.Below
import Derived.BigQuiet
import Derived.Deep.QuietTactic
import Derived.RegionTactic
import Derived.WalkSmall
import Derived.LoopTactic
import Derived.IntWalk
import Derived.Outline
import Derived.Deep.Cut
import Derived.WalkSpells
import Derived.Deep.RegionWith
import Derived.Laws.IdiomStrings
namespace Go.Proofs.Ytmgmkdkdpeljmab
open Go.RowKit

/-- A world of which St holds. -/
structure SX (St : World → Prop) where
  w : World
  ok : St w
theorem wp_region_sx {P : Program} {St : World → Prop} {id : Nat} {Q : Exit → Act → World → Prop} {a : Act} {w : World} {l : List Oper} (hm : P.follows .mixedOrders = true) (hB : Region.lexB .any l.toArray = true) (hS : St w.drew)
    (h : wpQuiet P l.toArray (fun w' => ∃ p : SX St, w' = p.w) (fun a' => ∀ w', (∃ p : SX St, w' = p.w) → Q .normal a' w') l a) : (Code.region id l.toArray true).wp P Q a w :=
  wp_region_quiet (C := fun w' => ∃ p : SX St, w' = p.w) hm hB ⟨⟨_, hS⟩, rfl⟩ (by simpa using h)

/-- A window's cells; c: its aggregate's. -/
def outC (k : List UInt8) (s : Int) (c : List Value) : List Value := .string ⟨k.toArray⟩ :: .int .i64 s :: c
theorem byte_is (k : List UInt8) (j : Nat) (h : j < (⟨k.toArray⟩ : ByteArray).size) : (⟨k.toArray⟩ : ByteArray)[j]'h = k.getD j 0 := by
  have hj : j < k.length := by simpa [ByteArray.size] using h
  rw [List.getD_eq_getElem?_getD, List.getElem?_eq_getElem hj]
  rfl
theorem u8_lt_nat (a b : UInt8) : decide (a.toNat < b.toNat) = decide (a < b) := by rw [decide_eq_decide, UInt8.lt_iff_toNat_lt]
theorem u8_ne_int {a b : UInt8} (h : ¬ a = b) : ¬ (a.toNat : Int) = (b.toNat : Int) := fun e => h (UInt8.toNat_inj.1 (by omega))

end Go.Proofs.Ytmgmkdkdpeljmab

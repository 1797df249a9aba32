/- Which of two windows stands ahead, as the document's own less tells. Condition: the first key is no longer than 2^40. -/
import Derived.Test.YtmgmkdkdpeljmaaStoreKey
import Derived.Test.YtmgmkdkdpeljmaaCalls
import Derived.WalkKit
import Derived.Below
import Derived.BigQuiet
import Derived.Deep.QuietTactic
import Derived.RegionTactic
import Derived.WalkSmall
import Derived.LoopTactic
import Derived.IntWalk
import Derived.Outline
import Derived.Deep.Cut
import Derived.WalkSpells
import Derived.Deep.RegionWith
import Derived.Laws.IdiomStrings
namespace Go.Proofs.Ytmgmkdkdpeljmaa
open Go.RowKit

/-- A world of which St holds. -/
structure SX (St : World → Prop) where
  w : World
  ok : St w
theorem wp_region_sx {P : Program} {St : World → Prop} {id : Nat} {Q : Exit → Act → World → Prop} {a : Act} {w : World} {l : List Oper} (hm : P.follows .mixedOrders = true) (hB : Region.lexB .any l.toArray = true) (hS : St w.drew)
    (h : wpQuiet P l.toArray (fun w' => ∃ p : SX St, w' = p.w) (fun a' => ∀ w', (∃ p : SX St, w' = p.w) → Q .normal a' w') l a) : (Code.region id l.toArray true).wp P Q a w :=
  wp_region_quiet (C := fun w' => ∃ p : SX St, w' = p.w) hm hB ⟨⟨_, hS⟩, rfl⟩ (by simpa using h)

/-- A window's cells; c: its aggregate's. -/
def outC (k : List UInt8) (s : Int) (c : List Value) : List Value := .string ⟨k.toArray⟩ :: .int .i64 s :: c
theorem byte_is (k : List UInt8) (j : Nat) (h : j < (⟨k.toArray⟩ : ByteArray).size) : (⟨k.toArray⟩ : ByteArray)[j]'h = k.getD j 0 := by
  have hj : j < k.length := by simpa [ByteArray.size] using h
  rw [List.getD_eq_getElem?_getD, List.getElem?_eq_getElem hj]
  rfl
theorem u8_lt_nat (a b : UInt8) : decide (a.toNat < b.toNat) = decide (a < b) := by rw [decide_eq_decide, UInt8.lt_iff_toNat_lt]
theorem u8_ne_int {a b : UInt8} (h : ¬ a = b) : ¬ (a.toNat : Int) = (b.toNat : Int) := fun e => h (UInt8.toNat_inj.1 (by omega))

set_option maxRecDepth 100000 in
set_option maxHeartbeats 2000000 in
theorem less_any (ka kb : List UInt8) (sa sb : Int) (ca cb : List Value) (w : World) (la : ka.length ≤ 1099511627776) :
    Calls Try.prog 90 #[.agg (outC ka sa ca).toArray, .agg (outC kb sb cb).toArray] w fun e w' =>
      e = .returned (.bool (ahead (⟨ka, sa, ()⟩ : Win Unit) ⟨kb, sb, ()⟩)) ∧ Below w.heap.size w w' := by
  obtain ⟨W, hW⟩ : ∃ W, W = (w.alloc (.cells (outC ka sa ca).toArray 38)).alloc (.cells (outC kb sb cb).toArray 38) := ⟨_, rfl⟩
  obtain ⟨h, hh⟩ : ∃ h, h = w.heap.size := ⟨_, rfl⟩
  have bW : Below w.heap.size w W := by rw [hW]; exact ((Below.refl _ _).alloc (Nat.le_refl _) _).alloc (by simp) _
  have hsz : W.heap.size = h + 2 := by rw [hW, hh]; simp
  obtain ⟨CL, hCL⟩ : ∃ CL : World → Prop, CL = fun v => Below W.heap.size W v := ⟨_, rfl⟩
  have un : ∀ v, CL v → Below W.heap.size W v := fun v k => by rw [hCL] at k; exact k
  have base : CL W := by rw [hCL]; exact Below.refl _ _
  have drew : ∀ v, CL v → CL v.drew := fun v k => by rw [hCL] at k ⊢; exact k.drew
  have ne : Nonempty (SX CL) := ⟨⟨W, base⟩⟩
  have c0 : W.cell? ⟨h, 0, none⟩ = some (.string ⟨ka.toArray⟩) ∧ W.cell? ⟨h, 1, none⟩ = some (.int .i64 sa) := by
    have e : ∀ i, W.cell? ⟨h, i, none⟩ = (w.alloc (.cells (outC ka sa ca).toArray 38)).cell? ⟨h, i, none⟩ := fun i => by
      rw [hW]; exact ((Below.refl _ _).alloc (Nat.le_refl _) _).cell (p := ⟨h, i, none⟩) (by rw [hh]; simp)
    rw [e, e, hh, World.cell?_alloc_new, World.cell?_alloc_new]; exact ⟨rfl, rfl⟩
  have c1 : W.cell? ⟨h + 1, 0, none⟩ = some (.string ⟨kb.toArray⟩) ∧ W.cell? ⟨h + 1, 1, none⟩ = some (.int .i64 sb) := by
    have e : h + 1 = (w.alloc (.cells (outC ka sa ca).toArray 38)).heap.size := by rw [hh]; simp
    rw [hW, e, World.cell?_alloc_new, World.cell?_alloc_new]; exact ⟨rfl, rfl⟩
  have kc : ∀ (p : SX CL) (b i : Nat) (v : Value), b < h + 2 → W.cell? ⟨b, i, none⟩ = some v → p.w.cell? ⟨b, i, none⟩ = some v := fun p b i v hb hv => ((un _ p.ok).cell (p := ⟨b, i, none⟩) (by rw [hsz]; exact hb)).trans hv
  have a0 : ∀ p : SX CL, p.w.cell? ⟨h, 0, none⟩ = some (.string ⟨ka.toArray⟩) := fun p => kc p _ _ _ (by omega) c0.1
  have a1 : ∀ p : SX CL, p.w.cell? ⟨h, 1, none⟩ = some (.int .i64 sa) := fun p => kc p _ _ _ (by omega) c0.2
  have b0 : ∀ p : SX CL, p.w.cell? ⟨h + 1, 0, none⟩ = some (.string ⟨kb.toArray⟩) := fun p => kc p _ _ _ (by omega) c1.1
  have b1 : ∀ p : SX CL, p.w.cell? ⟨h + 1, 1, none⟩ = some (.int .i64 sb) := fun p => kc p _ _ _ (by omega) c1.2
  have FIN := hide (fun v (k : CL v) => bW.trans ((un v k).mono bW.size))
  have HW := hide hW
  have HH := hide hh
  have BS := hide base
  clear hW hh bW hsz hCL un c0 c1 kc base
  have za : (⟨ka.toArray⟩ : ByteArray).size = ka.length := by simp [ByteArray.size]
  have zb : (⟨kb.toArray⟩ : ByteArray).size = kb.length := by simp [ByteArray.size]
  go_enter Try.func90, Try.ntmps90
  go_upto_region 1 with fail
  rw [← unhide HH]
  try change Code.wp _ _ _ _ ((w.alloc (.cells (outC ka sa ca).toArray 38)).alloc (.cells (outC kb sb cb).toArray 38))
  rw [← unhide HW]
  have x0 := a0 ⟨W, unhide BS⟩
  have x1 := a1 ⟨W, unhide BS⟩
  have y0 := b0 ⟨W, unhide BS⟩
  have y1 := b1 ⟨W, unhide BS⟩
  dsimp only at x0 x1 y0 y1
  by_cases hs : sa = sb
  · subst hs
    have he : Hid (ahead (⟨ka, sa, ()⟩ : Win Unit) ⟨kb, sa, ()⟩ = keyLt ka kb) := hide (by unfold ahead; simp)
    go_wp2_with fail
    go_loopw [5] (fun i wr => ∃ j : Nat, i = .int .i64 (j : Int) ∧ j ≤ ka.length ∧ j ≤ kb.length ∧ sameTo ka kb j ∧ CL wr) (fun i _ => ka.length - (intOf i).toNat)
    case atStart => exact ⟨0, rfl, Nat.zero_le _, Nat.zero_le _, sameTo_zero _ _, unhide BS⟩
    case round =>
      obtain ⟨j, rfl, hja, hjb, hsm, OK⟩ := hrel
      clear x0 x1 y0 y1
      have x0 := a0 ⟨wr, OK⟩
      have y0 := b0 ⟨wr, OK⟩
      dsimp only at x0 y0
      have HS := hide hsm
      have hj0 : (0 : Int) ≤ (j : Int) := by omega
      by_cases h1 : j < ka.length
      · by_cases h2 : j < kb.length
        · have g1 : (j : Int) < (ka.length : Int) := by omega
          have g2 : (j : Int) < (kb.length : Int) := by omega
          have hw : IntKind.i64.wrap ((j : Int) + 1) = (j : Int) + 1 := Go.IntWalk.i64_in _ (by omega)
          go_upto_region 6 with fail
          refine wp_region_sx (St := CL) (by kernel_rfl) (by kernel_rfl) (drew _ OK) ?_
          repeat (go_big_quiet_step (fail))
          refine wpQuiet_nil ?_
          rintro v1 ⟨p1, e1⟩
          have OK1 := p1.ok
          rw [← e1] at OK1
          clear e1 x0 y0 OK
          try dsimp only
          simp only [byte_is]
          by_cases e : ka.getD j 0 = kb.getD j 0
          · have S1 := hide (sameTo_succ hsm h1 h2 e)
            rw [e]
            clear hsm e
            generalize kb.getD j 0 = u at *
            go_wp2_with fail
            go_roundw
            case rel => exact ⟨j + 1, rfl, by omega, by omega, unhide S1, OK1⟩
            case measure => simp [intOf]; omega
          · have K1 := hide (keyLt_differ hsm h1 h2 e)
            have hne := u8_ne_int e
            have x0 := a0 ⟨v1, OK1⟩
            have y0 := b0 ⟨v1, OK1⟩
            dsimp only at x0 y0
            clear hsm e
            go_upto_region 7 with fail
            refine wp_region_sx (St := CL) (by kernel_rfl) (by kernel_rfl) (drew _ OK1) ?_
            repeat (go_big_quiet_step (fail))
            refine wpQuiet_nil ?_
            rintro v2 ⟨p2, e2⟩
            have OK2 := p2.ok
            rw [← e2] at OK2
            clear e2
            try dsimp only
            simp only [byte_is]
            go_wp2_with fail
            go_ret
            exact ⟨by rw [unhide he, unhide K1, ← u8_lt_nat]; rfl, unhide FIN _ OK2⟩
        · have g1 : (j : Int) < (ka.length : Int) := by omega
          have g2 : ¬ (j : Int) < (kb.length : Int) := by omega
          have K1 := hide (keyLt_short hsm (.inr (by omega)) hja hjb)
          have OKH := hide OK
          clear hsm OK
          go_wp2_with fail
          go_ret
          exact ⟨by rw [unhide he, unhide K1]; simp, unhide FIN _ (unhide OKH)⟩
      · have g1 : ¬ (j : Int) < (ka.length : Int) := by omega
        have K1 := hide (keyLt_short hsm (.inl (by omega)) hja hjb)
        have OKH := hide OK
        clear hsm OK
        go_wp2_with fail
        go_ret
        exact ⟨by rw [unhide he, unhide K1]; simp, unhide FIN _ (unhide OKH)⟩
  · have he : Hid (ahead (⟨ka, sa, ()⟩ : Win Unit) ⟨kb, sb, ()⟩ = decide (sa < sb)) := hide (by unfold ahead; simp [hs])
    go_wp2_with fail
    go_ret
    exact ⟨by rw [unhide he]; rfl, unhide FIN _ (unhide BS)⟩
end Go.Proofs.Ytmgmkdkdpeljmaa

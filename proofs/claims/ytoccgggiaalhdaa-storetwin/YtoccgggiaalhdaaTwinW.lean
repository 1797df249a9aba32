/- What StoreTwin does: it answers true, and nothing that was there has turned. No conditions. -/
import Derived.Test.YtoccgggiaalhdaaTwinH
namespace Go.Proofs.Ytoccgggiaalhdaa
open Go.RowKit
set_option maxRecDepth 100000 in
set_option maxHeartbeats 8000000 in
theorem twinlaw_any (a : Option Addr) (len cap : Nat) (z : List ActZ) (b : Option Addr) (len2 cap2 : Nat) (y : List ActZ) (w : World) (hz : IsActs w a len cap z) (hy : IsActs w b len2 cap2 y) :
    Calls Try.prog 6 #[.slice a len cap, .slice b len2 cap2] w fun e w' => e = .returned (.bool true) ∧ Below w.heap.size w w' := by
  have HZ := hide hz
  have HY := hide hy
  have GR := hide (great_any a len cap z w hz)
  have GS := hide (great_any b len2 cap2 y w hy)
  have BEL := hide (Below.refl w.heap.size w)
  have WK := hide wakes_any
  have hw0 := hide (Here.new (Below.refl w.heap.size w) (R := []) (fun _ h => by cases h))
  clear hz hy
  by_cases hg : tooGreat z = true
  · rw [hg] at GR
    go_enter Try.func6, Try.ntmps6
    go_wp2_with fail
    refine (unhide GR).mono ?_
    rintro e v' ⟨rfl, hw⟩
    rw [hw]
    clear hw v'
    go_wp2_with fail
    refine (unhide WK _).mono ?_
    rintro e v' ⟨rfl, hb⟩
    go_wp2_with fail
    go_ret
    exact ⟨rfl, (unhide BEL).trans (hb.mono (unhide BEL).size)⟩
  · rw [Bool.eq_false_iff.2 hg] at GR
    by_cases hg2 : tooGreat y = true
    · rw [hg2] at GS
      go_enter Try.func6, Try.ntmps6
      go_wp2_with fail
      refine (unhide GR).mono ?_
      rintro e v' ⟨rfl, hw⟩
      rw [hw]
      clear hw v'
      go_wp2_with fail
      refine (unhide GS).mono ?_
      rintro e v' ⟨rfl, hw⟩
      rw [hw]
      clear hw v'
      go_wp2_with fail
      refine (unhide WK _).mono ?_
      rintro e v' ⟨rfl, hb⟩
      go_wp2_with fail
      go_ret
      exact ⟨rfl, (unhide BEL).trans (hb.mono (unhide BEL).size)⟩
    · rw [Bool.eq_false_iff.2 hg2] at GS
      go_enter Try.func6, Try.ntmps6
      go_upto_region 3 with fail
      refine (unhide GR).mono ?_
      rintro e v' ⟨rfl, hw⟩
      rw [hw]
      clear hw v'
      go_upto_region 3 with fail
      refine (unhide GS).mono ?_
      rintro e v' ⟨rfl, hw⟩
      rw [hw]
      clear hw v'
      go_upto_region 3 with fail
      go_upto_region 4 with fail
      refine (unhide hw0).mono ?_
      rintro e u1 ⟨rfl, HE⟩
      have HS := hide HE
      clear HE hw0 GR GS BEL hg hg2
      generalize w.heap.size = p0 at HS ⊢
      go_upto_region 4 with fail
      go_upto_region 5 with fail
      refine (plays_any (unhide HS) mild_nil a len cap z (unhide HZ)).mono ?_
      rintro e u2 ⟨rfl, HE, hm⟩
      have ML := hide hm
      clear HS
      have HS := hide HE
      have GL := hide (good_plays (unhide HZ))
      clear HE hm
      generalize playS SO [] z = L at *
      go_upto_region 5 with fail
      go_upto_region 6 with fail
      refine ((unhide HS).all2 (Nat.le_trans (unhide ML).most (by omega))).mono ?_
      rintro e u3 ⟨a1, c1, rfl, HE, _⟩
      clear HS
      have HS := hide HE
      clear HE
      go_upto_region 6 with fail
      go_upto_region 7 with fail
      refine ((unhide HS).twin).mono ?_
      rintro e u4 ⟨q, rfl, HE, _⟩
      have HT := hide HE
      clear HE
      go_upto_region 7 with fail
      go_upto_region 8 with fail
      refine (plays_any (unhide HT) (unhide ML) b len2 cap2 y ((unhide HY).below (unhide HS).bel)).mono ?_
      rintro e u5 ⟨rfl, HE, hm⟩
      have MM := hide hm
      clear HT
      have HT := hide HE
      have HS := hide ((unhide HS).below HE.bel)
      clear HE hm
      have FL := hide (unhide HS).fine
      obtain ⟨M, hM⟩ : ∃ M, M = playS SO L y := ⟨_, rfl⟩
      rw [← hM] at MM HT
      have HMQ := hide hM
      clear hM
      go_upto_region 8 with fail
      go_upto_region 10 with fail
      refine ((unhide HS).all2 (Nat.le_trans (unhide ML).most (by omega))).mono ?_
      rintro e u6 ⟨a2, c2, rfl, HE, hb⟩
      have HT := hide ((unhide HT).below hb)
      clear HS
      have HS := hide HE
      clear HE hb
      go_upto_region 10 with fail
      have R1 : Lay u6 a2 L := Held.lay (r := (a2, c2, L)) ((unhide HS).row List.mem_cons_self) (Nat.le_trans (unhide ML).most (by omega))
      have R2 : Lay u6 a1 L := Held.lay (r := (a1, c1, L)) ((unhide HS).row (List.mem_cons_of_mem _ List.mem_cons_self)) (Nat.le_trans (unhide ML).most (by omega))
      have SM := hide (same_self (c := c2) (d := c1) R1 R2)
      clear R1 R2
      refine (unhide SM).mono ?_
      rintro e u7 ⟨rfl, hb⟩
      have HT := hide ((unhide HT).below hb)
      have HS := hide (((unhide HS).below hb).drop (R' := [(a1, c1, L)]) (fun r hr => List.mem_cons_of_mem _ hr))
      clear hb SM
      go_upto_region 10 with fail
      go_upto_region 11 with fail
      refine (Here.new (Below.refl u7.heap.size u7) (R := []) (fun _ h => by cases h)).mono ?_
      rintro e u8 ⟨rfl, HE⟩
      have HU := hide HE
      clear HE
      generalize hr0 : u7.heap.size = r0 at HU ⊢
      clear hr0
      have WAS : Hid (∀ u, Below u7.heap.size u7 u → Lay u a1 L) := hide fun u hu => Held.lay (r := (a1, c1, L)) (((unhide HS).below hu).row List.mem_cons_self) (Nat.le_trans (unhide ML).most (by omega))
      have hL := (unhide ML).most
      have hwl : IntKind.i64.wrap ((L.length : Int) - 1) = (L.length : Int) - 1 := Go.IntWalk.i64_in _ (by omega)
      go_wp2_with fail
      go_loopw [9] (fun i wr => (∃ j : Nat, i = .int .i64 (j : Int) ∧ j < L.length ∧ Here u7 wr r0 (L.drop (j + 1)) []) ∨ (i = .int .i64 (-1) ∧ Here u7 wr r0 L [])) (fun i _ => (intOf i + 1).toNat)
      case atStart =>
        rcases Nat.eq_zero_or_pos L.length with h0 | h0
        · exact .inr ⟨by rw [h0]; rfl, by rw [List.length_eq_zero_iff.1 h0]; exact unhide HU⟩
        · exact .inl ⟨L.length - 1, by rw [show ((L.length - 1 : Nat) : Int) = (L.length : Int) - 1 by omega], by omega, by rw [show L.length - 1 + 1 = L.length by omega, List.drop_length]; exact unhide HU⟩
      case round =>
        rcases hrel with ⟨j, rfl, hj, hu⟩ | ⟨rfl, hu⟩
        · have HU' := hide hu
          clear hu HU
          have hj0 : (0 : Int) ≤ (j : Int) := by omega
          have g1 : (j : Int) < (L.length : Int) := by omega
          have hwj : IntKind.i64.wrap ((j : Int) - 1) = (j : Int) - 1 := Go.IntWalk.i64_in _ (by omega)
          obtain ⟨x, hx⟩ : ∃ x, L[j]? = some x := ⟨_, List.getElem?_eq_getElem hj⟩
          obtain ⟨g, rfl, hr, _⟩ := (unhide WAS _ (unhide HU').bel).at hx
          have CS := hide (Here.setNext hx (unhide GL) (unhide ML) (unhide FL) (unhide HU'))
          have RX := hide hr
          clear hr hx
          obtain ⟨xk, xs, ⟨g0, g1', g2, g3, g4, g5, g6, g7⟩⟩ := x
          simp only [outV_eq] at CS RX
          go_wp2_with (first | (refine wpList_load_on rfl 34 (.tmp 47) rfl g (j * 10) rfl [.string ⟨xk.toArray⟩, .int .i64 xs, .int .i64 g0, .int .i64 g1', .int .i64 g2, .int .i64 g3, .int .i64 g4, .int .i64 g5, .int .i64 g6, .int .i64 g7] _ (unhide RX) Try.underlying34 rfl (by kernel_rfl) ?_))
          refine (unhide CS).mono ?_
          rintro e v' ⟨rfl, HE⟩
          have HN := hide HE
          clear HE CS RX HU'
          go_wp2_with fail
          rcases Nat.eq_zero_or_pos j with h0 | h0
          · subst h0
            exact ⟨.inr ⟨rfl, by have := unhide HN; rw [List.drop_zero] at this; exact this⟩, by simp [intOf]⟩
          · exact ⟨.inl ⟨j - 1, by rw [show ((j - 1 : Nat) : Int) = (j : Int) - 1 by omega], by omega, by rw [show j - 1 + 1 = j by omega]; exact unhide HN⟩, by simp [intOf]⟩
        · have HU' := hide hu
          clear hu HU
          go_upto_region 16 with fail
          go_upto_region 18 with fail
          refine ((unhide HU').all2 (Nat.le_trans (unhide ML).most (by omega))).mono ?_
          rintro e v1 ⟨a3, c3, rfl, HE, _⟩
          have HUU := hide HE
          clear HE HU'
          go_upto_region 18 with fail
          have R1 : Lay v1 a3 L := Held.lay (r := (a3, c3, L)) ((unhide HUU).row List.mem_cons_self) (Nat.le_trans (unhide ML).most (by omega))
          have R2 : Lay v1 a1 L := unhide WAS v1 (unhide HUU).bel
          have SM := hide (same_self (c := c3) (d := c1) R1 R2)
          clear R1 R2
          refine (unhide SM).mono ?_
          rintro e v2 ⟨rfl, hb⟩
          have HU2 := hide (((unhide HUU).below hb).drop (R' := []) (fun _ h => by cases h))
          clear hb SM HUU
          go_upto_region 18 with fail
          go_upto_region 19 with fail
          refine (plays_any (unhide HU2) (unhide ML) b len2 cap2 y ((unhide HY).below (unhide HS).bel)).mono ?_
          rintro e v3 ⟨rfl, HE, _⟩
          rw [← unhide HMQ] at HE
          have HU3 := hide HE
          clear HE HU2
          go_upto_region 19 with fail
          go_upto_region 20 with fail
          refine ((unhide HU3).all2 (Nat.le_trans (unhide MM).most (by omega))).mono ?_
          rintro e v4 ⟨a4, c4, rfl, HE, _⟩
          have HU4 := hide HE
          clear HE HU3
          go_upto_region 20 with fail
          go_upto_region 21 with fail
          refine (((unhide HT).below (unhide HU4).bel).all2 (Nat.le_trans (unhide MM).most (by omega))).mono ?_
          rintro e v5 ⟨a5, c5, rfl, HE, hb⟩
          have HU5 := hide ((unhide HU4).below hb)
          have R1 : Lay v5 a5 M := Held.lay (r := (a5, c5, M)) (HE.row List.mem_cons_self) (Nat.le_trans (unhide MM).most (by omega))
          have R2 : Lay v5 a4 M := Held.lay (r := (a4, c4, M)) ((unhide HU5).row List.mem_cons_self) (Nat.le_trans (unhide MM).most (by omega))
          have SM := hide (same_self (c := c4) (d := c5) R2 R1)
          clear HE hb R1 R2 HU4
          go_upto_region 21 with fail
          refine (unhide SM).mono ?_
          rintro e v6 ⟨rfl, hb⟩
          have HU6 := hide ((unhide HU5).below hb)
          clear hb SM HU5
          obtain ⟨Ft, HF⟩ := unhide HT
          obtain ⟨Fu, HG⟩ := unhide HU6
          have hF6 := HF.below HG.bel
          have hFt : ∀ k, Ft k → k < u7.heap.size := fun k hk => HF.st.lt k hk
          obtain ⟨hrw, hnot⟩ := HG.rows _ List.mem_cons_self
          have hrw' : OutK.Row v6 u7.heap.size a4 c4 M := hrw
          have hgg : ∃ g4, (M.length = 0 ∨ (a4 = some ⟨g4, 0, none⟩ ∧ RowAt v6 g4 (OutK.cells M))) ∧ u7.heap.size ≤ g4 ∧ ¬ Fu g4 := by
            rcases hrw'.2 with ⟨_, h0⟩ | ⟨g, cap', cur, hv, _⟩
            · exact ⟨v6.heap.size, .inl h0, HG.bel.size, fun f => Nat.lt_irrefl _ (HG.st.lt _ f)⟩
            · have ha4 : a4 = some ⟨g, 0, none⟩ := by simp only [Value.slice.injEq] at hv; exact hv.1
              subst ha4
              exact ⟨g, .inr ⟨rfl, row_at hrw'⟩, (row_lt hrw' g rfl).1, hnot g rfl⟩
          obtain ⟨g4, hgs, hg7, hgu⟩ := hgg
          have NU : Hid (∀ wr, Moved (fun k => k = g4) v6 wr → Here u7 wr r0 M []) := hide fun wr mv => ⟨Fu, HG.st.keep mv (fun i hi f => hgu (hi ▸ f)), HG.big, ((Moved.of_below (F := fun k => k = g4) HG.bel).trans mv (fun _ hi => .inl hi)).below (fun i hi => by omega) (Nat.le_refl _), fun r hr => by cases hr⟩
          have NT : Hid (∀ wr, Moved (fun k => k = g4) v6 wr → Here u3 wr q M []) := hide fun wr mv => ⟨Ft, hF6.st.keep mv (fun i hi f => by have := hFt i f; omega), hF6.big, ((Moved.of_below (F := fun k => k = g4) hF6.bel).trans mv (fun _ hi => .inl hi)).below (fun i hi => by have := HF.bel.size; omega) (Nat.le_refl _), fun r hr => by cases hr⟩
          have NW := hide (unhide HS).bel
          have HGS := hide hgs
          have hM32 := (unhide MM).most
          clear HF HG hF6 hFt hrw hnot hrw' hgs HT HU6 hg7 hgu
          go_upto_region 21 with fail
          go_wp2_with fail
          go_loopw [12] (fun i wr => ∃ j : Nat, i = .int .i64 (j : Int) ∧ j ≤ M.length ∧ Moved (fun k => k = g4) v6 wr ∧ (M.length = 0 ∨ ∃ vs, vs.length = M.length * 10 ∧ RowAt wr g4 vs)) (fun i _ => M.length - (intOf i).toNat)
          case atStart => exact ⟨0, rfl, Nat.zero_le _, Moved.refl _ _, (unhide HGS).imp id (fun h => ⟨_, cells_length outK_law M, h.2⟩)⟩
          case round =>
            obtain ⟨j, rfl, hj, hmv, hro⟩ := hrel
            have HMV := hide hmv
            clear hmv
            by_cases hlt : j < M.length
            · have g1 : (j : Int) < (M.length : Int) := by omega
              have hj0 : (0 : Int) ≤ (j : Int) := by omega
              have hwj : IntKind.i64.wrap ((j : Int) + 1) = (j : Int) + 1 := Go.IntWalk.i64_in _ (by omega)
              obtain ⟨rfl, _⟩ := (unhide HGS).resolve_left (by omega)
              obtain ⟨vs, hvl, hrow⟩ := hro.resolve_left (by omega)
              have hc : wr.cell? ⟨g4, j * 10, none⟩ = some (vs.getD (j * 10) undef) := hrow.cell (j * 10) (by omega)
              have hf : wr.frozen? ⟨g4, j * 10, none⟩ = false := hrow.free (j * 10) (by omega)
              generalize vs.getD (j * 10) undef = old at hc
              have NX := hide (fun u => (⟨(unhide HMV).setCell (p := ⟨g4, j * 10, none⟩) (.inl rfl) u, hrow.set (j * 10) (by omega) u⟩ : Moved (fun k => k = g4) v6 (wr.setCell ⟨g4, j * 10, none⟩ u) ∧ RowAt (wr.setCell ⟨g4, j * 10, none⟩ u) g4 (vs.set (j * 10) u)))
              have HVL := hide hvl
              clear hrow hro hvl
              go_wp2_with fail
              exact ⟨⟨j + 1, rfl, by omega, (unhide NX _).1, .inr ⟨_, by rw [List.length_set]; exact unhide HVL, (unhide NX _).2⟩⟩, by simp [intOf]; omega⟩
            · have g1 : ¬ (j : Int) < (M.length : Int) := by omega
              have HU7 := hide (unhide NU _ (unhide HMV))
              have HT7 := hide (unhide NT _ (unhide HMV))
              have BW := hide ((unhide NW).trans ((unhide HU7).bel.mono (unhide NW).size))
              clear hro NU NT HMV HGS
              go_wp2_with fail
              refine ((unhide HU7).all2 (Nat.le_trans (unhide MM).most (by omega))).mono ?_
              rintro e v8 ⟨a6, c6, rfl, HE, hb⟩
              have HU8 := hide HE
              have HT8 := hide ((unhide HT7).below hb)
              have B8 := hide ((unhide BW).trans (hb.mono (unhide BW).size))
              clear HE hb HU7 HT7 BW
              go_wp2_with fail
              refine ((unhide HT8).all2 (Nat.le_trans (unhide MM).most (by omega))).mono ?_
              rintro e v9 ⟨a7, c7, rfl, HE, hb⟩
              have R1 : Lay v9 a7 M := Held.lay (r := (a7, c7, M)) (HE.row List.mem_cons_self) (Nat.le_trans (unhide MM).most (by omega))
              have R2 : Lay v9 a6 M := Held.lay (r := (a6, c6, M)) (((unhide HU8).below hb).row List.mem_cons_self) (Nat.le_trans (unhide MM).most (by omega))
              have SM := hide (same_self (c := c6) (d := c7) R2 R1)
              have B9 := hide ((unhide B8).trans (hb.mono (unhide B8).size))
              clear HE hb HU8 HT8 R1 R2 B8
              go_wp2_with fail
              refine (unhide SM).mono ?_
              rintro e v10 ⟨rfl, hb⟩
              have BEL := hide ((unhide B9).trans (hb.mono (unhide B9).size))
              clear hb SM B9
              go_wp2_with fail
              refine (unhide WK _).mono ?_
              rintro e v' ⟨rfl, hb⟩
              go_wp2_with fail
              go_ret
              exact ⟨rfl, (unhide BEL).trans (hb.mono (unhide BEL).size)⟩
end Go.Proofs.Ytoccgggiaalhdaa

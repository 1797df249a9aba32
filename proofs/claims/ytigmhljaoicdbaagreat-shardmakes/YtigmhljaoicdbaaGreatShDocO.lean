/- The document's own Of. Conditions: at most 1000 windows and 100 entries are handed in, whose numbers are a machine's. -/
import Derived.Test.YtigmhljaoicdbaaGreatShDocC
import Derived.Test.YtigmhljaoicdbaaGreatShOf
import Derived.Test.YtigmhljaoicdbaaGreatGRTof
import Derived.Test.YtigmhljaoicdbaaGreatSnRefF
namespace Go.Proofs.YtigmhljaoicdbaaGreat
open Go.RowKit
def docNew : List Value := docC 0 none 0 0 (fun _ => 1) none 0 0
set_option maxRecDepth 100000 in
set_option maxHeartbeats 20000000 in
theorem rof13_any {w : World} {a b d : Option Addr} {c cb cd : Nat} (m : Int) {o : List (Win AggV)} {lows : List Int} {l : List Sn.Ent} (hO : IsOuts w a o.length c o) (hlen : o.length ≤ 1000) (hb : Sn.IntK.At w b lows) (hd : Sn.RefK.At w d l) (hl : l.length ≤ 100) (hin : ∀ x ∈ l, x.In) :
    Calls Tryz.prog 18 #[.int .i64 m, .slice a o.length c, .slice b lows.length cb, .slice d l.length cd] w fun e w' => Below w.heap.size w w' ∧
      (((ofS m o lows l).2 = 0 ∧ ∃ W a' c' a2 c2, e = .returned (.tuple #[.agg (docC (ofS m o lows l).1.line.mark a' (ofS m o lows l).1.line.row.length c' W.low a2 W.l.length c2).toArray, .int .i64 0]) ∧ DocR w' (ofS m o lows l).1 W a' c' a2 c2 ∧ W.l.length ≤ 100 ∧
          (∀ j, (Value.slice a' (ofS m o lows l).1.line.row.length c').ownBlock = some j → w.heap.size ≤ j) ∧ (∀ j, (Value.slice a2 W.l.length c2).ownBlock = some j → w.heap.size ≤ j)) ∨
        (¬ (ofS m o lows l).2 = 0 ∧ e = .returned (.tuple #[.agg docNew.toArray, .int .i64 ((ofS m o lows l).2 : Int)]))) := by
  obtain ⟨W, hW⟩ : ∃ W, W = w.alloc (.cells #[.int .i64 0, .slice none 0 0, .int .i64 0, .int .i64 0, .int .i64 0, .int .i64 0, .slice none 0 0] 37) := ⟨_, rfl⟩
  obtain ⟨H, hH⟩ : ∃ H, H = w.heap.size := ⟨_, rfl⟩
  have bW : Below w.heap.size w W := by rw [hW]; exact (Below.refl _ _).alloc (Nat.le_refl _) _
  have R0 : RowAt W H zeroD := by rw [hW, hH]; exact row_new _ _ _
  have C1 := hide (rtof_any m (hO.below bW) hlen)
  have ATB : Hid (∀ v, Below W.heap.size W v → Sn.IntK.At v b lows ∧ Sn.RefK.At v d l) := hide fun v hv => ⟨(hb.below (Nat.le_refl _) bW).below (Nat.le_refl _) hv, (hd.below (Nat.le_refl _) bW).below (Nat.le_refl _) hv⟩
  have HL := hide hl
  have HIN := hide hin
  have HW := hide hW
  have HH := hide hH
  have HR := hide R0
  have HB := hide bW
  have FIN : Hid (∀ v, Below W.heap.size W v → ∀ z : List Value, z.length = 7 → Below w.heap.size w (v.setCells H 0 z) ∧ RowAt (v.setCells H 0 z) H z ∧ Moved (fun j => j = H) v (v.setCells H 0 z) ∧ v.there H 0 7) := hide fun v hv z hz => by
    have r := R0.keep (Moved.of_below (F := fun _ => False) hv) id
    have m := setCells_moved v H 0 z
    have bv := bW.trans (hv.mono bW.size)
    exact ⟨((Moved.of_below (F := fun j => j = H) bv).trans m (fun _ hi => .inl hi)).below (fun i hi => by omega) (Nat.le_refl _), r.put z (by rw [hz]; rfl), m, r.there⟩
  have HHW : Hid (H < W.heap.size) := hide R0.lt
  clear hW hH bW R0 hO hlen hb hd hl hin
  by_cases h0 : (ofL m o).2 = 0
  · have ed : ofD m o = (ofL m o).1 := if_pos h0
    rw [ed, h0] at C1
    cases hg : Sn.good lows l with
    | true =>
      have eS : ofS m o lows l = (⟨(ofL m o).1, Sn.keeps (Sn.tab0 lows) l⟩, 0) := by unfold ofS; rw [if_pos h0, if_pos hg]
      have hrel := Sn.rel_of hg
      rw [eS]
      have HREL := hide hrel
      have HG := hide hg
      clear ed h0 eS hrel hg
      generalize (ofL m o).1 = L at *
      go_enter Tryz.func18, Tryz.ntmps18
      go_upto_region 1 with fail
      rw [← unhide HH, ← unhide HW]
      go_wp2_with fail
      refine (unhide C1).mono ?_
      rintro e v1 ⟨a1, c1, rfl, hr1, hb1⟩
      obtain ⟨V1, hV1⟩ : ∃ V1, V1 = v1.alloc (.cells #[.int .i64 L.mark, .slice a1 L.row.length c1] 31) := ⟨_, rfl⟩
      obtain ⟨H1, hH1⟩ : ∃ H1, H1 = v1.heap.size := ⟨_, rfl⟩
      have b2 : Below v1.heap.size v1 V1 := by rw [hV1]; exact (Below.refl _ _).alloc (Nat.le_refl _) _
      have X1 := hide (show RowAt V1 H1 [.int .i64 L.mark, .slice a1 L.row.length c1] by rw [hV1, hH1]; exact row_new _ _ _)
      have B2 := hide (hb1.trans (b2.mono hb1.size))
      have ROW2 := hide (row_below hr1 b2)
      have C2 := hide (Sn.rof_any (c := cb) (d := cd) (unhide ATB V1 (unhide B2)).1 (unhide ATB V1 (unhide B2)).2 (unhide HL) (unhide HIN))
      have HV1 := hide hV1
      have HH1 := hide hH1
      clear hr1 hb1 b2 hV1 hH1 C1
      go_upto_region 4 with fail
      rw [← unhide HV1, ← unhide HH1]
      clear HV1 HH1
      go_wp2_with fail
      refine (unhide C2).mono ?_
      rintro e v2 ⟨hb2, hh⟩
      rcases hh with ⟨_, a2, c2, rfl, hr2⟩ | ⟨hg', _⟩
      · obtain ⟨V2, hV2⟩ : ∃ V2, V2 = v2.alloc (.cells #[.int .i64 (Sn.lowf lows 0), .int .i64 (Sn.lowf lows 1), .int .i64 (Sn.lowf lows 2), .int .i64 (Sn.lowf lows 3), .slice a2 l.length c2] 35) := ⟨_, rfl⟩
        obtain ⟨H2, hH2⟩ : ∃ H2, H2 = v2.heap.size := ⟨_, rfl⟩
        have b3 : Below v2.heap.size v2 V2 := by rw [hV2]; exact (Below.refl _ _).alloc (Nat.le_refl _) _
        have X2 : RowAt V2 H2 (Sn.refC (Sn.lowf lows) a2 l.length c2) := by rw [hV2, hH2]; exact row_new _ _ _
        have b4 := hb2.trans (b3.mono hb2.size)
        have B4 := hide ((unhide B2).trans (b4.mono (unhide B2).size))
        have ROW4 := hide (row_below (unhide ROW2) b4)
        have LIST4 : Hid (Sn.RefK.Row V2 V1.heap.size a2 c2 l) := hide (Sn.row_keep hr2 (Moved.of_below (F := fun _ => False) b3) (fun _ f => f.elim))
        have RX1 := hide ((unhide X1).keep (Moved.of_below (F := fun _ => False) b4) id).range
        have RX2 := hide X2.range
        have HV2 := hide hV2
        have HH2 := hide hH2
        clear b3 b4 X2 X1 hr2 hb2 hV2 hH2 C2 ROW2
        simp only [Sn.refC] at RX2 ⊢
        go_upto_region 7 with fail
        rw [← unhide HV2, ← unhide HH2]
        clear HV2 HH2
        obtain ⟨f1, f2, f3, f4⟩ := unhide FIN V2 (unhide B4) (docC L.mark a1 L.row.length c1 (Sn.lowf lows) a2 l.length c2) rfl
        obtain ⟨wf, hwf⟩ : ∃ wf, wf = V2.setCells H 0 (docC L.mark a1 L.row.length c1 (Sn.lowf lows) a2 l.length c2) := ⟨_, rfl⟩
        rw [← hwf] at f1 f2 f3
        have F1 := hide f1
        have F2 := hide f2
        have F3 := hide f3
        have F4 := hide f4
        have EQ := hide hwf.symm
        clear f1 f2 f3 f4 hwf FIN
        go_wp2_with (first | refine Sn.wpList_load_on rfl 31 (.tmp 10) rfl H1 0 rfl [.int .i64 L.mark, .slice a1 L.row.length c1] _ (unhide RX1) Tryz.underlying31 rfl (by kernel_rfl) ?_ | refine Sn.wpList_load_on rfl 35 (.tmp 12) rfl H2 0 rfl [.int .i64 (Sn.lowf lows 0), .int .i64 (Sn.lowf lows 1), .int .i64 (Sn.lowf lows 2), .int .i64 (Sn.lowf lows 3), .slice a2 l.length c2] _ (unhide RX2) Tryz.underlying35 rfl (by kernel_rfl) ?_ | (refine wpList_store_mid rfl 37 (.tmp 8) (.tmp 35) rfl H 0 (docC L.mark a1 L.row.length c1 (Sn.lowf lows) a2 l.length c2).toArray rfl rfl (unhide F4) (by kernel_rfl) (by simp [docC, Sn.refC, Value.oneCell']) ?_; change wpList _ _ _ _ _ (World.setCells _ H 0 (docC L.mark a1 L.row.length c1 (Sn.lowf lows) a2 l.length c2)); rw [unhide EQ]))
        have o1 : ∀ j, (Value.slice a1 L.row.length c1).ownBlock = some j → W.heap.size ≤ j := fun j e => (row_lt (unhide ROW4) j e).1
        have o2 : ∀ j, (Value.slice a2 l.length c2).ownBlock = some j → V1.heap.size ≤ j := fun j e => (Sn.row_lt (unhide LIST4) j e).1
        have z1 := (unhide B2).size
        have z0 := (unhide HB).size
        have zh := unhide HHW
        refine bodyPost_ret (v := .tuple #[.agg (docC L.mark a1 L.row.length c1 (Sn.lowf lows) a2 l.length c2).toArray, .int .i64 0]) ?_ rfl ⟨unhide F1, .inl ⟨(by first | rfl | trivial), ⟨Sn.lowf lows, l⟩, a1, c1, a2, c2, rfl, ⟨row_off (row_mono (unhide ROW4) (Nat.zero_le _)) (unhide F3) (fun j e => by have := o1 j e; omega), ref_off (Sn.row_base (unhide LIST4) (Nat.zero_le _)) (unhide F3) (fun j e => by have := o2 j e; omega), unhide HREL⟩, unhide HL, fun j e => by have := o1 j e; omega, fun j e => by have := o2 j e; omega⟩⟩
        exact results_cell_tmp Tryz.results18 _ wf H (docC L.mark a1 L.row.length c1 (Sn.lowf lows) a2 l.length c2) _ rfl (unhide F2).range Tryz.underlying37 rfl (by kernel_rfl)
      · rw [unhide HG] at hg'; cases hg'
    | false =>
      have eS : ofS m o lows l = (newS, 1) := by unfold ofS; rw [if_pos h0, if_neg (by rw [hg]; decide)]
      rw [eS]
      have HG := hide hg
      clear ed h0 eS hg
      generalize (ofL m o).1 = L at *
      go_enter Tryz.func18, Tryz.ntmps18
      go_upto_region 1 with fail
      rw [← unhide HH, ← unhide HW]
      go_wp2_with fail
      refine (unhide C1).mono ?_
      rintro e v1 ⟨a1, c1, rfl, hr1, hb1⟩
      obtain ⟨V1, hV1⟩ : ∃ V1, V1 = v1.alloc (.cells #[.int .i64 L.mark, .slice a1 L.row.length c1] 31) := ⟨_, rfl⟩
      have b2 : Below v1.heap.size v1 V1 := by rw [hV1]; exact (Below.refl _ _).alloc (Nat.le_refl _) _
      have B2 := hide (hb1.trans (b2.mono hb1.size))
      have C2 := hide (Sn.rof_any (c := cb) (d := cd) (unhide ATB V1 (unhide B2)).1 (unhide ATB V1 (unhide B2)).2 (unhide HL) (unhide HIN))
      have HV1 := hide hV1
      clear hr1 hb1 b2 hV1 C1
      go_upto_region 4 with fail
      rw [← unhide HV1]
      clear HV1
      go_wp2_with fail
      refine (unhide C2).mono ?_
      rintro e v2 ⟨hb2, hh⟩
      rcases hh with ⟨hg', _⟩ | ⟨_, rfl⟩
      · rw [unhide HG] at hg'; cases hg'
      · obtain ⟨V2, hV2⟩ : ∃ V2, V2 = v2.alloc (.cells #[.int .i64 1, .int .i64 1, .int .i64 1, .int .i64 1, .slice none 0 0] 35) := ⟨_, rfl⟩
        have b3 : Below v2.heap.size v2 V2 := by rw [hV2]; exact (Below.refl _ _).alloc (Nat.le_refl _) _
        have B3 := hide ((unhide B2).trans ((hb2.trans (b3.mono hb2.size)).mono (unhide B2).size))
        have HV2 := hide hV2
        clear b3 hb2 hV2 C2
        simp only [Sn.refC]
        go_upto_region 6 with fail
        rw [← unhide HV2]
        clear HV2
        go_wp2_with fail
        refine (rnew13_any V2).mono ?_
        rintro e v3 ⟨rfl, hb4⟩
        have B4 := hide ((unhide B3).trans (hb4.mono (unhide B3).size))
        clear hb4
        obtain ⟨f1, f2, f3, f4⟩ := unhide FIN v3 (unhide B4) docNew rfl
        obtain ⟨wf, hwf⟩ : ∃ wf, wf = v3.setCells H 0 docNew := ⟨_, rfl⟩
        rw [← hwf] at f1 f2 f3
        have F1 := hide f1
        have F2 := hide f2
        have F4 := hide f4
        have EQ := hide hwf.symm
        clear f1 f2 f3 f4 hwf FIN
        go_wp2_with (refine wpList_store_mid rfl 37 (.tmp 8) (.tmp 31) rfl H 0 docNew.toArray rfl rfl (unhide F4) (by kernel_rfl) (by simp [docNew, docC, Sn.refC, Value.oneCell']) ?_; change wpList _ _ _ _ _ (World.setCells _ H 0 docNew); rw [unhide EQ])
        refine bodyPost_ret (v := .tuple #[.agg docNew.toArray, .int .i64 1]) (results_cell_tmp Tryz.results18 _ wf H docNew _ rfl (unhide F2).range Tryz.underlying37 rfl (by kernel_rfl)) rfl ?_
        exact ⟨unhide F1, .inr ⟨(by decide), rfl⟩⟩
  · have eS : ofS m o lows l = (newS, (ofL m o).2) := by unfold ofS; rw [if_neg h0]
    rw [eS]
    obtain ⟨n, hn⟩ : ∃ n, n = (ofL m o).2 := ⟨_, rfl⟩
    have g0 : ¬ (n : Int) = 0 := by omega
    have d0 : decide ((n : Int) = 0) = false := decide_eq_false g0
    have f0 : ((n : Int) == 0) = false := Bool.eq_false_iff.2 fun h => g0 (eq_of_beq h)
    have H0 : Hid (¬ n = 0) := hide (by rw [hn]; exact h0)
    rw [← hn] at C1 ⊢
    clear h0 hn eS
    generalize ofD m o = L at *
    go_enter Tryz.func18, Tryz.ntmps18
    go_upto_region 1 with fail
    rw [← unhide HH, ← unhide HW]
    go_wp2_with fail
    refine (unhide C1).mono ?_
    rintro e v1 ⟨a1, c1, rfl, hr1, hb1⟩
    obtain ⟨V1, hV1⟩ : ∃ V1, V1 = v1.alloc (.cells #[.int .i64 L.mark, .slice a1 L.row.length c1] 31) := ⟨_, rfl⟩
    have b2 : Below v1.heap.size v1 V1 := by rw [hV1]; exact (Below.refl _ _).alloc (Nat.le_refl _) _
    have B2 := hide (hb1.trans (b2.mono hb1.size))
    have HV1 := hide hV1
    clear hr1 hb1 b2 hV1 C1
    go_upto_region 3 with fail
    rw [← unhide HV1]
    clear HV1
    go_wp2_with fail
    refine (rnew13_any V1).mono ?_
    rintro e v3 ⟨rfl, hb4⟩
    have B4 := hide ((unhide B2).trans (hb4.mono (unhide B2).size))
    clear hb4
    obtain ⟨f1, f2, f3, f4⟩ := unhide FIN v3 (unhide B4) docNew rfl
    obtain ⟨wf, hwf⟩ : ∃ wf, wf = v3.setCells H 0 docNew := ⟨_, rfl⟩
    rw [← hwf] at f1 f2 f3
    have F1 := hide f1
    have F2 := hide f2
    have F4 := hide f4
    have EQ := hide hwf.symm
    clear f1 f2 f3 f4 hwf FIN
    go_wp2_with (refine wpList_store_mid rfl 37 (.tmp 8) (.tmp 21) rfl H 0 docNew.toArray rfl rfl (unhide F4) (by kernel_rfl) (by simp [docNew, docC, Sn.refC, Value.oneCell']) ?_; change wpList _ _ _ _ _ (World.setCells _ H 0 docNew); rw [unhide EQ])
    refine bodyPost_ret (v := .tuple #[.agg docNew.toArray, .int .i64 (n : Int)]) (results_cell_tmp Tryz.results18 _ wf H docNew _ rfl (unhide F2).range Tryz.underlying37 rfl (by kernel_rfl)) rfl ?_
    exact ⟨unhide F1, .inr ⟨unhide H0, rfl⟩⟩
end Go.Proofs.YtigmhljaoicdbaaGreat

/- What TellPlays does where Of takes the mark and the windows: it answers true, and nothing that was there has turned. -/
import Derived.Test.YtmgmkdkdpeljmaaR4
namespace Go.Proofs.Ytmgmkdkdpeljmaa
open Go.RowKit
section
variable {P : Program} {md : Region.Mode} {ops : Array Oper} {S : World → Prop}
/-- A line's box is read. -/
theorem actL_range0 {v : World} {b o : Nat} {p : ActL} (h : ActLAt v b o p) : v.rangeAt b o (actLC p) := fun j u hu => by
  match j, hu with
  | 0, hu => cases hu; exact h.c0
  | 1, hu => cases hu; exact h.c1
  | 2, hu => cases hu; exact h.c2
  | 3, hu => cases hu; exact h.c3
  | j + 4, hu => cases hu
end
set_option maxRecDepth 100000 in
set_option maxHeartbeats 16000000 in
theorem tplaysw_ok (m : Int) (ao : Option Addr) (co : Nat) (o : List (Win AggV)) (a : Option Addr) (len cap : Nat) (z : List ActL) (w : World) (ho : IsOuts w ao o.length co o) (hz : IsActL w a len cap z) (hg1 : tooGreatL z = false) (hg2 : tooGreatW o = false) (hmost : o.length ≤ 1000) (h0 : (ofL m o).2 = 0) :
    Calls Try.prog 4 #[.int .i64 m, .slice ao o.length co, .slice a len cap] w fun e w' => e = .returned (.bool true) ∧ Below w.heap.size w w' := by
  have COF := hide (tofx_any (v := w) (c := co) m ho hmost (fun x hx => ho.ok x hx))
  have COD := hide (fun (v : World) (hb : Below w.heap.size w v) => rtof_any m (ho.below hb) hmost)
  have GRL := hide (greatL_any a len cap z w hz)
  have GRW := hide (greatW_any ao o.length co o w ho)
  rw [hg1] at GRL
  rw [hg2] at GRW
  have HZ := hide hz
  have WK := hide twakes_any
  have hlen0 : (0 : Int) ≤ (len : Int) := by omega
  clear hz ho hg1 hg2 hmost
  go_enter Try.func4, Try.ntmps4
  go_upto_region 3 with fail
  refine (unhide GRL).mono ?_
  rintro e v' ⟨rfl, hw⟩
  rw [hw]
  clear hw v' GRL
  go_upto_region 3 with fail
  refine (unhide GRW).mono ?_
  rintro e v' ⟨rfl, hw⟩
  rw [hw]
  clear hw v' GRW
  go_upto_region 3 with fail
  go_upto_region 4 with fail
  refine (unhide COF).mono ?_
  rintro e u1 ⟨pt, rfl, hb1, hok, _⟩
  obtain ⟨p0, rfl, hl, hml0⟩ := hok (by rw [h0])
  obtain ⟨L0, hL0⟩ : ∃ L0, L0 = (ofL m o).1 := ⟨_, rfl⟩
  have hD : ofD m o = L0 := by unfold ofD; rw [if_pos h0]; exact hL0.symm
  have GL0 : Hid (Good SO L0.row) := hide (by rw [hL0]; exact good_ofL)
  rw [← hL0] at hl hml0
  have ML0 := hide hml0
  have CD := hide (unhide COD u1 hb1)
  rw [hD, h0] at CD
  have HL1 := hide hl
  have HB1 := hide hb1
  have HD := hide hD
  rw [h0]
  clear hl hml0 hb1 hok COF COD hL0 hD h0
  go_upto_region 5 with fail
  refine (unhide CD).mono ?_
  rintro e u2 ⟨a0, c0, rfl, hrow, hb2⟩
  obtain ⟨h, hh⟩ : ∃ h, h = u2.heap.size := ⟨_, rfl⟩
  obtain ⟨u3, hu3⟩ : ∃ u3, u3 = u2.alloc (.cells #[.int .i64 L0.mark, .slice a0 L0.row.length c0] 51) := ⟨_, rfl⟩
  have hb3 : Below u2.heap.size u2 u3 := by rw [hu3]; exact (Below.refl _ _).alloc (Nat.le_refl _) _
  have START : Hid (PLR w u3 p0 h L0 a0 c0 L0) := hide (by
    have hl3 := ((unhide HL1).below hb2).below hb3
    obtain ⟨F, f1⟩ := unhide HL1
    have f3 := (f1.below hb2).below hb3
    refine PLR.start f3.st f3.big f3.bel (fun f => ?_) ?_ ?_ (row_mono (row_below hrow hb3) f1.bel.size) (fun k hk => ⟨?_, fun f => ?_⟩)
    · have := f1.st.lt _ f; have := hb2.size; omega
    · have := f1.bel.size; have := hb2.size; omega
    · rw [hu3, hh]; exact row_new _ _ _
    · have := (row_lt hrow k hk).2; omega
    · have := (row_lt hrow k hk).1; have := f1.st.lt _ f; omega)
  have HH := hide hh
  have HU3 := hide hu3
  clear hrow hb2 hb3 hh hu3 CD HL1 HB1
  go_upto_region 5 with fail
  rw [← unhide HH]
  try change Code.wp _ _ _ _ (u2.alloc (.cells #[.int .i64 L0.mark, .slice a0 L0.row.length c0] 51))
  rw [← unhide HU3]
  clear HH HU3
  go_wp2_with fail
  go_loopw [11] (fun i wr => ∃ k : Nat, i = .int .i64 (k : Int) ∧ k ≤ len ∧ ∃ ad cd, PLR w wr p0 h (playL (L0, []) (z.take k)).1 ad cd (playL (L0, []) (z.take k)).1 ∧ Mild (playL (L0, []) (z.take k)).1.row ∧ Good SO (playL (L0, []) (z.take k)).1.row) (fun i _ => len - (intOf i).toNat)
  case atStart => exact ⟨0, rfl, by omega, a0, c0, by rw [List.take_zero]; exact unhide START, by rw [List.take_zero]; exact unhide ML0, by rw [List.take_zero]; exact unhide GL0⟩
  case round =>
    obtain ⟨k, rfl, hk, ad, cd, hpr, hmm, hgg⟩ := hrel
    have HPR := hide hpr
    have HMM := hide hmm
    have HGG := hide hgg
    clear hpr hmm hgg START ML0 GL0
    by_cases hlt : k < len
    · have g1 : (k : Int) < (len : Int) := by omega
      have hk0 : (0 : Int) ≤ (k : Int) := by omega
      have hml := (unhide HZ).max
      unfold maxLen at hml
      have hwk : IntKind.i64.wrap ((k : Int) + 1) = (k : Int) + 1 := Go.IntWalk.i64_in _ (by omega)
      obtain ⟨bb, o', rfl, hat, ok, hbl⟩ := ((unhide HZ).below (unhide HPR).bel).at_ k hlt
      have HS2 : Hid (playL (L0, []) (z.take (k + 1)) = actL (playL (L0, []) (z.take k)) (z.getD k ActL.none_)) := hide (by rw [takeL_snoc (by rw [(unhide HZ).size_]; exact hlt), playL_snoc])
      have HS1 : Hid ((playL (L0, []) (z.take (k + 1))).1 = (actL (playL (L0, []) (z.take k)) (z.getD k ActL.none_)).1) := hide (by rw [unhide HS2])
      have HM := hide (mild_actL (unhide HMM) ok)
      have HG := hide (good_actL (unhide HGG) ok)
      have ra := actL_range0 hat
      have HOK := hide ok
      clear hat ok hbl
      generalize z.getD k ActL.none_ = y at *
      generalize playL (L0, []) (z.take k) = S at *
      obtain ⟨l, T⟩ := S
      obtain ⟨yd, yk, ya, yn⟩ := y
      dsimp only at HPR HMM HGG
      have RACT : Hid (wr.rangeAt bb (o' + k * 4) [.int .u8 (yd : Int), .string ⟨yk.toArray⟩, .int .i64 ya, .int .i64 yn]) := hide ra
      obtain ⟨W1, hw1⟩ : ∃ W1, W1 = wr.alloc (.cells #[.int .u8 (yd : Int), .string ⟨yk.toArray⟩, .int .i64 ya, .int .i64 yn] 56) := ⟨_, rfl⟩
      obtain ⟨b, hbb⟩ : ∃ b, b = wr.heap.size := ⟨_, rfl⟩
      have PBW : Hid (PL w W1 p0 h b [.int .u8 (yd : Int), .string ⟨yk.toArray⟩, .int .i64 ya, .int .i64 yn] l ad cd l) := hide (by rw [hw1, hbb]; exact (unhide HPR).box ((Moved.refl _ _).alloc _) (row_new _ _ _))
      have HW1 := hide hw1
      have HBB := hide hbb
      clear ra HPR hw1 hbb
      go_upto_region 13 with (refine wpList_load_on rfl 56 (.tmp 59) rfl bb (o' + k * 4) rfl [.int .u8 (yd : Int), .string ⟨yk.toArray⟩, .int .i64 ya, .int .i64 yn] _ (unhide RACT) Try.underlying56 rfl (by kernel_rfl) ?_)
      rw [← unhide HBB]
      try change Code.wp _ _ _ _ (wr.alloc (.cells #[.int .u8 (yd : Int), .string ⟨yk.toArray⟩, .int .i64 ya, .int .i64 yn] 56))
      rw [← unhide HW1]
      clear RACT HBB HW1
      have W1c0 : W1.cell? ⟨b, 0, none⟩ = some (.int .u8 (yd : Int)) := (unhide PBW).rb.cell 0 (by simp)
      have W1c1 : W1.cell? ⟨b, 1, none⟩ = some (.string ⟨yk.toArray⟩) := (unhide PBW).rb.cell 1 (by simp)
      have W1c2 : W1.cell? ⟨b, 2, none⟩ = some (.int .i64 ya) := (unhide PBW).rb.cell 2 (by simp)
      have W1c3 : W1.cell? ⟨b, 3, none⟩ = some (.int .i64 yn) := (unhide PBW).rb.cell 3 (by simp)
      by_cases e0 : yd = 0
      · subst e0
        have hact : Hid (actL (l, T) ⟨0, yk, ya, yn⟩ = ((putL l yk ya yn).1, T)) := hide rfl
        rw [unhide hact] at HM HG HS1
        have HCS := hide ((unhide PBW).put (unhide HMM) yk ya yn (unhide HOK).n)
        go_upto_region 17 with fail
        refine (unhide HCS).mono ?_
        rintro e v1 ⟨rfl, hp⟩
        have PV := hide hp
        have v11 : v1.cell? ⟨b, 1, none⟩ = some (.string ⟨yk.toArray⟩) := hp.rb.cell 1 (by simp)
        have v12 : v1.cell? ⟨b, 2, none⟩ = some (.int .i64 ya) := hp.rb.cell 2 (by simp)
        have v13 : v1.cell? ⟨b, 3, none⟩ = some (.int .i64 yn) := hp.rb.cell 3 (by simp)
        clear hp HCS PBW W1c0 W1c1 W1c2 W1c3
        have HRP := hide (rtput_any (unhide PV).row (unhide PV).bel.size (unhide HGG) (unhide HMM) yk ya yn (unhide HOK).n)
        have RG := hide (unhide PV).rh.range
        go_upto_region 18 with (refine wpList_load_on rfl 51 (.tmp 9) rfl h 0 rfl [.int .i64 l.mark, .slice ad l.row.length cd] _ (unhide RG) Try.underlying51 rfl (by kernel_rfl) ?_)
        refine (unhide HRP).mono ?_
        rintro e v2 ⟨a2, c2, rfl, hrow, hown, hb⟩
        obtain ⟨wf, hwf, hpb, hmf⟩ := (unhide PV).doc hb hrow hown
        have TH := hide (((unhide PV).below hb).rh.there)
        have HWF := hide hwf
        have PBH := hide hpb
        clear hwf hpb hmf hrow hown hb HRP RG PV v11 v12 v13
        obtain ⟨L, hL⟩ : ∃ L, L = (putL l yk ya yn).1 := ⟨_, rfl⟩
        rw [← hL] at HM HG HS1
        rw [← hL] at HWF PBH
        obtain ⟨ec, hec⟩ : ∃ ec : Int, ec = ((putL l yk ya yn).2 : Int) := ⟨_, rfl⟩
        rw [← hec, ← hL]
        clear hec hL hact
        go_upto_region 27 with (refine wpList_store_mid rfl 51 (.tmp 9) (.tmp 82) rfl h 0 #[.int .i64 L.mark, .slice a2 L.row.length c2] rfl rfl (unhide TH) (by kernel_rfl) (by simp [Value.oneCell']) ?_; change wpList _ _ _ _ _ (World.setCells _ h 0 [.int .i64 L.mark, .slice a2 L.row.length c2]); rw [unhide HWF])
        obtain ⟨CL, hCL⟩ : ∃ CL : World → Prop, CL = fun v => PL w v p0 h b [.int .u8 0, .string ⟨yk.toArray⟩, .int .i64 ya, .int .i64 yn] L a2 c2 L := ⟨_, rfl⟩
        have un : ∀ v, CL v → PL w v p0 h b [.int .u8 0, .string ⟨yk.toArray⟩, .int .i64 ya, .int .i64 yn] L a2 c2 L := fun v k => by rw [hCL] at k; exact k
        have to_ : Hid (∀ v, PL w v p0 h b [.int .u8 0, .string ⟨yk.toArray⟩, .int .i64 ya, .int .i64 yn] L a2 c2 L → CL v) := hide fun v k => by rw [hCL]; exact k
        have base : CL wf.drew := unhide to_ _ (unhide PBH).drew
        have UN := hide un
        have qh : ∀ q : SW CL, q.w.cell? ⟨h, 0, none⟩ = some (.int .i64 L.mark) := fun q => (un _ q.ok).rh.cell 0 (by simp)
        have qs : ∀ q : SW CL, q.w.cell? ⟨h, 1, none⟩ = some (.slice a2 L.row.length c2) := fun q => (un _ q.ok).rh.cell 1 (by simp)
        have sAT := hide (fun q : SW CL => (un _ q.ok).at_)
        have CALL := hide ((unhide PBH).drew.open_ (unhide HM))
        clear hCL un
        go_upto_region 27 with fail
        refine wp_region_chain (S := CL) [true, true, true, true, true, true, true, false, true, true, true, false, false, false] [false, false, false, false, false, false, false, true, false, false, false, true, true, true] (by kernel_rfl) (by kernel_rfl) (by kernel_rfl) base ?_
        apply Exists.intro
        apply And.intro
        · intro q
          have n0 : Nonempty (SK CL q.w) := ⟨⟨q, rfl⟩⟩
          simp only [pickM]
          repeat (go_big_quiet_step (first | (go_at_call 29; exact (unhide sAT _).mono fun e w' ⟨he, hw⟩ => ⟨he, _, hw⟩)))
          exact wpQuiet_nil rfl
        · simp only [pickZ]
          refine chain_call_on 30 #[.pointer (some ⟨p0, 0, none⟩)] rfl (by simp [go_sem]) ?_
          refine (unhide CALL).mono ?_
          rintro e v3 ⟨a3, c3, rfl, hr3, hp3⟩
          refine ⟨_, rfl, unhide to_ _ hp3, ?_⟩
          have SM := hide (same_self (c := c3) (d := c2) (outs_lay hr3 (Nat.le_trans (unhide HM).most (by omega))) (outs_lay hp3.row (Nat.le_trans (unhide HM).most (by omega))))
          have HP3 := hide hp3
          clear hr3 hp3 CALL qh qs sAT
          go_simp
          refine chain_call_on 18 #[.slice a3 L.row.length c3, .slice a2 L.row.length c2] rfl (by simp [go_sem]) ?_
          refine (unhide SM).mono ?_
          rintro e v4 ⟨rfl, hb⟩
          have HP4 := hide ((unhide HP3).below hb)
          clear hb HP3 SM
          refine ⟨_, rfl, unhide to_ _ (unhide HP4), ?_⟩
          go_simp
          refine chain_step_on (.bool false) v4 rfl (by simp [go_sem]) (unhide to_ _ (unhide HP4)) ?_
          go_simp
          refine chain_step_on (.bool false) v4 rfl (by simp [go_sem]) (unhide to_ _ (unhide HP4)) ?_
          simp only [chainM]
          clear base UN to_
          go_simp
          go_wp2_with fail
          exact ⟨⟨k + 1, rfl, by omega, a2, c2, by rw [unhide HS1]; exact (unhide HP4).end_, by rw [unhide HS1]; exact unhide HM, by rw [unhide HS1]; exact unhide HG⟩, by simp [intOf]; omega⟩
      · have n0 : ¬ (yd : Int) = 0 := by omega
        by_cases e1 : yd = 1
        · subst e1
          have hact : Hid (actL (l, T) ⟨1, yk, ya, yn⟩ = ((markL l ya).1, T ++ (markL l ya).2.2)) := hide rfl
          rw [unhide hact] at HM HG
          have HS1b : Hid ((playL (L0, []) (z.take (k + 1))).1 = (markL l ya).1) := hide (by rw [unhide HS2, unhide hact])
          replace HS1 := HS1b
          clear HS1b
          have HCS := hide ((unhide PBW).mark (unhide HMM) ya)
          go_upto_region 24 with fail
          refine (unhide HCS).mono ?_
          rintro e v1 ⟨a1, c1, rfl, hr1, hp, hsz⟩
          have PV := hide hp
          have HLO := hide (unhide PBW).hlt
          have HR1 := hide hr1
          have v11 : v1.cell? ⟨b, 1, none⟩ = some (.string ⟨yk.toArray⟩) := hp.rb.cell 1 (by simp)
          have v12 : v1.cell? ⟨b, 2, none⟩ = some (.int .i64 ya) := hp.rb.cell 2 (by simp)
          have v13 : v1.cell? ⟨b, 3, none⟩ = some (.int .i64 yn) := hp.rb.cell 3 (by simp)
          clear hp hr1 hsz HCS PBW W1c0 W1c1 W1c2 W1c3
          have HRP := hide (rtmark_any (unhide PV).row (unhide PV).bel.size (unhide HGG) (unhide HMM) ya)
          have RG := hide (unhide PV).rh.range
          go_upto_region 25 with (refine wpList_load_on rfl 51 (.tmp 9) rfl h 0 rfl [.int .i64 l.mark, .slice ad l.row.length cd] _ (unhide RG) Try.underlying51 rfl (by kernel_rfl) ?_)
          refine (unhide HRP).mono ?_
          rintro e v2 ⟨a2, c2, a4, c4, rfl, hrow, hrow4, hown, hb⟩
          obtain ⟨wf, hwf, hpb, hmf⟩ := (unhide PV).doc hb hrow hown
          have TH := hide (((unhide PV).below hb).rh.there)
          have HWF := hide hwf
          have PBH := hide hpb
          have ho : (markL l ya).2.2.length ≤ 1000 := Nat.le_trans (mild_markL (unhide HMM) ya).2 (by omega)
          have SAME := hide (same_self (c := c1) (d := c4) (outs_lay (row_moved (row_below (unhide HR1) hb) hmf (fun i hi j hj => by have := (row_lt (unhide HR1) j hj).1; have := unhide HLO; omega)) ho) (outs_lay (row_moved hrow4 hmf (fun i hi j hj => by have := (row_lt hrow4 j hj).1; have := (unhide PV).hlt; omega)) ho))
          clear hwf hpb hmf hrow hrow4 hown hb HRP RG PV HR1 HLO v11 v12 v13 ho
          obtain ⟨L, hL⟩ : ∃ L, L = (markL l ya).1 := ⟨_, rfl⟩
          rw [← hL] at HM HG HS1
          rw [← hL] at HWF PBH
          obtain ⟨ec, hec⟩ : ∃ ec : Int, ec = ((markL l ya).2.1 : Int) := ⟨_, rfl⟩
          rw [← hec, ← hL]
          generalize (markL l ya).2.2.length = no at *
          clear hec hL hact
          go_upto_region 25 with (refine wpList_store_mid rfl 51 (.tmp 9) (.tmp 101) rfl h 0 #[.int .i64 L.mark, .slice a2 L.row.length c2] rfl rfl (unhide TH) (by kernel_rfl) (by simp [Value.oneCell']) ?_; change wpList _ _ _ _ _ (World.setCells _ h 0 [.int .i64 L.mark, .slice a2 L.row.length c2]); rw [unhide HWF])
          go_upto_region 27 with fail
          refine (unhide SAME).mono ?_
          rintro e wg ⟨rfl, hb⟩
          have PBG := hide ((unhide PBH).below hb)
          clear hb PBH SAME HWF TH
          obtain ⟨CL, hCL⟩ : ∃ CL : World → Prop, CL = fun v => PL w v p0 h b [.int .u8 1, .string ⟨yk.toArray⟩, .int .i64 ya, .int .i64 yn] L a2 c2 L := ⟨_, rfl⟩
          have un : ∀ v, CL v → PL w v p0 h b [.int .u8 1, .string ⟨yk.toArray⟩, .int .i64 ya, .int .i64 yn] L a2 c2 L := fun v k => by rw [hCL] at k; exact k
          have to_ : Hid (∀ v, PL w v p0 h b [.int .u8 1, .string ⟨yk.toArray⟩, .int .i64 ya, .int .i64 yn] L a2 c2 L → CL v) := hide fun v k => by rw [hCL]; exact k
          have base : CL wg.drew := unhide to_ _ (unhide PBG).drew
          have UN := hide un
          have qh : ∀ q : SW CL, q.w.cell? ⟨h, 0, none⟩ = some (.int .i64 L.mark) := fun q => (un _ q.ok).rh.cell 0 (by simp)
          have qs : ∀ q : SW CL, q.w.cell? ⟨h, 1, none⟩ = some (.slice a2 L.row.length c2) := fun q => (un _ q.ok).rh.cell 1 (by simp)
          have sAT := hide (fun q : SW CL => (un _ q.ok).at_)
          have CALL := hide ((unhide PBG).drew.open_ (unhide HM))
          clear hCL un
          go_upto_region 27 with fail
          refine wp_region_chain (S := CL) [true, true, true, true, true, true, true, false, true, true, true, false, false, false] [false, false, false, false, false, false, false, true, false, false, false, true, true, true] (by kernel_rfl) (by kernel_rfl) (by kernel_rfl) base ?_
          apply Exists.intro
          apply And.intro
          · intro q
            have n0 : Nonempty (SK CL q.w) := ⟨⟨q, rfl⟩⟩
            simp only [pickM]
            repeat (go_big_quiet_step (first | (go_at_call 29; exact (unhide sAT _).mono fun e w' ⟨he, hw⟩ => ⟨he, _, hw⟩)))
            exact wpQuiet_nil rfl
          · simp only [pickZ]
            refine chain_call_on 30 #[.pointer (some ⟨p0, 0, none⟩)] rfl (by simp [go_sem]) ?_
            refine (unhide CALL).mono ?_
            rintro e v3 ⟨a3, c3, rfl, hr3, hp3⟩
            refine ⟨_, rfl, unhide to_ _ hp3, ?_⟩
            have SM := hide (same_self (c := c3) (d := c2) (outs_lay hr3 (Nat.le_trans (unhide HM).most (by omega))) (outs_lay hp3.row (Nat.le_trans (unhide HM).most (by omega))))
            have HP3 := hide hp3
            clear hr3 hp3 CALL qh qs sAT
            go_simp
            refine chain_call_on 18 #[.slice a3 L.row.length c3, .slice a2 L.row.length c2] rfl (by simp [go_sem]) ?_
            refine (unhide SM).mono ?_
            rintro e v4 ⟨rfl, hb⟩
            have HP4 := hide ((unhide HP3).below hb)
            clear hb HP3 SM
            refine ⟨_, rfl, unhide to_ _ (unhide HP4), ?_⟩
            go_simp
            refine chain_step_on (.bool false) v4 rfl (by simp [go_sem]) (unhide to_ _ (unhide HP4)) ?_
            go_simp
            refine chain_step_on (.bool false) v4 rfl (by simp [go_sem]) (unhide to_ _ (unhide HP4)) ?_
            simp only [chainM]
            clear base UN to_
            go_simp
            go_wp2_with fail
            exact ⟨⟨k + 1, rfl, by omega, a2, c2, by rw [unhide HS1]; exact (unhide HP4).end_, by rw [unhide HS1]; exact unhide HM, by rw [unhide HS1]; exact unhide HG⟩, by simp [intOf]; omega⟩
        · have n1 : ¬ (yd : Int) = 1 := by omega
          have hact : Hid (actL (l, T) ⟨yd, yk, ya, yn⟩ = (l, T)) := hide (by unfold actL; rw [if_neg e0, if_neg e1])
          rw [unhide hact] at HM HG HS1
          clear hact
          go_upto_region 27 with fail
          obtain ⟨L, hL⟩ : ∃ L, L = l := ⟨_, rfl⟩
          rw [← hL] at HM HG PBW
          have HS1b : Hid ((playL (L0, []) (z.take (k + 1))).1 = L) := hide (by rw [hL]; exact unhide HS1)
          replace HS1 := HS1b
          clear HS1b hL W1c0 W1c1 W1c2 W1c3
          obtain ⟨CL, hCL⟩ : ∃ CL : World → Prop, CL = fun v => PL w v p0 h b [.int .u8 (yd : Int), .string ⟨yk.toArray⟩, .int .i64 ya, .int .i64 yn] L ad cd L := ⟨_, rfl⟩
          have un : ∀ v, CL v → PL w v p0 h b [.int .u8 (yd : Int), .string ⟨yk.toArray⟩, .int .i64 ya, .int .i64 yn] L ad cd L := fun v k => by rw [hCL] at k; exact k
          have to_ : Hid (∀ v, PL w v p0 h b [.int .u8 (yd : Int), .string ⟨yk.toArray⟩, .int .i64 ya, .int .i64 yn] L ad cd L → CL v) := hide fun v k => by rw [hCL]; exact k
          have base : CL W1.drew := unhide to_ _ (unhide PBW).drew
          have UN := hide un
          have qh : ∀ q : SW CL, q.w.cell? ⟨h, 0, none⟩ = some (.int .i64 L.mark) := fun q => (un _ q.ok).rh.cell 0 (by simp)
          have qs : ∀ q : SW CL, q.w.cell? ⟨h, 1, none⟩ = some (.slice ad L.row.length cd) := fun q => (un _ q.ok).rh.cell 1 (by simp)
          have sAT := hide (fun q : SW CL => (un _ q.ok).at_)
          have CALL := hide ((unhide PBW).drew.open_ (unhide HM))
          clear hCL un
          go_upto_region 27 with fail
          refine wp_region_chain (S := CL) [true, true, true, true, true, true, true, false, true, true, true, false, false, false] [false, false, false, false, false, false, false, true, false, false, false, true, true, true] (by kernel_rfl) (by kernel_rfl) (by kernel_rfl) base ?_
          apply Exists.intro
          apply And.intro
          · intro q
            have n0 : Nonempty (SK CL q.w) := ⟨⟨q, rfl⟩⟩
            simp only [pickM]
            repeat (go_big_quiet_step (first | (go_at_call 29; exact (unhide sAT _).mono fun e w' ⟨he, hw⟩ => ⟨he, _, hw⟩)))
            exact wpQuiet_nil rfl
          · simp only [pickZ]
            refine chain_call_on 30 #[.pointer (some ⟨p0, 0, none⟩)] rfl (by simp [go_sem]) ?_
            refine (unhide CALL).mono ?_
            rintro e v3 ⟨a3, c3, rfl, hr3, hp3⟩
            refine ⟨_, rfl, unhide to_ _ hp3, ?_⟩
            have SM := hide (same_self (c := c3) (d := cd) (outs_lay hr3 (Nat.le_trans (unhide HM).most (by omega))) (outs_lay hp3.row (Nat.le_trans (unhide HM).most (by omega))))
            have HP3 := hide hp3
            clear hr3 hp3 CALL qh qs sAT
            go_simp
            refine chain_call_on 18 #[.slice a3 L.row.length c3, .slice ad L.row.length cd] rfl (by simp [go_sem]) ?_
            refine (unhide SM).mono ?_
            rintro e v4 ⟨rfl, hb⟩
            have HP4 := hide ((unhide HP3).below hb)
            clear hb HP3 SM
            refine ⟨_, rfl, unhide to_ _ (unhide HP4), ?_⟩
            go_simp
            refine chain_step_on (.bool false) v4 rfl (by simp [go_sem]) (unhide to_ _ (unhide HP4)) ?_
            go_simp
            refine chain_step_on (.bool false) v4 rfl (by simp [go_sem]) (unhide to_ _ (unhide HP4)) ?_
            simp only [chainM]
            clear base UN to_
            go_simp
            go_wp2_with fail
            exact ⟨⟨k + 1, rfl, by omega, ad, cd, by rw [unhide HS1]; exact (unhide HP4).end_, by rw [unhide HS1]; exact unhide HM, by rw [unhide HS1]; exact unhide HG⟩, by simp [intOf]; omega⟩
    · have g1 : ¬ (k : Int) < (len : Int) := by omega
      have BW := hide (unhide HPR).bel
      clear HPR
      go_wp2_with fail
      refine (unhide WK _).mono ?_
      rintro e v' ⟨rfl, hb⟩
      go_wp2_with fail
      go_ret
      exact ⟨rfl, (unhide BW).trans (hb.mono (unhide BW).size)⟩
end Go.Proofs.Ytmgmkdkdpeljmaa

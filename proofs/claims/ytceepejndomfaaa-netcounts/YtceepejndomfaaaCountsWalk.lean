/- What comes was posted, once and once more for each doubling, walked. No conditions. -/
import Derived.Test.YtceepejndomfaaaCore
namespace Go.Proofs.Ytceepejndomfaaa
open Go.RowKit

theorem takeE_no {l : List Pkt} {i : Int} (h : ¬ (0 ≤ i ∧ i < l.length)) : takeE l i = 4 ∧ takeL l i = l ∧ dupE l i = 4 ∧ dupL l i = l := by
  unfold takeE takeL dupE dupL; rw [if_neg h, if_neg h, if_neg h, if_neg h]; exact ⟨rfl, rfl, rfl, rfl⟩
theorem takeE_yes {l : List Pkt} {i : Nat} (h : i < l.length) : takeE l (i : Int) = 0 ∧ takeP l (i : Int) = l.getD i Pkt.zero ∧ takeL l (i : Int) = l.take i ++ l.drop (i + 1) ∧ dupE l (i : Int) = postE l (l.getD i Pkt.zero) ∧ dupL l (i : Int) = postL l (l.getD i Pkt.zero) := by
  have h' : (0 : Int) ≤ (i : Int) ∧ (i : Int) < (l.length : Int) := by omega
  unfold takeE takeP takeL dupE dupL; rw [if_pos h', if_pos h', if_pos h', if_pos h', if_pos h']; exact ⟨rfl, rfl, rfl, rfl, rfl⟩
theorem postE_cases (l : List Pkt) (q : Pkt) : (postE l q = 0 ∧ postL l q = l ++ [q]) ∨ ((postE l q == 0) = false ∧ postL l q = l) := by
  unfold postE postL
  by_cases hq : q.ok
  · by_cases hc : 64 ≤ cnt q.link l
    · right; rw [if_neg (fun h => h hq), if_pos hc, if_neg (fun h => by omega)]; exact ⟨by decide, rfl⟩
    · left; rw [if_neg (fun h => h hq), if_neg hc, if_pos ⟨hq, by omega⟩]; exact ⟨rfl, rfl⟩
  · right; rw [if_pos hq, if_neg (fun h => hq h.1)]; exact ⟨by decide, rfl⟩
theorem row_empty (w : World) : Row (w.alloc (.cells #[] 25)) (some ⟨w.heap.size, 0, none⟩) 0 [] := World.ownsRow_made w #[] 0 (Nat.zero_le _) (Nat.zero_le _) rfl
theorem mem_getD (l : List Pkt) (i : Nat) (h : i < l.length) : l.getD i Pkt.zero ∈ l := by rw [List.getD_eq_getElem?_getD, List.getElem?_eq_getElem h]; simp

set_option maxHeartbeats 20000000 in
set_option maxRecDepth 100000 in
theorem counts_any (a : Option Addr) (len cap : Nat) (z : List ActV) (w : World) (hz : IsActs w a len cap z) :
    Calls Try.prog 5 #[.slice a len cap] w fun e w' => e = .returned (.bool true) ∧ Below w.heap.size w w' := by
  have hlm := hz.max
  unfold maxLen at hlm
  have HZ := hide hz
  clear hz
  go_enter Try.func5, Try.ntmps5
  go_wp2_with fail
  refine (awake_any _).mono ?_
  rintro e w1 ⟨rfl, hb1⟩
  have HB1 := hide hb1
  clear hb1
  go_wp2_with fail
  refine (great_any a len cap z _ ((unhide HZ).below (unhide HB1))).mono ?_
  rintro e w1' ⟨rfl, rfl⟩
  by_cases hg : great z = true
  · rw [hg]
    go_wp2_with fail
    go_ret
    exact ⟨rfl, unhide HB1⟩
  have hg' : great z = false := by simpa using hg
  rw [hg']
  clear hg hg'
  go_wp2_with fail
  refine (new_own (w0 := w) (Moved.of_below (unhide HB1)) (· ∈ []) (fun _ f => by simp at f)).mono ?_
  rintro e w2 ⟨x, rfl, o2, _⟩
  have C0 : Hid (Core w w2 x [] none 0 []) := ⟨o2.mono fun k ⟨y, e, _⟩ => (by cases e), row_nil _, List.Perm.refl _, fun k ⟨y, e, _⟩ => (by cases e)⟩
  clear o2
  go_wp2_with fail
  go_loopw [4, 5] (fun s t wr => ∃ (k : Nat) (la : Option Addr) (lc : Nat) (left l : List Pkt), k ≤ len ∧ t = .int .i64 (k : Int) ∧ s = .slice la left.length lc ∧ Core w wr x l la lc left) (fun _ t _ => len - (intOf t).toNat)
  case atStart => exact ⟨0, none, 0, [], [], by omega, rfl, rfl, unhide C0⟩
  case round =>
    obtain ⟨k, la, lc, left, l, hk, rfl, rfl, hc⟩ := hrel
    clear C0
    by_cases hlt : k < len
    · obtain ⟨ab, ao, rfl, hat, ok, hbl⟩ := ((unhide HZ).moved hc.1.base).at_ k hlt
      generalize z.getD k ActV.zero = y at *
      obtain ⟨d0, d1, d2, d3, d4, d5⟩ := hat
      obtain ⟨w1, hw1⟩ : ∃ w1, w1 = wr.alloc (.cells #[.int .i64 y.do_, .int .i64 y.p.f, .int .i64 y.p.t, .string y.p.d, .int .i64 y.i, .int .u8 (y.n : Int)] 40) := ⟨_, rfl⟩
      have hY : ActAt w1 wr.heap.size 0 y := by rw [hw1]; exact ⟨by simp, by simp, by simp, by simp, by simp, by simp⟩
      have ho1 : Own w w1 (fun k => ofRow la k ∨ k = wr.heap.size) x l := by rw [hw1]; exact hc.1.alloc _
      have hr1 : Row w1 la lc left := by rw [hw1]; exact hc.2.1.keep ((Moved.refl (fun _ => False) wr).alloc _) fun _ _ f => f
      have hsm := hc.1.good.2.2
      have hpl0 := hc.2.2.1.length_eq
      have HC := hide (And.intro ho1 (And.intro hr1 hc.2.2))
      have HW1 := hide hw1
      have HY := hide hY
      have HPL := hide hpl0
      have hle : left.length ≤ 5184 := by omega
      clear hc ho1 hr1 hw1 hY ok hpl0
      go_upto_region 11 with fail
      rw [← unhide HW1]
      clear d0 d1 d2 d3 d4 d5
      generalize wr.heap.size = By at *
      go_wp2_with fail
      refine (all_own (unhide HC).1).mono ?_
      rintro e w3 ⟨b, c, rfl, hrow, k3, o3⟩
      have hY3 := (unhide HY).keeps k3 (.inr rfl)
      have hr3 := (unhide HC).2.1.keeps k3 fun _ hk => .inl hk
      obtain ⟨y0, y1, y2, y3, y4, y5⟩ := hY3
      simp only [Nat.zero_add] at y0 y1 y2 y3 y4 y5
      have HA := hide hrow
      have HL := hide hr3
      have HO := hide o3
      have HP := hide (unhide HC).2.2.1
      have HBS := hide (unhide HC).2.2.2
      have HY3 : Hid (ActAt w3 By 0 y) := (unhide HY).keeps k3 (.inr rfl)
      clear hrow hr3 o3 k3 HC HY HW1
      by_cases hth : 0 ≤ y.i ∧ y.i < (l.length : Int)
      · obtain ⟨i, hyi⟩ : ∃ i : Nat, y.i = i := ⟨y.i.toNat, by omega⟩
        have hil : i < l.length := by omega
        rw [hyi] at y4
        have HY3' := unhide HY3
        have hh0 : (0 : Int) ≤ (i : Int) := by omega
        have hh1 : (i : Int) < (l.length : Int) := by omega
        clear hth
        by_cases hd : y.do_ = 0
        · rcases postE_cases l y.p with ⟨pe, pl⟩ | ⟨pe, pl⟩
          · have PE := hide pe
            have PL := hide pl
            clear pe pl
            go_wp2_with fail
            refine (post_own (unhide HO) y.p).mono ?_
            rw [unhide PE, unhide PL]
            rintro e w4 ⟨rfl, o4, k4⟩
            have hr4 := (unhide HL).keeps k4 fun _ hk => .inl (.inl hk)
            obtain ⟨z0, z1, z2, z3, z4, z5⟩ := (unhide HY3).keeps k4 (.inl (.inr rfl))
            simp only [Nat.zero_add] at z0 z1 z2 z3 z4 z5
            obtain ⟨a', c', w5, hrun, hcore⟩ := Core.push o4 (fun _ hk => .inl (.inl hk)) hr4 (unhide HBS) y.p ((unhide HP).append_right _) hle
            have CORE := hide hcore
            clear hcore hr4 o4 k4 y0 y1 y2 y3 y4 y5 HO HL HA HY3
            go_upto_region 39 with (at_builtin; refine wpList_app rfl _ _ 36 36 rfl rfl rfl hrun ?_)
            clear hrun z0 z1 z2 z3 z4 z5
            have hnn0 : (left ++ [y.p]).length = left.length + 1 := by first | (simp; done) | (simp; omega)
            obtain ⟨l', hl'⟩ : ∃ l', (l ++ [y.p]) = l' := ⟨_, rfl⟩
            obtain ⟨left', hleft'⟩ : ∃ left', (left ++ [y.p]) = left' := ⟨_, rfl⟩
            rw [hl', hleft'] at CORE
            rw [hleft'] at hnn0
            clear hl' hleft'
            have hpl := (unhide CORE).2.2.1.length_eq
            have hni : ((l'.length : Nat) : Int) = (left.length : Int) + 1 := by rw [← hpl, hnn0]; omega

            have hgd := (unhide CORE).1.good
            have lcal := len_own (unhide CORE).1
            rw [hni] at lcal
            have LC := hide lcal
            have HGD := hide hgd
            have HNN := hide hnn0
            clear lcal hpl hgd hni hnn0
            go_wp2_with fail
            refine (unhide LC).mono ?_
            rintro e w10 ⟨rfl, rfl⟩
            go_wp2_with fail
            refine (all_own (unhide CORE).1).mono ?_
            rintro e w11 ⟨b9, c9, rfl, r9, k9, o9⟩
            have R9 := hide r9
            have K9 := hide k9
            have O9 := hide o9
            clear r9 k9 o9
            go_wp2_with fail
            refine (fits_any (unhide R9) (unhide HGD).1 (unhide HGD).2.1 (unhide HGD).2.2).mono ?_
            rintro e w12 ⟨rfl, hb12⟩
            have CORE2 : Hid (Core w w12 x l' a' c' left') := ⟨(((unhide O9).mono (X' := ofRow a') fun _ hk => .inl hk).below hb12).1, ((unhide CORE).2.1.keeps (unhide K9) fun _ hk => hk).keep (Moved.of_below (F := fun _ => False) hb12) fun _ _ f => f, (unhide CORE).2.2.1, (unhide CORE).2.2.2⟩
            clear hb12
            go_wp2_with fail
            go_roundw
            case rel => exact ⟨k + 1, a', c', left', l', by omega, by go_num, by first | (rw [unhide HNN]; done) | rfl, unhide CORE2⟩
            case measure => simp [intOf]; omega
          · have PE := hide pe
            have PL := hide pl
            clear pe pl
            go_wp2_with fail
            refine (post_own (unhide HO) y.p).mono ?_
            rw [unhide PL]
            rintro e w4 ⟨rfl, o4, k4⟩
            have CORE := hide (Core.same o4 (fun _ hk => .inl (.inl hk)) ((unhide HL).keeps k4 fun _ hk => .inl (.inl hk)) (unhide HBS) (unhide HP))
            have pe := unhide PE
            clear o4 k4 y0 y1 y2 y3 y4 y5 HO HL HA HY3
            go_upto_region 39 with fail
            clear pe
            have hpl := (unhide CORE).2.2.1.length_eq
            have hni : ((l.length : Nat) : Int) = (left.length : Int) := by rw [← hpl]
            have hnn0 : left.length + 0 = left.length := rfl

            have hgd := (unhide CORE).1.good
            have lcal := len_own (unhide CORE).1
            rw [hni] at lcal
            have LC := hide lcal
            have HGD := hide hgd
            have HNN := hide hnn0
            clear lcal hpl hgd hni hnn0
            go_wp2_with fail
            refine (unhide LC).mono ?_
            rintro e w10 ⟨rfl, rfl⟩
            go_wp2_with fail
            refine (all_own (unhide CORE).1).mono ?_
            rintro e w11 ⟨b9, c9, rfl, r9, k9, o9⟩
            have R9 := hide r9
            have K9 := hide k9
            have O9 := hide o9
            clear r9 k9 o9
            go_wp2_with fail
            refine (fits_any (unhide R9) (unhide HGD).1 (unhide HGD).2.1 (unhide HGD).2.2).mono ?_
            rintro e w12 ⟨rfl, hb12⟩
            have CORE2 : Hid (Core w w12 x l la lc left) := ⟨(((unhide O9).mono (X' := ofRow la) fun _ hk => .inl hk).below hb12).1, ((unhide CORE).2.1.keeps (unhide K9) fun _ hk => hk).keep (Moved.of_below (F := fun _ => False) hb12) fun _ _ f => f, (unhide CORE).2.2.1, (unhide CORE).2.2.2⟩
            clear hb12
            go_wp2_with fail
            go_roundw
            case rel => exact ⟨k + 1, la, lc, left, l, by omega, by go_num, by first | (rw [unhide HNN]; done) | rfl, unhide CORE2⟩
            case measure => simp [intOf]; omega
        by_cases hd1 : y.do_ = 1
        · obtain ⟨t1, t2, t3, _, _⟩ := takeE_yes hil
          have T := hide (And.intro t1 (And.intro t2 t3))
          have hmem := mem_getD l i hil
          have HQ : Hid (∃ q, l.getD i Pkt.zero = q) := ⟨_, rfl⟩
          obtain ⟨q, hq⟩ := unhide HQ
          rw [hq] at hmem
          have HMEM := hide ((unhide HP).mem_iff.2 hmem)
          have HQ2 := hide hq
          clear t1 t2 t3 hmem hq HQ
          go_wp2_with fail
          refine (take_own (unhide HO) (i : Int)).mono ?_
          rw [(unhide T).1, (unhide T).2.1, (unhide T).2.2, unhide HQ2]
          rintro e w4 ⟨rfl, o4, k4⟩
          have hy4 := (unhide HY3).keeps k4 (.inl (.inr rfl))
          have hr4 := (unhide HL).keeps k4 fun _ hk => .inl (.inl hk)
          have ha4 := (unhide HA).keeps k4 fun _ hk => .inr hk
          have o5 := o4.alloc (.cells #[.int .i64 q.f, .int .i64 q.t, .string q.d] 25)
          have m5 : Moved (fun _ => False) w4 (w4.alloc (.cells #[.int .i64 q.f, .int .i64 q.t, .string q.d] 25)) := (Moved.refl _ _).alloc _
          have hp5 := PkAt.new w4 q.f q.t q.d
          obtain ⟨w5, hw5⟩ : ∃ w5, w5 = w4.alloc (.cells #[.int .i64 q.f, .int .i64 q.t, .string q.d] 25) := ⟨_, rfl⟩
          rw [← hw5] at o5 m5 hp5
          have hr5 := hr4.keep m5 fun _ _ f => f
          have ha5 := ha4.keep m5 fun _ _ f => f
          have hx4 : By < w4.heap.size := by obtain ⟨F, _, _, hx, _⟩ := o4; exact hx By (.inl (.inr rfl))
          have hy5 := hy4.keep m5 hx4 id
          obtain ⟨z0, z1, z2, z3, z4, z5⟩ := hy5
          simp only [Nat.zero_add] at z0 z1 z2 z3 z4 z5
          have O5 := hide o5
          have R5 := hide hr5
          have A5 := hide ha5
          have P5 := hide hp5
          have Y5 := hide (hy4.keep m5 hx4 id)
          have HW5 := hide hw5
          obtain ⟨b0, b1, b2⟩ := hp5
          dsimp only at b0 b1 b2
          clear o4 k4 hy4 hr4 ha4 o5 m5 hr5 ha5 hw5 hx4 y0 y1 y2 y3 y4 y5 HO HL HA HY3 T
          unfold Pkt.val
          go_upto_region 19 with fail
          rw [← unhide HW5]
          generalize w4.heap.size = B9 at *
          go_wp2_with fail
          refine (lfind_any (unhide R5) q (unhide HMEM) hle).mono ?_
          rintro e w6 ⟨j, hj, hjq, rfl, hb6⟩
          have hx5 : ∀ k, (((ofRow la k ∨ k = By) ∨ ofRow b k) ∨ k = B9) → k < w5.heap.size := by obtain ⟨F, _, _, hx, _⟩ := unhide O5; exact hx
          have m6 : Moved (fun _ => False) w5 w6 := Moved.of_below hb6
          have o6 := ((unhide O5).below hb6).1
          have k6 := ((unhide O5).below hb6).2
          have hr6 := (unhide R5).keep m6 fun _ _ f => f
          have ha6 := (unhide A5).keep m6 fun _ _ f => f
          obtain ⟨v0, v1, v2⟩ := (unhide P5).keep k6 (.inr rfl)
          dsimp only at v0 v1 v2
          obtain ⟨x0, x1, x2, x3, x4, x5⟩ := (unhide Y5).keeps k6 (.inl (.inl (.inr rfl)))
          simp only [Nat.zero_add] at x0 x1 x2 x3 x4 x5
          rcases ha6.form with ⟨_, _, e⟩ | ⟨g, rfl, hgl, _⟩
          · rw [e] at hil; simp at hil
          obtain ⟨e0, e1, e2⟩ := ha6.at i hil
          rw [unhide HQ2] at e0 e1 e2
          have same := samePk_self q.f q.t q.d
          have HJQ := hide hjq
          rcases hr6.form with ⟨_, _, e⟩ | ⟨g2, rfl, hgl2, _⟩
          · rw [e] at hj; simp at hj
          have O6 := hide o6
          have R6 := hide hr6
          clear hb6 m6 o6 k6 hr6 ha6 hjq R5 A5 P5 Y5 O5 z0 z1 z2 z3 z4 z5 b0 b1 b2 hx5
          go_wp2_with fail
          go_quiet (fail)
          have O7 := hide ((unhide O6).drewN nq)
          have R7 := hide ((unhide R6).drewN nq)
          clear O6 R6 v0 v1 v2 x0 x1 x2 x3 x4 x5 e0 e1 e2 same
          generalize w6.drewN nq = w7 at *
          have hcapL := (unhide R7).cap
          obtain ⟨A, hA, hlies2⟩ := lies_drop (unhide R7) j (by omega)
          have HLI := hide hlies2
          have hjl1 : j + 1 ≤ left.length := hj
          have gg1 : (0 : Int) ≤ (j : Int) + 1 := by omega
          have hwrap : IntKind.i64.wrap ((j : Int) + 1) = (j : Int) + 1 := Go.IntWalk.i64_in _ (by omega)
          have gg2 : (j : Int) + 1 ≤ (left.length : Int) := by omega
          have hjc : j ≤ lc := by omega
          have hjc1 : j + 1 ≤ lc := by omega
          have htk : (left.take j).length = j := by rw [List.length_take]; omega
          have hdr : (left.drop (j + 1)).length = left.length - (j + 1) := List.length_drop
          have HTK := hide htk
          have HDR := hide hdr
          have hlc : lc ≤ 9223372036854775807 := by rcases (unhide R7).form with ⟨e, _⟩ | ⟨_, _, _, _, h, _⟩; cases e; unfold maxLen at h; omega
          clear hlies2 htk hdr hcapL
          go_wp2_with fail
          go_region_law (first | (refine step_prow2 rfl (.tmp 82) (.tmp 85) rfl (row_empty w7.drew) 0 rfl (some ⟨g2, 0, none⟩) lc (left.take j) (lies_take ((unhide R7).keep (F := fun _ => False) (((Moved.refl _ _).drew).alloc _) (fun _ _ f => f)) j) j (unhide HTK) (by simp only [List.length_nil]; rw [unhide HTK]; omega) (by simp [Act.eval]) (by simp [Act.eval]) ?_; intro a1 c1 w8 r1 f1 g1; have FR1 := hide f1; have GR1 := hide g1; have RO1 := hide r1; have MV1 := hide ((((Moved.refl (fun _ => False) w7).drew).alloc (.cells #[] 25)).grown g1 (fun k hk => (by simp [Value.ownBlock] at hk; exact .inr (by omega)))); clear f1 g1 r1) | (refine step_prow2 rfl (.tmp 86) (.tmp 90) rfl (unhide RO1) (0 + j) (by rw [List.nil_append, unhide HTK, Nat.zero_add]) (some A) (lc - (j + 1)) (left.drop (j + 1)) (unhide HLI _ (unhide MV1)) (left.length - (j + 1)) (unhide HDR) (by rw [List.nil_append, unhide HTK, unhide HDR]; omega) (by simp [Act.eval]) (by simp [Act.eval]) ?_; intro a2 c2 w9 r2 f2 g2'; have FR2 := hide f2; have GR2 := hide g2'; have RO2 := hide r2; clear f2 g2' r2))
          have hfr1 : ∀ y, a1 = some y → w7.heap.size ≤ y.block := fun y hy => (by
            rcases unhide FR1 y hy with e | e
            · cases e; exact Nat.le_refl _
            · have e' : w7.heap.size + 1 ≤ y.block := by simpa using e
              omega)
          have m9 : Moved (fun _ => False) w7 w9 := ((unhide MV1).trans ((Moved.refl (ofRow a1) w8).grown (unhide GR2) fun k hk => .inl (by
            cases a1 with
            | none => simp [Value.ownBlock] at hk
            | some y => simp [Value.ownBlock] at hk; exact ⟨y, rfl, hk.symm⟩)) fun k hk => (by
            obtain ⟨y, e, rfl⟩ := hk
            exact .inr (hfr1 y e)))
          have r9 := unhide RO2
          rw [List.nil_append] at r9
          have CORE := hide (Core.cut (unhide O7) m9 r9 (fun y hy => (by
            rcases unhide FR2 y hy with e | e
            · exact hfr1 y e
            · exact Nat.le_trans (unhide MV1).size e)) (perm_cut (unhide HP) hj hil ((unhide HJQ).trans (unhide HQ2).symm)))
          clear r9 m9 hfr1 RO2 FR2 GR2 RO1 FR1 GR1 MV1 O7 R7 HLI
          have hjn : (left.take j ++ left.drop (j + 1)).length = j + (left.length - (j + 1)) := by rw [List.length_append, unhide HTK, unhide HDR]
          go_upto_region 39 with fail
          have hnn0 : (left.take j ++ left.drop (j + 1)).length = j + (left.length - (j + 1)) := hjn
          obtain ⟨l', hl'⟩ : ∃ l', (l.take i ++ l.drop (i + 1)) = l' := ⟨_, rfl⟩
          obtain ⟨left', hleft'⟩ : ∃ left', (left.take j ++ left.drop (j + 1)) = left' := ⟨_, rfl⟩
          rw [hl', hleft'] at CORE
          rw [hleft'] at hnn0
          clear hl' hleft'
          have hpl := (unhide CORE).2.2.1.length_eq
          have hni : ((l'.length : Nat) : Int) = (j : Int) + ((left.length - (j + 1) : Nat) : Int) := by rw [← hpl, hnn0]; omega

          have hgd := (unhide CORE).1.good
          have lcal := len_own (unhide CORE).1
          rw [hni] at lcal
          have LC := hide lcal
          have HGD := hide hgd
          have HNN := hide hnn0
          clear lcal hpl hgd hni hnn0
          go_wp2_with fail
          refine (unhide LC).mono ?_
          rintro e w10 ⟨rfl, rfl⟩
          go_wp2_with fail
          refine (all_own (unhide CORE).1).mono ?_
          rintro e w11 ⟨b9, c9, rfl, r9, k9, o9⟩
          have R9 := hide r9
          have K9 := hide k9
          have O9 := hide o9
          clear r9 k9 o9
          go_wp2_with fail
          refine (fits_any (unhide R9) (unhide HGD).1 (unhide HGD).2.1 (unhide HGD).2.2).mono ?_
          rintro e w12 ⟨rfl, hb12⟩
          have CORE2 : Hid (Core w w12 x l' a2 c2 left') := ⟨(((unhide O9).mono (X' := ofRow a2) fun _ hk => .inl hk).below hb12).1, ((unhide CORE).2.1.keeps (unhide K9) fun _ hk => hk).keep (Moved.of_below (F := fun _ => False) hb12) fun _ _ f => f, (unhide CORE).2.2.1, (unhide CORE).2.2.2⟩
          clear hb12
          go_wp2_with fail
          go_roundw
          case rel => exact ⟨k + 1, a2, c2, left', l', by omega, by go_num, by first | (rw [unhide HNN]; done) | rfl, unhide CORE2⟩
          case measure => simp [intOf]; omega
        by_cases hd2 : y.do_ = 2
        · obtain ⟨t1, t2, t3, _, _⟩ := takeE_yes hil
          have T := hide (And.intro t1 t3)
          have hmem := mem_getD l i hil
          have HQ : Hid (∃ q, l.getD i Pkt.zero = q) := ⟨_, rfl⟩
          obtain ⟨q, hq⟩ := unhide HQ
          rw [hq] at hmem
          have HMEM := hide ((unhide HP).mem_iff.2 hmem)
          have HQ2 := hide hq
          clear t1 t2 t3 hmem hq HQ
          go_wp2_with fail
          refine (lose_own (unhide HO) (i : Int)).mono ?_
          rw [(unhide T).1, (unhide T).2]
          rintro e w4 ⟨rfl, o4, k4⟩
          have hr4 := (unhide HL).keeps k4 fun _ hk => .inl (.inl hk)
          have ha4 := (unhide HA).keeps k4 fun _ hk => .inr hk
          obtain ⟨z0, z1, z2, z3, z4, z5⟩ := (unhide HY3).keeps k4 (.inl (.inr rfl))
          simp only [Nat.zero_add] at z0 z1 z2 z3 z4 z5
          rcases ha4.form with ⟨_, _, e⟩ | ⟨g, rfl, hgl, _⟩
          · rw [e] at hil; simp at hil
          obtain ⟨e0, e1, e2⟩ := ha4.at i hil
          rw [unhide HQ2] at e0 e1 e2
          have O5 := hide o4
          have R5 := hide hr4
          clear o4 k4 hr4 ha4 y0 y1 y2 y3 y4 y5 HO HL HA HY3 T
          go_wp2_with fail
          refine (lfind_any (unhide R5) q (unhide HMEM) hle).mono ?_
          rintro e w6 ⟨j, hj, hjq, rfl, hb6⟩
          have m6 : Moved (fun _ => False) w4 w6 := Moved.of_below hb6
          have o6 := ((unhide O5).below hb6).1
          have hr6 := (unhide R5).keep m6 fun _ _ f => f
          have HJQ := hide hjq
          rcases hr6.form with ⟨_, _, e⟩ | ⟨g2, rfl, hgl2, _⟩
          · rw [e] at hj; simp at hj
          have O7 := hide o6
          have R7 := hide hr6
          clear hb6 m6 o6 hr6 hjq R5 O5 z0 z1 z2 z3 z4 z5 e0 e1 e2
          generalize w6 = w7 at *
          have hcapL := (unhide R7).cap
          obtain ⟨A, hA, hlies2⟩ := lies_drop (unhide R7) j (by omega)
          have HLI := hide hlies2
          have hjl1 : j + 1 ≤ left.length := hj
          have gg1 : (0 : Int) ≤ (j : Int) + 1 := by omega
          have hwrap : IntKind.i64.wrap ((j : Int) + 1) = (j : Int) + 1 := Go.IntWalk.i64_in _ (by omega)
          have gg2 : (j : Int) + 1 ≤ (left.length : Int) := by omega
          have hjc : j ≤ lc := by omega
          have hjc1 : j + 1 ≤ lc := by omega
          have htk : (left.take j).length = j := by rw [List.length_take]; omega
          have hdr : (left.drop (j + 1)).length = left.length - (j + 1) := List.length_drop
          have HTK := hide htk
          have HDR := hide hdr
          have hlc : lc ≤ 9223372036854775807 := by rcases (unhide R7).form with ⟨e, _⟩ | ⟨_, _, _, _, h, _⟩; cases e; unfold maxLen at h; omega
          clear hlies2 htk hdr hcapL
          go_wp2_with fail
          go_region_law (first | (refine step_prow2 rfl (.tmp 111) (.tmp 114) rfl (row_empty w7.drew) 0 rfl (some ⟨g2, 0, none⟩) lc (left.take j) (lies_take ((unhide R7).keep (F := fun _ => False) (((Moved.refl _ _).drew).alloc _) (fun _ _ f => f)) j) j (unhide HTK) (by simp only [List.length_nil]; rw [unhide HTK]; omega) (by simp [Act.eval]) (by simp [Act.eval]) ?_; intro a1 c1 w8 r1 f1 g1; have FR1 := hide f1; have GR1 := hide g1; have RO1 := hide r1; have MV1 := hide ((((Moved.refl (fun _ => False) w7).drew).alloc (.cells #[] 25)).grown g1 (fun k hk => (by simp [Value.ownBlock] at hk; exact .inr (by omega)))); clear f1 g1 r1) | (refine step_prow2 rfl (.tmp 115) (.tmp 119) rfl (unhide RO1) (0 + j) (by rw [List.nil_append, unhide HTK, Nat.zero_add]) (some A) (lc - (j + 1)) (left.drop (j + 1)) (unhide HLI _ (unhide MV1)) (left.length - (j + 1)) (unhide HDR) (by rw [List.nil_append, unhide HTK, unhide HDR]; omega) (by simp [Act.eval]) (by simp [Act.eval]) ?_; intro a2 c2 w9 r2 f2 g2'; have FR2 := hide f2; have GR2 := hide g2'; have RO2 := hide r2; clear f2 g2' r2))
          have hfr1 : ∀ y, a1 = some y → w7.heap.size ≤ y.block := fun y hy => (by
            rcases unhide FR1 y hy with e | e
            · cases e; exact Nat.le_refl _
            · have e' : w7.heap.size + 1 ≤ y.block := by simpa using e
              omega)
          have m9 : Moved (fun _ => False) w7 w9 := ((unhide MV1).trans ((Moved.refl (ofRow a1) w8).grown (unhide GR2) fun k hk => .inl (by
            cases a1 with
            | none => simp [Value.ownBlock] at hk
            | some y => simp [Value.ownBlock] at hk; exact ⟨y, rfl, hk.symm⟩)) fun k hk => (by
            obtain ⟨y, e, rfl⟩ := hk
            exact .inr (hfr1 y e)))
          have r9 := unhide RO2
          rw [List.nil_append] at r9
          have CORE := hide (Core.cut (unhide O7) m9 r9 (fun y hy => (by
            rcases unhide FR2 y hy with e | e
            · exact hfr1 y e
            · exact Nat.le_trans (unhide MV1).size e)) (perm_cut (unhide HP) hj hil ((unhide HJQ).trans (unhide HQ2).symm)))
          clear r9 m9 hfr1 RO2 FR2 GR2 RO1 FR1 GR1 MV1 O7 R7 HLI
          have hjn : (left.take j ++ left.drop (j + 1)).length = j + (left.length - (j + 1)) := by rw [List.length_append, unhide HTK, unhide HDR]
          go_upto_region 39 with fail
          have hnn0 : (left.take j ++ left.drop (j + 1)).length = j + (left.length - (j + 1)) := hjn
          obtain ⟨l', hl'⟩ : ∃ l', (l.take i ++ l.drop (i + 1)) = l' := ⟨_, rfl⟩
          obtain ⟨left', hleft'⟩ : ∃ left', (left.take j ++ left.drop (j + 1)) = left' := ⟨_, rfl⟩
          rw [hl', hleft'] at CORE
          rw [hleft'] at hnn0
          clear hl' hleft'
          have hpl := (unhide CORE).2.2.1.length_eq
          have hni : ((l'.length : Nat) : Int) = (j : Int) + ((left.length - (j + 1) : Nat) : Int) := by rw [← hpl, hnn0]; omega

          have hgd := (unhide CORE).1.good
          have lcal := len_own (unhide CORE).1
          rw [hni] at lcal
          have LC := hide lcal
          have HGD := hide hgd
          have HNN := hide hnn0
          clear lcal hpl hgd hni hnn0
          go_wp2_with fail
          refine (unhide LC).mono ?_
          rintro e w10 ⟨rfl, rfl⟩
          go_wp2_with fail
          refine (all_own (unhide CORE).1).mono ?_
          rintro e w11 ⟨b9, c9, rfl, r9, k9, o9⟩
          have R9 := hide r9
          have K9 := hide k9
          have O9 := hide o9
          clear r9 k9 o9
          go_wp2_with fail
          refine (fits_any (unhide R9) (unhide HGD).1 (unhide HGD).2.1 (unhide HGD).2.2).mono ?_
          rintro e w12 ⟨rfl, hb12⟩
          have CORE2 : Hid (Core w w12 x l' a2 c2 left') := ⟨(((unhide O9).mono (X' := ofRow a2) fun _ hk => .inl hk).below hb12).1, ((unhide CORE).2.1.keeps (unhide K9) fun _ hk => hk).keep (Moved.of_below (F := fun _ => False) hb12) fun _ _ f => f, (unhide CORE).2.2.1, (unhide CORE).2.2.2⟩
          clear hb12
          go_wp2_with fail
          go_roundw
          case rel => exact ⟨k + 1, a2, c2, left', l', by omega, by go_num, by first | (rw [unhide HNN]; done) | rfl, unhide CORE2⟩
          case measure => simp [intOf]; omega
        by_cases hd3 : y.do_ = 3
        · obtain ⟨_, _, _, t4, t5⟩ := takeE_yes hil
          have T := hide (And.intro t4 t5)
          have HQ : Hid (∃ q, l.getD i Pkt.zero = q) := ⟨_, rfl⟩
          obtain ⟨q, hq⟩ := unhide HQ
          have HQ2 := hide hq
          clear t4 t5 hq HQ
          rcases postE_cases l q with ⟨pe, pl⟩ | ⟨pe, pl⟩
          · have PE := hide pe
            have PL := hide pl
            clear pe pl
            go_wp2_with fail
            refine (dup_own (unhide HO) (i : Int)).mono ?_
            rw [(unhide T).1, (unhide T).2, unhide HQ2, unhide PE, unhide PL]
            rintro e w4 ⟨rfl, o4, k4⟩
            have hr4 := (unhide HL).keeps k4 fun _ hk => .inl (.inl hk)
            have ha4 := (unhide HA).keeps k4 fun _ hk => .inr hk
            obtain ⟨z0, z1, z2, z3, z4, z5⟩ := (unhide HY3).keeps k4 (.inl (.inr rfl))
            simp only [Nat.zero_add] at z0 z1 z2 z3 z4 z5
            rcases ha4.form with ⟨_, _, e⟩ | ⟨g, rfl, hgl, _⟩
            · rw [e] at hil; simp at hil
            obtain ⟨e0, e1, e2⟩ := ha4.at i hil
            rw [unhide HQ2] at e0 e1 e2
            obtain ⟨a', c', w5, hrun, hcore⟩ := Core.push o4 (fun _ hk => .inl (.inl hk)) hr4 (unhide HBS) q ((unhide HP).append_right _) hle
            have CORE := hide hcore
            clear hcore hr4 o4 k4 ha4 y0 y1 y2 y3 y4 y5 HO HL HA HY3
            go_upto_region 39 with (at_builtin; refine wpList_app rfl _ _ 36 36 rfl rfl rfl hrun ?_)
            clear hrun z0 z1 z2 z3 z4 z5 e0 e1 e2
            have hnn0 : (left ++ [q]).length = left.length + 1 := by first | (simp; done) | (simp; omega)
            obtain ⟨l', hl'⟩ : ∃ l', (l ++ [q]) = l' := ⟨_, rfl⟩
            obtain ⟨left', hleft'⟩ : ∃ left', (left ++ [q]) = left' := ⟨_, rfl⟩
            rw [hl', hleft'] at CORE
            rw [hleft'] at hnn0
            clear hl' hleft'
            have hpl := (unhide CORE).2.2.1.length_eq
            have hni : ((l'.length : Nat) : Int) = (left.length : Int) + 1 := by rw [← hpl, hnn0]; omega

            have hgd := (unhide CORE).1.good
            have lcal := len_own (unhide CORE).1
            rw [hni] at lcal
            have LC := hide lcal
            have HGD := hide hgd
            have HNN := hide hnn0
            clear lcal hpl hgd hni hnn0
            go_wp2_with fail
            refine (unhide LC).mono ?_
            rintro e w10 ⟨rfl, rfl⟩
            go_wp2_with fail
            refine (all_own (unhide CORE).1).mono ?_
            rintro e w11 ⟨b9, c9, rfl, r9, k9, o9⟩
            have R9 := hide r9
            have K9 := hide k9
            have O9 := hide o9
            clear r9 k9 o9
            go_wp2_with fail
            refine (fits_any (unhide R9) (unhide HGD).1 (unhide HGD).2.1 (unhide HGD).2.2).mono ?_
            rintro e w12 ⟨rfl, hb12⟩
            have CORE2 : Hid (Core w w12 x l' a' c' left') := ⟨(((unhide O9).mono (X' := ofRow a') fun _ hk => .inl hk).below hb12).1, ((unhide CORE).2.1.keeps (unhide K9) fun _ hk => hk).keep (Moved.of_below (F := fun _ => False) hb12) fun _ _ f => f, (unhide CORE).2.2.1, (unhide CORE).2.2.2⟩
            clear hb12
            go_wp2_with fail
            go_roundw
            case rel => exact ⟨k + 1, a', c', left', l', by omega, by go_num, by first | (rw [unhide HNN]; done) | rfl, unhide CORE2⟩
            case measure => simp [intOf]; omega
          · have PE := hide pe
            have PL := hide pl
            clear pe pl
            go_wp2_with fail
            refine (dup_own (unhide HO) (i : Int)).mono ?_
            rw [(unhide T).1, (unhide T).2, unhide HQ2, unhide PL]
            rintro e w4 ⟨rfl, o4, k4⟩
            have CORE := hide (Core.same o4 (fun _ hk => .inl (.inl hk)) ((unhide HL).keeps k4 fun _ hk => .inl (.inl hk)) (unhide HBS) (unhide HP))
            have pe := unhide PE
            clear o4 k4 y0 y1 y2 y3 y4 y5 HO HL HA HY3
            go_upto_region 39 with fail
            clear pe
            have hpl := (unhide CORE).2.2.1.length_eq
            have hni : ((l.length : Nat) : Int) = (left.length : Int) := by rw [← hpl]
            have hnn0 : left.length + 0 = left.length := rfl

            have hgd := (unhide CORE).1.good
            have lcal := len_own (unhide CORE).1
            rw [hni] at lcal
            have LC := hide lcal
            have HGD := hide hgd
            have HNN := hide hnn0
            clear lcal hpl hgd hni hnn0
            go_wp2_with fail
            refine (unhide LC).mono ?_
            rintro e w10 ⟨rfl, rfl⟩
            go_wp2_with fail
            refine (all_own (unhide CORE).1).mono ?_
            rintro e w11 ⟨b9, c9, rfl, r9, k9, o9⟩
            have R9 := hide r9
            have K9 := hide k9
            have O9 := hide o9
            clear r9 k9 o9
            go_wp2_with fail
            refine (fits_any (unhide R9) (unhide HGD).1 (unhide HGD).2.1 (unhide HGD).2.2).mono ?_
            rintro e w12 ⟨rfl, hb12⟩
            have CORE2 : Hid (Core w w12 x l la lc left) := ⟨(((unhide O9).mono (X' := ofRow la) fun _ hk => .inl hk).below hb12).1, ((unhide CORE).2.1.keeps (unhide K9) fun _ hk => hk).keep (Moved.of_below (F := fun _ => False) hb12) fun _ _ f => f, (unhide CORE).2.2.1, (unhide CORE).2.2.2⟩
            clear hb12
            go_wp2_with fail
            go_roundw
            case rel => exact ⟨k + 1, la, lc, left, l, by omega, by go_num, by first | (rw [unhide HNN]; done) | rfl, unhide CORE2⟩
            case measure => simp [intOf]; omega
        have CORE := hide (Core.same (unhide HO) (fun _ hk => .inl (.inl hk)) (unhide HL) (unhide HBS) (unhide HP))
        go_upto_region 39 with fail
        clear y0 y1 y2 y3 y4 y5 HO HL HA HY3
        have hpl := (unhide CORE).2.2.1.length_eq
        have hni : ((l.length : Nat) : Int) = (left.length : Int) := by rw [← hpl]
        have hnn0 : left.length + 0 = left.length := rfl

        have hgd := (unhide CORE).1.good
        have lcal := len_own (unhide CORE).1
        rw [hni] at lcal
        have LC := hide lcal
        have HGD := hide hgd
        have HNN := hide hnn0
        clear lcal hpl hgd hni hnn0
        go_wp2_with fail
        refine (unhide LC).mono ?_
        rintro e w10 ⟨rfl, rfl⟩
        go_wp2_with fail
        refine (all_own (unhide CORE).1).mono ?_
        rintro e w11 ⟨b9, c9, rfl, r9, k9, o9⟩
        have R9 := hide r9
        have K9 := hide k9
        have O9 := hide o9
        clear r9 k9 o9
        go_wp2_with fail
        refine (fits_any (unhide R9) (unhide HGD).1 (unhide HGD).2.1 (unhide HGD).2.2).mono ?_
        rintro e w12 ⟨rfl, hb12⟩
        have CORE2 : Hid (Core w w12 x l la lc left) := ⟨(((unhide O9).mono (X' := ofRow la) fun _ hk => .inl hk).below hb12).1, ((unhide CORE).2.1.keeps (unhide K9) fun _ hk => hk).keep (Moved.of_below (F := fun _ => False) hb12) fun _ _ f => f, (unhide CORE).2.2.1, (unhide CORE).2.2.2⟩
        clear hb12
        go_wp2_with fail
        go_roundw
        case rel => exact ⟨k + 1, la, lc, left, l, by omega, by go_num, by first | (rw [unhide HNN]; done) | rfl, unhide CORE2⟩
        case measure => simp [intOf]; omega
      · have HNOT := hide hth
        by_cases hneg : y.i < 0
        · clear hth
          by_cases hd : y.do_ = 0
          · rcases postE_cases l y.p with ⟨pe, pl⟩ | ⟨pe, pl⟩
            · have PE := hide pe
              have PL := hide pl
              clear pe pl
              go_wp2_with fail
              refine (post_own (unhide HO) y.p).mono ?_
              rw [unhide PE, unhide PL]
              rintro e w4 ⟨rfl, o4, k4⟩
              have hr4 := (unhide HL).keeps k4 fun _ hk => .inl (.inl hk)
              obtain ⟨z0, z1, z2, z3, z4, z5⟩ := (unhide HY3).keeps k4 (.inl (.inr rfl))
              simp only [Nat.zero_add] at z0 z1 z2 z3 z4 z5
              obtain ⟨a', c', w5, hrun, hcore⟩ := Core.push o4 (fun _ hk => .inl (.inl hk)) hr4 (unhide HBS) y.p ((unhide HP).append_right _) hle
              have CORE := hide hcore
              clear hcore hr4 o4 k4 y0 y1 y2 y3 y4 y5 HO HL HA HY3
              go_upto_region 39 with (at_builtin; refine wpList_app rfl _ _ 36 36 rfl rfl rfl hrun ?_)
              clear hrun z0 z1 z2 z3 z4 z5
              have hnn0 : (left ++ [y.p]).length = left.length + 1 := by first | (simp; done) | (simp; omega)
              obtain ⟨l', hl'⟩ : ∃ l', (l ++ [y.p]) = l' := ⟨_, rfl⟩
              obtain ⟨left', hleft'⟩ : ∃ left', (left ++ [y.p]) = left' := ⟨_, rfl⟩
              rw [hl', hleft'] at CORE
              rw [hleft'] at hnn0
              clear hl' hleft'
              have hpl := (unhide CORE).2.2.1.length_eq
              have hni : ((l'.length : Nat) : Int) = (left.length : Int) + 1 := by rw [← hpl, hnn0]; omega

              have hgd := (unhide CORE).1.good
              have lcal := len_own (unhide CORE).1
              rw [hni] at lcal
              have LC := hide lcal
              have HGD := hide hgd
              have HNN := hide hnn0
              clear lcal hpl hgd hni hnn0
              go_wp2_with fail
              refine (unhide LC).mono ?_
              rintro e w10 ⟨rfl, rfl⟩
              go_wp2_with fail
              refine (all_own (unhide CORE).1).mono ?_
              rintro e w11 ⟨b9, c9, rfl, r9, k9, o9⟩
              have R9 := hide r9
              have K9 := hide k9
              have O9 := hide o9
              clear r9 k9 o9
              go_wp2_with fail
              refine (fits_any (unhide R9) (unhide HGD).1 (unhide HGD).2.1 (unhide HGD).2.2).mono ?_
              rintro e w12 ⟨rfl, hb12⟩
              have CORE2 : Hid (Core w w12 x l' a' c' left') := ⟨(((unhide O9).mono (X' := ofRow a') fun _ hk => .inl hk).below hb12).1, ((unhide CORE).2.1.keeps (unhide K9) fun _ hk => hk).keep (Moved.of_below (F := fun _ => False) hb12) fun _ _ f => f, (unhide CORE).2.2.1, (unhide CORE).2.2.2⟩
              clear hb12
              go_wp2_with fail
              go_roundw
              case rel => exact ⟨k + 1, a', c', left', l', by omega, by go_num, by first | (rw [unhide HNN]; done) | rfl, unhide CORE2⟩
              case measure => simp [intOf]; omega
            · have PE := hide pe
              have PL := hide pl
              clear pe pl
              go_wp2_with fail
              refine (post_own (unhide HO) y.p).mono ?_
              rw [unhide PL]
              rintro e w4 ⟨rfl, o4, k4⟩
              have CORE := hide (Core.same o4 (fun _ hk => .inl (.inl hk)) ((unhide HL).keeps k4 fun _ hk => .inl (.inl hk)) (unhide HBS) (unhide HP))
              have pe := unhide PE
              clear o4 k4 y0 y1 y2 y3 y4 y5 HO HL HA HY3
              go_upto_region 39 with fail
              clear pe
              have hpl := (unhide CORE).2.2.1.length_eq
              have hni : ((l.length : Nat) : Int) = (left.length : Int) := by rw [← hpl]
              have hnn0 : left.length + 0 = left.length := rfl

              have hgd := (unhide CORE).1.good
              have lcal := len_own (unhide CORE).1
              rw [hni] at lcal
              have LC := hide lcal
              have HGD := hide hgd
              have HNN := hide hnn0
              clear lcal hpl hgd hni hnn0
              go_wp2_with fail
              refine (unhide LC).mono ?_
              rintro e w10 ⟨rfl, rfl⟩
              go_wp2_with fail
              refine (all_own (unhide CORE).1).mono ?_
              rintro e w11 ⟨b9, c9, rfl, r9, k9, o9⟩
              have R9 := hide r9
              have K9 := hide k9
              have O9 := hide o9
              clear r9 k9 o9
              go_wp2_with fail
              refine (fits_any (unhide R9) (unhide HGD).1 (unhide HGD).2.1 (unhide HGD).2.2).mono ?_
              rintro e w12 ⟨rfl, hb12⟩
              have CORE2 : Hid (Core w w12 x l la lc left) := ⟨(((unhide O9).mono (X' := ofRow la) fun _ hk => .inl hk).below hb12).1, ((unhide CORE).2.1.keeps (unhide K9) fun _ hk => hk).keep (Moved.of_below (F := fun _ => False) hb12) fun _ _ f => f, (unhide CORE).2.2.1, (unhide CORE).2.2.2⟩
              clear hb12
              go_wp2_with fail
              go_roundw
              case rel => exact ⟨k + 1, la, lc, left, l, by omega, by go_num, by first | (rw [unhide HNN]; done) | rfl, unhide CORE2⟩
              case measure => simp [intOf]; omega
          by_cases hd1 : y.do_ = 1
          · have T := hide (takeE_no (l := l) (i := y.i) (unhide HNOT))
            go_wp2_with fail
            refine (take_own (unhide HO) y.i).mono ?_
            rw [(unhide T).1, (unhide T).2.1]
            rintro e w4 ⟨rfl, o4, k4⟩
            generalize takeP l y.i = q at *
            have m5 : Moved (fun _ => False) w4 (w4.alloc (.cells #[.int .i64 q.f, .int .i64 q.t, .string q.d] 25)) := (Moved.refl _ _).alloc _
            have CORE := hide (Core.same (o4.alloc (.cells #[.int .i64 q.f, .int .i64 q.t, .string q.d] 25)) (la := la) (fun _ hk => .inl (.inl (.inl hk))) (((unhide HL).keeps k4 fun _ hk => .inl (.inl hk)).keep m5 fun _ _ f => f) (unhide HBS) (unhide HP))
            unfold Pkt.val
            clear m5
            clear o4 k4 y0 y1 y2 y3 y4 y5 HO HL HA HY3 T
            go_upto_region 39 with fail
            have hpl := (unhide CORE).2.2.1.length_eq
            have hni : ((l.length : Nat) : Int) = (left.length : Int) := by rw [← hpl]
            have hnn0 : left.length + 0 = left.length := rfl

            have hgd := (unhide CORE).1.good
            have lcal := len_own (unhide CORE).1
            rw [hni] at lcal
            have LC := hide lcal
            have HGD := hide hgd
            have HNN := hide hnn0
            clear lcal hpl hgd hni hnn0
            go_wp2_with fail
            refine (unhide LC).mono ?_
            rintro e w10 ⟨rfl, rfl⟩
            go_wp2_with fail
            refine (all_own (unhide CORE).1).mono ?_
            rintro e w11 ⟨b9, c9, rfl, r9, k9, o9⟩
            have R9 := hide r9
            have K9 := hide k9
            have O9 := hide o9
            clear r9 k9 o9
            go_wp2_with fail
            refine (fits_any (unhide R9) (unhide HGD).1 (unhide HGD).2.1 (unhide HGD).2.2).mono ?_
            rintro e w12 ⟨rfl, hb12⟩
            have CORE2 : Hid (Core w w12 x l la lc left) := ⟨(((unhide O9).mono (X' := ofRow la) fun _ hk => .inl hk).below hb12).1, ((unhide CORE).2.1.keeps (unhide K9) fun _ hk => hk).keep (Moved.of_below (F := fun _ => False) hb12) fun _ _ f => f, (unhide CORE).2.2.1, (unhide CORE).2.2.2⟩
            clear hb12
            go_wp2_with fail
            go_roundw
            case rel => exact ⟨k + 1, la, lc, left, l, by omega, by go_num, by first | (rw [unhide HNN]; done) | rfl, unhide CORE2⟩
            case measure => simp [intOf]; omega
          by_cases hd2 : y.do_ = 2
          · have T := hide (takeE_no (l := l) (i := y.i) (unhide HNOT))
            go_wp2_with fail
            refine (lose_own (unhide HO) y.i).mono ?_
            rw [(unhide T).1, (unhide T).2.1]
            rintro e w4 ⟨rfl, o4, k4⟩
            have CORE := hide (Core.same o4 (fun _ hk => .inl (.inl hk)) ((unhide HL).keeps k4 fun _ hk => .inl (.inl hk)) (unhide HBS) (unhide HP))
            clear o4 k4 y0 y1 y2 y3 y4 y5 HO HL HA HY3 T
            go_upto_region 39 with fail
            have hpl := (unhide CORE).2.2.1.length_eq
            have hni : ((l.length : Nat) : Int) = (left.length : Int) := by rw [← hpl]
            have hnn0 : left.length + 0 = left.length := rfl

            have hgd := (unhide CORE).1.good
            have lcal := len_own (unhide CORE).1
            rw [hni] at lcal
            have LC := hide lcal
            have HGD := hide hgd
            have HNN := hide hnn0
            clear lcal hpl hgd hni hnn0
            go_wp2_with fail
            refine (unhide LC).mono ?_
            rintro e w10 ⟨rfl, rfl⟩
            go_wp2_with fail
            refine (all_own (unhide CORE).1).mono ?_
            rintro e w11 ⟨b9, c9, rfl, r9, k9, o9⟩
            have R9 := hide r9
            have K9 := hide k9
            have O9 := hide o9
            clear r9 k9 o9
            go_wp2_with fail
            refine (fits_any (unhide R9) (unhide HGD).1 (unhide HGD).2.1 (unhide HGD).2.2).mono ?_
            rintro e w12 ⟨rfl, hb12⟩
            have CORE2 : Hid (Core w w12 x l la lc left) := ⟨(((unhide O9).mono (X' := ofRow la) fun _ hk => .inl hk).below hb12).1, ((unhide CORE).2.1.keeps (unhide K9) fun _ hk => hk).keep (Moved.of_below (F := fun _ => False) hb12) fun _ _ f => f, (unhide CORE).2.2.1, (unhide CORE).2.2.2⟩
            clear hb12
            go_wp2_with fail
            go_roundw
            case rel => exact ⟨k + 1, la, lc, left, l, by omega, by go_num, by first | (rw [unhide HNN]; done) | rfl, unhide CORE2⟩
            case measure => simp [intOf]; omega
          by_cases hd3 : y.do_ = 3
          · have T := hide (takeE_no (l := l) (i := y.i) (unhide HNOT))
            go_wp2_with fail
            refine (dup_own (unhide HO) y.i).mono ?_
            rw [(unhide T).2.2.1, (unhide T).2.2.2]
            rintro e w4 ⟨rfl, o4, k4⟩
            have CORE := hide (Core.same o4 (fun _ hk => .inl (.inl hk)) ((unhide HL).keeps k4 fun _ hk => .inl (.inl hk)) (unhide HBS) (unhide HP))
            clear o4 k4 y0 y1 y2 y3 y4 y5 HO HL HA HY3 T
            go_upto_region 39 with fail
            have hpl := (unhide CORE).2.2.1.length_eq
            have hni : ((l.length : Nat) : Int) = (left.length : Int) := by rw [← hpl]
            have hnn0 : left.length + 0 = left.length := rfl

            have hgd := (unhide CORE).1.good
            have lcal := len_own (unhide CORE).1
            rw [hni] at lcal
            have LC := hide lcal
            have HGD := hide hgd
            have HNN := hide hnn0
            clear lcal hpl hgd hni hnn0
            go_wp2_with fail
            refine (unhide LC).mono ?_
            rintro e w10 ⟨rfl, rfl⟩
            go_wp2_with fail
            refine (all_own (unhide CORE).1).mono ?_
            rintro e w11 ⟨b9, c9, rfl, r9, k9, o9⟩
            have R9 := hide r9
            have K9 := hide k9
            have O9 := hide o9
            clear r9 k9 o9
            go_wp2_with fail
            refine (fits_any (unhide R9) (unhide HGD).1 (unhide HGD).2.1 (unhide HGD).2.2).mono ?_
            rintro e w12 ⟨rfl, hb12⟩
            have CORE2 : Hid (Core w w12 x l la lc left) := ⟨(((unhide O9).mono (X' := ofRow la) fun _ hk => .inl hk).below hb12).1, ((unhide CORE).2.1.keeps (unhide K9) fun _ hk => hk).keep (Moved.of_below (F := fun _ => False) hb12) fun _ _ f => f, (unhide CORE).2.2.1, (unhide CORE).2.2.2⟩
            clear hb12
            go_wp2_with fail
            go_roundw
            case rel => exact ⟨k + 1, la, lc, left, l, by omega, by go_num, by first | (rw [unhide HNN]; done) | rfl, unhide CORE2⟩
            case measure => simp [intOf]; omega
          have CORE := hide (Core.same (unhide HO) (fun _ hk => .inl (.inl hk)) (unhide HL) (unhide HBS) (unhide HP))
          go_upto_region 39 with fail
          clear y0 y1 y2 y3 y4 y5 HO HL HA HY3
          have hpl := (unhide CORE).2.2.1.length_eq
          have hni : ((l.length : Nat) : Int) = (left.length : Int) := by rw [← hpl]
          have hnn0 : left.length + 0 = left.length := rfl

          have hgd := (unhide CORE).1.good
          have lcal := len_own (unhide CORE).1
          rw [hni] at lcal
          have LC := hide lcal
          have HGD := hide hgd
          have HNN := hide hnn0
          clear lcal hpl hgd hni hnn0
          go_wp2_with fail
          refine (unhide LC).mono ?_
          rintro e w10 ⟨rfl, rfl⟩
          go_wp2_with fail
          refine (all_own (unhide CORE).1).mono ?_
          rintro e w11 ⟨b9, c9, rfl, r9, k9, o9⟩
          have R9 := hide r9
          have K9 := hide k9
          have O9 := hide o9
          clear r9 k9 o9
          go_wp2_with fail
          refine (fits_any (unhide R9) (unhide HGD).1 (unhide HGD).2.1 (unhide HGD).2.2).mono ?_
          rintro e w12 ⟨rfl, hb12⟩
          have CORE2 : Hid (Core w w12 x l la lc left) := ⟨(((unhide O9).mono (X' := ofRow la) fun _ hk => .inl hk).below hb12).1, ((unhide CORE).2.1.keeps (unhide K9) fun _ hk => hk).keep (Moved.of_below (F := fun _ => False) hb12) fun _ _ f => f, (unhide CORE).2.2.1, (unhide CORE).2.2.2⟩
          clear hb12
          go_wp2_with fail
          go_roundw
          case rel => exact ⟨k + 1, la, lc, left, l, by omega, by go_num, by first | (rw [unhide HNN]; done) | rfl, unhide CORE2⟩
          case measure => simp [intOf]; omega
        · have hge : (l.length : Int) ≤ y.i := by omega
          clear hth
          by_cases hd : y.do_ = 0
          · rcases postE_cases l y.p with ⟨pe, pl⟩ | ⟨pe, pl⟩
            · have PE := hide pe
              have PL := hide pl
              clear pe pl
              go_wp2_with fail
              refine (post_own (unhide HO) y.p).mono ?_
              rw [unhide PE, unhide PL]
              rintro e w4 ⟨rfl, o4, k4⟩
              have hr4 := (unhide HL).keeps k4 fun _ hk => .inl (.inl hk)
              obtain ⟨z0, z1, z2, z3, z4, z5⟩ := (unhide HY3).keeps k4 (.inl (.inr rfl))
              simp only [Nat.zero_add] at z0 z1 z2 z3 z4 z5
              obtain ⟨a', c', w5, hrun, hcore⟩ := Core.push o4 (fun _ hk => .inl (.inl hk)) hr4 (unhide HBS) y.p ((unhide HP).append_right _) hle
              have CORE := hide hcore
              clear hcore hr4 o4 k4 y0 y1 y2 y3 y4 y5 HO HL HA HY3
              go_upto_region 39 with (at_builtin; refine wpList_app rfl _ _ 36 36 rfl rfl rfl hrun ?_)
              clear hrun z0 z1 z2 z3 z4 z5
              have hnn0 : (left ++ [y.p]).length = left.length + 1 := by first | (simp; done) | (simp; omega)
              obtain ⟨l', hl'⟩ : ∃ l', (l ++ [y.p]) = l' := ⟨_, rfl⟩
              obtain ⟨left', hleft'⟩ : ∃ left', (left ++ [y.p]) = left' := ⟨_, rfl⟩
              rw [hl', hleft'] at CORE
              rw [hleft'] at hnn0
              clear hl' hleft'
              have hpl := (unhide CORE).2.2.1.length_eq
              have hni : ((l'.length : Nat) : Int) = (left.length : Int) + 1 := by rw [← hpl, hnn0]; omega

              have hgd := (unhide CORE).1.good
              have lcal := len_own (unhide CORE).1
              rw [hni] at lcal
              have LC := hide lcal
              have HGD := hide hgd
              have HNN := hide hnn0
              clear lcal hpl hgd hni hnn0
              go_wp2_with fail
              refine (unhide LC).mono ?_
              rintro e w10 ⟨rfl, rfl⟩
              go_wp2_with fail
              refine (all_own (unhide CORE).1).mono ?_
              rintro e w11 ⟨b9, c9, rfl, r9, k9, o9⟩
              have R9 := hide r9
              have K9 := hide k9
              have O9 := hide o9
              clear r9 k9 o9
              go_wp2_with fail
              refine (fits_any (unhide R9) (unhide HGD).1 (unhide HGD).2.1 (unhide HGD).2.2).mono ?_
              rintro e w12 ⟨rfl, hb12⟩
              have CORE2 : Hid (Core w w12 x l' a' c' left') := ⟨(((unhide O9).mono (X' := ofRow a') fun _ hk => .inl hk).below hb12).1, ((unhide CORE).2.1.keeps (unhide K9) fun _ hk => hk).keep (Moved.of_below (F := fun _ => False) hb12) fun _ _ f => f, (unhide CORE).2.2.1, (unhide CORE).2.2.2⟩
              clear hb12
              go_wp2_with fail
              go_roundw
              case rel => exact ⟨k + 1, a', c', left', l', by omega, by go_num, by first | (rw [unhide HNN]; done) | rfl, unhide CORE2⟩
              case measure => simp [intOf]; omega
            · have PE := hide pe
              have PL := hide pl
              clear pe pl
              go_wp2_with fail
              refine (post_own (unhide HO) y.p).mono ?_
              rw [unhide PL]
              rintro e w4 ⟨rfl, o4, k4⟩
              have CORE := hide (Core.same o4 (fun _ hk => .inl (.inl hk)) ((unhide HL).keeps k4 fun _ hk => .inl (.inl hk)) (unhide HBS) (unhide HP))
              have pe := unhide PE
              clear o4 k4 y0 y1 y2 y3 y4 y5 HO HL HA HY3
              go_upto_region 39 with fail
              clear pe
              have hpl := (unhide CORE).2.2.1.length_eq
              have hni : ((l.length : Nat) : Int) = (left.length : Int) := by rw [← hpl]
              have hnn0 : left.length + 0 = left.length := rfl

              have hgd := (unhide CORE).1.good
              have lcal := len_own (unhide CORE).1
              rw [hni] at lcal
              have LC := hide lcal
              have HGD := hide hgd
              have HNN := hide hnn0
              clear lcal hpl hgd hni hnn0
              go_wp2_with fail
              refine (unhide LC).mono ?_
              rintro e w10 ⟨rfl, rfl⟩
              go_wp2_with fail
              refine (all_own (unhide CORE).1).mono ?_
              rintro e w11 ⟨b9, c9, rfl, r9, k9, o9⟩
              have R9 := hide r9
              have K9 := hide k9
              have O9 := hide o9
              clear r9 k9 o9
              go_wp2_with fail
              refine (fits_any (unhide R9) (unhide HGD).1 (unhide HGD).2.1 (unhide HGD).2.2).mono ?_
              rintro e w12 ⟨rfl, hb12⟩
              have CORE2 : Hid (Core w w12 x l la lc left) := ⟨(((unhide O9).mono (X' := ofRow la) fun _ hk => .inl hk).below hb12).1, ((unhide CORE).2.1.keeps (unhide K9) fun _ hk => hk).keep (Moved.of_below (F := fun _ => False) hb12) fun _ _ f => f, (unhide CORE).2.2.1, (unhide CORE).2.2.2⟩
              clear hb12
              go_wp2_with fail
              go_roundw
              case rel => exact ⟨k + 1, la, lc, left, l, by omega, by go_num, by first | (rw [unhide HNN]; done) | rfl, unhide CORE2⟩
              case measure => simp [intOf]; omega
          by_cases hd1 : y.do_ = 1
          · have T := hide (takeE_no (l := l) (i := y.i) (unhide HNOT))
            go_wp2_with fail
            refine (take_own (unhide HO) y.i).mono ?_
            rw [(unhide T).1, (unhide T).2.1]
            rintro e w4 ⟨rfl, o4, k4⟩
            generalize takeP l y.i = q at *
            have m5 : Moved (fun _ => False) w4 (w4.alloc (.cells #[.int .i64 q.f, .int .i64 q.t, .string q.d] 25)) := (Moved.refl _ _).alloc _
            have CORE := hide (Core.same (o4.alloc (.cells #[.int .i64 q.f, .int .i64 q.t, .string q.d] 25)) (la := la) (fun _ hk => .inl (.inl (.inl hk))) (((unhide HL).keeps k4 fun _ hk => .inl (.inl hk)).keep m5 fun _ _ f => f) (unhide HBS) (unhide HP))
            unfold Pkt.val
            clear m5
            clear o4 k4 y0 y1 y2 y3 y4 y5 HO HL HA HY3 T
            go_upto_region 39 with fail
            have hpl := (unhide CORE).2.2.1.length_eq
            have hni : ((l.length : Nat) : Int) = (left.length : Int) := by rw [← hpl]
            have hnn0 : left.length + 0 = left.length := rfl

            have hgd := (unhide CORE).1.good
            have lcal := len_own (unhide CORE).1
            rw [hni] at lcal
            have LC := hide lcal
            have HGD := hide hgd
            have HNN := hide hnn0
            clear lcal hpl hgd hni hnn0
            go_wp2_with fail
            refine (unhide LC).mono ?_
            rintro e w10 ⟨rfl, rfl⟩
            go_wp2_with fail
            refine (all_own (unhide CORE).1).mono ?_
            rintro e w11 ⟨b9, c9, rfl, r9, k9, o9⟩
            have R9 := hide r9
            have K9 := hide k9
            have O9 := hide o9
            clear r9 k9 o9
            go_wp2_with fail
            refine (fits_any (unhide R9) (unhide HGD).1 (unhide HGD).2.1 (unhide HGD).2.2).mono ?_
            rintro e w12 ⟨rfl, hb12⟩
            have CORE2 : Hid (Core w w12 x l la lc left) := ⟨(((unhide O9).mono (X' := ofRow la) fun _ hk => .inl hk).below hb12).1, ((unhide CORE).2.1.keeps (unhide K9) fun _ hk => hk).keep (Moved.of_below (F := fun _ => False) hb12) fun _ _ f => f, (unhide CORE).2.2.1, (unhide CORE).2.2.2⟩
            clear hb12
            go_wp2_with fail
            go_roundw
            case rel => exact ⟨k + 1, la, lc, left, l, by omega, by go_num, by first | (rw [unhide HNN]; done) | rfl, unhide CORE2⟩
            case measure => simp [intOf]; omega
          by_cases hd2 : y.do_ = 2
          · have T := hide (takeE_no (l := l) (i := y.i) (unhide HNOT))
            go_wp2_with fail
            refine (lose_own (unhide HO) y.i).mono ?_
            rw [(unhide T).1, (unhide T).2.1]
            rintro e w4 ⟨rfl, o4, k4⟩
            have CORE := hide (Core.same o4 (fun _ hk => .inl (.inl hk)) ((unhide HL).keeps k4 fun _ hk => .inl (.inl hk)) (unhide HBS) (unhide HP))
            clear o4 k4 y0 y1 y2 y3 y4 y5 HO HL HA HY3 T
            go_upto_region 39 with fail
            have hpl := (unhide CORE).2.2.1.length_eq
            have hni : ((l.length : Nat) : Int) = (left.length : Int) := by rw [← hpl]
            have hnn0 : left.length + 0 = left.length := rfl

            have hgd := (unhide CORE).1.good
            have lcal := len_own (unhide CORE).1
            rw [hni] at lcal
            have LC := hide lcal
            have HGD := hide hgd
            have HNN := hide hnn0
            clear lcal hpl hgd hni hnn0
            go_wp2_with fail
            refine (unhide LC).mono ?_
            rintro e w10 ⟨rfl, rfl⟩
            go_wp2_with fail
            refine (all_own (unhide CORE).1).mono ?_
            rintro e w11 ⟨b9, c9, rfl, r9, k9, o9⟩
            have R9 := hide r9
            have K9 := hide k9
            have O9 := hide o9
            clear r9 k9 o9
            go_wp2_with fail
            refine (fits_any (unhide R9) (unhide HGD).1 (unhide HGD).2.1 (unhide HGD).2.2).mono ?_
            rintro e w12 ⟨rfl, hb12⟩
            have CORE2 : Hid (Core w w12 x l la lc left) := ⟨(((unhide O9).mono (X' := ofRow la) fun _ hk => .inl hk).below hb12).1, ((unhide CORE).2.1.keeps (unhide K9) fun _ hk => hk).keep (Moved.of_below (F := fun _ => False) hb12) fun _ _ f => f, (unhide CORE).2.2.1, (unhide CORE).2.2.2⟩
            clear hb12
            go_wp2_with fail
            go_roundw
            case rel => exact ⟨k + 1, la, lc, left, l, by omega, by go_num, by first | (rw [unhide HNN]; done) | rfl, unhide CORE2⟩
            case measure => simp [intOf]; omega
          by_cases hd3 : y.do_ = 3
          · have T := hide (takeE_no (l := l) (i := y.i) (unhide HNOT))
            go_wp2_with fail
            refine (dup_own (unhide HO) y.i).mono ?_
            rw [(unhide T).2.2.1, (unhide T).2.2.2]
            rintro e w4 ⟨rfl, o4, k4⟩
            have CORE := hide (Core.same o4 (fun _ hk => .inl (.inl hk)) ((unhide HL).keeps k4 fun _ hk => .inl (.inl hk)) (unhide HBS) (unhide HP))
            clear o4 k4 y0 y1 y2 y3 y4 y5 HO HL HA HY3 T
            go_upto_region 39 with fail
            have hpl := (unhide CORE).2.2.1.length_eq
            have hni : ((l.length : Nat) : Int) = (left.length : Int) := by rw [← hpl]
            have hnn0 : left.length + 0 = left.length := rfl

            have hgd := (unhide CORE).1.good
            have lcal := len_own (unhide CORE).1
            rw [hni] at lcal
            have LC := hide lcal
            have HGD := hide hgd
            have HNN := hide hnn0
            clear lcal hpl hgd hni hnn0
            go_wp2_with fail
            refine (unhide LC).mono ?_
            rintro e w10 ⟨rfl, rfl⟩
            go_wp2_with fail
            refine (all_own (unhide CORE).1).mono ?_
            rintro e w11 ⟨b9, c9, rfl, r9, k9, o9⟩
            have R9 := hide r9
            have K9 := hide k9
            have O9 := hide o9
            clear r9 k9 o9
            go_wp2_with fail
            refine (fits_any (unhide R9) (unhide HGD).1 (unhide HGD).2.1 (unhide HGD).2.2).mono ?_
            rintro e w12 ⟨rfl, hb12⟩
            have CORE2 : Hid (Core w w12 x l la lc left) := ⟨(((unhide O9).mono (X' := ofRow la) fun _ hk => .inl hk).below hb12).1, ((unhide CORE).2.1.keeps (unhide K9) fun _ hk => hk).keep (Moved.of_below (F := fun _ => False) hb12) fun _ _ f => f, (unhide CORE).2.2.1, (unhide CORE).2.2.2⟩
            clear hb12
            go_wp2_with fail
            go_roundw
            case rel => exact ⟨k + 1, la, lc, left, l, by omega, by go_num, by first | (rw [unhide HNN]; done) | rfl, unhide CORE2⟩
            case measure => simp [intOf]; omega
          have CORE := hide (Core.same (unhide HO) (fun _ hk => .inl (.inl hk)) (unhide HL) (unhide HBS) (unhide HP))
          go_upto_region 39 with fail
          clear y0 y1 y2 y3 y4 y5 HO HL HA HY3
          have hpl := (unhide CORE).2.2.1.length_eq
          have hni : ((l.length : Nat) : Int) = (left.length : Int) := by rw [← hpl]
          have hnn0 : left.length + 0 = left.length := rfl

          have hgd := (unhide CORE).1.good
          have lcal := len_own (unhide CORE).1
          rw [hni] at lcal
          have LC := hide lcal
          have HGD := hide hgd
          have HNN := hide hnn0
          clear lcal hpl hgd hni hnn0
          go_wp2_with fail
          refine (unhide LC).mono ?_
          rintro e w10 ⟨rfl, rfl⟩
          go_wp2_with fail
          refine (all_own (unhide CORE).1).mono ?_
          rintro e w11 ⟨b9, c9, rfl, r9, k9, o9⟩
          have R9 := hide r9
          have K9 := hide k9
          have O9 := hide o9
          clear r9 k9 o9
          go_wp2_with fail
          refine (fits_any (unhide R9) (unhide HGD).1 (unhide HGD).2.1 (unhide HGD).2.2).mono ?_
          rintro e w12 ⟨rfl, hb12⟩
          have CORE2 : Hid (Core w w12 x l la lc left) := ⟨(((unhide O9).mono (X' := ofRow la) fun _ hk => .inl hk).below hb12).1, ((unhide CORE).2.1.keeps (unhide K9) fun _ hk => hk).keep (Moved.of_below (F := fun _ => False) hb12) fun _ _ f => f, (unhide CORE).2.2.1, (unhide CORE).2.2.2⟩
          clear hb12
          go_wp2_with fail
          go_roundw
          case rel => exact ⟨k + 1, la, lc, left, l, by omega, by go_num, by first | (rw [unhide HNN]; done) | rfl, unhide CORE2⟩
          case measure => simp [intOf]; omega
    · go_wp2_with fail
      go_ret
      exact ⟨rfl, hc.1.base.below (fun _ f => f.elim) (Nat.le_refl _)⟩
end Go.Proofs.Ytceepejndomfaaa

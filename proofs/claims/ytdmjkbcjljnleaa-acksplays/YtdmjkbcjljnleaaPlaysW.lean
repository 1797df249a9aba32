/- Numbers that come are told as the document says: the walk of the statement's own function. No conditions but those of the row. -/
import Derived.Test.YtdmjkbcjljnleaaRefE
import Derived.Test.YtdmjkbcjljnleaaMissW
namespace Go.Proofs.Ytdmjkbcjljnleaa
open Go.RowKit

theorem told_length {l : List ActM} (h : Mild l) {x : ActM} (hx : x ∈ l) : x.set.length ≤ 20 := h.set x hx
theorem exec_app {P : Program} {w : World} {o : Oper} {a : Act} (s x : Operand) (t tx ty : TypeId)
    (ho : o.op = .call { callee := .builtin .append, args := #[s, x], argTypes := #[t, tx] }) (hty : o.type = ty) {v xv v' : Value} {w' : World} (hs : a.eval s = v) (hx : a.eval x = xv)
    (hr : (Builtin.append_ #[t, tx] ty #[v, xv]).run P w = .ok v' w') : (execOp a.eval o).run P w = .ok (.value v') w' := by
  unfold execOp
  simp only [ho, resolve, invoke, builtin, Sem.run_bind, Sem.run_pure, Result.andThen_ok, List.map_toArray, List.map_cons, List.map_nil, hs, hx, hty, hr]
set_option maxRecDepth 100000 in
set_option maxHeartbeats 8000000 in
theorem playsW_any (a : Option Addr) (c : Nat) (l : List ActM) (n upto : Int) (w : World) (hz : l.length ≤ maxLen) (hl : ActK.At w a l) (hin : ∀ x ∈ l, x.In w) (hn : i64 n) (hu : i64 upto) :
    Calls Try.prog 4 #[.slice a l.length c, .int .i64 n, .int .i64 upto] w fun e w' => e = .returned (.bool true) ∧ Below w.heap.size w w' := by
  have AW := hide (awake_any w)
  have HL := hide hl
  have HI := hide hin
  have HZ := hide hz
  have HN := hide hn
  have HU := hide hu
  clear hl hin hz hn hu
  go_enter Try.func4, Try.ntmps4
  go_wp2_with fail
  refine (unhide AW).mono ?_
  rintro e v0 ⟨rfl, b1⟩
  have H0 := hide ((HR.start w).below b1)
  have G1 := hide (great_any ((unhide HL).below (Nat.le_refl _) b1) (c := c) (unhide HZ))
  clear b1
  go_wp2_with fail
  refine (unhide G1).mono ?_
  rintro e w' ⟨rfl, hw'⟩
  rw [hw']
  clear hw'
  cases hg : great l with
  | true =>
    clear hg
    go_wp2_with fail
    go_ret
    exact ⟨rfl, (unhide H0).bel⟩
  | false =>
    have HM := hide (mild_of hg)
    have hm60 := (mild_of hg).len
    clear hg
    obtain ⟨u, hue⟩ : ∃ u, u = min upto 300 := ⟨_, rfl⟩
    have hu3 : u ≤ 300 := by omega
    have hulo : -9223372036854775808 ≤ u := by have := (unhide HU).1; omega
    have HUE := hide hue
    clear hue
    go_upto_region 6 with fail
    rw [← unhide HUE]
    go_wp2_with fail
    refine (unhide H0).new.mono ?_
    rintro e v1 ⟨pa, rfl, h⟩
    have H1 : Hid (HR w (v1.alloc (.cells #[.slice none 0 0] 35)) (hRow IntK none 0 (refL (l.take 0)) :: hBox v1.heap.size (.slice none 0 0) :: hAck pa none (after (l.take 0)) :: [])) := hide (by
      have h2 := h.add (r := hBox v1.heap.size (.slice none 0 0)) ((Below.refl _ v1).alloc (Nat.le_refl _) (.cells #[.slice none 0 0] 35)) (row_new v1 [.slice none 0 0] 35) (fun k hk => by rw [show k = v1.heap.size from hk]; exact Nat.le_refl _)
      exact HR.none IntK h2)
    clear h
    go_upto_region 8 with fail
    obtain ⟨p8, hp8⟩ : ∃ p8, p8 = v1.heap.size := ⟨_, rfl⟩
    rw [← hp8] at H1
    simp only [← hp8]
    obtain ⟨v2, hv2⟩ : ∃ v2, v2 = v1.alloc (.cells #[.slice none 0 0] 35) := ⟨_, rfl⟩
    rw [← hv2] at H1
    rw [← hv2]
    clear hp8 hv2
    go_wp2_with fail
    go_loopw [9] (fun i wr => ∃ (k : Nat) (m : Option Nat) (a1 : Option Addr) (c1 : Nat), i = .int .i64 (k : Int) ∧ k ≤ l.length ∧ HR w wr (hRow IntK a1 c1 (refL (l.take k)) :: hBox p8 (.slice a1 (refL (l.take k)).length c1) :: hAck pa m (after (l.take k)) :: [])) (fun i _ => l.length - (RowKit.intOf i).toNat)
    case atStart => exact ⟨0, none, none, 0, rfl, Nat.zero_le _, unhide H1⟩
    case round =>
      obtain ⟨k, m, a1, c1, rfl, hk, hr⟩ := hrel
      clear H1
      obtain ⟨wo, rfl⟩ : ∃ wo, wo = wr := ⟨_, rfl⟩
      have HRR := hide hr
      clear hr
      by_cases hlt : k < l.length
      · have g0 : (0 : Int) ≤ (k : Int) := by omega
        have g1 : (k : Int) < (l.length : Int) := by omega
        have hwk : IntKind.i64.wrap ((k : Int) + 1) = (k : Int) + 1 := Go.IntWalk.i64_in _ (by omega)
        obtain ⟨x, hx⟩ : ∃ x, l[k]? = some x := ⟨_, List.getElem?_eq_getElem hlt⟩
        have hxm : x ∈ l := List.mem_iff_getElem?.2 ⟨k, hx⟩
        obtain ⟨g, o, rfl, hg, hrg⟩ := (unhide HL).cell actK_law hx
        obtain ⟨xa, xn, xs, sa, sc⟩ := x
        have Z : Hid (∀ V, Below w.heap.size w V → V.cell? ⟨g, o + k * 3, none⟩ = some (.int .i64 xa) ∧ V.cell? ⟨g, o + k * 3 + 1, none⟩ = some (.int .i64 xn) ∧ V.cell? ⟨g, o + k * 3 + 2, none⟩ = some (.slice sa xs.length sc)) := hide fun V hV => by
          have y0 : w.cell? ⟨g, o + k * 3, none⟩ = some (.int .i64 xa) := hrg 0 _ rfl
          have y1 : w.cell? ⟨g, o + k * 3 + 1, none⟩ = some (.int .i64 xn) := hrg 1 _ rfl
          have y2 : w.cell? ⟨g, o + k * 3 + 2, none⟩ = some (.slice sa xs.length sc) := hrg 2 _ rfl
          exact ⟨(hV.cell (p := ⟨g, o + k * 3, none⟩) hg).trans y0, (hV.cell (p := ⟨g, o + k * 3 + 1, none⟩) hg).trans y1, (hV.cell (p := ⟨g, o + k * 3 + 2, none⟩) hg).trans y2⟩
        have XI := hide (unhide HI _ hxm)
        have XS : Hid (xs.length ≤ 20) := hide ((unhide HM).set _ hxm)
        have ES := hide (after_snoc hx)
        have EL := hide (refL_snoc hx)
        have TS := hide (after_take (unhide HM) k)
        have LS := hide (refL_len (unhide HM) k)
        have RS := hide (refL_rel (l.take k))
        have TS1 := hide (after_take (unhide HM) (k + 1))
        have LS1 := hide (refL_len (unhide HM) (k + 1))
        have RS1 := hide (refL_rel (l.take (k + 1)))
        obtain ⟨S1, hS1⟩ : ∃ S1, S1 = after (l.take (k + 1)) := ⟨_, rfl⟩
        obtain ⟨L1, hL1⟩ : ∃ L1, L1 = refL (l.take (k + 1)) := ⟨_, rfl⟩
        obtain ⟨S, hS⟩ : ∃ S, S = after (l.take k) := ⟨_, rfl⟩
        obtain ⟨L, hL⟩ : ∃ L, L = refL (l.take k) := ⟨_, rfl⟩
        rw [← hS, ← hS1] at ES
        rw [← hL, ← hL1] at EL
        rw [← hS, ← hL] at RS HRR
        rw [← hS] at TS
        rw [← hL] at LS
        rw [← hS1, ← hL1] at RS1
        rw [← hS1] at TS1
        rw [← hL1] at LS1
        have ES1 := hide hS1
        have EL1 := hide hL1
        have z0 := (unhide Z wo (unhide HRR).bel).1
        clear hx hxm hg hrg hS hL hS1 hL1
        go_upto_region 11 with fail
        go_cut [37] from 33 to 36 (fun s37 wx => s37 = .int .i64 xa ∧ wx = wo)
        case first =>
          go_wp2_with fail
          go_meet
          exact ⟨rfl, rfl⟩
        case rest =>
        obtain ⟨rfl, hwc⟩ := hcut
        rw [hwc]
        clear hwc wc
        refine ‹∀ (a : Act) (w : World), Code.wp Try.prog _ _ a w → _› _ _ ?_
        clear z0
        go_cut [] from 38 to 91 (fun wx => ∃ (m2 : Option Nat) (a2 : Option Addr) (c2 : Nat), HR w wx (hRow IntK a2 c2 L1 :: hBox p8 (.slice a2 L1.length c2) :: hAck pa m2 S1 :: []))
        case first =>
          by_cases h0 : xa = 0
          · subst h0
            have tx : Hid (toldA ⟨0, xn, xs, sa, sc⟩ = [xn]) := hide rfl
            have EA : Hid (S.add xn = S1) := hide (by rw [unhide ES, unhide tx]; rfl)
            have EB : Hid (radd L xn = L1) := hide (by rw [unhide EL, unhide tx]; rfl)
            have EF : Hid (rfresh L xn = S.fresh xn) := hide (rel_fresh (unhide RS) xn)
            clear tx
            go_upto_region 13 with fail
            go_cut [10, 11] from 40 to 49 (fun sq sv wx => ∃ (q : Nat) (a2 : Option Addr) (c2 : Nat), sq = .pointer (some ⟨q, 0, none⟩) ∧ sv = .bool (S.fresh xn) ∧ VarOut wo wx a1 c1 L q a2 c2 (L1))
            case first =>
              obtain ⟨CL, hCL⟩ : ∃ CL : World → Prop, CL = fun v => Below wo.heap.size wo v := ⟨_, rfl⟩
              have un : ∀ v, CL v → Below wo.heap.size wo v := fun v k => by rw [hCL] at k; exact k
              have to_ : Hid (∀ v, Below wo.heap.size wo v → CL v) := hide fun v k => by rw [hCL]; exact k
              have base : CL wo.drew := unhide to_ _ (Below.refl _ _).drew
              have bw := (unhide HRR).bel
              have q0 : ∀ q : SW CL, q.w.cell? ⟨p8, 0, none⟩ = some (.slice a1 L.length c1) := fun q => (((unhide HRR).below (un _ q.ok)).box (List.mem_cons_of_mem _ List.mem_cons_self)).1
              have q1 : ∀ q : SW CL, q.w.cell? ⟨g, o + k * 3 + 1, none⟩ = some (.int .i64 xn) := fun q => (unhide Z _ (bw.trans ((un _ q.ok).mono bw.size))).2.1
              have q2 : ∀ q : SW CL, q.w.cell? ⟨g, o + k * 3 + 2, none⟩ = some (.slice sa xs.length sc) := fun q => (unhide Z _ (bw.trans ((un _ q.ok).mono bw.size))).2.2
              have BS := hide base
              have RW : Hid (IntK.Row wo 0 a1 c1 L) := hide ((unhide HRR).ok _ List.mem_cons_self)
              have RA : Hid (∀ V, Below wo.heap.size wo V → Calls Try.prog 18 #[.agg #[.slice a1 L.length c1], .int .i64 xn] V fun e w' => ∃ a' c', e = .returned (.tuple #[.agg #[.slice a' (L1).length c'], .bool (S.fresh xn)]) ∧ RStep V w' a1 c1 L a' c' (L1)) := hide fun V hV => by
                have := radd_any (row_below (unhide RW) hV) (by have := unhide LS; omega) xn
                rwa [unhide EB, unhide EF] at this
              clear hCL un base bw
              refine wp_region_fork (S := CL) [true, true, true, true, true, true, false, false, false, false, false, false, false] 6 10 [(true, 7), (true, 8), (true, 9), (false, 10), (false, 11), (true, 12)] [(false, 6), (true, 7), (true, 8), (true, 9), (false, 11), (true, 12)] (by kernel_rfl) (by kernel_rfl) (by kernel_rfl) (unhide BS) ?_
              apply Exists.intro
              apply And.intro
              · intro q
                have n0 : Nonempty (SK CL q.w) := ⟨⟨q, rfl⟩⟩
                simp only [pickM]
                repeat (go_big_quiet_step (fail))
                exact wpQuiet_nil rfl
              · clear q0 q1 q2
                simp only [stepsZ, List.map_cons, List.map_nil, List.getD_cons_succ, List.getD_cons_zero]
                apply And.intro
                · refine turnM_call 18 #[.agg #[.slice a1 L.length c1], .int .i64 xn] rfl (by simp [go_sem]) ?_
                  refine (unhide RA _ (Below.refl _ _).drew).mono ?_
                  rintro e w2 ⟨a2, c2, rfl, st⟩
                  have VO := VarOut.first st
                  have b2 : Below wo.heap.size wo w2 := ((Below.refl _ _).drew).trans st.bel
                  refine ⟨_, rfl, unhide to_ _ b2, ?_⟩
                  go_simp
                  refine seqM_pure (.tuple #[.agg #[.slice a2 (L1).length c2], .bool (S.fresh xn)]) rfl (by intro w; simp [go_sem]) (unhide to_ _ b2) ?_
                  go_simp
                  refine seqM_pure (.agg #[.slice a2 (L1).length c2]) rfl (by intro w; simp [go_sem]) (unhide to_ _ b2) ?_
                  go_simp
                  refine seqM_pure (.bool (S.fresh xn)) rfl (by intro w; simp [go_sem]) (unhide to_ _ b2) ?_
                  go_simp
                  refine seqM_step (.pointer (some ⟨w2.heap.size, 0, none⟩)) (w2.alloc (.cells #[.slice none 0 0] 35)) rfl (by simp [go_sem]) (unhide to_ _ (b2.alloc b2.size _)) ?_
                  go_simp
                  refine seqM_skip (w2.alloc (.cells #[.slice a2 (L1).length c2] 35)) rfl (by simp [go_sem]) (unhide to_ _ VO.bel) ?_
                  go_simp
                  refine seqM_pure (.bool (S.fresh xn)) rfl (by intro w; simp [go_sem]) (unhide to_ _ VO.bel) ?_
                  go_simp
                  simp only [seqM]
                  have HVO := hide VO
                  clear VO b2 st
                  go_wp2_with fail
                  go_meet
                  exact ⟨w2.heap.size, a2, c2, rfl, rfl, unhide HVO⟩
                · have bA : Below wo.heap.size wo (wo.drew.alloc (.cells #[.slice none 0 0] 35)) := ((Below.refl _ _).drew).alloc (Nat.le_refl _) _
                  have rA := row_new wo.drew [.slice none 0 0] 35
                  refine turnM_step (.pointer (some ⟨wo.heap.size, 0, none⟩)) (wo.drew.alloc (.cells #[.slice none 0 0] 35)) rfl (by simp [go_sem]) (unhide to_ _ bA) ?_
                  go_simp
                  refine seqM_call 18 #[.agg #[.slice a1 L.length c1], .int .i64 xn] rfl (by simp [go_sem]) ?_
                  refine (unhide RA _ bA).mono ?_
                  rintro e w2 ⟨a2, c2, rfl, st⟩
                  have VO := VarOut.second (unhide RW) st
                  have b2 : Below wo.heap.size wo w2 := bA.trans (st.bel.mono bA.size)
                  have r2 := rA.keep (Moved.of_below (F := fun _ => False) st.bel) id
                  have z2 : w2.cell? ⟨wo.heap.size, 0, none⟩ = some (.slice none 0 0) := r2.cell 0 (Nat.succ_pos _)
                  have f2 : w2.frozen? ⟨wo.heap.size, 0, none⟩ = false := r2.free 0 (Nat.succ_pos _)
                  refine ⟨_, rfl, unhide to_ _ b2, ?_⟩
                  go_simp
                  refine seqM_pure (.tuple #[.agg #[.slice a2 (L1).length c2], .bool (S.fresh xn)]) rfl (by intro w; simp [go_sem]) (unhide to_ _ b2) ?_
                  go_simp
                  refine seqM_pure (.agg #[.slice a2 (L1).length c2]) rfl (by intro w; simp [go_sem]) (unhide to_ _ b2) ?_
                  go_simp
                  refine seqM_pure (.bool (S.fresh xn)) rfl (by intro w; simp [go_sem]) (unhide to_ _ b2) ?_
                  go_simp
                  refine seqM_skip (w2.setCell ⟨wo.heap.size, 0, none⟩ (.slice a2 (L1).length c2)) rfl (by simp [go_sem, z2, f2]) (unhide to_ _ VO.bel) ?_
                  go_simp
                  refine seqM_pure (.bool (S.fresh xn)) rfl (by intro w; simp [go_sem]) (unhide to_ _ VO.bel) ?_
                  go_simp
                  simp only [seqM]
                  have HVO := hide VO
                  clear VO b2 st bA rA r2 z2 f2
                  go_wp2_with fail
                  go_meet
                  exact ⟨wo.heap.size, a2, c2, rfl, rfl, unhide HVO⟩
            case rest =>
            obtain ⟨q, a2, c2, rfl, rfl, VO⟩ := hcut
            refine ‹∀ (a : Act) (w : World), Code.wp Try.prog _ _ a w → _› _ _ ?_
            have HV := hide ((unhide HRR).var VO)
            clear VO
            have PT := hide ((unhide HV).pick3.put (n := xn) (unhide XI).n (by have := unhide TS; omega))
            have z1 := (unhide Z _ (unhide HV).bel).2.1
            go_wp2_with fail
            refine (unhide PT).mono ?_
            rintro e w3 ⟨rfl, m3, h3⟩
            rw [unhide EA] at h3
            have H3 : Hid (HR w w3 (hBox p8 (.slice a1 L.length c1) :: hAck pa m3 S1 :: hBox q (.slice a2 (L1).length c2) :: hRow IntK a2 c2 (L1) :: [])) := hide h3.pick3
            clear h3 PT z1
            have y1 := ((unhide H3).box (List.mem_cons_of_mem _ (List.mem_cons_of_mem _ List.mem_cons_self))).1
            have y2 := (unhide H3).box List.mem_cons_self
            have y3 := y2.1
            have y4 := y2.2
            have FIN := hide ((((unhide H3).store (y := .slice a2 (L1).length c2)).sub (by exact ((List.Sublist.refl _).cons _).cons_cons _ |>.cons_cons _)) : HR w _ (hBox p8 (.slice a2 (L1).length c2) :: hAck pa m3 S1 :: hRow IntK a2 c2 (L1) :: []))
            clear y2
            go_wp2_with fail
            go_meet
            exact ⟨m3, a2, c2, (unhide FIN).pick2⟩
          · by_cases h1 : xa = 1
            · subst h1
              have tx : Hid (toldA ⟨1, xn, xs, sa, sc⟩ = told xn xs) := hide rfl
              have EA : Hid (S.merge xn xs = S1) := hide (by rw [unhide ES, unhide tx]; rfl)
              have EB : Hid (radds L (told xn xs) = L1) := hide (by rw [unhide EL, unhide tx])
              clear tx
              go_upto_region 18 with fail
              go_cut [12, 13] from 62 to 76 (fun sq sv wx => ∃ (q : Nat) (a2 : Option Addr) (c2 : Nat), sq = .pointer (some ⟨q, 0, none⟩) ∧ sv = .int .i64 (S.news (told xn xs)) ∧ VarOut wo wx a1 c1 L q a2 c2 (L1))
              case first =>
                obtain ⟨CL, hCL⟩ : ∃ CL : World → Prop, CL = fun v => Below wo.heap.size wo v := ⟨_, rfl⟩
                have un : ∀ v, CL v → Below wo.heap.size wo v := fun v k => by rw [hCL] at k; exact k
                have to_ : Hid (∀ v, Below wo.heap.size wo v → CL v) := hide fun v k => by rw [hCL]; exact k
                have base : CL wo.drew := unhide to_ _ (Below.refl _ _).drew
                have bw := (unhide HRR).bel
                have q0 : ∀ q : SW CL, q.w.cell? ⟨p8, 0, none⟩ = some (.slice a1 L.length c1) := fun q => (((unhide HRR).below (un _ q.ok)).box (List.mem_cons_of_mem _ List.mem_cons_self)).1
                have q1 : ∀ q : SW CL, q.w.cell? ⟨g, o + k * 3 + 1, none⟩ = some (.int .i64 xn) := fun q => (unhide Z _ (bw.trans ((un _ q.ok).mono bw.size))).2.1
                have q2 : ∀ q : SW CL, q.w.cell? ⟨g, o + k * 3 + 2, none⟩ = some (.slice sa xs.length sc) := fun q => (unhide Z _ (bw.trans ((un _ q.ok).mono bw.size))).2.2
                have BS := hide base
                have RW : Hid (IntK.Row wo 0 a1 c1 L) := hide ((unhide HRR).ok _ List.mem_cons_self)
                have RA : Hid (∀ V, Below wo.heap.size wo V → Calls Try.prog 19 #[.agg #[.slice a1 L.length c1], .int .i64 xn, .slice sa xs.length sc] V fun e w' => ∃ a' c', e = .returned (.tuple #[.agg #[.slice a' (L1).length c'], .int .i64 (S.news (told xn xs))]) ∧ RStep V w' a1 c1 L a' c' (L1)) := hide fun V hV => by
                  have := rmerge_any (sc := sc) (row_below (unhide RW) hV) xn ((unhide XI).at_.below (Nat.le_refl _) (bw.trans (hV.mono bw.size))) (by have := unhide LS; have := unhide XS; omega : L.length + xs.length ≤ 10000000000) (unhide RS)
                  rwa [unhide EB] at this
                clear hCL un base bw
                refine wp_region_fork (S := CL) [true, true, true, true, true, true, true, true, true, true, true, false, false, false, false, false, false, false] 11 15 [(true, 12), (true, 13), (true, 14), (false, 15), (false, 16), (true, 17)] [(false, 11), (true, 12), (true, 13), (true, 14), (false, 16), (true, 17)] (by kernel_rfl) (by kernel_rfl) (by kernel_rfl) (unhide BS) ?_
                apply Exists.intro
                apply And.intro
                · intro q
                  have n0 : Nonempty (SK CL q.w) := ⟨⟨q, rfl⟩⟩
                  simp only [pickM]
                  repeat (go_big_quiet_step (fail))
                  exact wpQuiet_nil rfl
                · clear q0 q1 q2
                  simp only [stepsZ, List.map_cons, List.map_nil, List.getD_cons_succ, List.getD_cons_zero]
                  apply And.intro
                  · refine turnM_call 19 #[.agg #[.slice a1 L.length c1], .int .i64 xn, .slice sa xs.length sc] rfl (by simp [go_sem]) ?_
                    refine (unhide RA _ (Below.refl _ _).drew).mono ?_
                    rintro e w2 ⟨a2, c2, rfl, st⟩
                    have VO := VarOut.first st
                    have b2 : Below wo.heap.size wo w2 := ((Below.refl _ _).drew).trans st.bel
                    refine ⟨_, rfl, unhide to_ _ b2, ?_⟩
                    go_simp
                    refine seqM_pure (.tuple #[.agg #[.slice a2 (L1).length c2], .int .i64 (S.news (told xn xs))]) rfl (by intro w; simp [go_sem]) (unhide to_ _ b2) ?_
                    go_simp
                    refine seqM_pure (.agg #[.slice a2 (L1).length c2]) rfl (by intro w; simp [go_sem]) (unhide to_ _ b2) ?_
                    go_simp
                    refine seqM_pure (.int .i64 (S.news (told xn xs))) rfl (by intro w; simp [go_sem]) (unhide to_ _ b2) ?_
                    go_simp
                    refine seqM_step (.pointer (some ⟨w2.heap.size, 0, none⟩)) (w2.alloc (.cells #[.slice none 0 0] 35)) rfl (by simp [go_sem]) (unhide to_ _ (b2.alloc b2.size _)) ?_
                    go_simp
                    refine seqM_skip (w2.alloc (.cells #[.slice a2 (L1).length c2] 35)) rfl (by simp [go_sem]) (unhide to_ _ VO.bel) ?_
                    go_simp
                    refine seqM_pure (.int .i64 (S.news (told xn xs))) rfl (by intro w; simp [go_sem]) (unhide to_ _ VO.bel) ?_
                    go_simp
                    simp only [seqM]
                    have HVO := hide VO
                    clear VO b2 st
                    go_wp2_with fail
                    go_meet
                    exact ⟨w2.heap.size, a2, c2, rfl, rfl, unhide HVO⟩
                  · have bA : Below wo.heap.size wo (wo.drew.alloc (.cells #[.slice none 0 0] 35)) := ((Below.refl _ _).drew).alloc (Nat.le_refl _) _
                    have rA := row_new wo.drew [.slice none 0 0] 35
                    refine turnM_step (.pointer (some ⟨wo.heap.size, 0, none⟩)) (wo.drew.alloc (.cells #[.slice none 0 0] 35)) rfl (by simp [go_sem]) (unhide to_ _ bA) ?_
                    go_simp
                    refine seqM_call 19 #[.agg #[.slice a1 L.length c1], .int .i64 xn, .slice sa xs.length sc] rfl (by simp [go_sem]) ?_
                    refine (unhide RA _ bA).mono ?_
                    rintro e w2 ⟨a2, c2, rfl, st⟩
                    have VO := VarOut.second (unhide RW) st
                    have b2 : Below wo.heap.size wo w2 := bA.trans (st.bel.mono bA.size)
                    have r2 := rA.keep (Moved.of_below (F := fun _ => False) st.bel) id
                    have z2 : w2.cell? ⟨wo.heap.size, 0, none⟩ = some (.slice none 0 0) := r2.cell 0 (Nat.succ_pos _)
                    have f2 : w2.frozen? ⟨wo.heap.size, 0, none⟩ = false := r2.free 0 (Nat.succ_pos _)
                    refine ⟨_, rfl, unhide to_ _ b2, ?_⟩
                    go_simp
                    refine seqM_pure (.tuple #[.agg #[.slice a2 (L1).length c2], .int .i64 (S.news (told xn xs))]) rfl (by intro w; simp [go_sem]) (unhide to_ _ b2) ?_
                    go_simp
                    refine seqM_pure (.agg #[.slice a2 (L1).length c2]) rfl (by intro w; simp [go_sem]) (unhide to_ _ b2) ?_
                    go_simp
                    refine seqM_pure (.int .i64 (S.news (told xn xs))) rfl (by intro w; simp [go_sem]) (unhide to_ _ b2) ?_
                    go_simp
                    refine seqM_skip (w2.setCell ⟨wo.heap.size, 0, none⟩ (.slice a2 (L1).length c2)) rfl (by simp [go_sem, z2, f2]) (unhide to_ _ VO.bel) ?_
                    go_simp
                    refine seqM_pure (.int .i64 (S.news (told xn xs))) rfl (by intro w; simp [go_sem]) (unhide to_ _ VO.bel) ?_
                    go_simp
                    simp only [seqM]
                    have HVO := hide VO
                    clear VO b2 st bA rA r2 z2 f2
                    go_wp2_with fail
                    go_meet
                    exact ⟨wo.heap.size, a2, c2, rfl, rfl, unhide HVO⟩
              case rest =>
              obtain ⟨q, a2, c2, rfl, rfl, VO⟩ := hcut
              refine ‹∀ (a : Act) (w : World), Code.wp Try.prog _ _ a w → _› _ _ ?_
              have HV := hide ((unhide HRR).var VO)
              clear VO
              obtain ⟨CL, hCL⟩ : ∃ CL : World → Prop, CL = fun v => Below w.heap.size w v := ⟨_, rfl⟩
              have un : ∀ v, CL v → Below w.heap.size w v := fun v k => by rw [hCL] at k; exact k
              have to_ : Hid (∀ v, Below w.heap.size w v → CL v) := hide fun v k => by rw [hCL]; exact k
              have HV2 := hide ((unhide HV).below (Below.refl _ _).drew)
              have base : CL wc.drew := unhide to_ _ (unhide HV2).bel
              have q1 : ∀ q : SW CL, q.w.cell? ⟨g, o + k * 3 + 1, none⟩ = some (.int .i64 xn) := fun q => (unhide Z _ (un _ q.ok)).2.1
              have q2 : ∀ q : SW CL, q.w.cell? ⟨g, o + k * 3 + 2, none⟩ = some (.slice sa xs.length sc) := fun q => (unhide Z _ (un _ q.ok)).2.2
              have PT := hide ((unhide HV2).pick3.merge (c := sc) xn (unhide XI).at_ (unhide XI).set (by have := unhide TS; have := unhide XS; omega : S.total + xs.length < 900000000000))
              have BS := hide base
              clear hCL un base
              go_upto_region 19 with fail
              refine wp_region_chain (S := CL) [true, true, true, true, true, true, true, true, true, true, true, false, true, false] [false, false, false, false, false, false, false, false, false, false, false, true, false, true] (by kernel_rfl) (by kernel_rfl) (by kernel_rfl) (unhide BS) ?_
              apply Exists.intro
              apply And.intro
              · intro q
                have n0 : Nonempty (SK CL q.w) := ⟨⟨q, rfl⟩⟩
                simp only [pickM]
                repeat (go_big_quiet_step (fail))
                exact wpQuiet_nil rfl
              · clear q1 q2
                simp only [pickZ]
                refine chain_call_on 13 #[.pointer (some ⟨pa, 0, none⟩), .int .i64 xn, .slice sa xs.length sc] rfl (by simp [go_sem]) ?_
                refine (unhide PT).mono ?_
                rintro e w3 ⟨rfl, m3, h3⟩
                rw [unhide EA] at h3
                have H3 : Hid (HR w w3 (hBox p8 (.slice a1 L.length c1) :: hAck pa m3 S1 :: hBox q (.slice a2 (L1).length c2) :: hRow IntK a2 c2 (L1) :: [])) := hide h3.pick3
                refine ⟨_, rfl, unhide to_ _ h3.bel, ?_⟩
                clear h3 PT
                go_simp
                refine chain_step_on (.bool false) w3 rfl (by simp [go_sem]) (unhide to_ _ (unhide H3).bel) ?_
                simp only [chainM]
                go_simp
                have y1 := ((unhide H3).box (List.mem_cons_of_mem _ (List.mem_cons_of_mem _ List.mem_cons_self))).1
                have y2 := (unhide H3).box List.mem_cons_self
                have y3 := y2.1
                have y4 := y2.2
                have FIN := hide ((((unhide H3).store (y := .slice a2 (L1).length c2)).sub (by exact ((List.Sublist.refl _).cons _).cons_cons _ |>.cons_cons _)) : HR w _ (hBox p8 (.slice a2 (L1).length c2) :: hAck pa m3 S1 :: hRow IntK a2 c2 (L1) :: []))
                clear y2
                go_wp2_with fail
                go_meet
                exact ⟨m3, a2, c2, (unhide FIN).pick2⟩
            · have EA : Hid (S = S1) := hide (by rw [unhide ES]; unfold toldA; rw [if_neg h0, if_neg h1]; rfl)
              have EB : Hid (L = L1) := hide (by rw [unhide EL]; unfold toldA; rw [if_neg h0, if_neg h1]; rfl)
              rw [unhide EA, unhide EB] at HRR
              clear ES EL EA EB
              go_wp2_with fail
              go_meet
              exact ⟨m, a1, c1, unhide HRR⟩
        case rest =>
        obtain ⟨m2, a2, c2, h2⟩ := hcut
        refine ‹∀ (a : Act) (w : World), Code.wp Try.prog _ _ a w → _› _ _ ?_
        have H2 := hide h2
        clear h2 HRR ES EL TS LS RS
        have ST := hide ((unhide H2).set (p := pa) (m := m2) (s := S1) (List.mem_cons_of_mem _ (List.mem_cons_of_mem _ List.mem_cons_self)) (by have := unhide TS1; omega))
        go_wp2_with fail
        refine (unhide ST).mono ?_
        rintro e v3 ⟨a3, c3, rfl, h3⟩
        have H3 : Hid (HR w v3.drew (hRow IntK a3 c3 S1.set :: hRow IntK a2 c2 L1 :: hBox p8 (.slice a2 L1.length c2) :: hAck pa m2 S1 :: [])) := hide (h3.below (Below.refl _ _).drew)
        clear h3 ST
        have SLEN : Hid (S1.set.length ≤ 13200) := hide (by have := set_total (unhide RS1).fine; have := unhide TS1; omega)
        obtain ⟨CL, hCL⟩ : ∃ CL : World → Prop, CL = fun v => v.cell? ⟨p8, 0, none⟩ = some (.slice a2 L1.length c2) := ⟨_, rfl⟩
        have un : Hid (∀ v, CL v → v.cell? ⟨p8, 0, none⟩ = some (.slice a2 L1.length c2)) := hide fun v k => by rw [hCL] at k; exact k
        have to_ : Hid (∀ v, v.cell? ⟨p8, 0, none⟩ = some (.slice a2 L1.length c2) → CL v) := hide fun v k => by rw [hCL]; exact k
        clear hCL
        go_wp2_with fail
        go_upto_region 23 with fail
        by_cases hu1 : u < 1
        · skip
          refine wp_region_steps (S := CL) [(true, 0), (true, 2), (false, 1), (false, 3), (true, 4), (true, 5), (true, 6), (true, 7), (false, 8), (false, 9), (true, 10), (true, 11), (true, 12), (true, 13), (true, 14), (true, 16), (true, 17), (false, 15), (false, 18), (true, 19), (true, 20), (true, 21), (true, 22), (true, 23), (true, 25), (true, 26), (false, 24), (true, 27), (true, 28), (true, 30), (true, 29), (true, 31), (true, 32), (true, 33), (true, 34)] (by kernel_rfl) (by kernel_rfl) ?_
          simp only [stepsZ, List.map_cons, List.map_nil, List.getD_cons_succ, List.getD_cons_zero]
          have K3 := hide (unhide to_ _ ((unhide H3).box (List.mem_cons_of_mem _ (List.mem_cons_of_mem _ List.mem_cons_self))).1)
          refine seqM_pure (.pointer (some ⟨pa, 0, none⟩)) rfl (by intro w; simp [go_sem]) (unhide K3) ?_
          go_simp
          refine seqM_in (.agg #[.slice a2 L1.length c2]) rfl (by intro w hw; have := unhide un w hw; simp [go_sem, this]) (unhide K3) ?_
          go_simp
          refine seqM_call 10 #[.pointer (some ⟨pa, 0, none⟩)] rfl (by simp [go_sem]) ?_
          refine ((unhide H3).low (p := pa) (m := m2) (s := S1) (List.mem_cons_of_mem _ (List.mem_cons_of_mem _ (List.mem_cons_of_mem _ List.mem_cons_self)))).mono ?_
          rintro e w' ⟨rfl, hw'⟩
          refine ⟨_, rfl, by rw [hw']; exact (unhide K3), ?_⟩
          rw [hw']
          clear hw'
          go_simp
          refine seqM_call 20 #[.agg #[.slice a2 L1.length c2]] rfl (by simp [go_sem]) ?_
          refine (rlow_any (c := c2) ((unhide H3).row (K := IntK) (a := a2) (c := c2) (l := L1) (List.mem_cons_of_mem _ List.mem_cons_self)) (by have := unhide LS1; omega) (unhide RS1)).mono ?_
          rintro e w4 ⟨rfl, hb⟩
          have H4 : Hid (HR w w4 (hRow IntK a3 c3 S1.set :: hRow IntK a2 c2 L1 :: hBox p8 (.slice a2 L1.length c2) :: hAck pa m2 S1 :: [])) := hide ((unhide H3).below hb)
          clear hb H3
          have K4 := hide (unhide to_ _ ((unhide H4).box (List.mem_cons_of_mem _ (List.mem_cons_of_mem _ List.mem_cons_self))).1)
          refine ⟨_, rfl, (unhide K4), ?_⟩
          go_simp
          refine seqM_pure (.bool false) rfl (by intro w; simp [go_sem]) (unhide K4) ?_
          go_simp
          refine seqM_pure (.bool false) rfl (by intro w; simp [go_sem]) (unhide K4) ?_
          go_simp
          refine seqM_pure (.slice a3 S1.set.length c3) rfl (by intro w; simp [go_sem]) (unhide K4) ?_
          go_simp
          refine seqM_in (.agg #[.slice a2 L1.length c2]) rfl (by intro w hw; have := unhide un w hw; simp [go_sem, this]) (unhide K4) ?_
          go_simp
          refine seqM_call 21 #[.agg #[.slice a2 L1.length c2]] rfl (by simp [go_sem]) ?_
          refine (rset_any (c := c2) ((unhide H4).row (K := IntK) (a := a2) (c := c2) (l := L1) (List.mem_cons_of_mem _ List.mem_cons_self)) (by have := unhide LS1; omega) (unhide RS1)).mono ?_
          rintro e w5 ⟨a5, c5, rfl, hr5, hb⟩
          have H5 : Hid (HR w w5 (hRow IntK a5 c5 S1.set :: hRow IntK a3 c3 S1.set :: hRow IntK a2 c2 L1 :: hBox p8 (.slice a2 L1.length c2) :: hAck pa m2 S1 :: [])) := hide ((unhide H4).add hb (row_base hr5 (Nat.zero_le _)) fun k e => (row_lt hr5 k e).1)
          clear hb hr5 H4
          have K5 := hide (unhide to_ _ ((unhide H5).box (List.mem_cons_of_mem _ (List.mem_cons_of_mem _ (List.mem_cons_of_mem _ List.mem_cons_self)))).1)
          refine ⟨_, rfl, (unhide K5), ?_⟩
          go_simp
          refine seqM_call 11 #[.slice a3 S1.set.length c3, .slice a5 S1.set.length c5] rfl (by simp [go_sem]) ?_
          refine ((unhide H5).same (a := a3) (c := c3) (l := S1.set) (b := a5) (d := c5) (m := S1.set) (List.mem_cons_of_mem _ List.mem_cons_self) List.mem_cons_self (by have := unhide SLEN; omega)).mono ?_
          rintro e w6 ⟨rfl, h⟩
          rw [sameL_self]
          have H6 : Hid (HR w w6 (hRow IntK a3 c3 S1.set :: hRow IntK a2 c2 L1 :: hBox p8 (.slice a2 L1.length c2) :: hAck pa m2 S1 :: [])) := hide h.drop1
          clear h H5
          have K6 := hide (unhide to_ _ ((unhide H6).box (List.mem_cons_of_mem _ (List.mem_cons_of_mem _ List.mem_cons_self))).1)
          refine ⟨_, rfl, (unhide K6), ?_⟩
          go_simp
          refine seqM_pure (.bool false) rfl (by intro w; simp [go_sem]) (unhide K6) ?_
          go_simp
          refine seqM_pure (.bool false) rfl (by intro w; simp [go_sem]) (unhide K6) ?_
          go_simp
          refine seqM_pure (.bool false) rfl (by intro w; simp [go_sem]) (unhide K6) ?_
          go_simp
          refine seqM_pure (.pointer (some ⟨pa, 0, none⟩)) rfl (by intro w; simp [go_sem]) (unhide K6) ?_
          go_simp
          refine seqM_pure (.int .i64 n) rfl (by intro w; simp [go_sem]) (unhide K6) ?_
          go_simp
          refine seqM_in (.agg #[.slice a2 L1.length c2]) rfl (by intro w hw; have := unhide un w hw; simp [go_sem, this]) (unhide K6) ?_
          go_simp
          refine seqM_pure (.int .i64 n) rfl (by intro w; simp [go_sem]) (unhide K6) ?_
          go_simp
          refine seqM_call 22 #[.pointer (some ⟨pa, 0, none⟩), .int .i64 n] rfl (by simp [go_sem]) ?_
          refine ((unhide H6).has (p := pa) (m := m2) (s := S1) (List.mem_cons_of_mem _ (List.mem_cons_of_mem _ (List.mem_cons_of_mem _ List.mem_cons_self))) (unhide HN)).mono ?_
          rintro e w7 ⟨rfl, h⟩
          have H7 : Hid (HR w w7 (hRow IntK a3 c3 S1.set :: hRow IntK a2 c2 L1 :: hBox p8 (.slice a2 L1.length c2) :: hAck pa m2 S1 :: [])) := hide h
          clear h H6
          have K7 := hide (unhide to_ _ ((unhide H7).box (List.mem_cons_of_mem _ (List.mem_cons_of_mem _ List.mem_cons_self))).1)
          refine ⟨_, rfl, (unhide K7), ?_⟩
          go_simp
          refine seqM_call 23 #[.agg #[.slice a2 L1.length c2], .int .i64 n] rfl (by simp [go_sem]) ?_
          refine (rhas_any (c := c2) ((unhide H7).row (K := IntK) (a := a2) (c := c2) (l := L1) (List.mem_cons_of_mem _ List.mem_cons_self)) (by have := unhide LS1; omega) n).mono ?_
          rintro e w8 ⟨rfl, hb⟩
          rw [rel_dec (unhide RS1)]
          have H8 : Hid (HR w w8 (hRow IntK a3 c3 S1.set :: hRow IntK a2 c2 L1 :: hBox p8 (.slice a2 L1.length c2) :: hAck pa m2 S1 :: [])) := hide ((unhide H7).below hb)
          clear hb H7
          have K8 := hide (unhide to_ _ ((unhide H8).box (List.mem_cons_of_mem _ (List.mem_cons_of_mem _ List.mem_cons_self))).1)
          refine ⟨_, rfl, (unhide K8), ?_⟩
          go_simp
          refine seqM_pure (.bool false) rfl (by intro w; simp [go_sem]) (unhide K8) ?_
          go_simp
          refine seqM_pure (.bool false) rfl (by intro w; simp [go_sem]) (unhide K8) ?_
          go_simp
          refine seqM_pure (.bool false) rfl (by intro w; simp [go_sem]) (unhide K8) ?_
          go_simp
          refine seqM_pure (.pointer (some ⟨pa, 0, none⟩)) rfl (by intro w; simp [go_sem]) (unhide K8) ?_
          go_simp
          refine seqM_pure (.int .i64 u) rfl (by intro w; simp [go_sem]) (unhide K8) ?_
          go_simp
          refine seqM_pure (.int .i64 u) rfl (by intro w; simp [go_sem]) (unhide K8) ?_
          go_simp
          refine seqM_pure (.bool true) rfl (by intro w; simp [go_sem, hu1]; try omega) (unhide K8) ?_
          go_simp
          have WH := (unhide H8).whole (p := pa) (m := m2) (s := S1) (List.mem_cons_of_mem _ (List.mem_cons_of_mem _ (List.mem_cons_of_mem _ List.mem_cons_self))) u
          rw [show min u 2147483647 = u by omega] at WH
          rw [show decide (u ≤ S1.low) = true from decide_eq_true (by have := (unhide RS1).fine.lo; omega)] at WH
          refine seqM_call 15 #[.pointer (some ⟨pa, 0, none⟩), .int .i64 u] rfl (by simp [go_sem]) ?_
          refine WH.mono ?_
          rintro e w' ⟨rfl, hw'⟩
          refine ⟨_, rfl, by rw [hw']; exact (unhide K8), ?_⟩
          rw [hw']
          clear hw' WH
          go_simp
          refine seqM_pure (.bool true) rfl (by intro w; simp [go_sem]) (unhide K8) ?_
          go_simp
          refine seqM_off rfl (unhide K8) ?_
          go_simp
          refine seqM_off rfl (unhide K8) ?_
          go_simp
          refine seqM_off rfl (unhide K8) ?_
          go_simp
          refine seqM_off rfl (unhide K8) ?_
          go_simp
          refine seqM_pure (.bool true) rfl (by intro w; simp [go_sem]) (unhide K8) ?_
          go_simp
          refine seqM_pure (.bool false) rfl (by intro w; simp [go_sem]) (unhide K8) ?_
          go_simp
          refine seqM_pure (.bool false) rfl (by intro w; simp [go_sem]) (unhide K8) ?_
          go_simp
          simp only [seqM]
          have HE : Hid (HR w w8 (hRow IntK a3 c3 S1.set :: hRow IntK a2 c2 L1 :: hBox p8 (.slice a2 L1.length c2) :: hAck pa m2 S1 :: [])) := hide (unhide H8)
          clear H8 K8 un to_
          rcases (unhide HE).open_ with h0 | ⟨gs, e0, ho⟩
          · have s0 : S1.set.length = 0 := by rw [h0]; rfl
            rw [s0]
            have HF := hide (unhide HE).drop1
            clear h0 s0 HE
            go_wp2_with fail
            refine wp_loop_rounds 1 ?_
            rw [rounds_succ]
            go_wp2_with fail
            exact ⟨⟨k + 1, m2, a2, c2, rfl, by omega, by rw [← unhide ES1, ← unhide EL1]; exact unhide HF⟩, by simp [RowKit.intOf]; omega⟩
          · subst e0
            have HO := hide ho
            clear ho HE
            go_wp2_with fail
            go_loopw [15] (fun i wr => ∃ j : Nat, i = .int .i64 (j : Int) ∧ j ≤ S1.set.length ∧ HR w wr (hThere gs S1.set.length :: hRow IntK a2 c2 L1 :: hBox p8 (.slice a2 L1.length c2) :: hAck pa m2 S1 :: [])) (fun i _ => S1.set.length - (RowKit.intOf i).toNat)
            case atStart => exact ⟨0, rfl, Nat.zero_le _, unhide HO⟩
            case round =>
              obtain ⟨j, rfl, hj, hjr⟩ := hrel
              clear HO
              have HJ := hide hjr
              clear hjr
              by_cases hjt : j < S1.set.length
              · have j0 : (0 : Int) ≤ (j : Int) := by omega
                have j1 : (j : Int) < (S1.set.length : Int) := by omega
                have hwj : IntKind.i64.wrap ((j : Int) + 1) = (j : Int) + 1 := Go.IntWalk.i64_in _ (by have := unhide SLEN; omega)
                obtain ⟨⟨z, hz⟩, hf⟩ := ((unhide HJ).ok _ List.mem_cons_self : gs < wr.heap.size ∧ ∀ i, i < S1.set.length → (∃ z, wr.cell? ⟨gs, i, none⟩ = some z) ∧ wr.frozen? ⟨gs, i, none⟩ = false).2 j hjt
                have HK := hide ((unhide HJ).over (.int .i64 1) hjt)
                go_wp2_with fail
                exact ⟨⟨j + 1, rfl, by omega, unhide HK⟩, by simp [RowKit.intOf]; omega⟩
              · have HF := hide (unhide HJ).drop1
                have hje : j = S1.set.length := by omega
                clear HJ
                go_wp2_with fail
                exact ⟨⟨k + 1, m2, a2, c2, rfl, by omega, by rw [← unhide ES1, ← unhide EL1]; exact unhide HF⟩, by simp [RowKit.intOf]; omega⟩
        · skip
          refine wp_region_steps (S := CL) [(true, 0), (true, 2), (false, 1), (false, 3), (true, 4), (true, 5), (true, 6), (true, 7), (false, 8), (false, 9), (true, 10), (true, 11), (true, 12), (true, 13), (true, 14), (true, 16), (true, 17), (false, 15), (false, 18), (true, 19), (true, 20), (true, 21), (true, 22), (true, 23), (true, 25), (true, 26), (false, 24), (true, 27), (true, 28), (true, 30), (false, 29), (true, 31), (true, 32), (true, 33), (true, 34)] (by kernel_rfl) (by kernel_rfl) ?_
          simp only [stepsZ, List.map_cons, List.map_nil, List.getD_cons_succ, List.getD_cons_zero]
          have K3 := hide (unhide to_ _ ((unhide H3).box (List.mem_cons_of_mem _ (List.mem_cons_of_mem _ List.mem_cons_self))).1)
          refine seqM_pure (.pointer (some ⟨pa, 0, none⟩)) rfl (by intro w; simp [go_sem]) (unhide K3) ?_
          go_simp
          refine seqM_in (.agg #[.slice a2 L1.length c2]) rfl (by intro w hw; have := unhide un w hw; simp [go_sem, this]) (unhide K3) ?_
          go_simp
          refine seqM_call 10 #[.pointer (some ⟨pa, 0, none⟩)] rfl (by simp [go_sem]) ?_
          refine ((unhide H3).low (p := pa) (m := m2) (s := S1) (List.mem_cons_of_mem _ (List.mem_cons_of_mem _ (List.mem_cons_of_mem _ List.mem_cons_self)))).mono ?_
          rintro e w' ⟨rfl, hw'⟩
          refine ⟨_, rfl, by rw [hw']; exact (unhide K3), ?_⟩
          rw [hw']
          clear hw'
          go_simp
          refine seqM_call 20 #[.agg #[.slice a2 L1.length c2]] rfl (by simp [go_sem]) ?_
          refine (rlow_any (c := c2) ((unhide H3).row (K := IntK) (a := a2) (c := c2) (l := L1) (List.mem_cons_of_mem _ List.mem_cons_self)) (by have := unhide LS1; omega) (unhide RS1)).mono ?_
          rintro e w4 ⟨rfl, hb⟩
          have H4 : Hid (HR w w4 (hRow IntK a3 c3 S1.set :: hRow IntK a2 c2 L1 :: hBox p8 (.slice a2 L1.length c2) :: hAck pa m2 S1 :: [])) := hide ((unhide H3).below hb)
          clear hb H3
          have K4 := hide (unhide to_ _ ((unhide H4).box (List.mem_cons_of_mem _ (List.mem_cons_of_mem _ List.mem_cons_self))).1)
          refine ⟨_, rfl, (unhide K4), ?_⟩
          go_simp
          refine seqM_pure (.bool false) rfl (by intro w; simp [go_sem]) (unhide K4) ?_
          go_simp
          refine seqM_pure (.bool false) rfl (by intro w; simp [go_sem]) (unhide K4) ?_
          go_simp
          refine seqM_pure (.slice a3 S1.set.length c3) rfl (by intro w; simp [go_sem]) (unhide K4) ?_
          go_simp
          refine seqM_in (.agg #[.slice a2 L1.length c2]) rfl (by intro w hw; have := unhide un w hw; simp [go_sem, this]) (unhide K4) ?_
          go_simp
          refine seqM_call 21 #[.agg #[.slice a2 L1.length c2]] rfl (by simp [go_sem]) ?_
          refine (rset_any (c := c2) ((unhide H4).row (K := IntK) (a := a2) (c := c2) (l := L1) (List.mem_cons_of_mem _ List.mem_cons_self)) (by have := unhide LS1; omega) (unhide RS1)).mono ?_
          rintro e w5 ⟨a5, c5, rfl, hr5, hb⟩
          have H5 : Hid (HR w w5 (hRow IntK a5 c5 S1.set :: hRow IntK a3 c3 S1.set :: hRow IntK a2 c2 L1 :: hBox p8 (.slice a2 L1.length c2) :: hAck pa m2 S1 :: [])) := hide ((unhide H4).add hb (row_base hr5 (Nat.zero_le _)) fun k e => (row_lt hr5 k e).1)
          clear hb hr5 H4
          have K5 := hide (unhide to_ _ ((unhide H5).box (List.mem_cons_of_mem _ (List.mem_cons_of_mem _ (List.mem_cons_of_mem _ List.mem_cons_self)))).1)
          refine ⟨_, rfl, (unhide K5), ?_⟩
          go_simp
          refine seqM_call 11 #[.slice a3 S1.set.length c3, .slice a5 S1.set.length c5] rfl (by simp [go_sem]) ?_
          refine ((unhide H5).same (a := a3) (c := c3) (l := S1.set) (b := a5) (d := c5) (m := S1.set) (List.mem_cons_of_mem _ List.mem_cons_self) List.mem_cons_self (by have := unhide SLEN; omega)).mono ?_
          rintro e w6 ⟨rfl, h⟩
          rw [sameL_self]
          have H6 : Hid (HR w w6 (hRow IntK a3 c3 S1.set :: hRow IntK a2 c2 L1 :: hBox p8 (.slice a2 L1.length c2) :: hAck pa m2 S1 :: [])) := hide h.drop1
          clear h H5
          have K6 := hide (unhide to_ _ ((unhide H6).box (List.mem_cons_of_mem _ (List.mem_cons_of_mem _ List.mem_cons_self))).1)
          refine ⟨_, rfl, (unhide K6), ?_⟩
          go_simp
          refine seqM_pure (.bool false) rfl (by intro w; simp [go_sem]) (unhide K6) ?_
          go_simp
          refine seqM_pure (.bool false) rfl (by intro w; simp [go_sem]) (unhide K6) ?_
          go_simp
          refine seqM_pure (.bool false) rfl (by intro w; simp [go_sem]) (unhide K6) ?_
          go_simp
          refine seqM_pure (.pointer (some ⟨pa, 0, none⟩)) rfl (by intro w; simp [go_sem]) (unhide K6) ?_
          go_simp
          refine seqM_pure (.int .i64 n) rfl (by intro w; simp [go_sem]) (unhide K6) ?_
          go_simp
          refine seqM_in (.agg #[.slice a2 L1.length c2]) rfl (by intro w hw; have := unhide un w hw; simp [go_sem, this]) (unhide K6) ?_
          go_simp
          refine seqM_pure (.int .i64 n) rfl (by intro w; simp [go_sem]) (unhide K6) ?_
          go_simp
          refine seqM_call 22 #[.pointer (some ⟨pa, 0, none⟩), .int .i64 n] rfl (by simp [go_sem]) ?_
          refine ((unhide H6).has (p := pa) (m := m2) (s := S1) (List.mem_cons_of_mem _ (List.mem_cons_of_mem _ (List.mem_cons_of_mem _ List.mem_cons_self))) (unhide HN)).mono ?_
          rintro e w7 ⟨rfl, h⟩
          have H7 : Hid (HR w w7 (hRow IntK a3 c3 S1.set :: hRow IntK a2 c2 L1 :: hBox p8 (.slice a2 L1.length c2) :: hAck pa m2 S1 :: [])) := hide h
          clear h H6
          have K7 := hide (unhide to_ _ ((unhide H7).box (List.mem_cons_of_mem _ (List.mem_cons_of_mem _ List.mem_cons_self))).1)
          refine ⟨_, rfl, (unhide K7), ?_⟩
          go_simp
          refine seqM_call 23 #[.agg #[.slice a2 L1.length c2], .int .i64 n] rfl (by simp [go_sem]) ?_
          refine (rhas_any (c := c2) ((unhide H7).row (K := IntK) (a := a2) (c := c2) (l := L1) (List.mem_cons_of_mem _ List.mem_cons_self)) (by have := unhide LS1; omega) n).mono ?_
          rintro e w8 ⟨rfl, hb⟩
          rw [rel_dec (unhide RS1)]
          have H8 : Hid (HR w w8 (hRow IntK a3 c3 S1.set :: hRow IntK a2 c2 L1 :: hBox p8 (.slice a2 L1.length c2) :: hAck pa m2 S1 :: [])) := hide ((unhide H7).below hb)
          clear hb H7
          have K8 := hide (unhide to_ _ ((unhide H8).box (List.mem_cons_of_mem _ (List.mem_cons_of_mem _ List.mem_cons_self))).1)
          refine ⟨_, rfl, (unhide K8), ?_⟩
          go_simp
          refine seqM_pure (.bool false) rfl (by intro w; simp [go_sem]) (unhide K8) ?_
          go_simp
          refine seqM_pure (.bool false) rfl (by intro w; simp [go_sem]) (unhide K8) ?_
          go_simp
          refine seqM_pure (.bool false) rfl (by intro w; simp [go_sem]) (unhide K8) ?_
          go_simp
          refine seqM_pure (.pointer (some ⟨pa, 0, none⟩)) rfl (by intro w; simp [go_sem]) (unhide K8) ?_
          go_simp
          refine seqM_pure (.int .i64 u) rfl (by intro w; simp [go_sem]) (unhide K8) ?_
          go_simp
          refine seqM_pure (.int .i64 u) rfl (by intro w; simp [go_sem]) (unhide K8) ?_
          go_simp
          refine seqM_pure (.bool false) rfl (by intro w; simp [go_sem, hu1]; try omega) (unhide K8) ?_
          go_simp
          have WH := (unhide H8).whole (p := pa) (m := m2) (s := S1) (List.mem_cons_of_mem _ (List.mem_cons_of_mem _ (List.mem_cons_of_mem _ List.mem_cons_self))) u
          rw [show min u 2147483647 = u by omega] at WH
          refine seqM_call 15 #[.pointer (some ⟨pa, 0, none⟩), .int .i64 u] rfl (by simp [go_sem]) ?_
          refine WH.mono ?_
          rintro e w' ⟨rfl, hw'⟩
          refine ⟨_, rfl, by rw [hw']; exact (unhide K8), ?_⟩
          rw [hw']
          clear hw' WH
          go_simp
          refine seqM_pure (.bool false) rfl (by intro w; simp [go_sem]) (unhide K8) ?_
          go_simp
          refine seqM_in (.agg #[.slice a2 L1.length c2]) rfl (by intro w hw; have := unhide un w hw; simp [go_sem, this]) (unhide K8) ?_
          go_simp
          refine seqM_pure (.int .i64 u) rfl (by intro w; simp [go_sem]) (unhide K8) ?_
          go_simp
          refine seqM_call 20 #[.agg #[.slice a2 L1.length c2]] rfl (by simp [go_sem]) ?_
          refine (rlow_any (c := c2) ((unhide H8).row (K := IntK) (a := a2) (c := c2) (l := L1) (List.mem_cons_of_mem _ List.mem_cons_self)) (by have := unhide LS1; omega) (unhide RS1)).mono ?_
          rintro e w9 ⟨rfl, hb⟩
          have H9 : Hid (HR w w9 (hRow IntK a3 c3 S1.set :: hRow IntK a2 c2 L1 :: hBox p8 (.slice a2 L1.length c2) :: hAck pa m2 S1 :: [])) := hide ((unhide H8).below hb)
          clear hb H8
          have K9 := hide (unhide to_ _ ((unhide H9).box (List.mem_cons_of_mem _ (List.mem_cons_of_mem _ List.mem_cons_self))).1)
          refine ⟨_, rfl, (unhide K9), ?_⟩
          go_simp
          refine seqM_pure (.bool (decide (u ≤ S1.low))) rfl (by intro w; simp [go_sem]) (unhide K9) ?_
          go_simp
          refine seqM_pure (.bool (decide (u ≤ S1.low))) rfl (by intro w; simp [go_sem]) (unhide K9) ?_
          go_simp
          refine seqM_pure (.bool false) rfl (by intro w; simp [go_sem]) (unhide K9) ?_
          go_simp
          refine seqM_pure (.bool false) rfl (by intro w; simp [go_sem]) (unhide K9) ?_
          go_simp
          simp only [seqM]
          have HE : Hid (HR w w9 (hRow IntK a3 c3 S1.set :: hRow IntK a2 c2 L1 :: hBox p8 (.slice a2 L1.length c2) :: hAck pa m2 S1 :: [])) := hide (unhide H9)
          clear H9 K9 un to_
          rcases (unhide HE).open_ with h0 | ⟨gs, e0, ho⟩
          · have s0 : S1.set.length = 0 := by rw [h0]; rfl
            rw [s0]
            have HF := hide (unhide HE).drop1
            clear h0 s0 HE
            go_wp2_with fail
            refine wp_loop_rounds 1 ?_
            rw [rounds_succ]
            go_wp2_with fail
            exact ⟨⟨k + 1, m2, a2, c2, rfl, by omega, by rw [← unhide ES1, ← unhide EL1]; exact unhide HF⟩, by simp [RowKit.intOf]; omega⟩
          · subst e0
            have HO := hide ho
            clear ho HE
            go_wp2_with fail
            go_loopw [15] (fun i wr => ∃ j : Nat, i = .int .i64 (j : Int) ∧ j ≤ S1.set.length ∧ HR w wr (hThere gs S1.set.length :: hRow IntK a2 c2 L1 :: hBox p8 (.slice a2 L1.length c2) :: hAck pa m2 S1 :: [])) (fun i _ => S1.set.length - (RowKit.intOf i).toNat)
            case atStart => exact ⟨0, rfl, Nat.zero_le _, unhide HO⟩
            case round =>
              obtain ⟨j, rfl, hj, hjr⟩ := hrel
              clear HO
              have HJ := hide hjr
              clear hjr
              by_cases hjt : j < S1.set.length
              · have j0 : (0 : Int) ≤ (j : Int) := by omega
                have j1 : (j : Int) < (S1.set.length : Int) := by omega
                have hwj : IntKind.i64.wrap ((j : Int) + 1) = (j : Int) + 1 := Go.IntWalk.i64_in _ (by have := unhide SLEN; omega)
                obtain ⟨⟨z, hz⟩, hf⟩ := ((unhide HJ).ok _ List.mem_cons_self : gs < wr.heap.size ∧ ∀ i, i < S1.set.length → (∃ z, wr.cell? ⟨gs, i, none⟩ = some z) ∧ wr.frozen? ⟨gs, i, none⟩ = false).2 j hjt
                have HK := hide ((unhide HJ).over (.int .i64 1) hjt)
                go_wp2_with fail
                exact ⟨⟨j + 1, rfl, by omega, unhide HK⟩, by simp [RowKit.intOf]; omega⟩
              · have HF := hide (unhide HJ).drop1
                have hje : j = S1.set.length := by omega
                clear HJ
                go_wp2_with fail
                exact ⟨⟨k + 1, m2, a2, c2, rfl, by omega, by rw [← unhide ES1, ← unhide EL1]; exact unhide HF⟩, by simp [RowKit.intOf]; omega⟩
      · have hke : k = l.length := by omega
        subst hke
        rw [List.take_length] at HRR
        have RS := hide (refL_rel l)
        have TS := hide (after_total (unhide HM))
        have LS : Hid ((refL l).length ≤ 13200) := hide (by have := refL_len (unhide HM) l.length; rwa [List.take_length] at this)
        obtain ⟨S, hS⟩ : ∃ S, S = after l := ⟨_, rfl⟩
        obtain ⟨L, hL⟩ : ∃ L, L = refL l := ⟨_, rfl⟩
        rw [← hS, ← hL] at RS HRR
        rw [← hS] at TS
        rw [← hL] at LS
        clear hS hL
        have HA := hide (HR.none IntK (unhide HRR))
        have MLEN : Hid (∀ n : Int, n ≤ 301 → (S.miss (n - 1)).length ≤ 300) := hide fun n hn => by
          by_cases h : n - 1 ≤ S.low
          · rw [miss_low S h]; simp
          · have := miss_length S (unhide RS).fine.lo (n - 1) (by omega); have := (unhide RS).fine.lo; omega
        clear HRR
        go_wp2_with fail
        go_loopw [16, 17] (fun sl i wr => ∃ (n : Int) (am : Option Addr) (cm : Nat), i = .int .i64 n ∧ 1 ≤ n ∧ (n = 1 ∨ n ≤ u + 1) ∧ sl = .slice am (S.miss (n - 1)).length cm ∧ HR w wr (hRow IntK am cm (S.miss (n - 1)) :: hRow IntK a1 c1 L :: hBox p8 (.slice a1 L.length c1) :: hAck pa m S :: [])) (fun _ i _ => (u + 1 - RowKit.intOf i).toNat)
        case atStart => exact ⟨1, none, 0, rfl, by omega, .inl rfl, by rw [show (1 : Int) - 1 = 0 by omega, miss_low S (unhide RS).fine.lo]; rfl, by rw [show (1 : Int) - 1 = 0 by omega, miss_low S (unhide RS).fine.lo]; exact unhide HA⟩
        case round =>
          obtain ⟨i, am, cm, rfl, hi1, hi2, rfl, hr⟩ := hrel
          clear HA
          have HB := hide hr
          clear hr
          have z8 := ((unhide HB).box (List.mem_cons_of_mem _ (List.mem_cons_of_mem _ List.mem_cons_self))).1
          by_cases hlt : i ≤ u
          · have hwi : IntKind.i64.wrap (i + 1) = i + 1 := Go.IntWalk.i64_in _ (by omega)
            have e1 : i + 1 - 1 = i := by omega
            have ML := unhide MLEN i (by omega)
            have hh := rhas_any (c := c1) ((unhide HB).row (K := IntK) (a := a1) (c := c1) (l := L) (List.mem_cons_of_mem _ List.mem_cons_self)) (by have := unhide LS; omega) i
            rw [rel_dec (unhide RS)] at hh
            cases hf : S.has i with
            | true =>
              rw [hf] at hh
              have NX := hide (miss_had S hi1 hf)
              clear hf
              go_wp2_with fail
              refine hh.mono ?_
              rintro e w4 ⟨rfl, hb⟩
              have H4 := hide ((unhide HB).below hb)
              clear hh hb
              go_wp2_with fail
              exact ⟨⟨i + 1, am, cm, rfl, by omega, .inr (by omega), by rw [e1, unhide NX], by rw [e1, unhide NX]; exact unhide H4⟩, by simp [RowKit.intOf]; omega⟩
            | false =>
              rw [hf] at hh
              have NX := hide (miss_next S hi1 hf)
              clear hf
              go_wp2_with fail
              refine hh.mono ?_
              rintro e w4 ⟨rfl, hb⟩
              obtain ⟨a', c', w9, happ, h9⟩ := ((unhide HB).below hb).grow intK_law i 3 (by omega)
              have H9 := hide h9
              have EN : Hid ((S.miss i).length = (S.miss (i - 1)).length + 1) := hide (by rw [unhide NX, List.length_append]; rfl)
              have HAP : Hid ((Builtin.append_ #[27, 27] 27 #[.slice am (S.miss (i - 1)).length cm, .slice (some ⟨w4.heap.size, 0, none⟩) 1 1]).run Try.prog (w4.alloc (.cells #[.int .i64 i] 3)) = .ok (.slice a' ((S.miss (i - 1)).length + 1) c') w9) := hide happ
              clear hh hb happ h9
              go_wp2_with (at_builtin; refine wpList_app rfl _ _ 27 27 27 rfl rfl rfl rfl (unhide HAP) ?_)
              exact ⟨⟨i + 1, a', c', rfl, by omega, .inr (by omega), by rw [e1, unhide EN], by rw [e1, unhide NX]; exact unhide H9⟩, by simp [RowKit.intOf]; omega⟩
          · have hend : S.miss (i - 1) = S.miss u := by
              rcases hi2 with e | e
              · rw [miss_low S (by have := (unhide RS).fine.lo; omega), miss_low S (by have := (unhide RS).fine.lo; omega)]
              · rw [show i - 1 = u by omega]
            rw [hend] at HB
            rw [hend]
            have ML := unhide MLEN (u + 1) (by omega)
            rw [show u + 1 - 1 = u by omega] at ML
            have MS := hide ((unhide HB).missing (p := pa) (m := m) (s := S) (List.mem_cons_of_mem _ (List.mem_cons_of_mem _ (List.mem_cons_of_mem _ List.mem_cons_self))) (upto := u) (by have := (unhide RS).fine.lo; omega))
            rw [show min u 1048576 = u by omega] at MS
            clear hend z8
            go_wp2_with fail
            refine (unhide MS).mono ?_
            rintro e w4 ⟨a4, c4, rfl, h4⟩
            have H4 := hide h4
            clear h4 MS
            go_wp2_with fail
            refine ((unhide H4).same (a := a4) (c := c4) (l := S.miss u) (b := am) (d := cm) (m := S.miss u) List.mem_cons_self (List.mem_cons_of_mem _ List.mem_cons_self) (by omega)).mono ?_
            rintro e w5 ⟨rfl, h5⟩
            rw [sameL_self]
            have H5 := hide h5
            clear h5
            have WN := hide (fun V => whole_nil u V)
            rw [show min u 2147483647 = u by omega] at WN
            have BEND : Hid (Below w.heap.size w (w5.alloc (.cells #[.int .i64 n] 3))) := hide ((unhide H5).bel.alloc (unhide H5).bel.size _)
            by_cases hu1 : u < 1
            · have d1 : decide (u ≤ 0) = true := decide_eq_true (by omega)
              have d2 : decide (u < 1) = true := decide_eq_true hu1
              simp only [d1] at WN
              go_wp2_with fail
              refine (add_nil _ _).mono ?_
              rintro e w' ⟨rfl, hw'⟩
              rw [hw']
              clear hw'
              go_wp2_with fail
              refine (merge_nil _ _ _).mono ?_
              rintro e w' ⟨rfl, hw'⟩
              rw [hw']
              clear hw'
              go_wp2_with fail
              refine (has_nil _ _).mono ?_
              rintro e w' ⟨rfl, hw'⟩
              rw [hw']
              clear hw'
              go_wp2_with fail
              refine (low_nil _).mono ?_
              rintro e w' ⟨rfl, hw'⟩
              rw [hw']
              clear hw'
              go_wp2_with fail
              refine (set_nil _).mono ?_
              rintro e w' ⟨rfl, hw'⟩
              rw [hw']
              clear hw'
              go_wp2_with fail
              refine (missing_nil _ _).mono ?_
              rintro e w' ⟨rfl, hw'⟩
              rw [hw']
              clear hw'
              go_wp2_with fail
              refine (unhide WN _).mono ?_
              rintro e w' ⟨rfl, hw'⟩
              rw [hw']
              clear hw'
              go_wp2_with fail
              go_ret
              exact ⟨rfl, unhide BEND⟩
            · have d1 : decide (u ≤ 0) = false := decide_eq_false (by omega)
              have d2 : decide (u < 1) = false := decide_eq_false hu1
              simp only [d1] at WN
              go_wp2_with fail
              refine (add_nil _ _).mono ?_
              rintro e w' ⟨rfl, hw'⟩
              rw [hw']
              clear hw'
              go_wp2_with fail
              refine (merge_nil _ _ _).mono ?_
              rintro e w' ⟨rfl, hw'⟩
              rw [hw']
              clear hw'
              go_wp2_with fail
              refine (has_nil _ _).mono ?_
              rintro e w' ⟨rfl, hw'⟩
              rw [hw']
              clear hw'
              go_wp2_with fail
              refine (low_nil _).mono ?_
              rintro e w' ⟨rfl, hw'⟩
              rw [hw']
              clear hw'
              go_wp2_with fail
              refine (set_nil _).mono ?_
              rintro e w' ⟨rfl, hw'⟩
              rw [hw']
              clear hw'
              go_wp2_with fail
              refine (missing_nil _ _).mono ?_
              rintro e w' ⟨rfl, hw'⟩
              rw [hw']
              clear hw'
              go_wp2_with fail
              refine (unhide WN _).mono ?_
              rintro e w' ⟨rfl, hw'⟩
              rw [hw']
              clear hw'
              go_wp2_with fail
              go_ret
              exact ⟨rfl, unhide BEND⟩
end Go.Proofs.Ytdmjkbcjljnleaa

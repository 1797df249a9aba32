/- What StorePlays does: it answers true, and nothing that was there has turned. No conditions. -/
import Derived.Test.YtoccgggiaalhdaaPb
import Derived.Test.YtoccgggiaalhdaaRGet
namespace Go.Proofs.Ytoccgggiaalhdaa
open Go.RowKit
section
variable {P : Program} {md : Region.Mode} {ops : Array Oper} {S : World → Prop}
/-- A call among those that turn the world, whatever guards it. -/
theorem chain_call_on {K : Act → World → Prop} {j : Nat} {o : Oper} {l : List (Nat × Oper)} {a : Act} {w : World} (f : FuncId) (args : Array Value) (hw : Region.wanted o (yielded ops a.tmps) = true) (hr : (execOp a.eval o).run P w = .ok (.enter f args) w)
    (h : Calls P f args w fun e w' => ∃ v, e = .returned v ∧ S w' ∧ chainM P md ops S K l (a.put o.dst v) w') : chainM P md ops S K ((j, o) :: l) a w := by
  refine ⟨hw, ?_⟩
  unfold goes
  rw [hr]
  exact h.mono fun e w' ⟨v, he, hS, hc⟩ => ⟨v, he, fun _ => hS, hc⟩
theorem chain_step_on {K : Act → World → Prop} {j : Nat} {o : Oper} {l : List (Nat × Oper)} {a : Act} {w : World} (v : Value) (w' : World) (hw : Region.wanted o (yielded ops a.tmps) = true) (hr : (execOp a.eval o).run P w = .ok (.value v) w') (hS : S w')
    (h : chainM P md ops S K l (a.put o.dst v) w') : chainM P md ops S K ((j, o) :: l) a w := by
  refine ⟨hw, ?_⟩
  unfold goes
  rw [hr]
  exact ⟨fun _ => hS, h⟩
end
attribute [go_sem] sameA_self
@[go_sem high] theorem neq24v (a b : AggV) (w : World) : (binOp .neq 32 (aggV a) (aggV b)).run Try.prog w = .ok (.bool (!sameA a b)) w := by
  have h := eq24 a b w
  unfold aggV at h ⊢
  rw [run_neq_struct, h]; rfl
theorem wpList_load_aggv {P : Program} {ops : Array Oper} {rest : List Oper} {op : Oper} {a : Act} {w : World} {Q : Exit → Act → World → Prop} (hw : Region.wanted op (yielded ops a.tmps) = true) (ty : TypeId) (x : Operand) (ho : op.op = .load ty x)
    (b o : Nat) (hx : a.eval x = .pointer (some ⟨b, o, none⟩)) (z : AggV) (d : TypeDesc) (hc : w.rangeAt b o (cellsA z))
    (hu : P.underlying ty = some d) (hd : d.isRow = true) (hi : (P.info? ty).map (·.size) = some (cellsA z).length)
    (h : wpList P ops Q rest (a.put op.dst (aggV z)) w) : wpList P ops Q (op :: rest) a w := wpList_load_on hw ty x ho b o hx (cellsA z) d hc hu hd hi h
theorem act_out {v : World} {b yd : Nat} {yk xk : List UInt8} {ya yn xs g0 g1' g2 g3 g4 g5 g6 g7 : Int} (h : RowAt v b [.int .u8 (yd : Int), .string ⟨yk.toArray⟩, .int .i64 ya, .int .i64 yn, .string ⟨xk.toArray⟩, .int .i64 xs, .int .i64 g0, .int .i64 g1', .int .i64 g2, .int .i64 g3, .int .i64 g4, .int .i64 g5, .int .i64 g6, .int .i64 g7]) : v.rangeAt b 4 [.string ⟨xk.toArray⟩, .int .i64 xs, .int .i64 g0, .int .i64 g1', .int .i64 g2, .int .i64 g3, .int .i64 g4, .int .i64 g5, .int .i64 g6, .int .i64 g7] := fun j u hu => by
  have := h.range (4 + j) u (by rw [← hu, Nat.add_comm 4 j]; rfl)
  rwa [Nat.zero_add] at this
theorem act_range {v : World} {b o : Nat} {p : ActZ} (h : ActAt v b o p) : v.rangeAt b o (actC p) := fun j u hu => by
  match j, hu with
  | 0, hu => cases hu; exact h.c0
  | 1, hu => cases hu; exact h.c1
  | 2, hu => cases hu; exact h.c2
  | 3, hu => cases hu; exact h.c3
  | j + 4, hu =>
    have := h.out j u hu
    rw [show o + (j + 4) = o + 4 + j by omega]; exact this
theorem key_short {z : List ActZ} (h : ¬ tooGreat z = true) {k : Nat} (hk : k < z.length) : (z.getD k ActZ.none_).key.length ≤ 100 := by
  refine Nat.le_of_not_lt fun hl => h ?_
  unfold tooGreat
  rw [any_at hk (by unfold long; rw [decide_eq_true hl]; rfl), Bool.or_true]
theorem pr_start {w v : World} {p : Nat} (h : Here w v p [] []) : PR w (v.alloc (.cells #[.slice none 0 0] 29)) p v.heap.size [] none 0 [] := by
  obtain ⟨F, h⟩ := h
  have hb : Below v.heap.size v (v.alloc (.cells #[.slice none 0 0] 29)) := (Below.refl _ _).alloc (Nat.le_refl _) _
  have h1 := h.below hb
  exact ⟨F, ⟨h1.st, h1.big, h1.bel, fun r hr => by
    have : r = (none, 0, []) := by simpa using hr
    subst this
    exact ⟨row_none _ _, fun k hk => by cases hk⟩⟩, fun f => Nat.lt_irrefl _ (h.st.lt _ f), h.bel.size, row_new _ _ _, row_none _ _⟩
set_option maxRecDepth 100000 in
set_option maxHeartbeats 16000000 in
theorem playslaw_any (a : Option Addr) (len cap : Nat) (z : List ActZ) (w : World) (hz : IsActs w a len cap z) :
    Calls Try.prog 3 #[.slice a len cap] w fun e w' => e = .returned (.bool true) ∧ Below w.heap.size w w' := by
  have HZ := hide hz
  have GR := hide (great_any a len cap z w hz)
  have BEL := hide (Below.refl w.heap.size w)
  have WK := hide wakes_any
  have hw0 := hide (Here.new (Below.refl w.heap.size w) (R := []) (fun _ h => by cases h))
  clear hz
  by_cases hg : tooGreat z = true
  · rw [hg] at GR
    go_enter Try.func3, Try.ntmps3
    go_wp2_with fail
    refine (unhide GR).mono ?_
    rintro e v' ⟨rfl, hw⟩
    rw [hw]
    clear hw v'
    go_wp2_with fail
    refine (unhide WK _).mono ?_
    rintro e v' ⟨rfl, hb⟩
    go_wp2_with fail
    go_ret
    exact ⟨rfl, (unhide BEL).trans (hb.mono (unhide BEL).size)⟩
  · have HSHORT := hide (fun k hk => key_short hg (k := k) hk)
    rw [Bool.eq_false_iff.2 hg] at GR
    go_enter Try.func3, Try.ntmps3
    go_upto_region 3 with fail
    refine (unhide GR).mono ?_
    rintro e v' ⟨rfl, hw⟩
    rw [hw]
    clear hw v'
    go_upto_region 3 with fail
    go_upto_region 4 with fail
    refine (unhide hw0).mono ?_
    rintro e u1 ⟨rfl, HE⟩
    have START := hide (pr_start HE)
    clear HE hw0 GR BEL hg
    generalize w.heap.size = p0 at START ⊢
    go_upto_region 5 with fail
    generalize u1.heap.size = h at START ⊢
    go_wp2_with fail
    go_loopw [5] (fun i wr => ∃ k : Nat, i = .int .i64 (k : Int) ∧ k ≤ len ∧ ∃ ad cd, PR w wr p0 h (playS SO [] (z.take k)) ad cd (playS SO [] (z.take k)) ∧ Mild (playS SO [] (z.take k)) ∧ Good SO (playS SO [] (z.take k))) (fun i _ => len - (intOf i).toNat)
    case atStart => exact ⟨0, rfl, by omega, none, 0, by rw [List.take_zero]; exact unhide START, by rw [List.take_zero]; exact mild_nil, by rw [List.take_zero]; exact good_nil⟩
    case round =>
      obtain ⟨k, rfl, hk, ad, cd, hpr, hmm, hgg⟩ := hrel
      have HPR := hide hpr
      have HMM := hide hmm
      have HGG := hide hgg
      clear hpr hmm hgg START
      by_cases hlt : k < len
      · have g1 : (k : Int) < (len : Int) := by omega
        have hk0 : (0 : Int) ≤ (k : Int) := by omega
        have hml := (unhide HZ).max
        unfold maxLen at hml
        have hwk : IntKind.i64.wrap ((k : Int) + 1) = (k : Int) + 1 := Go.IntWalk.i64_in _ (by omega)
        obtain ⟨bb, o, rfl, hat, ok, hbl⟩ := ((unhide HZ).below (unhide HPR).bel).at_ k hlt
        have HS1 : Hid (playS SO [] (z.take (k + 1)) = actS SO (playS SO [] (z.take k)) (z.getD k ActZ.none_)) := hide (by rw [take_snoc (by rw [(unhide HZ).size_]; exact hlt), play_snoc])
        have HM := hide (mild_act (unhide HMM) ok)
        have HG := hide (act_good so_law (unhide HGG) ok.n)
        have HSH := hide (unhide HSHORT k (by rw [(unhide HZ).size_]; exact hlt))
        have ra := act_range hat
        have HOK := hide ok
        clear hat ok hbl
        generalize z.getD k ActZ.none_ = y at *
        generalize playS SO [] (z.take k) = l at *
        obtain ⟨yd, yk, ya, yn, ⟨xk, xs, ⟨g0, g1', g2, g3, g4, g5, g6, g7⟩⟩⟩ := y
        have RACT : Hid (wr.rangeAt bb (o + k * 14) [.int .u8 (yd : Int), .string ⟨yk.toArray⟩, .int .i64 ya, .int .i64 yn, .string ⟨xk.toArray⟩, .int .i64 xs, .int .i64 g0, .int .i64 g1', .int .i64 g2, .int .i64 g3, .int .i64 g4, .int .i64 g5, .int .i64 g6, .int .i64 g7]) := hide ra
        obtain ⟨W1, hw1⟩ : ∃ W1, W1 = wr.alloc (.cells #[.int .u8 (yd : Int), .string ⟨yk.toArray⟩, .int .i64 ya, .int .i64 yn, .string ⟨xk.toArray⟩, .int .i64 xs, .int .i64 g0, .int .i64 g1', .int .i64 g2, .int .i64 g3, .int .i64 g4, .int .i64 g5, .int .i64 g6, .int .i64 g7] 36) := ⟨_, rfl⟩
        obtain ⟨b, hbb⟩ : ∃ b, b = wr.heap.size := ⟨_, rfl⟩
        have PBW : Hid (PB w W1 p0 h b [.int .u8 (yd : Int), .string ⟨yk.toArray⟩, .int .i64 ya, .int .i64 yn, .string ⟨xk.toArray⟩, .int .i64 xs, .int .i64 g0, .int .i64 g1', .int .i64 g2, .int .i64 g3, .int .i64 g4, .int .i64 g5, .int .i64 g6, .int .i64 g7] l ad cd l) := hide (by rw [hw1, hbb]; exact (unhide HPR).box ((Moved.refl _ _).alloc _) (row_new _ _ _))
        have HW1 := hide hw1
        have HBB := hide hbb
        clear ra HPR hw1 hbb
        dsimp only at HSH
        go_upto_region 9 with (refine wpList_load_on rfl 36 (.tmp 27) rfl bb (o + k * 14) rfl [.int .u8 (yd : Int), .string ⟨yk.toArray⟩, .int .i64 ya, .int .i64 yn, .string ⟨xk.toArray⟩, .int .i64 xs, .int .i64 g0, .int .i64 g1', .int .i64 g2, .int .i64 g3, .int .i64 g4, .int .i64 g5, .int .i64 g6, .int .i64 g7] _ (unhide RACT) Try.underlying36 rfl (by kernel_rfl) ?_)
        rw [← unhide HBB]
        try change Code.wp _ _ _ _ (wr.alloc (.cells #[.int .u8 (yd : Int), .string ⟨yk.toArray⟩, .int .i64 ya, .int .i64 yn, .string ⟨xk.toArray⟩, .int .i64 xs, .int .i64 g0, .int .i64 g1', .int .i64 g2, .int .i64 g3, .int .i64 g4, .int .i64 g5, .int .i64 g6, .int .i64 g7] 36))
        rw [← unhide HW1]
        clear RACT HBB HW1
        have W1c0 : W1.cell? ⟨b, 0, none⟩ = some (.int .u8 (yd : Int)) := (unhide PBW).rb.cell 0 (by simp)
        have W1c1 : W1.cell? ⟨b, 1, none⟩ = some (.string ⟨yk.toArray⟩) := (unhide PBW).rb.cell 1 (by simp)
        have W1c2 : W1.cell? ⟨b, 2, none⟩ = some (.int .i64 ya) := (unhide PBW).rb.cell 2 (by simp)
        have W1c3 : W1.cell? ⟨b, 3, none⟩ = some (.int .i64 yn) := (unhide PBW).rb.cell 3 (by simp)
        by_cases e0 : yd = 0
        · subst e0
          have hact : Hid (actS SO l ⟨0, yk, ya, yn, ⟨xk, xs, ⟨g0, g1', g2, g3, g4, g5, g6, g7⟩⟩⟩ = (putS SO l yk ya yn).1) := hide rfl
          rw [unhide hact] at HM HG HS1
          have HCS := hide ((unhide PBW).put (unhide HMM) yk ya yn (unhide HOK).n)
          go_upto_region 13 with fail
          refine (unhide HCS).mono ?_
          rintro e v1 ⟨rfl, hp⟩
          have PV := hide hp
          have v11 : v1.cell? ⟨b, 1, none⟩ = some (.string ⟨yk.toArray⟩) := hp.rb.cell 1 (by simp)
          have v12 : v1.cell? ⟨b, 2, none⟩ = some (.int .i64 ya) := hp.rb.cell 2 (by simp)
          have v13 : v1.cell? ⟨b, 3, none⟩ = some (.int .i64 yn) := hp.rb.cell 3 (by simp)
          clear hp HCS PBW W1c0 W1c1 W1c2 W1c3
          have HRP := hide (rput_any (unhide PV).row (unhide PV).hlt (unhide HGG) (unhide HMM).ins_ yk ya yn (unhide HOK).n)
          have RG := hide (unhide PV).rh.range
          go_upto_region 28 with (refine wpList_load_on rfl 29 (.tmp 4) rfl h 0 rfl [.slice ad l.length cd] _ (unhide RG) Try.underlying29 rfl (by kernel_rfl) ?_)
          refine (unhide HRP).mono ?_
          rintro e v2 ⟨a2, c2, rfl, hrow, hown, hb⟩
          obtain ⟨wf, hwf, hpb, hmf⟩ := (unhide PV).doc hb hrow hown
          have TH := hide (((unhide PV).below hb).rh.there)
          have HWF := hide hwf
          have PBH := hide hpb
          clear hwf hpb hmf hrow hown hb HRP RG PV
          clear v11 v12 v13
          obtain ⟨L, hL⟩ : ∃ L, L = (putS SO l yk ya yn).1 := ⟨_, rfl⟩
          rw [← hL] at HM HG HS1
          rw [← hL] at HWF PBH
          obtain ⟨ec, hec⟩ : ∃ ec : Int, ec = ((putS SO l yk ya yn).2 : Int) := ⟨_, rfl⟩
          rw [← hec, ← hL]
          clear hec hL hact
          go_upto_region 28 with (refine wpList_store_mid rfl 29 (.tmp 4) (.tmp 50) rfl h 0 #[.slice a2 L.length c2] rfl rfl (unhide TH) (by kernel_rfl) (by simp [Value.oneCell']) ?_; change wpList _ _ _ _ _ (World.setCells _ h 0 [.slice a2 L.length c2]); rw [unhide HWF])
          obtain ⟨CL, hCL⟩ : ∃ CL : World → Prop, CL = fun v => PB w v p0 h b [.int .u8 0, .string ⟨yk.toArray⟩, .int .i64 ya, .int .i64 yn, .string ⟨xk.toArray⟩, .int .i64 xs, .int .i64 g0, .int .i64 g1', .int .i64 g2, .int .i64 g3, .int .i64 g4, .int .i64 g5, .int .i64 g6, .int .i64 g7] L a2 c2 L := ⟨_, rfl⟩
          have un : ∀ v, CL v → PB w v p0 h b [.int .u8 0, .string ⟨yk.toArray⟩, .int .i64 ya, .int .i64 yn, .string ⟨xk.toArray⟩, .int .i64 xs, .int .i64 g0, .int .i64 g1', .int .i64 g2, .int .i64 g3, .int .i64 g4, .int .i64 g5, .int .i64 g6, .int .i64 g7] L a2 c2 L := fun v k => by rw [hCL] at k; exact k
          have to_ : Hid (∀ v, PB w v p0 h b [.int .u8 0, .string ⟨yk.toArray⟩, .int .i64 ya, .int .i64 yn, .string ⟨xk.toArray⟩, .int .i64 xs, .int .i64 g0, .int .i64 g1', .int .i64 g2, .int .i64 g3, .int .i64 g4, .int .i64 g5, .int .i64 g6, .int .i64 g7] L a2 c2 L → CL v) := hide fun v k => by rw [hCL]; exact k
          have base : CL wf.drew := unhide to_ _ (unhide PBH).drew
          have UN := hide un
          have qh : ∀ q : SW CL, q.w.cell? ⟨h, 0, none⟩ = some (.slice a2 L.length c2) := fun q => (un _ q.ok).rh.cell 0 (Nat.succ_pos _)
          have qk : ∀ q : SW CL, q.w.cell? ⟨b, 1, none⟩ = some (.string ⟨yk.toArray⟩) := fun q => (un _ q.ok).rb.cell 1 (by simp)
          have sLEN := hide (fun q : SW CL => (un _ q.ok).len)
          have sK := hide (fun v => key_any yk v)
          have sR := hide (fun v => rkey_any yk v)
          have CALL := hide ((unhide PBH).drew.all (unhide HM))
          clear hCL un
          generalize keyOk yk = ko at *
          go_upto_region 28 with fail
          refine wp_region_chain (S := CL) [true, true, true, true, true, true, true, true, true, true, true, true, true, true, true, true, true, true, true, true, true, true, false, true, true, false, false, false] [false, false, false, false, false, false, false, false, false, false, false, false, false, false, false, false, false, false, false, false, false, false, true, false, false, true, true, true] (by kernel_rfl) (by kernel_rfl) (by kernel_rfl) base ?_
          apply Exists.intro
          apply And.intro
          · intro q
            have n0 : Nonempty (SK CL q.w) := ⟨⟨q, rfl⟩⟩
            simp only [pickM]
            repeat (go_big_quiet_step (first | (go_at_call 21; exact (unhide sLEN _).mono fun e w' ⟨he, hw⟩ => ⟨he, _, hw⟩) | (go_at_call 22; exact (unhide sK _).mono fun e w' ⟨he, hw⟩ => ⟨he, _, hw⟩) | (go_at_call 23; exact (unhide sR _).mono fun e w' ⟨he, hw⟩ => ⟨he, _, hw⟩)))
            exact wpQuiet_nil rfl
          · simp only [pickZ]
            refine chain_call_on 24 #[.pointer (some ⟨p0, 0, none⟩)] rfl (by simp [go_sem]) ?_
            refine (unhide CALL).mono ?_
            rintro e v3 ⟨a3, c3, rfl, hr3, hp3⟩
            refine ⟨_, rfl, unhide to_ _ hp3, ?_⟩
            have SM := hide (same_self (c := c3) (d := c2) (outs_lay hr3 (Nat.le_trans (unhide HM).most (by omega))) (outs_lay hp3.row (Nat.le_trans (unhide HM).most (by omega))))
            have HP3 := hide hp3
            clear hr3 hp3 CALL qh qk sLEN sK sR
            go_simp
            refine chain_call_on 18 #[.slice a3 L.length c3, .slice a2 L.length c2] rfl (by simp [go_sem]) ?_
            refine (unhide SM).mono ?_
            rintro e v4 ⟨rfl, hb⟩
            have HP4 := hide ((unhide HP3).below hb)
            clear hb HP3 SM
            refine ⟨_, rfl, unhide to_ _ (unhide HP4), ?_⟩
            go_simp
            refine chain_step_on (.bool false) v4 rfl (by simp [go_sem]) (unhide to_ _ (unhide HP4)) ?_
            go_simp
            refine chain_step_on (.bool false) v4 rfl (by simp [go_sem]) (unhide to_ _ (unhide HP4)) ?_
            simp only [chainM]
            clear base UN to_
            go_simp
            go_wp2_with fail
            exact ⟨⟨k + 1, rfl, by omega, a2, c2, by rw [unhide HS1]; exact (unhide HP4).end_, by rw [unhide HS1]; exact unhide HM, by rw [unhide HS1]; exact unhide HG⟩, by simp [intOf]; omega⟩
        · have n0 : ¬ (yd : Int) = 0 := by omega
          by_cases e1 : yd = 1
          · subst e1
            have hact : Hid (actS SO l ⟨1, yk, ya, yn, ⟨xk, xs, ⟨g0, g1', g2, g3, g4, g5, g6, g7⟩⟩⟩ = (setS SO l ⟨xk, xs, ⟨g0, g1', g2, g3, g4, g5, g6, g7⟩⟩).1) := hide rfl
            rw [unhide hact] at HM HG HS1
            have HCS := hide ((unhide PBW).set (unhide HMM) ⟨xk, xs, ⟨g0, g1', g2, g3, g4, g5, g6, g7⟩⟩ (unhide HOK).outa ⟨(unhide HOK).outk, (unhide HOK).outs⟩)
            simp only [outV_eq] at HCS
            have RO := hide (act_out (unhide PBW).rb)
            go_upto_region 16 with (refine wpList_load_on rfl 34 (.tmp 55) rfl b 4 rfl [.string ⟨xk.toArray⟩, .int .i64 xs, .int .i64 g0, .int .i64 g1', .int .i64 g2, .int .i64 g3, .int .i64 g4, .int .i64 g5, .int .i64 g6, .int .i64 g7] _ (unhide RO) Try.underlying34 rfl (by kernel_rfl) ?_)
            refine (unhide HCS).mono ?_
            rintro e v1 ⟨rfl, hp⟩
            have PV := hide hp
            have RO1 := hide (act_out hp.rb)
            clear hp HCS PBW W1c0 W1c1 W1c2 W1c3 RO
            have HRP := hide (rset_any (unhide PV).row (unhide PV).hlt (unhide HGG) ⟨xk, xs, ⟨g0, g1', g2, g3, g4, g5, g6, g7⟩⟩ (unhide HOK).outa)
            simp only [outV_eq] at HRP
            have RG := hide (unhide PV).rh.range
            go_upto_region 28 with (first | (refine wpList_load_on rfl 29 (.tmp 4) rfl h 0 rfl [.slice ad l.length cd] _ (unhide RG) Try.underlying29 rfl (by kernel_rfl) ?_) | (refine wpList_load_on rfl 34 (.tmp 60) rfl b 4 rfl [.string ⟨xk.toArray⟩, .int .i64 xs, .int .i64 g0, .int .i64 g1', .int .i64 g2, .int .i64 g3, .int .i64 g4, .int .i64 g5, .int .i64 g6, .int .i64 g7] _ (unhide RO1) Try.underlying34 rfl (by kernel_rfl) ?_))
            refine (unhide HRP).mono ?_
            rintro e v2 ⟨a2, c2, rfl, hrow, hown, hb⟩
            obtain ⟨wf, hwf, hpb, hmf⟩ := (unhide PV).doc hb hrow hown
            have TH := hide (((unhide PV).below hb).rh.there)
            have HWF := hide hwf
            have PBH := hide hpb
            clear hwf hpb hmf hrow hown hb HRP RG PV RO1
            obtain ⟨L, hL⟩ : ∃ L, L = (setS SO l ⟨xk, xs, ⟨g0, g1', g2, g3, g4, g5, g6, g7⟩⟩).1 := ⟨_, rfl⟩
            rw [← hL] at HM HG HS1
            rw [← hL] at HWF PBH
            obtain ⟨ec, hec⟩ : ∃ ec : Int, ec = ((setS SO l ⟨xk, xs, ⟨g0, g1', g2, g3, g4, g5, g6, g7⟩⟩).2 : Int) := ⟨_, rfl⟩
            rw [← hec, ← hL]
            clear hec hL hact
            go_upto_region 28 with (refine wpList_store_mid rfl 29 (.tmp 4) (.tmp 63) rfl h 0 #[.slice a2 L.length c2] rfl rfl (unhide TH) (by kernel_rfl) (by simp [Value.oneCell']) ?_; change wpList _ _ _ _ _ (World.setCells _ h 0 [.slice a2 L.length c2]); rw [unhide HWF])
            obtain ⟨CL, hCL⟩ : ∃ CL : World → Prop, CL = fun v => PB w v p0 h b [.int .u8 1, .string ⟨yk.toArray⟩, .int .i64 ya, .int .i64 yn, .string ⟨xk.toArray⟩, .int .i64 xs, .int .i64 g0, .int .i64 g1', .int .i64 g2, .int .i64 g3, .int .i64 g4, .int .i64 g5, .int .i64 g6, .int .i64 g7] L a2 c2 L := ⟨_, rfl⟩
            have un : ∀ v, CL v → PB w v p0 h b [.int .u8 1, .string ⟨yk.toArray⟩, .int .i64 ya, .int .i64 yn, .string ⟨xk.toArray⟩, .int .i64 xs, .int .i64 g0, .int .i64 g1', .int .i64 g2, .int .i64 g3, .int .i64 g4, .int .i64 g5, .int .i64 g6, .int .i64 g7] L a2 c2 L := fun v k => by rw [hCL] at k; exact k
            have to_ : Hid (∀ v, PB w v p0 h b [.int .u8 1, .string ⟨yk.toArray⟩, .int .i64 ya, .int .i64 yn, .string ⟨xk.toArray⟩, .int .i64 xs, .int .i64 g0, .int .i64 g1', .int .i64 g2, .int .i64 g3, .int .i64 g4, .int .i64 g5, .int .i64 g6, .int .i64 g7] L a2 c2 L → CL v) := hide fun v k => by rw [hCL]; exact k
            have base : CL wf.drew := unhide to_ _ (unhide PBH).drew
            have UN := hide un
            have qh : ∀ q : SW CL, q.w.cell? ⟨h, 0, none⟩ = some (.slice a2 L.length c2) := fun q => (un _ q.ok).rh.cell 0 (Nat.succ_pos _)
            have qk : ∀ q : SW CL, q.w.cell? ⟨b, 1, none⟩ = some (.string ⟨yk.toArray⟩) := fun q => (un _ q.ok).rb.cell 1 (by simp)
            have sLEN := hide (fun q : SW CL => (un _ q.ok).len)
            have sK := hide (fun v => key_any yk v)
            have sR := hide (fun v => rkey_any yk v)
            have CALL := hide ((unhide PBH).drew.all (unhide HM))
            clear hCL un
            generalize keyOk yk = ko at *
            go_upto_region 28 with fail
            refine wp_region_chain (S := CL) [true, true, true, true, true, true, true, true, true, true, true, true, true, true, true, true, true, true, true, true, true, true, false, true, true, false, false, false] [false, false, false, false, false, false, false, false, false, false, false, false, false, false, false, false, false, false, false, false, false, false, true, false, false, true, true, true] (by kernel_rfl) (by kernel_rfl) (by kernel_rfl) base ?_
            apply Exists.intro
            apply And.intro
            · intro q
              have n0 : Nonempty (SK CL q.w) := ⟨⟨q, rfl⟩⟩
              simp only [pickM]
              repeat (go_big_quiet_step (first | (go_at_call 21; exact (unhide sLEN _).mono fun e w' ⟨he, hw⟩ => ⟨he, _, hw⟩) | (go_at_call 22; exact (unhide sK _).mono fun e w' ⟨he, hw⟩ => ⟨he, _, hw⟩) | (go_at_call 23; exact (unhide sR _).mono fun e w' ⟨he, hw⟩ => ⟨he, _, hw⟩)))
              exact wpQuiet_nil rfl
            · simp only [pickZ]
              refine chain_call_on 24 #[.pointer (some ⟨p0, 0, none⟩)] rfl (by simp [go_sem]) ?_
              refine (unhide CALL).mono ?_
              rintro e v3 ⟨a3, c3, rfl, hr3, hp3⟩
              refine ⟨_, rfl, unhide to_ _ hp3, ?_⟩
              have SM := hide (same_self (c := c3) (d := c2) (outs_lay hr3 (Nat.le_trans (unhide HM).most (by omega))) (outs_lay hp3.row (Nat.le_trans (unhide HM).most (by omega))))
              have HP3 := hide hp3
              clear hr3 hp3 CALL qh qk sLEN sK sR
              go_simp
              refine chain_call_on 18 #[.slice a3 L.length c3, .slice a2 L.length c2] rfl (by simp [go_sem]) ?_
              refine (unhide SM).mono ?_
              rintro e v4 ⟨rfl, hb⟩
              have HP4 := hide ((unhide HP3).below hb)
              clear hb HP3 SM
              refine ⟨_, rfl, unhide to_ _ (unhide HP4), ?_⟩
              go_simp
              refine chain_step_on (.bool false) v4 rfl (by simp [go_sem]) (unhide to_ _ (unhide HP4)) ?_
              go_simp
              refine chain_step_on (.bool false) v4 rfl (by simp [go_sem]) (unhide to_ _ (unhide HP4)) ?_
              simp only [chainM]
              clear base UN to_
              go_simp
              go_wp2_with fail
              exact ⟨⟨k + 1, rfl, by omega, a2, c2, by rw [unhide HS1]; exact (unhide HP4).end_, by rw [unhide HS1]; exact unhide HM, by rw [unhide HS1]; exact unhide HG⟩, by simp [intOf]; omega⟩
          · have n1 : ¬ (yd : Int) = 1 := by omega
            by_cases e2 : yd = 2
            · subst e2
              have hact : Hid (actS SO l ⟨2, yk, ya, yn, ⟨xk, xs, ⟨g0, g1', g2, g3, g4, g5, g6, g7⟩⟩⟩ = (takeS SO l ya).1) := hide rfl
              rw [unhide hact] at HM HG HS1
              have HCS := hide ((unhide PBW).take (unhide HMM) ya)
              go_upto_region 20 with fail
              refine (unhide HCS).mono ?_
              rintro e v1 ⟨a1, c1, rfl, hr1, hp, hsz⟩
              have PV := hide hp
              have HW1 := hide (Nat.le_trans (unhide PBW).hlt (Nat.le_refl _))
              have HR1 := hide hr1
              have v11 : v1.cell? ⟨b, 1, none⟩ = some (.string ⟨yk.toArray⟩) := hp.rb.cell 1 (by simp)
              have v12 : v1.cell? ⟨b, 2, none⟩ = some (.int .i64 ya) := hp.rb.cell 2 (by simp)
              have v13 : v1.cell? ⟨b, 3, none⟩ = some (.int .i64 yn) := hp.rb.cell 3 (by simp)
              clear hp hr1 hsz HCS PBW W1c0 W1c1 W1c2 W1c3
              have HRP := hide (rtake_any (unhide PV).row (Nat.le_trans (unhide HMM).most (by omega)) ya)
              have RG := hide (unhide PV).rh.range
              go_upto_region 21 with (refine wpList_load_on rfl 29 (.tmp 4) rfl h 0 rfl [.slice ad l.length cd] _ (unhide RG) Try.underlying29 rfl (by kernel_rfl) ?_)
              refine (unhide HRP).mono ?_
              rintro e v2 ⟨a2, c2, a4, c4, rfl, hrow, hrow4, hb⟩
              obtain ⟨wf, hwf, hpb, hmf⟩ := (unhide PV).doc hb (row_mono hrow (unhide PV).hlt) (fun j hj => .inr (row_lt hrow j hj).1)
              have TH := hide (((unhide PV).below hb).rh.there)
              have HWF := hide hwf
              have PBH := hide hpb
              have ho : (takeS SO l ya).2.length ≤ 1000 := by have h1 := take_len (O := SO) l ya; have h2 := (unhide HMM).most; omega
              have SAME := hide (same_self (c := c1) (d := c4) (outs_lay (row_moved (row_below (unhide HR1) hb) hmf (fun i hi j hj => by have := (row_lt (unhide HR1) j hj).1; have := unhide HW1; omega)) ho) (outs_lay (row_moved hrow4 hmf (fun i hi j hj => by have := (row_lt hrow4 j hj).1; have := (unhide PV).hlt; omega)) ho))
              clear hwf hpb hmf hrow hrow4 hb HRP RG PV HR1 HW1 v11 v12 v13 ho
              obtain ⟨L, hL⟩ : ∃ L, L = (takeS SO l ya).1 := ⟨_, rfl⟩
              rw [← hL] at HM HG HS1
              rw [← hL] at HWF PBH
              generalize (takeS SO l ya).2.length = no at *
              rw [← hL]
              clear hL hact
              go_upto_region 21 with (refine wpList_store_mid rfl 29 (.tmp 4) (.tmp 76) rfl h 0 #[.slice a2 L.length c2] rfl rfl (unhide TH) (by kernel_rfl) (by simp [Value.oneCell']) ?_; change wpList _ _ _ _ _ (World.setCells _ h 0 [.slice a2 L.length c2]); rw [unhide HWF])
              go_upto_region 28 with fail
              refine (unhide SAME).mono ?_
              rintro e wg ⟨rfl, hb⟩
              have PBG := hide ((unhide PBH).below hb)
              clear hb PBH SAME HWF TH
              obtain ⟨CL, hCL⟩ : ∃ CL : World → Prop, CL = fun v => PB w v p0 h b [.int .u8 2, .string ⟨yk.toArray⟩, .int .i64 ya, .int .i64 yn, .string ⟨xk.toArray⟩, .int .i64 xs, .int .i64 g0, .int .i64 g1', .int .i64 g2, .int .i64 g3, .int .i64 g4, .int .i64 g5, .int .i64 g6, .int .i64 g7] L a2 c2 L := ⟨_, rfl⟩
              have un : ∀ v, CL v → PB w v p0 h b [.int .u8 2, .string ⟨yk.toArray⟩, .int .i64 ya, .int .i64 yn, .string ⟨xk.toArray⟩, .int .i64 xs, .int .i64 g0, .int .i64 g1', .int .i64 g2, .int .i64 g3, .int .i64 g4, .int .i64 g5, .int .i64 g6, .int .i64 g7] L a2 c2 L := fun v k => by rw [hCL] at k; exact k
              have to_ : Hid (∀ v, PB w v p0 h b [.int .u8 2, .string ⟨yk.toArray⟩, .int .i64 ya, .int .i64 yn, .string ⟨xk.toArray⟩, .int .i64 xs, .int .i64 g0, .int .i64 g1', .int .i64 g2, .int .i64 g3, .int .i64 g4, .int .i64 g5, .int .i64 g6, .int .i64 g7] L a2 c2 L → CL v) := hide fun v k => by rw [hCL]; exact k
              have base : CL wg.drew := unhide to_ _ (unhide PBG).drew
              have UN := hide un
              have qh : ∀ q : SW CL, q.w.cell? ⟨h, 0, none⟩ = some (.slice a2 L.length c2) := fun q => (un _ q.ok).rh.cell 0 (Nat.succ_pos _)
              have qk : ∀ q : SW CL, q.w.cell? ⟨b, 1, none⟩ = some (.string ⟨yk.toArray⟩) := fun q => (un _ q.ok).rb.cell 1 (by simp)
              have sLEN := hide (fun q : SW CL => (un _ q.ok).len)
              have sK := hide (fun v => key_any yk v)
              have sR := hide (fun v => rkey_any yk v)
              have CALL := hide ((unhide PBG).drew.all (unhide HM))
              clear hCL un
              generalize keyOk yk = ko at *
              go_upto_region 28 with fail
              refine wp_region_chain (S := CL) [true, true, true, true, true, true, true, true, true, true, true, true, true, true, true, true, true, true, true, true, true, true, false, true, true, false, false, false] [false, false, false, false, false, false, false, false, false, false, false, false, false, false, false, false, false, false, false, false, false, false, true, false, false, true, true, true] (by kernel_rfl) (by kernel_rfl) (by kernel_rfl) base ?_
              apply Exists.intro
              apply And.intro
              · intro q
                have n0 : Nonempty (SK CL q.w) := ⟨⟨q, rfl⟩⟩
                simp only [pickM]
                repeat (go_big_quiet_step (first | (go_at_call 21; exact (unhide sLEN _).mono fun e w' ⟨he, hw⟩ => ⟨he, _, hw⟩) | (go_at_call 22; exact (unhide sK _).mono fun e w' ⟨he, hw⟩ => ⟨he, _, hw⟩) | (go_at_call 23; exact (unhide sR _).mono fun e w' ⟨he, hw⟩ => ⟨he, _, hw⟩)))
                exact wpQuiet_nil rfl
              · simp only [pickZ]
                refine chain_call_on 24 #[.pointer (some ⟨p0, 0, none⟩)] rfl (by simp [go_sem]) ?_
                refine (unhide CALL).mono ?_
                rintro e v3 ⟨a3, c3, rfl, hr3, hp3⟩
                refine ⟨_, rfl, unhide to_ _ hp3, ?_⟩
                have SM := hide (same_self (c := c3) (d := c2) (outs_lay hr3 (Nat.le_trans (unhide HM).most (by omega))) (outs_lay hp3.row (Nat.le_trans (unhide HM).most (by omega))))
                have HP3 := hide hp3
                clear hr3 hp3 CALL qh qk sLEN sK sR
                go_simp
                refine chain_call_on 18 #[.slice a3 L.length c3, .slice a2 L.length c2] rfl (by simp [go_sem]) ?_
                refine (unhide SM).mono ?_
                rintro e v4 ⟨rfl, hb⟩
                have HP4 := hide ((unhide HP3).below hb)
                clear hb HP3 SM
                refine ⟨_, rfl, unhide to_ _ (unhide HP4), ?_⟩
                go_simp
                refine chain_step_on (.bool false) v4 rfl (by simp [go_sem]) (unhide to_ _ (unhide HP4)) ?_
                go_simp
                refine chain_step_on (.bool false) v4 rfl (by simp [go_sem]) (unhide to_ _ (unhide HP4)) ?_
                simp only [chainM]
                clear base UN to_
                go_simp
                go_wp2_with fail
                exact ⟨⟨k + 1, rfl, by omega, a2, c2, by rw [unhide HS1]; exact (unhide HP4).end_, by rw [unhide HS1]; exact unhide HM, by rw [unhide HS1]; exact unhide HG⟩, by simp [intOf]; omega⟩
            · have n2 : ¬ (yd : Int) = 2 := by omega
              by_cases e3 : yd = 3
              · subst e3
                have hact : Hid (actS SO l ⟨3, yk, ya, yn, ⟨xk, xs, ⟨g0, g1', g2, g3, g4, g5, g6, g7⟩⟩⟩ = l) := hide rfl
                rw [unhide hact] at HM HG HS1
                have HCS := hide ((unhide PBW).get (key := yk) (s := ya) ⟨(unhide HOK).key, (unhide HOK).at_⟩)
                go_upto_region 25 with fail
                refine (unhide HCS).mono ?_
                rintro e v1 ⟨rfl, hp⟩
                obtain ⟨x, hx⟩ : ∃ x, x = (look l yk ya).getD zero := ⟨_, rfl⟩
                obtain ⟨op, hop⟩ : ∃ op, op = (look l yk ya).isSome := ⟨_, rfl⟩
                rw [← hx, ← hop]
                obtain ⟨v2, hu, hr2, hmf, hth⟩ := keep_row v1 32 [.int .i64 0, .int .i64 0, .int .i64 0, .int .i64 0, .int .i64 0, .int .i64 0, .int .i64 0, .int .i64 0] (cellsA x) rfl
                have hm0 := hmf.below (fun _ f => f.elim) (Nat.le_refl _)
                have PV := hide (hp.below hm0)
                have v21 : v2.cell? ⟨b, 1, none⟩ = some (.string ⟨yk.toArray⟩) := (unhide PV).rb.cell 1 (by simp)
                have v22 : v2.cell? ⟨b, 2, none⟩ = some (.int .i64 ya) := (unhide PV).rb.cell 2 (by simp)
                have U := hide hu
                have T := hide hth
                have R2 := hide hr2
                have LT2 := hide hr2.lt
                clear hp HCS PBW W1c0 W1c1 W1c2 W1c3 hu hr2 hmf hth hm0
                have HRP := hide (rget_any (unhide PV).row (unhide HGG) yk ya (Nat.le_trans (unhide HSH) (by omega)))
                rw [← hx, ← hop] at HRP
                have RG := hide (unhide PV).rh.range
                clear hx hop
                go_upto_region 25 with (refine wpList_store_mid rfl 32 (.tmp 11) (.tmp 91) rfl v1.heap.size 0 (cellsA x).toArray rfl rfl (unhide T) (by kernel_rfl) (by simp [Value.oneCell', cellsA, I]) ?_; change wpList _ _ _ _ _ (World.setCells _ v1.heap.size 0 (cellsA x)); rw [unhide U])
                generalize v1.heap.size = q1 at *
                go_upto_region 26 with (refine wpList_load_on rfl 29 (.tmp 4) rfl h 0 rfl [.slice ad l.length cd] _ (unhide RG) Try.underlying29 rfl (by kernel_rfl) ?_)
                refine (unhide HRP).mono ?_
                rintro e v3 ⟨rfl, hb⟩
                obtain ⟨v4, hu, hr4, hmf, hth⟩ := keep_row v3 32 [.int .i64 0, .int .i64 0, .int .i64 0, .int .i64 0, .int .i64 0, .int .i64 0, .int .i64 0, .int .i64 0] (cellsA x) rfl
                have hm0 := hmf.below (fun _ f => f.elim) (Nat.le_refl _)
                have PBH := hide (((unhide PV).below hb).below hm0)
                have RA := hide (((unhide R2).below hb).below hm0).range
                have RB := hide hr4.range
                have U4 := hide hu
                have T4 := hide hth
                clear hu hr4 hmf hth hm0 hb PV HRP RG U T R2 LT2 v21 v22
                go_upto_region 26 with (refine wpList_store_mid rfl 32 (.tmp 13) (.tmp 100) rfl v3.heap.size 0 (cellsA x).toArray rfl rfl (unhide T4) (by kernel_rfl) (by simp [Value.oneCell', cellsA, I]) ?_; change wpList _ _ _ _ _ (World.setCells _ v3.heap.size 0 (cellsA x)); rw [unhide U4])
                generalize v3.heap.size = q2 at *
                clear U4 T4 hact
                go_upto_region 28 with (first | (refine wpList_load_aggv rfl 32 (.tmp 11) rfl q1 0 rfl x _ (unhide RA) Try.underlying32 rfl (by kernel_rfl) ?_) | (refine wpList_load_aggv rfl 32 (.tmp 13) rfl q2 0 rfl x _ (unhide RB) Try.underlying32 rfl (by kernel_rfl) ?_))
                clear RA RB
                obtain ⟨L, hL⟩ : ∃ L, L = l := ⟨_, rfl⟩
                rw [← hL] at HM HG HS1 PBH
                clear hL
                obtain ⟨CL, hCL⟩ : ∃ CL : World → Prop, CL = fun v => PB w v p0 h b [.int .u8 3, .string ⟨yk.toArray⟩, .int .i64 ya, .int .i64 yn, .string ⟨xk.toArray⟩, .int .i64 xs, .int .i64 g0, .int .i64 g1', .int .i64 g2, .int .i64 g3, .int .i64 g4, .int .i64 g5, .int .i64 g6, .int .i64 g7] L ad cd L := ⟨_, rfl⟩
                have un : ∀ v, CL v → PB w v p0 h b [.int .u8 3, .string ⟨yk.toArray⟩, .int .i64 ya, .int .i64 yn, .string ⟨xk.toArray⟩, .int .i64 xs, .int .i64 g0, .int .i64 g1', .int .i64 g2, .int .i64 g3, .int .i64 g4, .int .i64 g5, .int .i64 g6, .int .i64 g7] L ad cd L := fun v k => by rw [hCL] at k; exact k
                have to_ : Hid (∀ v, PB w v p0 h b [.int .u8 3, .string ⟨yk.toArray⟩, .int .i64 ya, .int .i64 yn, .string ⟨xk.toArray⟩, .int .i64 xs, .int .i64 g0, .int .i64 g1', .int .i64 g2, .int .i64 g3, .int .i64 g4, .int .i64 g5, .int .i64 g6, .int .i64 g7] L ad cd L → CL v) := hide fun v k => by rw [hCL]; exact k
                have base : CL v4.drew := unhide to_ _ (unhide PBH).drew
                have UN := hide un
                have qh : ∀ q : SW CL, q.w.cell? ⟨h, 0, none⟩ = some (.slice ad L.length cd) := fun q => (un _ q.ok).rh.cell 0 (Nat.succ_pos _)
                have qk : ∀ q : SW CL, q.w.cell? ⟨b, 1, none⟩ = some (.string ⟨yk.toArray⟩) := fun q => (un _ q.ok).rb.cell 1 (by simp)
                have sLEN := hide (fun q : SW CL => (un _ q.ok).len)
                have sK := hide (fun v => key_any yk v)
                have sR := hide (fun v => rkey_any yk v)
                have CALL := hide ((unhide PBH).drew.all (unhide HM))
                clear hCL un
                generalize keyOk yk = ko at *
                go_upto_region 28 with fail
                refine wp_region_chain (S := CL) [true, true, true, true, true, true, true, true, true, true, true, true, true, true, true, true, true, true, true, true, true, true, false, true, true, false, false, false] [false, false, false, false, false, false, false, false, false, false, false, false, false, false, false, false, false, false, false, false, false, false, true, false, false, true, true, true] (by kernel_rfl) (by kernel_rfl) (by kernel_rfl) base ?_
                apply Exists.intro
                apply And.intro
                · intro q
                  have n0 : Nonempty (SK CL q.w) := ⟨⟨q, rfl⟩⟩
                  simp only [pickM]
                  repeat (go_big_quiet_step (first | (go_at_call 21; exact (unhide sLEN _).mono fun e w' ⟨he, hw⟩ => ⟨he, _, hw⟩) | (go_at_call 22; exact (unhide sK _).mono fun e w' ⟨he, hw⟩ => ⟨he, _, hw⟩) | (go_at_call 23; exact (unhide sR _).mono fun e w' ⟨he, hw⟩ => ⟨he, _, hw⟩)))
                  exact wpQuiet_nil rfl
                · simp only [pickZ]
                  refine chain_call_on 24 #[.pointer (some ⟨p0, 0, none⟩)] rfl (by simp [go_sem]) ?_
                  refine (unhide CALL).mono ?_
                  rintro e v3 ⟨a3, c3, rfl, hr3, hp3⟩
                  refine ⟨_, rfl, unhide to_ _ hp3, ?_⟩
                  have SM := hide (same_self (c := c3) (d := cd) (outs_lay hr3 (Nat.le_trans (unhide HM).most (by omega))) (outs_lay hp3.row (Nat.le_trans (unhide HM).most (by omega))))
                  have HP3 := hide hp3
                  clear hr3 hp3 CALL qh qk sLEN sK sR
                  go_simp
                  refine chain_call_on 18 #[.slice a3 L.length c3, .slice ad L.length cd] rfl (by simp [go_sem]) ?_
                  refine (unhide SM).mono ?_
                  rintro e v4 ⟨rfl, hb⟩
                  have HP4 := hide ((unhide HP3).below hb)
                  clear hb HP3 SM
                  refine ⟨_, rfl, unhide to_ _ (unhide HP4), ?_⟩
                  go_simp
                  refine chain_step_on (.bool false) v4 rfl (by simp [go_sem]) (unhide to_ _ (unhide HP4)) ?_
                  go_simp
                  refine chain_step_on (.bool false) v4 rfl (by simp [go_sem]) (unhide to_ _ (unhide HP4)) ?_
                  simp only [chainM]
                  clear base UN to_
                  go_simp
                  go_wp2_with fail
                  exact ⟨⟨k + 1, rfl, by omega, ad, cd, by rw [unhide HS1]; exact (unhide HP4).end_, by rw [unhide HS1]; exact unhide HM, by rw [unhide HS1]; exact unhide HG⟩, by simp [intOf]; omega⟩
              · have n3 : ¬ (yd : Int) = 3 := by omega
                have hact : Hid (actS SO l ⟨yd, yk, ya, yn, ⟨xk, xs, ⟨g0, g1', g2, g3, g4, g5, g6, g7⟩⟩⟩ = l) := hide (by unfold actS; rw [if_neg e0, if_neg e1, if_neg e2])
                rw [unhide hact] at HM HG HS1
                clear hact
                go_upto_region 28 with fail
                obtain ⟨L, hL⟩ : ∃ L, L = l := ⟨_, rfl⟩
                rw [← hL] at HM HG HS1 PBW
                clear hL W1c0 W1c1 W1c2 W1c3
                obtain ⟨CL, hCL⟩ : ∃ CL : World → Prop, CL = fun v => PB w v p0 h b [.int .u8 (yd : Int), .string ⟨yk.toArray⟩, .int .i64 ya, .int .i64 yn, .string ⟨xk.toArray⟩, .int .i64 xs, .int .i64 g0, .int .i64 g1', .int .i64 g2, .int .i64 g3, .int .i64 g4, .int .i64 g5, .int .i64 g6, .int .i64 g7] L ad cd L := ⟨_, rfl⟩
                have un : ∀ v, CL v → PB w v p0 h b [.int .u8 (yd : Int), .string ⟨yk.toArray⟩, .int .i64 ya, .int .i64 yn, .string ⟨xk.toArray⟩, .int .i64 xs, .int .i64 g0, .int .i64 g1', .int .i64 g2, .int .i64 g3, .int .i64 g4, .int .i64 g5, .int .i64 g6, .int .i64 g7] L ad cd L := fun v k => by rw [hCL] at k; exact k
                have to_ : Hid (∀ v, PB w v p0 h b [.int .u8 (yd : Int), .string ⟨yk.toArray⟩, .int .i64 ya, .int .i64 yn, .string ⟨xk.toArray⟩, .int .i64 xs, .int .i64 g0, .int .i64 g1', .int .i64 g2, .int .i64 g3, .int .i64 g4, .int .i64 g5, .int .i64 g6, .int .i64 g7] L ad cd L → CL v) := hide fun v k => by rw [hCL]; exact k
                have base : CL W1.drew := unhide to_ _ (unhide PBW).drew
                have UN := hide un
                have qh : ∀ q : SW CL, q.w.cell? ⟨h, 0, none⟩ = some (.slice ad L.length cd) := fun q => (un _ q.ok).rh.cell 0 (Nat.succ_pos _)
                have qk : ∀ q : SW CL, q.w.cell? ⟨b, 1, none⟩ = some (.string ⟨yk.toArray⟩) := fun q => (un _ q.ok).rb.cell 1 (by simp)
                have sLEN := hide (fun q : SW CL => (un _ q.ok).len)
                have sK := hide (fun v => key_any yk v)
                have sR := hide (fun v => rkey_any yk v)
                have CALL := hide ((unhide PBW).drew.all (unhide HM))
                clear hCL un
                generalize keyOk yk = ko at *
                go_upto_region 28 with fail
                refine wp_region_chain (S := CL) [true, true, true, true, true, true, true, true, true, true, true, true, true, true, true, true, true, true, true, true, true, true, false, true, true, false, false, false] [false, false, false, false, false, false, false, false, false, false, false, false, false, false, false, false, false, false, false, false, false, false, true, false, false, true, true, true] (by kernel_rfl) (by kernel_rfl) (by kernel_rfl) base ?_
                apply Exists.intro
                apply And.intro
                · intro q
                  have n0 : Nonempty (SK CL q.w) := ⟨⟨q, rfl⟩⟩
                  simp only [pickM]
                  repeat (go_big_quiet_step (first | (go_at_call 21; exact (unhide sLEN _).mono fun e w' ⟨he, hw⟩ => ⟨he, _, hw⟩) | (go_at_call 22; exact (unhide sK _).mono fun e w' ⟨he, hw⟩ => ⟨he, _, hw⟩) | (go_at_call 23; exact (unhide sR _).mono fun e w' ⟨he, hw⟩ => ⟨he, _, hw⟩)))
                  exact wpQuiet_nil rfl
                · simp only [pickZ]
                  refine chain_call_on 24 #[.pointer (some ⟨p0, 0, none⟩)] rfl (by simp [go_sem]) ?_
                  refine (unhide CALL).mono ?_
                  rintro e v3 ⟨a3, c3, rfl, hr3, hp3⟩
                  refine ⟨_, rfl, unhide to_ _ hp3, ?_⟩
                  have SM := hide (same_self (c := c3) (d := cd) (outs_lay hr3 (Nat.le_trans (unhide HM).most (by omega))) (outs_lay hp3.row (Nat.le_trans (unhide HM).most (by omega))))
                  have HP3 := hide hp3
                  clear hr3 hp3 CALL qh qk sLEN sK sR
                  go_simp
                  refine chain_call_on 18 #[.slice a3 L.length c3, .slice ad L.length cd] rfl (by simp [go_sem]) ?_
                  refine (unhide SM).mono ?_
                  rintro e v4 ⟨rfl, hb⟩
                  have HP4 := hide ((unhide HP3).below hb)
                  clear hb HP3 SM
                  refine ⟨_, rfl, unhide to_ _ (unhide HP4), ?_⟩
                  go_simp
                  refine chain_step_on (.bool false) v4 rfl (by simp [go_sem]) (unhide to_ _ (unhide HP4)) ?_
                  go_simp
                  refine chain_step_on (.bool false) v4 rfl (by simp [go_sem]) (unhide to_ _ (unhide HP4)) ?_
                  simp only [chainM]
                  clear base UN to_
                  go_simp
                  go_wp2_with fail
                  exact ⟨⟨k + 1, rfl, by omega, ad, cd, by rw [unhide HS1]; exact (unhide HP4).end_, by rw [unhide HS1]; exact unhide HM, by rw [unhide HS1]; exact unhide HG⟩, by simp [intOf]; omega⟩
      · have g1 : ¬ (k : Int) < (len : Int) := by omega
        have BW := hide (unhide HPR).bel
        clear HPR
        go_wp2_with fail
        refine (unhide WK _).mono ?_
        rintro e v' ⟨rfl, hb⟩
        go_wp2_with fail
        go_ret
        exact ⟨rfl, (unhide BW).trans (hb.mono (unhide BW).size)⟩
end Go.Proofs.Ytoccgggiaalhdaa

/- SeenQuiet's walk. No conditions. -/
import Derived.Test.YtoofaldblldncaaSames
namespace Go.Proofs.Ytoofaldblldncaa
open Go.RowKit
theorem ask_two {T : Tab} (hT : T.Ok) {src seq low : Int} (h : (ask T src seq low).1 = 2) : ¬ (ask T src seq low).2 = 0 := by
  rcases ask_state T src seq low with ⟨h0, _⟩ | ⟨_, ⟨h0, _⟩ | ⟨_, _, h0⟩ | ⟨h0, _⟩⟩
  · omega
  · omega
  · have := (hT src.toNat).code _ (look_some h0)
    simp only at this
    omega
  · omega
theorem ask_zero (T : Tab) {src seq low : Int} (h : ¬ (ask T src seq low).1 = 2) : (ask T src seq low).2 = 0 := by
  unfold ask at h ⊢
  split
  · rename_i hm
    rw [if_pos hm] at h
    unfold Src.ask at h ⊢
    split
    · rfl
    · rename_i hs
      rw [if_neg hs] at h
      cases hl : look (T src.toNat).codes seq with
      | none => rfl
      | some c => rw [hl] at h; exact absurd rfl h
  · rfl
theorem ask_noted {T : Tab} (hT : T.Ok) {src seq low code : Int} (h : noteE T src seq low code = 0) : ask (note T src seq low code) src seq low = (2, code) := by
  obtain ⟨h1, h2, h3, h4⟩ := noteE_zero.1 h
  have hm := may_iff.1 h1
  have e : note T src seq low code = noted T src seq low code := if_pos h
  rw [e]
  unfold ask noted
  rw [if_pos h1, upd_same]
  have hr := (hT src.toNat).rise
  have hf := ins_rise (q := seq) (c := code) hr
  unfold Src.ask Src.rise_
  by_cases hl : low ≤ ((T src.toNat).keep seq code).low
  · rw [if_pos hl]
    have : ¬ seq < ((T src.toNat).keep seq code).low := by show ¬ seq < (T src.toNat).low; omega
    rw [if_neg this]
    show (match look (ins seq code (T src.toNat).codes) seq with | some c => ((2 : Int), c) | none => (3, 0)) = _
    rw [look_ins hr, if_pos rfl]
  · rw [if_neg hl]
    rw [if_neg (show ¬ seq < low by omega)]
    show (match look ((ins seq code (T src.toNat).codes).filter (fun a => decide (low ≤ a.1))) seq with | some c => ((2 : Int), c) | none => (3, 0)) = _
    rw [look_filter hf (fun q => decide (low ≤ q)), decide_eq_true hm.2.2.2.1, if_pos rfl, look_ins hr, if_pos rfl]
theorem perm3 (a b c : Held) : [a, b, c].Perm [c, a, b] := (List.perm_append_comm (l₁ := [a, b]) (l₂ := [c]))
set_option maxRecDepth 100000 in
set_option maxHeartbeats 4000000 in
theorem quiet0in (a : Option Addr) (cap : Nat) (z : List ActV) (src seq low code : Int) (w : World) (hA : ActK.At w a z) (hn : z.length ≤ 300) (hst : (ask (plays new_ z (-1)) src seq low).1 = 0) (hc1 : 1 ≤ code) (hc2 : code ≤ 4) :
    Calls Try.prog 8 #[.slice a z.length cap, .int .i64 src, .int .i64 seq, .int .i64 low, .int .i64 code] w fun e w' => e = .returned (.bool true) ∧ Below w.heap.size w w' := by
  have hcc : isCode code = true := code_iff.2 ⟨hc1, hc2⟩
  have HE : Hid (noteE (plays new_ z (-1)) src seq low code = 1) := hide (by unfold noteE; rw [hst, hcc]; simp)
  have HSM : Hid (note (plays new_ z (-1)) src seq low code = plays new_ z (-1)) := hide (if_neg (by rw [unhide HE]; decide))
  clear hcc
  have H0 := hide (HR.start w)
  have gz : ¬ (300 : Int) < (z.length : Int) := by omega
  have HA := hide hA
  have HN := hide hn
  clear hA hn
  go_enter Try.func8, Try.ntmps8
  go_wp2_with fail
  refine (HR.new (unhide H0)).mono ?_
  rintro e w1 ⟨p, F1, rfl, h⟩
  have H1 := hide h
  clear h H0
  go_wp2_with fail
  refine (plays_any (unhide H1) new_ok (unhide HA) (by have := unhide HN; omega) (-1)).mono ?_
  rintro e w2 ⟨rfl, F2, h⟩
  obtain ⟨T, hT⟩ : ∃ T, T = plays new_ z (-1) := ⟨_, rfl⟩
  rw [← hT] at h
  have TOK : Hid T.Ok := hide (by rw [hT]; exact plays_ok new_ok _ _)
  have H2 := hide h
  rw [← hT] at hst HE HSM
  clear h hT H1
  go_wp2_with fail
  refine ((unhide H2).all List.mem_cons_self (unhide TOK)).mono ?_
  rintro e w3 ⟨a1, c1, rfl, h⟩
  have H3 := hide h
  clear h H2
  go_wp2_with fail
  refine ((unhide H3).lows (List.mem_cons_of_mem _ List.mem_cons_self)).mono ?_
  rintro e w4 ⟨a2, c2, rfl, h⟩
  have H4 := hide h
  clear h H3
  go_wp2_with fail
  refine ((unhide H4).ask (List.mem_cons_of_mem _ (List.mem_cons_of_mem _ List.mem_cons_self)) src seq low).mono ?_
  rintro e w' ⟨rfl, hw'⟩
  rw [hw', hst, ask_zero T (by rw [hst]; decide)]
  clear hw'
  go_wp2_with fail
  refine ((unhide H4).ask (List.mem_cons_of_mem _ (List.mem_cons_of_mem _ List.mem_cons_self)) src seq low).mono ?_
  rintro e w' ⟨rfl, hw'⟩
  rw [hw', hst, ask_zero T (by rw [hst]; decide)]
  clear hw'
  go_wp2_with fail
  refine ((unhide H4).all (List.mem_cons_of_mem _ (List.mem_cons_of_mem _ List.mem_cons_self)) (unhide TOK)).mono ?_
  rintro e w5 ⟨a3, c3, rfl, h⟩
  have H5 := hide h
  clear h H4
  go_wp2_with fail
  refine (same_any ((unhide H5).row List.mem_cons_self) ((unhide H5).row (List.mem_cons_of_mem _ (List.mem_cons_of_mem _ List.mem_cons_self))) (by have := all_length (unhide TOK); omega)).mono ?_
  rintro e w6 ⟨rfl, hb⟩
  rw [sameL_iff.2 rfl]
  have H6 := hide (((unhide H5).drop1.below hb).perm (perm3 _ _ _))
  clear hb H5
  go_wp2_with fail
  refine ((unhide H6).note (unhide TOK) src seq low code).mono ?_
  rintro e w7 ⟨rfl, F3, h⟩
  rw [unhide HE]
  rw [unhide HSM] at h
  have H7 := hide h
  clear h H6
  go_wp2_with fail
  refine ((unhide H7).lows List.mem_cons_self).mono ?_
  rintro e w8 ⟨a4, c4, rfl, h⟩
  have H8 := hide h
  clear h H7
  go_wp2_with fail
  go_loopw [24] (fun i wr => ∃ k : Nat, i = .int .i64 (k : Int) ∧ k ≤ 4 ∧ HR w wr (hRow IntK a4 c4 (lows T) :: hTab p F3 T :: hRow IntK a2 c2 (lows T) :: hRow EntK a1 c1 (all T) :: [])) (fun i _ => 4 - (intOf i).toNat)
  case atStart => exact ⟨0, rfl, by decide, unhide H8⟩
  case round =>
    obtain ⟨k, rfl, hk, hr⟩ := hrel
    clear H8
    have HH := hide hr
    clear hr
    by_cases hlt : k < 4
    · have g0 : (0 : Int) ≤ (k : Int) := by omega
      have g1 : (k : Int) < 4 := by omega
      have g2 : ¬ (4 : Int) ≤ (k : Int) := by omega
      have g3 : decide ((4 : Int) ≤ (k : Int)) = false := decide_eq_false g2
      have hwk : IntKind.i64.wrap ((k : Int) + 1) = (k : Int) + 1 := Go.IntWalk.i64_in _ (by omega)
      obtain ⟨x, hx⟩ : ∃ x, (lows T)[k]? = some x := ⟨_, List.getElem?_eq_getElem (by rw [lows_length]; omega)⟩
      obtain ⟨g, o, rfl, hg, hrg⟩ := ((unhide HH).row List.mem_cons_self : IntK.At wr a4 (lows T)).cell intK_law hx
      obtain ⟨g', o', rfl, hg', hrg'⟩ := ((unhide HH).row (List.mem_cons_of_mem _ (List.mem_cons_of_mem _ List.mem_cons_self)) : IntK.At wr a2 (lows T)).cell intK_law hx
      have c0 := hrg 0 (.int .i64 x) rfl
      have c0' := hrg' 0 (.int .i64 x) rfl
      simp only [IntK, Nat.mul_one, Nat.add_zero] at c0 c0'
      obtain ⟨CL, hCL⟩ : ∃ CL : World → Prop, CL = fun v => Below wr.heap.size wr v := ⟨_, rfl⟩
      have un : ∀ v, CL v → Below wr.heap.size wr v := fun v k => by rw [hCL] at k; exact k
      have base : CL wr.drew := by rw [hCL]; exact (Below.refl _ _).drew
      have q0 : ∀ q : SX CL, q.w.cell? ⟨g, o + k, none⟩ = some (.int .i64 x) := fun q => ((un _ q.ok).cell (p := ⟨g, o + k, none⟩) hg).trans c0
      have q1 : ∀ q : SX CL, q.w.cell? ⟨g', o' + k, none⟩ = some (.int .i64 x) := fun q => ((un _ q.ok).cell (p := ⟨g', o' + k, none⟩) hg').trans c0'
      have UN := hide fun v hv => (unhide HH).below (un v hv)
      have ne : Nonempty (SX CL) := ⟨⟨_, base⟩⟩
      have BS := hide base
      clear hx hg hrg hg' hrg' hCL base un c0 c0'
      go_upto_region 25 with fail
      refine wp_region_sx (St := CL) (by kernel_rfl) (by kernel_rfl) (unhide BS) ?_
      repeat (go_big_quiet_step (fail))
      refine wpQuiet_nil ?_
      first | (rintro v1 ⟨⟨v1', OK1⟩, e1⟩; subst e1) | rintro ⟨v1, OK1⟩
      try dsimp only
      have B1 := hide (unhide UN _ OK1)
      clear OK1 q0 q1
      go_wp2_with fail
      exact ⟨⟨k + 1, rfl, by omega, unhide B1⟩, by simp [intOf]; omega⟩
    · have gk : ¬ (k : Int) < 4 := by omega
      go_wp2_with fail
      refine ((unhide HH).all (List.mem_cons_of_mem _ List.mem_cons_self) (unhide TOK)).mono ?_
      rintro e w9 ⟨a5, c5, rfl, h⟩
      have H9 := hide h
      clear h HH
      go_wp2_with fail
      refine (same_any ((unhide H9).row List.mem_cons_self) ((unhide H9).row (List.mem_cons_of_mem _ (List.mem_cons_of_mem _ (List.mem_cons_of_mem _ (List.mem_cons_of_mem _ List.mem_cons_self))))) (by have := all_length (unhide TOK); omega)).mono ?_
      rintro e w10 ⟨rfl, hb⟩
      rw [sameL_iff.2 rfl]
      have H10 := hide ((unhide H9).below hb)
      clear hb H9
      go_wp2_with fail
      refine (wakes_any w10).mono ?_
      rintro e w' ⟨rfl, hb⟩
      have HB := hide ((unhide H10).below hb).bel
      clear hb
      go_wp2_with fail
      go_ret
      exact ⟨rfl, unhide HB⟩
set_option maxRecDepth 100000 in
set_option maxHeartbeats 4000000 in
theorem quiet0lo (a : Option Addr) (cap : Nat) (z : List ActV) (src seq low code : Int) (w : World) (hA : ActK.At w a z) (hn : z.length ≤ 300) (hst : (ask (plays new_ z (-1)) src seq low).1 = 0) (hc1 : ¬ 1 ≤ code) :
    Calls Try.prog 8 #[.slice a z.length cap, .int .i64 src, .int .i64 seq, .int .i64 low, .int .i64 code] w fun e w' => e = .returned (.bool true) ∧ Below w.heap.size w w' := by
  have hcc : isCode code = false := Bool.eq_false_iff.2 fun h => hc1 (code_iff.1 h).1
  have HE : Hid (noteE (plays new_ z (-1)) src seq low code = 1) := hide (by unfold noteE; rw [hst, hcc]; simp)
  have HSM : Hid (note (plays new_ z (-1)) src seq low code = plays new_ z (-1)) := hide (if_neg (by rw [unhide HE]; decide))
  clear hcc
  have hd1 : decide (1 ≤ code) = false := decide_eq_false hc1
  have H0 := hide (HR.start w)
  have gz : ¬ (300 : Int) < (z.length : Int) := by omega
  have HA := hide hA
  have HN := hide hn
  clear hA hn
  go_enter Try.func8, Try.ntmps8
  go_wp2_with fail
  refine (HR.new (unhide H0)).mono ?_
  rintro e w1 ⟨p, F1, rfl, h⟩
  have H1 := hide h
  clear h H0
  go_wp2_with fail
  refine (plays_any (unhide H1) new_ok (unhide HA) (by have := unhide HN; omega) (-1)).mono ?_
  rintro e w2 ⟨rfl, F2, h⟩
  obtain ⟨T, hT⟩ : ∃ T, T = plays new_ z (-1) := ⟨_, rfl⟩
  rw [← hT] at h
  have TOK : Hid T.Ok := hide (by rw [hT]; exact plays_ok new_ok _ _)
  have H2 := hide h
  rw [← hT] at hst HE HSM
  clear h hT H1
  go_wp2_with fail
  refine ((unhide H2).all List.mem_cons_self (unhide TOK)).mono ?_
  rintro e w3 ⟨a1, c1, rfl, h⟩
  have H3 := hide h
  clear h H2
  go_wp2_with fail
  refine ((unhide H3).lows (List.mem_cons_of_mem _ List.mem_cons_self)).mono ?_
  rintro e w4 ⟨a2, c2, rfl, h⟩
  have H4 := hide h
  clear h H3
  go_wp2_with fail
  refine ((unhide H4).ask (List.mem_cons_of_mem _ (List.mem_cons_of_mem _ List.mem_cons_self)) src seq low).mono ?_
  rintro e w' ⟨rfl, hw'⟩
  rw [hw', hst, ask_zero T (by rw [hst]; decide)]
  clear hw'
  go_wp2_with fail
  refine ((unhide H4).ask (List.mem_cons_of_mem _ (List.mem_cons_of_mem _ List.mem_cons_self)) src seq low).mono ?_
  rintro e w' ⟨rfl, hw'⟩
  rw [hw', hst, ask_zero T (by rw [hst]; decide)]
  clear hw'
  go_wp2_with fail
  refine ((unhide H4).all (List.mem_cons_of_mem _ (List.mem_cons_of_mem _ List.mem_cons_self)) (unhide TOK)).mono ?_
  rintro e w5 ⟨a3, c3, rfl, h⟩
  have H5 := hide h
  clear h H4
  go_wp2_with fail
  refine (same_any ((unhide H5).row List.mem_cons_self) ((unhide H5).row (List.mem_cons_of_mem _ (List.mem_cons_of_mem _ List.mem_cons_self))) (by have := all_length (unhide TOK); omega)).mono ?_
  rintro e w6 ⟨rfl, hb⟩
  rw [sameL_iff.2 rfl]
  have H6 := hide (((unhide H5).drop1.below hb).perm (perm3 _ _ _))
  clear hb H5
  go_wp2_with fail
  refine ((unhide H6).note (unhide TOK) src seq low code).mono ?_
  rintro e w7 ⟨rfl, F3, h⟩
  rw [unhide HE]
  rw [unhide HSM] at h
  have H7 := hide h
  clear h H6
  go_wp2_with fail
  refine ((unhide H7).lows List.mem_cons_self).mono ?_
  rintro e w8 ⟨a4, c4, rfl, h⟩
  have H8 := hide h
  clear h H7
  go_wp2_with fail
  go_loopw [24] (fun i wr => ∃ k : Nat, i = .int .i64 (k : Int) ∧ k ≤ 4 ∧ HR w wr (hRow IntK a4 c4 (lows T) :: hTab p F3 T :: hRow IntK a2 c2 (lows T) :: hRow EntK a1 c1 (all T) :: [])) (fun i _ => 4 - (intOf i).toNat)
  case atStart => exact ⟨0, rfl, by decide, unhide H8⟩
  case round =>
    obtain ⟨k, rfl, hk, hr⟩ := hrel
    clear H8
    have HH := hide hr
    clear hr
    by_cases hlt : k < 4
    · have g0 : (0 : Int) ≤ (k : Int) := by omega
      have g1 : (k : Int) < 4 := by omega
      have g2 : ¬ (4 : Int) ≤ (k : Int) := by omega
      have g3 : decide ((4 : Int) ≤ (k : Int)) = false := decide_eq_false g2
      have hwk : IntKind.i64.wrap ((k : Int) + 1) = (k : Int) + 1 := Go.IntWalk.i64_in _ (by omega)
      obtain ⟨x, hx⟩ : ∃ x, (lows T)[k]? = some x := ⟨_, List.getElem?_eq_getElem (by rw [lows_length]; omega)⟩
      obtain ⟨g, o, rfl, hg, hrg⟩ := ((unhide HH).row List.mem_cons_self : IntK.At wr a4 (lows T)).cell intK_law hx
      obtain ⟨g', o', rfl, hg', hrg'⟩ := ((unhide HH).row (List.mem_cons_of_mem _ (List.mem_cons_of_mem _ List.mem_cons_self)) : IntK.At wr a2 (lows T)).cell intK_law hx
      have c0 := hrg 0 (.int .i64 x) rfl
      have c0' := hrg' 0 (.int .i64 x) rfl
      simp only [IntK, Nat.mul_one, Nat.add_zero] at c0 c0'
      obtain ⟨CL, hCL⟩ : ∃ CL : World → Prop, CL = fun v => Below wr.heap.size wr v := ⟨_, rfl⟩
      have un : ∀ v, CL v → Below wr.heap.size wr v := fun v k => by rw [hCL] at k; exact k
      have base : CL wr.drew := by rw [hCL]; exact (Below.refl _ _).drew
      have q0 : ∀ q : SX CL, q.w.cell? ⟨g, o + k, none⟩ = some (.int .i64 x) := fun q => ((un _ q.ok).cell (p := ⟨g, o + k, none⟩) hg).trans c0
      have q1 : ∀ q : SX CL, q.w.cell? ⟨g', o' + k, none⟩ = some (.int .i64 x) := fun q => ((un _ q.ok).cell (p := ⟨g', o' + k, none⟩) hg').trans c0'
      have UN := hide fun v hv => (unhide HH).below (un v hv)
      have ne : Nonempty (SX CL) := ⟨⟨_, base⟩⟩
      have BS := hide base
      clear hx hg hrg hg' hrg' hCL base un c0 c0'
      go_upto_region 25 with fail
      refine wp_region_sx (St := CL) (by kernel_rfl) (by kernel_rfl) (unhide BS) ?_
      repeat (go_big_quiet_step (fail))
      refine wpQuiet_nil ?_
      first | (rintro v1 ⟨⟨v1', OK1⟩, e1⟩; subst e1) | rintro ⟨v1, OK1⟩
      try dsimp only
      have B1 := hide (unhide UN _ OK1)
      clear OK1 q0 q1
      go_wp2_with fail
      exact ⟨⟨k + 1, rfl, by omega, unhide B1⟩, by simp [intOf]; omega⟩
    · have gk : ¬ (k : Int) < 4 := by omega
      go_wp2_with fail
      refine ((unhide HH).all (List.mem_cons_of_mem _ List.mem_cons_self) (unhide TOK)).mono ?_
      rintro e w9 ⟨a5, c5, rfl, h⟩
      have H9 := hide h
      clear h HH
      go_wp2_with fail
      refine (same_any ((unhide H9).row List.mem_cons_self) ((unhide H9).row (List.mem_cons_of_mem _ (List.mem_cons_of_mem _ (List.mem_cons_of_mem _ (List.mem_cons_of_mem _ List.mem_cons_self))))) (by have := all_length (unhide TOK); omega)).mono ?_
      rintro e w10 ⟨rfl, hb⟩
      rw [sameL_iff.2 rfl]
      have H10 := hide ((unhide H9).below hb)
      clear hb H9
      go_wp2_with fail
      refine (wakes_any w10).mono ?_
      rintro e w' ⟨rfl, hb⟩
      have HB := hide ((unhide H10).below hb).bel
      clear hb
      go_wp2_with fail
      go_ret
      exact ⟨rfl, unhide HB⟩
set_option maxRecDepth 100000 in
set_option maxHeartbeats 4000000 in
theorem quiet0hi (a : Option Addr) (cap : Nat) (z : List ActV) (src seq low code : Int) (w : World) (hA : ActK.At w a z) (hn : z.length ≤ 300) (hst : (ask (plays new_ z (-1)) src seq low).1 = 0) (hc1 : 1 ≤ code) (hc2 : ¬ code ≤ 4) :
    Calls Try.prog 8 #[.slice a z.length cap, .int .i64 src, .int .i64 seq, .int .i64 low, .int .i64 code] w fun e w' => e = .returned (.bool true) ∧ Below w.heap.size w w' := by
  have hcc : isCode code = false := Bool.eq_false_iff.2 fun h => hc2 (code_iff.1 h).2
  have HE : Hid (noteE (plays new_ z (-1)) src seq low code = 1) := hide (by unfold noteE; rw [hst, hcc]; simp)
  have HSM : Hid (note (plays new_ z (-1)) src seq low code = plays new_ z (-1)) := hide (if_neg (by rw [unhide HE]; decide))
  clear hcc
  have hd2 : decide (code ≤ 4) = false := decide_eq_false hc2
  have H0 := hide (HR.start w)
  have gz : ¬ (300 : Int) < (z.length : Int) := by omega
  have HA := hide hA
  have HN := hide hn
  clear hA hn
  go_enter Try.func8, Try.ntmps8
  go_wp2_with fail
  refine (HR.new (unhide H0)).mono ?_
  rintro e w1 ⟨p, F1, rfl, h⟩
  have H1 := hide h
  clear h H0
  go_wp2_with fail
  refine (plays_any (unhide H1) new_ok (unhide HA) (by have := unhide HN; omega) (-1)).mono ?_
  rintro e w2 ⟨rfl, F2, h⟩
  obtain ⟨T, hT⟩ : ∃ T, T = plays new_ z (-1) := ⟨_, rfl⟩
  rw [← hT] at h
  have TOK : Hid T.Ok := hide (by rw [hT]; exact plays_ok new_ok _ _)
  have H2 := hide h
  rw [← hT] at hst HE HSM
  clear h hT H1
  go_wp2_with fail
  refine ((unhide H2).all List.mem_cons_self (unhide TOK)).mono ?_
  rintro e w3 ⟨a1, c1, rfl, h⟩
  have H3 := hide h
  clear h H2
  go_wp2_with fail
  refine ((unhide H3).lows (List.mem_cons_of_mem _ List.mem_cons_self)).mono ?_
  rintro e w4 ⟨a2, c2, rfl, h⟩
  have H4 := hide h
  clear h H3
  go_wp2_with fail
  refine ((unhide H4).ask (List.mem_cons_of_mem _ (List.mem_cons_of_mem _ List.mem_cons_self)) src seq low).mono ?_
  rintro e w' ⟨rfl, hw'⟩
  rw [hw', hst, ask_zero T (by rw [hst]; decide)]
  clear hw'
  go_wp2_with fail
  refine ((unhide H4).ask (List.mem_cons_of_mem _ (List.mem_cons_of_mem _ List.mem_cons_self)) src seq low).mono ?_
  rintro e w' ⟨rfl, hw'⟩
  rw [hw', hst, ask_zero T (by rw [hst]; decide)]
  clear hw'
  go_wp2_with fail
  refine ((unhide H4).all (List.mem_cons_of_mem _ (List.mem_cons_of_mem _ List.mem_cons_self)) (unhide TOK)).mono ?_
  rintro e w5 ⟨a3, c3, rfl, h⟩
  have H5 := hide h
  clear h H4
  go_wp2_with fail
  refine (same_any ((unhide H5).row List.mem_cons_self) ((unhide H5).row (List.mem_cons_of_mem _ (List.mem_cons_of_mem _ List.mem_cons_self))) (by have := all_length (unhide TOK); omega)).mono ?_
  rintro e w6 ⟨rfl, hb⟩
  rw [sameL_iff.2 rfl]
  have H6 := hide (((unhide H5).drop1.below hb).perm (perm3 _ _ _))
  clear hb H5
  go_wp2_with fail
  refine ((unhide H6).note (unhide TOK) src seq low code).mono ?_
  rintro e w7 ⟨rfl, F3, h⟩
  rw [unhide HE]
  rw [unhide HSM] at h
  have H7 := hide h
  clear h H6
  go_wp2_with fail
  refine ((unhide H7).lows List.mem_cons_self).mono ?_
  rintro e w8 ⟨a4, c4, rfl, h⟩
  have H8 := hide h
  clear h H7
  go_wp2_with fail
  go_loopw [24] (fun i wr => ∃ k : Nat, i = .int .i64 (k : Int) ∧ k ≤ 4 ∧ HR w wr (hRow IntK a4 c4 (lows T) :: hTab p F3 T :: hRow IntK a2 c2 (lows T) :: hRow EntK a1 c1 (all T) :: [])) (fun i _ => 4 - (intOf i).toNat)
  case atStart => exact ⟨0, rfl, by decide, unhide H8⟩
  case round =>
    obtain ⟨k, rfl, hk, hr⟩ := hrel
    clear H8
    have HH := hide hr
    clear hr
    by_cases hlt : k < 4
    · have g0 : (0 : Int) ≤ (k : Int) := by omega
      have g1 : (k : Int) < 4 := by omega
      have g2 : ¬ (4 : Int) ≤ (k : Int) := by omega
      have g3 : decide ((4 : Int) ≤ (k : Int)) = false := decide_eq_false g2
      have hwk : IntKind.i64.wrap ((k : Int) + 1) = (k : Int) + 1 := Go.IntWalk.i64_in _ (by omega)
      obtain ⟨x, hx⟩ : ∃ x, (lows T)[k]? = some x := ⟨_, List.getElem?_eq_getElem (by rw [lows_length]; omega)⟩
      obtain ⟨g, o, rfl, hg, hrg⟩ := ((unhide HH).row List.mem_cons_self : IntK.At wr a4 (lows T)).cell intK_law hx
      obtain ⟨g', o', rfl, hg', hrg'⟩ := ((unhide HH).row (List.mem_cons_of_mem _ (List.mem_cons_of_mem _ List.mem_cons_self)) : IntK.At wr a2 (lows T)).cell intK_law hx
      have c0 := hrg 0 (.int .i64 x) rfl
      have c0' := hrg' 0 (.int .i64 x) rfl
      simp only [IntK, Nat.mul_one, Nat.add_zero] at c0 c0'
      obtain ⟨CL, hCL⟩ : ∃ CL : World → Prop, CL = fun v => Below wr.heap.size wr v := ⟨_, rfl⟩
      have un : ∀ v, CL v → Below wr.heap.size wr v := fun v k => by rw [hCL] at k; exact k
      have base : CL wr.drew := by rw [hCL]; exact (Below.refl _ _).drew
      have q0 : ∀ q : SX CL, q.w.cell? ⟨g, o + k, none⟩ = some (.int .i64 x) := fun q => ((un _ q.ok).cell (p := ⟨g, o + k, none⟩) hg).trans c0
      have q1 : ∀ q : SX CL, q.w.cell? ⟨g', o' + k, none⟩ = some (.int .i64 x) := fun q => ((un _ q.ok).cell (p := ⟨g', o' + k, none⟩) hg').trans c0'
      have UN := hide fun v hv => (unhide HH).below (un v hv)
      have ne : Nonempty (SX CL) := ⟨⟨_, base⟩⟩
      have BS := hide base
      clear hx hg hrg hg' hrg' hCL base un c0 c0'
      go_upto_region 25 with fail
      refine wp_region_sx (St := CL) (by kernel_rfl) (by kernel_rfl) (unhide BS) ?_
      repeat (go_big_quiet_step (fail))
      refine wpQuiet_nil ?_
      first | (rintro v1 ⟨⟨v1', OK1⟩, e1⟩; subst e1) | rintro ⟨v1, OK1⟩
      try dsimp only
      have B1 := hide (unhide UN _ OK1)
      clear OK1 q0 q1
      go_wp2_with fail
      exact ⟨⟨k + 1, rfl, by omega, unhide B1⟩, by simp [intOf]; omega⟩
    · have gk : ¬ (k : Int) < 4 := by omega
      go_wp2_with fail
      refine ((unhide HH).all (List.mem_cons_of_mem _ List.mem_cons_self) (unhide TOK)).mono ?_
      rintro e w9 ⟨a5, c5, rfl, h⟩
      have H9 := hide h
      clear h HH
      go_wp2_with fail
      refine (same_any ((unhide H9).row List.mem_cons_self) ((unhide H9).row (List.mem_cons_of_mem _ (List.mem_cons_of_mem _ (List.mem_cons_of_mem _ (List.mem_cons_of_mem _ List.mem_cons_self))))) (by have := all_length (unhide TOK); omega)).mono ?_
      rintro e w10 ⟨rfl, hb⟩
      rw [sameL_iff.2 rfl]
      have H10 := hide ((unhide H9).below hb)
      clear hb H9
      go_wp2_with fail
      refine (wakes_any w10).mono ?_
      rintro e w' ⟨rfl, hb⟩
      have HB := hide ((unhide H10).below hb).bel
      clear hb
      go_wp2_with fail
      go_ret
      exact ⟨rfl, unhide HB⟩
set_option maxRecDepth 100000 in
set_option maxHeartbeats 4000000 in
theorem quiet1in (a : Option Addr) (cap : Nat) (z : List ActV) (src seq low code : Int) (w : World) (hA : ActK.At w a z) (hn : z.length ≤ 300) (hst : (ask (plays new_ z (-1)) src seq low).1 = 1) (hc1 : 1 ≤ code) (hc2 : code ≤ 4) :
    Calls Try.prog 8 #[.slice a z.length cap, .int .i64 src, .int .i64 seq, .int .i64 low, .int .i64 code] w fun e w' => e = .returned (.bool true) ∧ Below w.heap.size w w' := by
  have hcc : isCode code = true := code_iff.2 ⟨hc1, hc2⟩
  have HE : Hid (noteE (plays new_ z (-1)) src seq low code = 12) := hide (by unfold noteE; rw [hst, hcc]; simp)
  have HSM : Hid (note (plays new_ z (-1)) src seq low code = plays new_ z (-1)) := hide (if_neg (by rw [unhide HE]; decide))
  clear hcc
  have H0 := hide (HR.start w)
  have gz : ¬ (300 : Int) < (z.length : Int) := by omega
  have HA := hide hA
  have HN := hide hn
  clear hA hn
  go_enter Try.func8, Try.ntmps8
  go_wp2_with fail
  refine (HR.new (unhide H0)).mono ?_
  rintro e w1 ⟨p, F1, rfl, h⟩
  have H1 := hide h
  clear h H0
  go_wp2_with fail
  refine (plays_any (unhide H1) new_ok (unhide HA) (by have := unhide HN; omega) (-1)).mono ?_
  rintro e w2 ⟨rfl, F2, h⟩
  obtain ⟨T, hT⟩ : ∃ T, T = plays new_ z (-1) := ⟨_, rfl⟩
  rw [← hT] at h
  have TOK : Hid T.Ok := hide (by rw [hT]; exact plays_ok new_ok _ _)
  have H2 := hide h
  rw [← hT] at hst HE HSM
  clear h hT H1
  go_wp2_with fail
  refine ((unhide H2).all List.mem_cons_self (unhide TOK)).mono ?_
  rintro e w3 ⟨a1, c1, rfl, h⟩
  have H3 := hide h
  clear h H2
  go_wp2_with fail
  refine ((unhide H3).lows (List.mem_cons_of_mem _ List.mem_cons_self)).mono ?_
  rintro e w4 ⟨a2, c2, rfl, h⟩
  have H4 := hide h
  clear h H3
  go_wp2_with fail
  refine ((unhide H4).ask (List.mem_cons_of_mem _ (List.mem_cons_of_mem _ List.mem_cons_self)) src seq low).mono ?_
  rintro e w' ⟨rfl, hw'⟩
  rw [hw', hst, ask_zero T (by rw [hst]; decide)]
  clear hw'
  go_wp2_with fail
  refine ((unhide H4).ask (List.mem_cons_of_mem _ (List.mem_cons_of_mem _ List.mem_cons_self)) src seq low).mono ?_
  rintro e w' ⟨rfl, hw'⟩
  rw [hw', hst, ask_zero T (by rw [hst]; decide)]
  clear hw'
  go_wp2_with fail
  refine ((unhide H4).all (List.mem_cons_of_mem _ (List.mem_cons_of_mem _ List.mem_cons_self)) (unhide TOK)).mono ?_
  rintro e w5 ⟨a3, c3, rfl, h⟩
  have H5 := hide h
  clear h H4
  go_wp2_with fail
  refine (same_any ((unhide H5).row List.mem_cons_self) ((unhide H5).row (List.mem_cons_of_mem _ (List.mem_cons_of_mem _ List.mem_cons_self))) (by have := all_length (unhide TOK); omega)).mono ?_
  rintro e w6 ⟨rfl, hb⟩
  rw [sameL_iff.2 rfl]
  have H6 := hide (((unhide H5).drop1.below hb).perm (perm3 _ _ _))
  clear hb H5
  go_wp2_with fail
  refine ((unhide H6).note (unhide TOK) src seq low code).mono ?_
  rintro e w7 ⟨rfl, F3, h⟩
  rw [unhide HE]
  rw [unhide HSM] at h
  have H7 := hide h
  clear h H6
  go_wp2_with fail
  refine ((unhide H7).lows List.mem_cons_self).mono ?_
  rintro e w8 ⟨a4, c4, rfl, h⟩
  have H8 := hide h
  clear h H7
  go_wp2_with fail
  go_loopw [24] (fun i wr => ∃ k : Nat, i = .int .i64 (k : Int) ∧ k ≤ 4 ∧ HR w wr (hRow IntK a4 c4 (lows T) :: hTab p F3 T :: hRow IntK a2 c2 (lows T) :: hRow EntK a1 c1 (all T) :: [])) (fun i _ => 4 - (intOf i).toNat)
  case atStart => exact ⟨0, rfl, by decide, unhide H8⟩
  case round =>
    obtain ⟨k, rfl, hk, hr⟩ := hrel
    clear H8
    have HH := hide hr
    clear hr
    by_cases hlt : k < 4
    · have g0 : (0 : Int) ≤ (k : Int) := by omega
      have g1 : (k : Int) < 4 := by omega
      have g2 : ¬ (4 : Int) ≤ (k : Int) := by omega
      have g3 : decide ((4 : Int) ≤ (k : Int)) = false := decide_eq_false g2
      have hwk : IntKind.i64.wrap ((k : Int) + 1) = (k : Int) + 1 := Go.IntWalk.i64_in _ (by omega)
      obtain ⟨x, hx⟩ : ∃ x, (lows T)[k]? = some x := ⟨_, List.getElem?_eq_getElem (by rw [lows_length]; omega)⟩
      obtain ⟨g, o, rfl, hg, hrg⟩ := ((unhide HH).row List.mem_cons_self : IntK.At wr a4 (lows T)).cell intK_law hx
      obtain ⟨g', o', rfl, hg', hrg'⟩ := ((unhide HH).row (List.mem_cons_of_mem _ (List.mem_cons_of_mem _ List.mem_cons_self)) : IntK.At wr a2 (lows T)).cell intK_law hx
      have c0 := hrg 0 (.int .i64 x) rfl
      have c0' := hrg' 0 (.int .i64 x) rfl
      simp only [IntK, Nat.mul_one, Nat.add_zero] at c0 c0'
      obtain ⟨CL, hCL⟩ : ∃ CL : World → Prop, CL = fun v => Below wr.heap.size wr v := ⟨_, rfl⟩
      have un : ∀ v, CL v → Below wr.heap.size wr v := fun v k => by rw [hCL] at k; exact k
      have base : CL wr.drew := by rw [hCL]; exact (Below.refl _ _).drew
      have q0 : ∀ q : SX CL, q.w.cell? ⟨g, o + k, none⟩ = some (.int .i64 x) := fun q => ((un _ q.ok).cell (p := ⟨g, o + k, none⟩) hg).trans c0
      have q1 : ∀ q : SX CL, q.w.cell? ⟨g', o' + k, none⟩ = some (.int .i64 x) := fun q => ((un _ q.ok).cell (p := ⟨g', o' + k, none⟩) hg').trans c0'
      have UN := hide fun v hv => (unhide HH).below (un v hv)
      have ne : Nonempty (SX CL) := ⟨⟨_, base⟩⟩
      have BS := hide base
      clear hx hg hrg hg' hrg' hCL base un c0 c0'
      go_upto_region 25 with fail
      refine wp_region_sx (St := CL) (by kernel_rfl) (by kernel_rfl) (unhide BS) ?_
      repeat (go_big_quiet_step (fail))
      refine wpQuiet_nil ?_
      first | (rintro v1 ⟨⟨v1', OK1⟩, e1⟩; subst e1) | rintro ⟨v1, OK1⟩
      try dsimp only
      have B1 := hide (unhide UN _ OK1)
      clear OK1 q0 q1
      go_wp2_with fail
      exact ⟨⟨k + 1, rfl, by omega, unhide B1⟩, by simp [intOf]; omega⟩
    · have gk : ¬ (k : Int) < 4 := by omega
      go_wp2_with fail
      refine ((unhide HH).all (List.mem_cons_of_mem _ List.mem_cons_self) (unhide TOK)).mono ?_
      rintro e w9 ⟨a5, c5, rfl, h⟩
      have H9 := hide h
      clear h HH
      go_wp2_with fail
      refine (same_any ((unhide H9).row List.mem_cons_self) ((unhide H9).row (List.mem_cons_of_mem _ (List.mem_cons_of_mem _ (List.mem_cons_of_mem _ (List.mem_cons_of_mem _ List.mem_cons_self))))) (by have := all_length (unhide TOK); omega)).mono ?_
      rintro e w10 ⟨rfl, hb⟩
      rw [sameL_iff.2 rfl]
      have H10 := hide ((unhide H9).below hb)
      clear hb H9
      go_wp2_with fail
      refine (wakes_any w10).mono ?_
      rintro e w' ⟨rfl, hb⟩
      have HB := hide ((unhide H10).below hb).bel
      clear hb
      go_wp2_with fail
      go_ret
      exact ⟨rfl, unhide HB⟩
set_option maxRecDepth 100000 in
set_option maxHeartbeats 4000000 in
theorem quiet1lo (a : Option Addr) (cap : Nat) (z : List ActV) (src seq low code : Int) (w : World) (hA : ActK.At w a z) (hn : z.length ≤ 300) (hst : (ask (plays new_ z (-1)) src seq low).1 = 1) (hc1 : ¬ 1 ≤ code) :
    Calls Try.prog 8 #[.slice a z.length cap, .int .i64 src, .int .i64 seq, .int .i64 low, .int .i64 code] w fun e w' => e = .returned (.bool true) ∧ Below w.heap.size w w' := by
  have hcc : isCode code = false := Bool.eq_false_iff.2 fun h => hc1 (code_iff.1 h).1
  have HE : Hid (noteE (plays new_ z (-1)) src seq low code = 1) := hide (by unfold noteE; rw [hst, hcc]; simp)
  have HSM : Hid (note (plays new_ z (-1)) src seq low code = plays new_ z (-1)) := hide (if_neg (by rw [unhide HE]; decide))
  clear hcc
  have hd1 : decide (1 ≤ code) = false := decide_eq_false hc1
  have H0 := hide (HR.start w)
  have gz : ¬ (300 : Int) < (z.length : Int) := by omega
  have HA := hide hA
  have HN := hide hn
  clear hA hn
  go_enter Try.func8, Try.ntmps8
  go_wp2_with fail
  refine (HR.new (unhide H0)).mono ?_
  rintro e w1 ⟨p, F1, rfl, h⟩
  have H1 := hide h
  clear h H0
  go_wp2_with fail
  refine (plays_any (unhide H1) new_ok (unhide HA) (by have := unhide HN; omega) (-1)).mono ?_
  rintro e w2 ⟨rfl, F2, h⟩
  obtain ⟨T, hT⟩ : ∃ T, T = plays new_ z (-1) := ⟨_, rfl⟩
  rw [← hT] at h
  have TOK : Hid T.Ok := hide (by rw [hT]; exact plays_ok new_ok _ _)
  have H2 := hide h
  rw [← hT] at hst HE HSM
  clear h hT H1
  go_wp2_with fail
  refine ((unhide H2).all List.mem_cons_self (unhide TOK)).mono ?_
  rintro e w3 ⟨a1, c1, rfl, h⟩
  have H3 := hide h
  clear h H2
  go_wp2_with fail
  refine ((unhide H3).lows (List.mem_cons_of_mem _ List.mem_cons_self)).mono ?_
  rintro e w4 ⟨a2, c2, rfl, h⟩
  have H4 := hide h
  clear h H3
  go_wp2_with fail
  refine ((unhide H4).ask (List.mem_cons_of_mem _ (List.mem_cons_of_mem _ List.mem_cons_self)) src seq low).mono ?_
  rintro e w' ⟨rfl, hw'⟩
  rw [hw', hst, ask_zero T (by rw [hst]; decide)]
  clear hw'
  go_wp2_with fail
  refine ((unhide H4).ask (List.mem_cons_of_mem _ (List.mem_cons_of_mem _ List.mem_cons_self)) src seq low).mono ?_
  rintro e w' ⟨rfl, hw'⟩
  rw [hw', hst, ask_zero T (by rw [hst]; decide)]
  clear hw'
  go_wp2_with fail
  refine ((unhide H4).all (List.mem_cons_of_mem _ (List.mem_cons_of_mem _ List.mem_cons_self)) (unhide TOK)).mono ?_
  rintro e w5 ⟨a3, c3, rfl, h⟩
  have H5 := hide h
  clear h H4
  go_wp2_with fail
  refine (same_any ((unhide H5).row List.mem_cons_self) ((unhide H5).row (List.mem_cons_of_mem _ (List.mem_cons_of_mem _ List.mem_cons_self))) (by have := all_length (unhide TOK); omega)).mono ?_
  rintro e w6 ⟨rfl, hb⟩
  rw [sameL_iff.2 rfl]
  have H6 := hide (((unhide H5).drop1.below hb).perm (perm3 _ _ _))
  clear hb H5
  go_wp2_with fail
  refine ((unhide H6).note (unhide TOK) src seq low code).mono ?_
  rintro e w7 ⟨rfl, F3, h⟩
  rw [unhide HE]
  rw [unhide HSM] at h
  have H7 := hide h
  clear h H6
  go_wp2_with fail
  refine ((unhide H7).lows List.mem_cons_self).mono ?_
  rintro e w8 ⟨a4, c4, rfl, h⟩
  have H8 := hide h
  clear h H7
  go_wp2_with fail
  go_loopw [24] (fun i wr => ∃ k : Nat, i = .int .i64 (k : Int) ∧ k ≤ 4 ∧ HR w wr (hRow IntK a4 c4 (lows T) :: hTab p F3 T :: hRow IntK a2 c2 (lows T) :: hRow EntK a1 c1 (all T) :: [])) (fun i _ => 4 - (intOf i).toNat)
  case atStart => exact ⟨0, rfl, by decide, unhide H8⟩
  case round =>
    obtain ⟨k, rfl, hk, hr⟩ := hrel
    clear H8
    have HH := hide hr
    clear hr
    by_cases hlt : k < 4
    · have g0 : (0 : Int) ≤ (k : Int) := by omega
      have g1 : (k : Int) < 4 := by omega
      have g2 : ¬ (4 : Int) ≤ (k : Int) := by omega
      have g3 : decide ((4 : Int) ≤ (k : Int)) = false := decide_eq_false g2
      have hwk : IntKind.i64.wrap ((k : Int) + 1) = (k : Int) + 1 := Go.IntWalk.i64_in _ (by omega)
      obtain ⟨x, hx⟩ : ∃ x, (lows T)[k]? = some x := ⟨_, List.getElem?_eq_getElem (by rw [lows_length]; omega)⟩
      obtain ⟨g, o, rfl, hg, hrg⟩ := ((unhide HH).row List.mem_cons_self : IntK.At wr a4 (lows T)).cell intK_law hx
      obtain ⟨g', o', rfl, hg', hrg'⟩ := ((unhide HH).row (List.mem_cons_of_mem _ (List.mem_cons_of_mem _ List.mem_cons_self)) : IntK.At wr a2 (lows T)).cell intK_law hx
      have c0 := hrg 0 (.int .i64 x) rfl
      have c0' := hrg' 0 (.int .i64 x) rfl
      simp only [IntK, Nat.mul_one, Nat.add_zero] at c0 c0'
      obtain ⟨CL, hCL⟩ : ∃ CL : World → Prop, CL = fun v => Below wr.heap.size wr v := ⟨_, rfl⟩
      have un : ∀ v, CL v → Below wr.heap.size wr v := fun v k => by rw [hCL] at k; exact k
      have base : CL wr.drew := by rw [hCL]; exact (Below.refl _ _).drew
      have q0 : ∀ q : SX CL, q.w.cell? ⟨g, o + k, none⟩ = some (.int .i64 x) := fun q => ((un _ q.ok).cell (p := ⟨g, o + k, none⟩) hg).trans c0
      have q1 : ∀ q : SX CL, q.w.cell? ⟨g', o' + k, none⟩ = some (.int .i64 x) := fun q => ((un _ q.ok).cell (p := ⟨g', o' + k, none⟩) hg').trans c0'
      have UN := hide fun v hv => (unhide HH).below (un v hv)
      have ne : Nonempty (SX CL) := ⟨⟨_, base⟩⟩
      have BS := hide base
      clear hx hg hrg hg' hrg' hCL base un c0 c0'
      go_upto_region 25 with fail
      refine wp_region_sx (St := CL) (by kernel_rfl) (by kernel_rfl) (unhide BS) ?_
      repeat (go_big_quiet_step (fail))
      refine wpQuiet_nil ?_
      first | (rintro v1 ⟨⟨v1', OK1⟩, e1⟩; subst e1) | rintro ⟨v1, OK1⟩
      try dsimp only
      have B1 := hide (unhide UN _ OK1)
      clear OK1 q0 q1
      go_wp2_with fail
      exact ⟨⟨k + 1, rfl, by omega, unhide B1⟩, by simp [intOf]; omega⟩
    · have gk : ¬ (k : Int) < 4 := by omega
      go_wp2_with fail
      refine ((unhide HH).all (List.mem_cons_of_mem _ List.mem_cons_self) (unhide TOK)).mono ?_
      rintro e w9 ⟨a5, c5, rfl, h⟩
      have H9 := hide h
      clear h HH
      go_wp2_with fail
      refine (same_any ((unhide H9).row List.mem_cons_self) ((unhide H9).row (List.mem_cons_of_mem _ (List.mem_cons_of_mem _ (List.mem_cons_of_mem _ (List.mem_cons_of_mem _ List.mem_cons_self))))) (by have := all_length (unhide TOK); omega)).mono ?_
      rintro e w10 ⟨rfl, hb⟩
      rw [sameL_iff.2 rfl]
      have H10 := hide ((unhide H9).below hb)
      clear hb H9
      go_wp2_with fail
      refine (wakes_any w10).mono ?_
      rintro e w' ⟨rfl, hb⟩
      have HB := hide ((unhide H10).below hb).bel
      clear hb
      go_wp2_with fail
      go_ret
      exact ⟨rfl, unhide HB⟩
set_option maxRecDepth 100000 in
set_option maxHeartbeats 4000000 in
theorem quiet1hi (a : Option Addr) (cap : Nat) (z : List ActV) (src seq low code : Int) (w : World) (hA : ActK.At w a z) (hn : z.length ≤ 300) (hst : (ask (plays new_ z (-1)) src seq low).1 = 1) (hc1 : 1 ≤ code) (hc2 : ¬ code ≤ 4) :
    Calls Try.prog 8 #[.slice a z.length cap, .int .i64 src, .int .i64 seq, .int .i64 low, .int .i64 code] w fun e w' => e = .returned (.bool true) ∧ Below w.heap.size w w' := by
  have hcc : isCode code = false := Bool.eq_false_iff.2 fun h => hc2 (code_iff.1 h).2
  have HE : Hid (noteE (plays new_ z (-1)) src seq low code = 1) := hide (by unfold noteE; rw [hst, hcc]; simp)
  have HSM : Hid (note (plays new_ z (-1)) src seq low code = plays new_ z (-1)) := hide (if_neg (by rw [unhide HE]; decide))
  clear hcc
  have hd2 : decide (code ≤ 4) = false := decide_eq_false hc2
  have H0 := hide (HR.start w)
  have gz : ¬ (300 : Int) < (z.length : Int) := by omega
  have HA := hide hA
  have HN := hide hn
  clear hA hn
  go_enter Try.func8, Try.ntmps8
  go_wp2_with fail
  refine (HR.new (unhide H0)).mono ?_
  rintro e w1 ⟨p, F1, rfl, h⟩
  have H1 := hide h
  clear h H0
  go_wp2_with fail
  refine (plays_any (unhide H1) new_ok (unhide HA) (by have := unhide HN; omega) (-1)).mono ?_
  rintro e w2 ⟨rfl, F2, h⟩
  obtain ⟨T, hT⟩ : ∃ T, T = plays new_ z (-1) := ⟨_, rfl⟩
  rw [← hT] at h
  have TOK : Hid T.Ok := hide (by rw [hT]; exact plays_ok new_ok _ _)
  have H2 := hide h
  rw [← hT] at hst HE HSM
  clear h hT H1
  go_wp2_with fail
  refine ((unhide H2).all List.mem_cons_self (unhide TOK)).mono ?_
  rintro e w3 ⟨a1, c1, rfl, h⟩
  have H3 := hide h
  clear h H2
  go_wp2_with fail
  refine ((unhide H3).lows (List.mem_cons_of_mem _ List.mem_cons_self)).mono ?_
  rintro e w4 ⟨a2, c2, rfl, h⟩
  have H4 := hide h
  clear h H3
  go_wp2_with fail
  refine ((unhide H4).ask (List.mem_cons_of_mem _ (List.mem_cons_of_mem _ List.mem_cons_self)) src seq low).mono ?_
  rintro e w' ⟨rfl, hw'⟩
  rw [hw', hst, ask_zero T (by rw [hst]; decide)]
  clear hw'
  go_wp2_with fail
  refine ((unhide H4).ask (List.mem_cons_of_mem _ (List.mem_cons_of_mem _ List.mem_cons_self)) src seq low).mono ?_
  rintro e w' ⟨rfl, hw'⟩
  rw [hw', hst, ask_zero T (by rw [hst]; decide)]
  clear hw'
  go_wp2_with fail
  refine ((unhide H4).all (List.mem_cons_of_mem _ (List.mem_cons_of_mem _ List.mem_cons_self)) (unhide TOK)).mono ?_
  rintro e w5 ⟨a3, c3, rfl, h⟩
  have H5 := hide h
  clear h H4
  go_wp2_with fail
  refine (same_any ((unhide H5).row List.mem_cons_self) ((unhide H5).row (List.mem_cons_of_mem _ (List.mem_cons_of_mem _ List.mem_cons_self))) (by have := all_length (unhide TOK); omega)).mono ?_
  rintro e w6 ⟨rfl, hb⟩
  rw [sameL_iff.2 rfl]
  have H6 := hide (((unhide H5).drop1.below hb).perm (perm3 _ _ _))
  clear hb H5
  go_wp2_with fail
  refine ((unhide H6).note (unhide TOK) src seq low code).mono ?_
  rintro e w7 ⟨rfl, F3, h⟩
  rw [unhide HE]
  rw [unhide HSM] at h
  have H7 := hide h
  clear h H6
  go_wp2_with fail
  refine ((unhide H7).lows List.mem_cons_self).mono ?_
  rintro e w8 ⟨a4, c4, rfl, h⟩
  have H8 := hide h
  clear h H7
  go_wp2_with fail
  go_loopw [24] (fun i wr => ∃ k : Nat, i = .int .i64 (k : Int) ∧ k ≤ 4 ∧ HR w wr (hRow IntK a4 c4 (lows T) :: hTab p F3 T :: hRow IntK a2 c2 (lows T) :: hRow EntK a1 c1 (all T) :: [])) (fun i _ => 4 - (intOf i).toNat)
  case atStart => exact ⟨0, rfl, by decide, unhide H8⟩
  case round =>
    obtain ⟨k, rfl, hk, hr⟩ := hrel
    clear H8
    have HH := hide hr
    clear hr
    by_cases hlt : k < 4
    · have g0 : (0 : Int) ≤ (k : Int) := by omega
      have g1 : (k : Int) < 4 := by omega
      have g2 : ¬ (4 : Int) ≤ (k : Int) := by omega
      have g3 : decide ((4 : Int) ≤ (k : Int)) = false := decide_eq_false g2
      have hwk : IntKind.i64.wrap ((k : Int) + 1) = (k : Int) + 1 := Go.IntWalk.i64_in _ (by omega)
      obtain ⟨x, hx⟩ : ∃ x, (lows T)[k]? = some x := ⟨_, List.getElem?_eq_getElem (by rw [lows_length]; omega)⟩
      obtain ⟨g, o, rfl, hg, hrg⟩ := ((unhide HH).row List.mem_cons_self : IntK.At wr a4 (lows T)).cell intK_law hx
      obtain ⟨g', o', rfl, hg', hrg'⟩ := ((unhide HH).row (List.mem_cons_of_mem _ (List.mem_cons_of_mem _ List.mem_cons_self)) : IntK.At wr a2 (lows T)).cell intK_law hx
      have c0 := hrg 0 (.int .i64 x) rfl
      have c0' := hrg' 0 (.int .i64 x) rfl
      simp only [IntK, Nat.mul_one, Nat.add_zero] at c0 c0'
      obtain ⟨CL, hCL⟩ : ∃ CL : World → Prop, CL = fun v => Below wr.heap.size wr v := ⟨_, rfl⟩
      have un : ∀ v, CL v → Below wr.heap.size wr v := fun v k => by rw [hCL] at k; exact k
      have base : CL wr.drew := by rw [hCL]; exact (Below.refl _ _).drew
      have q0 : ∀ q : SX CL, q.w.cell? ⟨g, o + k, none⟩ = some (.int .i64 x) := fun q => ((un _ q.ok).cell (p := ⟨g, o + k, none⟩) hg).trans c0
      have q1 : ∀ q : SX CL, q.w.cell? ⟨g', o' + k, none⟩ = some (.int .i64 x) := fun q => ((un _ q.ok).cell (p := ⟨g', o' + k, none⟩) hg').trans c0'
      have UN := hide fun v hv => (unhide HH).below (un v hv)
      have ne : Nonempty (SX CL) := ⟨⟨_, base⟩⟩
      have BS := hide base
      clear hx hg hrg hg' hrg' hCL base un c0 c0'
      go_upto_region 25 with fail
      refine wp_region_sx (St := CL) (by kernel_rfl) (by kernel_rfl) (unhide BS) ?_
      repeat (go_big_quiet_step (fail))
      refine wpQuiet_nil ?_
      first | (rintro v1 ⟨⟨v1', OK1⟩, e1⟩; subst e1) | rintro ⟨v1, OK1⟩
      try dsimp only
      have B1 := hide (unhide UN _ OK1)
      clear OK1 q0 q1
      go_wp2_with fail
      exact ⟨⟨k + 1, rfl, by omega, unhide B1⟩, by simp [intOf]; omega⟩
    · have gk : ¬ (k : Int) < 4 := by omega
      go_wp2_with fail
      refine ((unhide HH).all (List.mem_cons_of_mem _ List.mem_cons_self) (unhide TOK)).mono ?_
      rintro e w9 ⟨a5, c5, rfl, h⟩
      have H9 := hide h
      clear h HH
      go_wp2_with fail
      refine (same_any ((unhide H9).row List.mem_cons_self) ((unhide H9).row (List.mem_cons_of_mem _ (List.mem_cons_of_mem _ (List.mem_cons_of_mem _ (List.mem_cons_of_mem _ List.mem_cons_self))))) (by have := all_length (unhide TOK); omega)).mono ?_
      rintro e w10 ⟨rfl, hb⟩
      rw [sameL_iff.2 rfl]
      have H10 := hide ((unhide H9).below hb)
      clear hb H9
      go_wp2_with fail
      refine (wakes_any w10).mono ?_
      rintro e w' ⟨rfl, hb⟩
      have HB := hide ((unhide H10).below hb).bel
      clear hb
      go_wp2_with fail
      go_ret
      exact ⟨rfl, unhide HB⟩
set_option maxRecDepth 100000 in
set_option maxHeartbeats 4000000 in
theorem quiet2in (a : Option Addr) (cap : Nat) (z : List ActV) (src seq low code : Int) (w : World) (hA : ActK.At w a z) (hn : z.length ≤ 300) (hst : (ask (plays new_ z (-1)) src seq low).1 = 2) (hc1 : 1 ≤ code) (hc2 : code ≤ 4) :
    Calls Try.prog 8 #[.slice a z.length cap, .int .i64 src, .int .i64 seq, .int .i64 low, .int .i64 code] w fun e w' => e = .returned (.bool true) ∧ Below w.heap.size w w' := by
  have hcc : isCode code = true := code_iff.2 ⟨hc1, hc2⟩
  have HE : Hid (noteE (plays new_ z (-1)) src seq low code = 5) := hide (by unfold noteE; rw [hst, hcc]; simp)
  have HSM : Hid (note (plays new_ z (-1)) src seq low code = plays new_ z (-1)) := hide (if_neg (by rw [unhide HE]; decide))
  clear hcc
  have H0 := hide (HR.start w)
  have gz : ¬ (300 : Int) < (z.length : Int) := by omega
  have HA := hide hA
  have HN := hide hn
  clear hA hn
  go_enter Try.func8, Try.ntmps8
  go_wp2_with fail
  refine (HR.new (unhide H0)).mono ?_
  rintro e w1 ⟨p, F1, rfl, h⟩
  have H1 := hide h
  clear h H0
  go_wp2_with fail
  refine (plays_any (unhide H1) new_ok (unhide HA) (by have := unhide HN; omega) (-1)).mono ?_
  rintro e w2 ⟨rfl, F2, h⟩
  obtain ⟨T, hT⟩ : ∃ T, T = plays new_ z (-1) := ⟨_, rfl⟩
  rw [← hT] at h
  have TOK : Hid T.Ok := hide (by rw [hT]; exact plays_ok new_ok _ _)
  have H2 := hide h
  rw [← hT] at hst HE HSM
  clear h hT H1
  go_wp2_with fail
  refine ((unhide H2).all List.mem_cons_self (unhide TOK)).mono ?_
  rintro e w3 ⟨a1, c1, rfl, h⟩
  have H3 := hide h
  clear h H2
  go_wp2_with fail
  refine ((unhide H3).lows (List.mem_cons_of_mem _ List.mem_cons_self)).mono ?_
  rintro e w4 ⟨a2, c2, rfl, h⟩
  have H4 := hide h
  clear h H3
  go_wp2_with fail
  refine ((unhide H4).ask (List.mem_cons_of_mem _ (List.mem_cons_of_mem _ List.mem_cons_self)) src seq low).mono ?_
  rintro e w' ⟨rfl, hw'⟩
  rw [hw', hst]
  clear hw'
  obtain ⟨c0, hc0⟩ : ∃ c0, (ask T src seq low).2 = c0 := ⟨_, rfl⟩
  have hn2 := ask_two (unhide TOK) hst
  rw [hc0] at hn2 ⊢
  have hn3 : (c0 != 0) = true := bne_iff_ne.2 hn2

  go_wp2_with fail
  refine ((unhide H4).ask (List.mem_cons_of_mem _ (List.mem_cons_of_mem _ List.mem_cons_self)) src seq low).mono ?_
  rintro e w' ⟨rfl, hw'⟩
  rw [hw', hst, hc0]
  clear hw'
  go_wp2_with fail
  refine ((unhide H4).all (List.mem_cons_of_mem _ (List.mem_cons_of_mem _ List.mem_cons_self)) (unhide TOK)).mono ?_
  rintro e w5 ⟨a3, c3, rfl, h⟩
  have H5 := hide h
  clear h H4
  go_wp2_with fail
  refine (same_any ((unhide H5).row List.mem_cons_self) ((unhide H5).row (List.mem_cons_of_mem _ (List.mem_cons_of_mem _ List.mem_cons_self))) (by have := all_length (unhide TOK); omega)).mono ?_
  rintro e w6 ⟨rfl, hb⟩
  rw [sameL_iff.2 rfl]
  have H6 := hide (((unhide H5).drop1.below hb).perm (perm3 _ _ _))
  clear hb H5
  go_wp2_with fail
  refine ((unhide H6).note (unhide TOK) src seq low code).mono ?_
  rintro e w7 ⟨rfl, F3, h⟩
  rw [unhide HE]
  rw [unhide HSM] at h
  have H7 := hide h
  clear h H6
  go_wp2_with fail
  refine ((unhide H7).lows List.mem_cons_self).mono ?_
  rintro e w8 ⟨a4, c4, rfl, h⟩
  have H8 := hide h
  clear h H7
  go_wp2_with fail
  go_loopw [24] (fun i wr => ∃ k : Nat, i = .int .i64 (k : Int) ∧ k ≤ 4 ∧ HR w wr (hRow IntK a4 c4 (lows T) :: hTab p F3 T :: hRow IntK a2 c2 (lows T) :: hRow EntK a1 c1 (all T) :: [])) (fun i _ => 4 - (intOf i).toNat)
  case atStart => exact ⟨0, rfl, by decide, unhide H8⟩
  case round =>
    obtain ⟨k, rfl, hk, hr⟩ := hrel
    clear H8
    have HH := hide hr
    clear hr
    by_cases hlt : k < 4
    · have g0 : (0 : Int) ≤ (k : Int) := by omega
      have g1 : (k : Int) < 4 := by omega
      have g2 : ¬ (4 : Int) ≤ (k : Int) := by omega
      have g3 : decide ((4 : Int) ≤ (k : Int)) = false := decide_eq_false g2
      have hwk : IntKind.i64.wrap ((k : Int) + 1) = (k : Int) + 1 := Go.IntWalk.i64_in _ (by omega)
      obtain ⟨x, hx⟩ : ∃ x, (lows T)[k]? = some x := ⟨_, List.getElem?_eq_getElem (by rw [lows_length]; omega)⟩
      obtain ⟨g, o, rfl, hg, hrg⟩ := ((unhide HH).row List.mem_cons_self : IntK.At wr a4 (lows T)).cell intK_law hx
      obtain ⟨g', o', rfl, hg', hrg'⟩ := ((unhide HH).row (List.mem_cons_of_mem _ (List.mem_cons_of_mem _ List.mem_cons_self)) : IntK.At wr a2 (lows T)).cell intK_law hx
      have c0 := hrg 0 (.int .i64 x) rfl
      have c0' := hrg' 0 (.int .i64 x) rfl
      simp only [IntK, Nat.mul_one, Nat.add_zero] at c0 c0'
      obtain ⟨CL, hCL⟩ : ∃ CL : World → Prop, CL = fun v => Below wr.heap.size wr v := ⟨_, rfl⟩
      have un : ∀ v, CL v → Below wr.heap.size wr v := fun v k => by rw [hCL] at k; exact k
      have base : CL wr.drew := by rw [hCL]; exact (Below.refl _ _).drew
      have q0 : ∀ q : SX CL, q.w.cell? ⟨g, o + k, none⟩ = some (.int .i64 x) := fun q => ((un _ q.ok).cell (p := ⟨g, o + k, none⟩) hg).trans c0
      have q1 : ∀ q : SX CL, q.w.cell? ⟨g', o' + k, none⟩ = some (.int .i64 x) := fun q => ((un _ q.ok).cell (p := ⟨g', o' + k, none⟩) hg').trans c0'
      have UN := hide fun v hv => (unhide HH).below (un v hv)
      have ne : Nonempty (SX CL) := ⟨⟨_, base⟩⟩
      have BS := hide base
      clear hx hg hrg hg' hrg' hCL base un c0 c0'
      go_upto_region 25 with fail
      refine wp_region_sx (St := CL) (by kernel_rfl) (by kernel_rfl) (unhide BS) ?_
      repeat (go_big_quiet_step (fail))
      refine wpQuiet_nil ?_
      first | (rintro v1 ⟨⟨v1', OK1⟩, e1⟩; subst e1) | rintro ⟨v1, OK1⟩
      try dsimp only
      have B1 := hide (unhide UN _ OK1)
      clear OK1 q0 q1
      go_wp2_with fail
      exact ⟨⟨k + 1, rfl, by omega, unhide B1⟩, by simp [intOf]; omega⟩
    · have gk : ¬ (k : Int) < 4 := by omega
      go_wp2_with fail
      refine ((unhide HH).all (List.mem_cons_of_mem _ List.mem_cons_self) (unhide TOK)).mono ?_
      rintro e w9 ⟨a5, c5, rfl, h⟩
      have H9 := hide h
      clear h HH
      go_wp2_with fail
      refine (same_any ((unhide H9).row List.mem_cons_self) ((unhide H9).row (List.mem_cons_of_mem _ (List.mem_cons_of_mem _ (List.mem_cons_of_mem _ (List.mem_cons_of_mem _ List.mem_cons_self))))) (by have := all_length (unhide TOK); omega)).mono ?_
      rintro e w10 ⟨rfl, hb⟩
      rw [sameL_iff.2 rfl]
      have H10 := hide ((unhide H9).below hb)
      clear hb H9
      go_wp2_with fail
      refine (wakes_any w10).mono ?_
      rintro e w' ⟨rfl, hb⟩
      have HB := hide ((unhide H10).below hb).bel
      clear hb
      go_wp2_with fail
      go_ret
      exact ⟨rfl, unhide HB⟩
set_option maxRecDepth 100000 in
set_option maxHeartbeats 4000000 in
theorem quiet2lo (a : Option Addr) (cap : Nat) (z : List ActV) (src seq low code : Int) (w : World) (hA : ActK.At w a z) (hn : z.length ≤ 300) (hst : (ask (plays new_ z (-1)) src seq low).1 = 2) (hc1 : ¬ 1 ≤ code) :
    Calls Try.prog 8 #[.slice a z.length cap, .int .i64 src, .int .i64 seq, .int .i64 low, .int .i64 code] w fun e w' => e = .returned (.bool true) ∧ Below w.heap.size w w' := by
  have hcc : isCode code = false := Bool.eq_false_iff.2 fun h => hc1 (code_iff.1 h).1
  have HE : Hid (noteE (plays new_ z (-1)) src seq low code = 1) := hide (by unfold noteE; rw [hst, hcc]; simp)
  have HSM : Hid (note (plays new_ z (-1)) src seq low code = plays new_ z (-1)) := hide (if_neg (by rw [unhide HE]; decide))
  clear hcc
  have hd1 : decide (1 ≤ code) = false := decide_eq_false hc1
  have H0 := hide (HR.start w)
  have gz : ¬ (300 : Int) < (z.length : Int) := by omega
  have HA := hide hA
  have HN := hide hn
  clear hA hn
  go_enter Try.func8, Try.ntmps8
  go_wp2_with fail
  refine (HR.new (unhide H0)).mono ?_
  rintro e w1 ⟨p, F1, rfl, h⟩
  have H1 := hide h
  clear h H0
  go_wp2_with fail
  refine (plays_any (unhide H1) new_ok (unhide HA) (by have := unhide HN; omega) (-1)).mono ?_
  rintro e w2 ⟨rfl, F2, h⟩
  obtain ⟨T, hT⟩ : ∃ T, T = plays new_ z (-1) := ⟨_, rfl⟩
  rw [← hT] at h
  have TOK : Hid T.Ok := hide (by rw [hT]; exact plays_ok new_ok _ _)
  have H2 := hide h
  rw [← hT] at hst HE HSM
  clear h hT H1
  go_wp2_with fail
  refine ((unhide H2).all List.mem_cons_self (unhide TOK)).mono ?_
  rintro e w3 ⟨a1, c1, rfl, h⟩
  have H3 := hide h
  clear h H2
  go_wp2_with fail
  refine ((unhide H3).lows (List.mem_cons_of_mem _ List.mem_cons_self)).mono ?_
  rintro e w4 ⟨a2, c2, rfl, h⟩
  have H4 := hide h
  clear h H3
  go_wp2_with fail
  refine ((unhide H4).ask (List.mem_cons_of_mem _ (List.mem_cons_of_mem _ List.mem_cons_self)) src seq low).mono ?_
  rintro e w' ⟨rfl, hw'⟩
  rw [hw', hst]
  clear hw'
  obtain ⟨c0, hc0⟩ : ∃ c0, (ask T src seq low).2 = c0 := ⟨_, rfl⟩
  have hn2 := ask_two (unhide TOK) hst
  rw [hc0] at hn2 ⊢
  have hn3 : (c0 != 0) = true := bne_iff_ne.2 hn2

  go_wp2_with fail
  refine ((unhide H4).ask (List.mem_cons_of_mem _ (List.mem_cons_of_mem _ List.mem_cons_self)) src seq low).mono ?_
  rintro e w' ⟨rfl, hw'⟩
  rw [hw', hst, hc0]
  clear hw'
  go_wp2_with fail
  refine ((unhide H4).all (List.mem_cons_of_mem _ (List.mem_cons_of_mem _ List.mem_cons_self)) (unhide TOK)).mono ?_
  rintro e w5 ⟨a3, c3, rfl, h⟩
  have H5 := hide h
  clear h H4
  go_wp2_with fail
  refine (same_any ((unhide H5).row List.mem_cons_self) ((unhide H5).row (List.mem_cons_of_mem _ (List.mem_cons_of_mem _ List.mem_cons_self))) (by have := all_length (unhide TOK); omega)).mono ?_
  rintro e w6 ⟨rfl, hb⟩
  rw [sameL_iff.2 rfl]
  have H6 := hide (((unhide H5).drop1.below hb).perm (perm3 _ _ _))
  clear hb H5
  go_wp2_with fail
  refine ((unhide H6).note (unhide TOK) src seq low code).mono ?_
  rintro e w7 ⟨rfl, F3, h⟩
  rw [unhide HE]
  rw [unhide HSM] at h
  have H7 := hide h
  clear h H6
  go_wp2_with fail
  refine ((unhide H7).lows List.mem_cons_self).mono ?_
  rintro e w8 ⟨a4, c4, rfl, h⟩
  have H8 := hide h
  clear h H7
  go_wp2_with fail
  go_loopw [24] (fun i wr => ∃ k : Nat, i = .int .i64 (k : Int) ∧ k ≤ 4 ∧ HR w wr (hRow IntK a4 c4 (lows T) :: hTab p F3 T :: hRow IntK a2 c2 (lows T) :: hRow EntK a1 c1 (all T) :: [])) (fun i _ => 4 - (intOf i).toNat)
  case atStart => exact ⟨0, rfl, by decide, unhide H8⟩
  case round =>
    obtain ⟨k, rfl, hk, hr⟩ := hrel
    clear H8
    have HH := hide hr
    clear hr
    by_cases hlt : k < 4
    · have g0 : (0 : Int) ≤ (k : Int) := by omega
      have g1 : (k : Int) < 4 := by omega
      have g2 : ¬ (4 : Int) ≤ (k : Int) := by omega
      have g3 : decide ((4 : Int) ≤ (k : Int)) = false := decide_eq_false g2
      have hwk : IntKind.i64.wrap ((k : Int) + 1) = (k : Int) + 1 := Go.IntWalk.i64_in _ (by omega)
      obtain ⟨x, hx⟩ : ∃ x, (lows T)[k]? = some x := ⟨_, List.getElem?_eq_getElem (by rw [lows_length]; omega)⟩
      obtain ⟨g, o, rfl, hg, hrg⟩ := ((unhide HH).row List.mem_cons_self : IntK.At wr a4 (lows T)).cell intK_law hx
      obtain ⟨g', o', rfl, hg', hrg'⟩ := ((unhide HH).row (List.mem_cons_of_mem _ (List.mem_cons_of_mem _ List.mem_cons_self)) : IntK.At wr a2 (lows T)).cell intK_law hx
      have c0 := hrg 0 (.int .i64 x) rfl
      have c0' := hrg' 0 (.int .i64 x) rfl
      simp only [IntK, Nat.mul_one, Nat.add_zero] at c0 c0'
      obtain ⟨CL, hCL⟩ : ∃ CL : World → Prop, CL = fun v => Below wr.heap.size wr v := ⟨_, rfl⟩
      have un : ∀ v, CL v → Below wr.heap.size wr v := fun v k => by rw [hCL] at k; exact k
      have base : CL wr.drew := by rw [hCL]; exact (Below.refl _ _).drew
      have q0 : ∀ q : SX CL, q.w.cell? ⟨g, o + k, none⟩ = some (.int .i64 x) := fun q => ((un _ q.ok).cell (p := ⟨g, o + k, none⟩) hg).trans c0
      have q1 : ∀ q : SX CL, q.w.cell? ⟨g', o' + k, none⟩ = some (.int .i64 x) := fun q => ((un _ q.ok).cell (p := ⟨g', o' + k, none⟩) hg').trans c0'
      have UN := hide fun v hv => (unhide HH).below (un v hv)
      have ne : Nonempty (SX CL) := ⟨⟨_, base⟩⟩
      have BS := hide base
      clear hx hg hrg hg' hrg' hCL base un c0 c0'
      go_upto_region 25 with fail
      refine wp_region_sx (St := CL) (by kernel_rfl) (by kernel_rfl) (unhide BS) ?_
      repeat (go_big_quiet_step (fail))
      refine wpQuiet_nil ?_
      first | (rintro v1 ⟨⟨v1', OK1⟩, e1⟩; subst e1) | rintro ⟨v1, OK1⟩
      try dsimp only
      have B1 := hide (unhide UN _ OK1)
      clear OK1 q0 q1
      go_wp2_with fail
      exact ⟨⟨k + 1, rfl, by omega, unhide B1⟩, by simp [intOf]; omega⟩
    · have gk : ¬ (k : Int) < 4 := by omega
      go_wp2_with fail
      refine ((unhide HH).all (List.mem_cons_of_mem _ List.mem_cons_self) (unhide TOK)).mono ?_
      rintro e w9 ⟨a5, c5, rfl, h⟩
      have H9 := hide h
      clear h HH
      go_wp2_with fail
      refine (same_any ((unhide H9).row List.mem_cons_self) ((unhide H9).row (List.mem_cons_of_mem _ (List.mem_cons_of_mem _ (List.mem_cons_of_mem _ (List.mem_cons_of_mem _ List.mem_cons_self))))) (by have := all_length (unhide TOK); omega)).mono ?_
      rintro e w10 ⟨rfl, hb⟩
      rw [sameL_iff.2 rfl]
      have H10 := hide ((unhide H9).below hb)
      clear hb H9
      go_wp2_with fail
      refine (wakes_any w10).mono ?_
      rintro e w' ⟨rfl, hb⟩
      have HB := hide ((unhide H10).below hb).bel
      clear hb
      go_wp2_with fail
      go_ret
      exact ⟨rfl, unhide HB⟩
set_option maxRecDepth 100000 in
set_option maxHeartbeats 4000000 in
theorem quiet2hi (a : Option Addr) (cap : Nat) (z : List ActV) (src seq low code : Int) (w : World) (hA : ActK.At w a z) (hn : z.length ≤ 300) (hst : (ask (plays new_ z (-1)) src seq low).1 = 2) (hc1 : 1 ≤ code) (hc2 : ¬ code ≤ 4) :
    Calls Try.prog 8 #[.slice a z.length cap, .int .i64 src, .int .i64 seq, .int .i64 low, .int .i64 code] w fun e w' => e = .returned (.bool true) ∧ Below w.heap.size w w' := by
  have hcc : isCode code = false := Bool.eq_false_iff.2 fun h => hc2 (code_iff.1 h).2
  have HE : Hid (noteE (plays new_ z (-1)) src seq low code = 1) := hide (by unfold noteE; rw [hst, hcc]; simp)
  have HSM : Hid (note (plays new_ z (-1)) src seq low code = plays new_ z (-1)) := hide (if_neg (by rw [unhide HE]; decide))
  clear hcc
  have hd2 : decide (code ≤ 4) = false := decide_eq_false hc2
  have H0 := hide (HR.start w)
  have gz : ¬ (300 : Int) < (z.length : Int) := by omega
  have HA := hide hA
  have HN := hide hn
  clear hA hn
  go_enter Try.func8, Try.ntmps8
  go_wp2_with fail
  refine (HR.new (unhide H0)).mono ?_
  rintro e w1 ⟨p, F1, rfl, h⟩
  have H1 := hide h
  clear h H0
  go_wp2_with fail
  refine (plays_any (unhide H1) new_ok (unhide HA) (by have := unhide HN; omega) (-1)).mono ?_
  rintro e w2 ⟨rfl, F2, h⟩
  obtain ⟨T, hT⟩ : ∃ T, T = plays new_ z (-1) := ⟨_, rfl⟩
  rw [← hT] at h
  have TOK : Hid T.Ok := hide (by rw [hT]; exact plays_ok new_ok _ _)
  have H2 := hide h
  rw [← hT] at hst HE HSM
  clear h hT H1
  go_wp2_with fail
  refine ((unhide H2).all List.mem_cons_self (unhide TOK)).mono ?_
  rintro e w3 ⟨a1, c1, rfl, h⟩
  have H3 := hide h
  clear h H2
  go_wp2_with fail
  refine ((unhide H3).lows (List.mem_cons_of_mem _ List.mem_cons_self)).mono ?_
  rintro e w4 ⟨a2, c2, rfl, h⟩
  have H4 := hide h
  clear h H3
  go_wp2_with fail
  refine ((unhide H4).ask (List.mem_cons_of_mem _ (List.mem_cons_of_mem _ List.mem_cons_self)) src seq low).mono ?_
  rintro e w' ⟨rfl, hw'⟩
  rw [hw', hst]
  clear hw'
  obtain ⟨c0, hc0⟩ : ∃ c0, (ask T src seq low).2 = c0 := ⟨_, rfl⟩
  have hn2 := ask_two (unhide TOK) hst
  rw [hc0] at hn2 ⊢
  have hn3 : (c0 != 0) = true := bne_iff_ne.2 hn2

  go_wp2_with fail
  refine ((unhide H4).ask (List.mem_cons_of_mem _ (List.mem_cons_of_mem _ List.mem_cons_self)) src seq low).mono ?_
  rintro e w' ⟨rfl, hw'⟩
  rw [hw', hst, hc0]
  clear hw'
  go_wp2_with fail
  refine ((unhide H4).all (List.mem_cons_of_mem _ (List.mem_cons_of_mem _ List.mem_cons_self)) (unhide TOK)).mono ?_
  rintro e w5 ⟨a3, c3, rfl, h⟩
  have H5 := hide h
  clear h H4
  go_wp2_with fail
  refine (same_any ((unhide H5).row List.mem_cons_self) ((unhide H5).row (List.mem_cons_of_mem _ (List.mem_cons_of_mem _ List.mem_cons_self))) (by have := all_length (unhide TOK); omega)).mono ?_
  rintro e w6 ⟨rfl, hb⟩
  rw [sameL_iff.2 rfl]
  have H6 := hide (((unhide H5).drop1.below hb).perm (perm3 _ _ _))
  clear hb H5
  go_wp2_with fail
  refine ((unhide H6).note (unhide TOK) src seq low code).mono ?_
  rintro e w7 ⟨rfl, F3, h⟩
  rw [unhide HE]
  rw [unhide HSM] at h
  have H7 := hide h
  clear h H6
  go_wp2_with fail
  refine ((unhide H7).lows List.mem_cons_self).mono ?_
  rintro e w8 ⟨a4, c4, rfl, h⟩
  have H8 := hide h
  clear h H7
  go_wp2_with fail
  go_loopw [24] (fun i wr => ∃ k : Nat, i = .int .i64 (k : Int) ∧ k ≤ 4 ∧ HR w wr (hRow IntK a4 c4 (lows T) :: hTab p F3 T :: hRow IntK a2 c2 (lows T) :: hRow EntK a1 c1 (all T) :: [])) (fun i _ => 4 - (intOf i).toNat)
  case atStart => exact ⟨0, rfl, by decide, unhide H8⟩
  case round =>
    obtain ⟨k, rfl, hk, hr⟩ := hrel
    clear H8
    have HH := hide hr
    clear hr
    by_cases hlt : k < 4
    · have g0 : (0 : Int) ≤ (k : Int) := by omega
      have g1 : (k : Int) < 4 := by omega
      have g2 : ¬ (4 : Int) ≤ (k : Int) := by omega
      have g3 : decide ((4 : Int) ≤ (k : Int)) = false := decide_eq_false g2
      have hwk : IntKind.i64.wrap ((k : Int) + 1) = (k : Int) + 1 := Go.IntWalk.i64_in _ (by omega)
      obtain ⟨x, hx⟩ : ∃ x, (lows T)[k]? = some x := ⟨_, List.getElem?_eq_getElem (by rw [lows_length]; omega)⟩
      obtain ⟨g, o, rfl, hg, hrg⟩ := ((unhide HH).row List.mem_cons_self : IntK.At wr a4 (lows T)).cell intK_law hx
      obtain ⟨g', o', rfl, hg', hrg'⟩ := ((unhide HH).row (List.mem_cons_of_mem _ (List.mem_cons_of_mem _ List.mem_cons_self)) : IntK.At wr a2 (lows T)).cell intK_law hx
      have c0 := hrg 0 (.int .i64 x) rfl
      have c0' := hrg' 0 (.int .i64 x) rfl
      simp only [IntK, Nat.mul_one, Nat.add_zero] at c0 c0'
      obtain ⟨CL, hCL⟩ : ∃ CL : World → Prop, CL = fun v => Below wr.heap.size wr v := ⟨_, rfl⟩
      have un : ∀ v, CL v → Below wr.heap.size wr v := fun v k => by rw [hCL] at k; exact k
      have base : CL wr.drew := by rw [hCL]; exact (Below.refl _ _).drew
      have q0 : ∀ q : SX CL, q.w.cell? ⟨g, o + k, none⟩ = some (.int .i64 x) := fun q => ((un _ q.ok).cell (p := ⟨g, o + k, none⟩) hg).trans c0
      have q1 : ∀ q : SX CL, q.w.cell? ⟨g', o' + k, none⟩ = some (.int .i64 x) := fun q => ((un _ q.ok).cell (p := ⟨g', o' + k, none⟩) hg').trans c0'
      have UN := hide fun v hv => (unhide HH).below (un v hv)
      have ne : Nonempty (SX CL) := ⟨⟨_, base⟩⟩
      have BS := hide base
      clear hx hg hrg hg' hrg' hCL base un c0 c0'
      go_upto_region 25 with fail
      refine wp_region_sx (St := CL) (by kernel_rfl) (by kernel_rfl) (unhide BS) ?_
      repeat (go_big_quiet_step (fail))
      refine wpQuiet_nil ?_
      first | (rintro v1 ⟨⟨v1', OK1⟩, e1⟩; subst e1) | rintro ⟨v1, OK1⟩
      try dsimp only
      have B1 := hide (unhide UN _ OK1)
      clear OK1 q0 q1
      go_wp2_with fail
      exact ⟨⟨k + 1, rfl, by omega, unhide B1⟩, by simp [intOf]; omega⟩
    · have gk : ¬ (k : Int) < 4 := by omega
      go_wp2_with fail
      refine ((unhide HH).all (List.mem_cons_of_mem _ List.mem_cons_self) (unhide TOK)).mono ?_
      rintro e w9 ⟨a5, c5, rfl, h⟩
      have H9 := hide h
      clear h HH
      go_wp2_with fail
      refine (same_any ((unhide H9).row List.mem_cons_self) ((unhide H9).row (List.mem_cons_of_mem _ (List.mem_cons_of_mem _ (List.mem_cons_of_mem _ (List.mem_cons_of_mem _ List.mem_cons_self))))) (by have := all_length (unhide TOK); omega)).mono ?_
      rintro e w10 ⟨rfl, hb⟩
      rw [sameL_iff.2 rfl]
      have H10 := hide ((unhide H9).below hb)
      clear hb H9
      go_wp2_with fail
      refine (wakes_any w10).mono ?_
      rintro e w' ⟨rfl, hb⟩
      have HB := hide ((unhide H10).below hb).bel
      clear hb
      go_wp2_with fail
      go_ret
      exact ⟨rfl, unhide HB⟩
set_option maxRecDepth 100000 in
set_option maxHeartbeats 4000000 in
theorem quiet3in (a : Option Addr) (cap : Nat) (z : List ActV) (src seq low code : Int) (w : World) (hA : ActK.At w a z) (hn : z.length ≤ 300) (hst : (ask (plays new_ z (-1)) src seq low).1 = 3) (hc1 : 1 ≤ code) (hc2 : code ≤ 4) :
    Calls Try.prog 8 #[.slice a z.length cap, .int .i64 src, .int .i64 seq, .int .i64 low, .int .i64 code] w fun e w' => e = .returned (.bool true) ∧ Below w.heap.size w w' := by
  have hcc : isCode code = true := code_iff.2 ⟨hc1, hc2⟩
  have HE : Hid (noteE (plays new_ z (-1)) src seq low code = 0) := hide (by unfold noteE; rw [hst, hcc]; simp)
  have HQ : Hid (ask (note (plays new_ z (-1)) src seq low code) src seq low = (2, code)) := hide (ask_noted (plays_ok new_ok _ _) (unhide HE))
  clear hcc
  have H0 := hide (HR.start w)
  have gz : ¬ (300 : Int) < (z.length : Int) := by omega
  have HA := hide hA
  have HN := hide hn
  clear hA hn
  go_enter Try.func8, Try.ntmps8
  go_wp2_with fail
  refine (HR.new (unhide H0)).mono ?_
  rintro e w1 ⟨p, F1, rfl, h⟩
  have H1 := hide h
  clear h H0
  go_wp2_with fail
  refine (plays_any (unhide H1) new_ok (unhide HA) (by have := unhide HN; omega) (-1)).mono ?_
  rintro e w2 ⟨rfl, F2, h⟩
  obtain ⟨T, hT⟩ : ∃ T, T = plays new_ z (-1) := ⟨_, rfl⟩
  rw [← hT] at h
  have TOK : Hid T.Ok := hide (by rw [hT]; exact plays_ok new_ok _ _)
  have H2 := hide h
  rw [← hT] at hst HE HQ
  clear h hT H1
  go_wp2_with fail
  refine ((unhide H2).all List.mem_cons_self (unhide TOK)).mono ?_
  rintro e w3 ⟨a1, c1, rfl, h⟩
  have H3 := hide h
  clear h H2
  go_wp2_with fail
  refine ((unhide H3).lows (List.mem_cons_of_mem _ List.mem_cons_self)).mono ?_
  rintro e w4 ⟨a2, c2, rfl, h⟩
  have H4 := hide h
  clear h H3
  go_wp2_with fail
  refine ((unhide H4).ask (List.mem_cons_of_mem _ (List.mem_cons_of_mem _ List.mem_cons_self)) src seq low).mono ?_
  rintro e w' ⟨rfl, hw'⟩
  rw [hw', hst, ask_zero T (by rw [hst]; decide)]
  clear hw'
  go_wp2_with fail
  refine ((unhide H4).ask (List.mem_cons_of_mem _ (List.mem_cons_of_mem _ List.mem_cons_self)) src seq low).mono ?_
  rintro e w' ⟨rfl, hw'⟩
  rw [hw', hst, ask_zero T (by rw [hst]; decide)]
  clear hw'
  go_wp2_with fail
  refine ((unhide H4).all (List.mem_cons_of_mem _ (List.mem_cons_of_mem _ List.mem_cons_self)) (unhide TOK)).mono ?_
  rintro e w5 ⟨a3, c3, rfl, h⟩
  have H5 := hide h
  clear h H4
  go_wp2_with fail
  refine (same_any ((unhide H5).row List.mem_cons_self) ((unhide H5).row (List.mem_cons_of_mem _ (List.mem_cons_of_mem _ List.mem_cons_self))) (by have := all_length (unhide TOK); omega)).mono ?_
  rintro e w6 ⟨rfl, hb⟩
  rw [sameL_iff.2 rfl]
  have H6 := hide (((unhide H5).drop1.below hb).perm (perm3 _ _ _))
  clear hb H5
  go_wp2_with fail
  refine ((unhide H6).note (unhide TOK) src seq low code).mono ?_
  rintro e w7 ⟨rfl, F3, h⟩
  rw [unhide HE]
  have H7 := hide h
  clear h H6
  go_wp2_with fail
  refine ((unhide H7).ask List.mem_cons_self src seq low).mono ?_
  rintro e w' ⟨rfl, hw'⟩
  rw [hw', unhide HQ]
  clear hw'
  go_wp2_with fail
  refine (wakes_any w7).mono ?_
  rintro e w' ⟨rfl, hb⟩
  have HB := hide ((unhide H7).below hb).bel
  clear hb
  go_wp2_with fail
  go_ret
  exact ⟨rfl, unhide HB⟩
set_option maxRecDepth 100000 in
set_option maxHeartbeats 4000000 in
theorem quiet3lo (a : Option Addr) (cap : Nat) (z : List ActV) (src seq low code : Int) (w : World) (hA : ActK.At w a z) (hn : z.length ≤ 300) (hst : (ask (plays new_ z (-1)) src seq low).1 = 3) (hc1 : ¬ 1 ≤ code) :
    Calls Try.prog 8 #[.slice a z.length cap, .int .i64 src, .int .i64 seq, .int .i64 low, .int .i64 code] w fun e w' => e = .returned (.bool true) ∧ Below w.heap.size w w' := by
  have hcc : isCode code = false := Bool.eq_false_iff.2 fun h => hc1 (code_iff.1 h).1
  have HE : Hid (noteE (plays new_ z (-1)) src seq low code = 1) := hide (by unfold noteE; rw [hst, hcc]; simp)
  have HSM : Hid (note (plays new_ z (-1)) src seq low code = plays new_ z (-1)) := hide (if_neg (by rw [unhide HE]; decide))
  clear hcc
  have hd1 : decide (1 ≤ code) = false := decide_eq_false hc1
  have H0 := hide (HR.start w)
  have gz : ¬ (300 : Int) < (z.length : Int) := by omega
  have HA := hide hA
  have HN := hide hn
  clear hA hn
  go_enter Try.func8, Try.ntmps8
  go_wp2_with fail
  refine (HR.new (unhide H0)).mono ?_
  rintro e w1 ⟨p, F1, rfl, h⟩
  have H1 := hide h
  clear h H0
  go_wp2_with fail
  refine (plays_any (unhide H1) new_ok (unhide HA) (by have := unhide HN; omega) (-1)).mono ?_
  rintro e w2 ⟨rfl, F2, h⟩
  obtain ⟨T, hT⟩ : ∃ T, T = plays new_ z (-1) := ⟨_, rfl⟩
  rw [← hT] at h
  have TOK : Hid T.Ok := hide (by rw [hT]; exact plays_ok new_ok _ _)
  have H2 := hide h
  rw [← hT] at hst HE HSM
  clear h hT H1
  go_wp2_with fail
  refine ((unhide H2).all List.mem_cons_self (unhide TOK)).mono ?_
  rintro e w3 ⟨a1, c1, rfl, h⟩
  have H3 := hide h
  clear h H2
  go_wp2_with fail
  refine ((unhide H3).lows (List.mem_cons_of_mem _ List.mem_cons_self)).mono ?_
  rintro e w4 ⟨a2, c2, rfl, h⟩
  have H4 := hide h
  clear h H3
  go_wp2_with fail
  refine ((unhide H4).ask (List.mem_cons_of_mem _ (List.mem_cons_of_mem _ List.mem_cons_self)) src seq low).mono ?_
  rintro e w' ⟨rfl, hw'⟩
  rw [hw', hst, ask_zero T (by rw [hst]; decide)]
  clear hw'
  go_wp2_with fail
  refine ((unhide H4).ask (List.mem_cons_of_mem _ (List.mem_cons_of_mem _ List.mem_cons_self)) src seq low).mono ?_
  rintro e w' ⟨rfl, hw'⟩
  rw [hw', hst, ask_zero T (by rw [hst]; decide)]
  clear hw'
  go_wp2_with fail
  refine ((unhide H4).all (List.mem_cons_of_mem _ (List.mem_cons_of_mem _ List.mem_cons_self)) (unhide TOK)).mono ?_
  rintro e w5 ⟨a3, c3, rfl, h⟩
  have H5 := hide h
  clear h H4
  go_wp2_with fail
  refine (same_any ((unhide H5).row List.mem_cons_self) ((unhide H5).row (List.mem_cons_of_mem _ (List.mem_cons_of_mem _ List.mem_cons_self))) (by have := all_length (unhide TOK); omega)).mono ?_
  rintro e w6 ⟨rfl, hb⟩
  rw [sameL_iff.2 rfl]
  have H6 := hide (((unhide H5).drop1.below hb).perm (perm3 _ _ _))
  clear hb H5
  go_wp2_with fail
  refine ((unhide H6).note (unhide TOK) src seq low code).mono ?_
  rintro e w7 ⟨rfl, F3, h⟩
  rw [unhide HE]
  rw [unhide HSM] at h
  have H7 := hide h
  clear h H6
  go_wp2_with fail
  refine ((unhide H7).lows List.mem_cons_self).mono ?_
  rintro e w8 ⟨a4, c4, rfl, h⟩
  have H8 := hide h
  clear h H7
  go_wp2_with fail
  go_loopw [24] (fun i wr => ∃ k : Nat, i = .int .i64 (k : Int) ∧ k ≤ 4 ∧ HR w wr (hRow IntK a4 c4 (lows T) :: hTab p F3 T :: hRow IntK a2 c2 (lows T) :: hRow EntK a1 c1 (all T) :: [])) (fun i _ => 4 - (intOf i).toNat)
  case atStart => exact ⟨0, rfl, by decide, unhide H8⟩
  case round =>
    obtain ⟨k, rfl, hk, hr⟩ := hrel
    clear H8
    have HH := hide hr
    clear hr
    by_cases hlt : k < 4
    · have g0 : (0 : Int) ≤ (k : Int) := by omega
      have g1 : (k : Int) < 4 := by omega
      have g2 : ¬ (4 : Int) ≤ (k : Int) := by omega
      have g3 : decide ((4 : Int) ≤ (k : Int)) = false := decide_eq_false g2
      have hwk : IntKind.i64.wrap ((k : Int) + 1) = (k : Int) + 1 := Go.IntWalk.i64_in _ (by omega)
      obtain ⟨x, hx⟩ : ∃ x, (lows T)[k]? = some x := ⟨_, List.getElem?_eq_getElem (by rw [lows_length]; omega)⟩
      obtain ⟨g, o, rfl, hg, hrg⟩ := ((unhide HH).row List.mem_cons_self : IntK.At wr a4 (lows T)).cell intK_law hx
      obtain ⟨g', o', rfl, hg', hrg'⟩ := ((unhide HH).row (List.mem_cons_of_mem _ (List.mem_cons_of_mem _ List.mem_cons_self)) : IntK.At wr a2 (lows T)).cell intK_law hx
      have c0 := hrg 0 (.int .i64 x) rfl
      have c0' := hrg' 0 (.int .i64 x) rfl
      simp only [IntK, Nat.mul_one, Nat.add_zero] at c0 c0'
      obtain ⟨CL, hCL⟩ : ∃ CL : World → Prop, CL = fun v => Below wr.heap.size wr v := ⟨_, rfl⟩
      have un : ∀ v, CL v → Below wr.heap.size wr v := fun v k => by rw [hCL] at k; exact k
      have base : CL wr.drew := by rw [hCL]; exact (Below.refl _ _).drew
      have q0 : ∀ q : SX CL, q.w.cell? ⟨g, o + k, none⟩ = some (.int .i64 x) := fun q => ((un _ q.ok).cell (p := ⟨g, o + k, none⟩) hg).trans c0
      have q1 : ∀ q : SX CL, q.w.cell? ⟨g', o' + k, none⟩ = some (.int .i64 x) := fun q => ((un _ q.ok).cell (p := ⟨g', o' + k, none⟩) hg').trans c0'
      have UN := hide fun v hv => (unhide HH).below (un v hv)
      have ne : Nonempty (SX CL) := ⟨⟨_, base⟩⟩
      have BS := hide base
      clear hx hg hrg hg' hrg' hCL base un c0 c0'
      go_upto_region 25 with fail
      refine wp_region_sx (St := CL) (by kernel_rfl) (by kernel_rfl) (unhide BS) ?_
      repeat (go_big_quiet_step (fail))
      refine wpQuiet_nil ?_
      first | (rintro v1 ⟨⟨v1', OK1⟩, e1⟩; subst e1) | rintro ⟨v1, OK1⟩
      try dsimp only
      have B1 := hide (unhide UN _ OK1)
      clear OK1 q0 q1
      go_wp2_with fail
      exact ⟨⟨k + 1, rfl, by omega, unhide B1⟩, by simp [intOf]; omega⟩
    · have gk : ¬ (k : Int) < 4 := by omega
      go_wp2_with fail
      refine ((unhide HH).all (List.mem_cons_of_mem _ List.mem_cons_self) (unhide TOK)).mono ?_
      rintro e w9 ⟨a5, c5, rfl, h⟩
      have H9 := hide h
      clear h HH
      go_wp2_with fail
      refine (same_any ((unhide H9).row List.mem_cons_self) ((unhide H9).row (List.mem_cons_of_mem _ (List.mem_cons_of_mem _ (List.mem_cons_of_mem _ (List.mem_cons_of_mem _ List.mem_cons_self))))) (by have := all_length (unhide TOK); omega)).mono ?_
      rintro e w10 ⟨rfl, hb⟩
      rw [sameL_iff.2 rfl]
      have H10 := hide ((unhide H9).below hb)
      clear hb H9
      go_wp2_with fail
      refine (wakes_any w10).mono ?_
      rintro e w' ⟨rfl, hb⟩
      have HB := hide ((unhide H10).below hb).bel
      clear hb
      go_wp2_with fail
      go_ret
      exact ⟨rfl, unhide HB⟩
set_option maxRecDepth 100000 in
set_option maxHeartbeats 4000000 in
theorem quiet3hi (a : Option Addr) (cap : Nat) (z : List ActV) (src seq low code : Int) (w : World) (hA : ActK.At w a z) (hn : z.length ≤ 300) (hst : (ask (plays new_ z (-1)) src seq low).1 = 3) (hc1 : 1 ≤ code) (hc2 : ¬ code ≤ 4) :
    Calls Try.prog 8 #[.slice a z.length cap, .int .i64 src, .int .i64 seq, .int .i64 low, .int .i64 code] w fun e w' => e = .returned (.bool true) ∧ Below w.heap.size w w' := by
  have hcc : isCode code = false := Bool.eq_false_iff.2 fun h => hc2 (code_iff.1 h).2
  have HE : Hid (noteE (plays new_ z (-1)) src seq low code = 1) := hide (by unfold noteE; rw [hst, hcc]; simp)
  have HSM : Hid (note (plays new_ z (-1)) src seq low code = plays new_ z (-1)) := hide (if_neg (by rw [unhide HE]; decide))
  clear hcc
  have hd2 : decide (code ≤ 4) = false := decide_eq_false hc2
  have H0 := hide (HR.start w)
  have gz : ¬ (300 : Int) < (z.length : Int) := by omega
  have HA := hide hA
  have HN := hide hn
  clear hA hn
  go_enter Try.func8, Try.ntmps8
  go_wp2_with fail
  refine (HR.new (unhide H0)).mono ?_
  rintro e w1 ⟨p, F1, rfl, h⟩
  have H1 := hide h
  clear h H0
  go_wp2_with fail
  refine (plays_any (unhide H1) new_ok (unhide HA) (by have := unhide HN; omega) (-1)).mono ?_
  rintro e w2 ⟨rfl, F2, h⟩
  obtain ⟨T, hT⟩ : ∃ T, T = plays new_ z (-1) := ⟨_, rfl⟩
  rw [← hT] at h
  have TOK : Hid T.Ok := hide (by rw [hT]; exact plays_ok new_ok _ _)
  have H2 := hide h
  rw [← hT] at hst HE HSM
  clear h hT H1
  go_wp2_with fail
  refine ((unhide H2).all List.mem_cons_self (unhide TOK)).mono ?_
  rintro e w3 ⟨a1, c1, rfl, h⟩
  have H3 := hide h
  clear h H2
  go_wp2_with fail
  refine ((unhide H3).lows (List.mem_cons_of_mem _ List.mem_cons_self)).mono ?_
  rintro e w4 ⟨a2, c2, rfl, h⟩
  have H4 := hide h
  clear h H3
  go_wp2_with fail
  refine ((unhide H4).ask (List.mem_cons_of_mem _ (List.mem_cons_of_mem _ List.mem_cons_self)) src seq low).mono ?_
  rintro e w' ⟨rfl, hw'⟩
  rw [hw', hst, ask_zero T (by rw [hst]; decide)]
  clear hw'
  go_wp2_with fail
  refine ((unhide H4).ask (List.mem_cons_of_mem _ (List.mem_cons_of_mem _ List.mem_cons_self)) src seq low).mono ?_
  rintro e w' ⟨rfl, hw'⟩
  rw [hw', hst, ask_zero T (by rw [hst]; decide)]
  clear hw'
  go_wp2_with fail
  refine ((unhide H4).all (List.mem_cons_of_mem _ (List.mem_cons_of_mem _ List.mem_cons_self)) (unhide TOK)).mono ?_
  rintro e w5 ⟨a3, c3, rfl, h⟩
  have H5 := hide h
  clear h H4
  go_wp2_with fail
  refine (same_any ((unhide H5).row List.mem_cons_self) ((unhide H5).row (List.mem_cons_of_mem _ (List.mem_cons_of_mem _ List.mem_cons_self))) (by have := all_length (unhide TOK); omega)).mono ?_
  rintro e w6 ⟨rfl, hb⟩
  rw [sameL_iff.2 rfl]
  have H6 := hide (((unhide H5).drop1.below hb).perm (perm3 _ _ _))
  clear hb H5
  go_wp2_with fail
  refine ((unhide H6).note (unhide TOK) src seq low code).mono ?_
  rintro e w7 ⟨rfl, F3, h⟩
  rw [unhide HE]
  rw [unhide HSM] at h
  have H7 := hide h
  clear h H6
  go_wp2_with fail
  refine ((unhide H7).lows List.mem_cons_self).mono ?_
  rintro e w8 ⟨a4, c4, rfl, h⟩
  have H8 := hide h
  clear h H7
  go_wp2_with fail
  go_loopw [24] (fun i wr => ∃ k : Nat, i = .int .i64 (k : Int) ∧ k ≤ 4 ∧ HR w wr (hRow IntK a4 c4 (lows T) :: hTab p F3 T :: hRow IntK a2 c2 (lows T) :: hRow EntK a1 c1 (all T) :: [])) (fun i _ => 4 - (intOf i).toNat)
  case atStart => exact ⟨0, rfl, by decide, unhide H8⟩
  case round =>
    obtain ⟨k, rfl, hk, hr⟩ := hrel
    clear H8
    have HH := hide hr
    clear hr
    by_cases hlt : k < 4
    · have g0 : (0 : Int) ≤ (k : Int) := by omega
      have g1 : (k : Int) < 4 := by omega
      have g2 : ¬ (4 : Int) ≤ (k : Int) := by omega
      have g3 : decide ((4 : Int) ≤ (k : Int)) = false := decide_eq_false g2
      have hwk : IntKind.i64.wrap ((k : Int) + 1) = (k : Int) + 1 := Go.IntWalk.i64_in _ (by omega)
      obtain ⟨x, hx⟩ : ∃ x, (lows T)[k]? = some x := ⟨_, List.getElem?_eq_getElem (by rw [lows_length]; omega)⟩
      obtain ⟨g, o, rfl, hg, hrg⟩ := ((unhide HH).row List.mem_cons_self : IntK.At wr a4 (lows T)).cell intK_law hx
      obtain ⟨g', o', rfl, hg', hrg'⟩ := ((unhide HH).row (List.mem_cons_of_mem _ (List.mem_cons_of_mem _ List.mem_cons_self)) : IntK.At wr a2 (lows T)).cell intK_law hx
      have c0 := hrg 0 (.int .i64 x) rfl
      have c0' := hrg' 0 (.int .i64 x) rfl
      simp only [IntK, Nat.mul_one, Nat.add_zero] at c0 c0'
      obtain ⟨CL, hCL⟩ : ∃ CL : World → Prop, CL = fun v => Below wr.heap.size wr v := ⟨_, rfl⟩
      have un : ∀ v, CL v → Below wr.heap.size wr v := fun v k => by rw [hCL] at k; exact k
      have base : CL wr.drew := by rw [hCL]; exact (Below.refl _ _).drew
      have q0 : ∀ q : SX CL, q.w.cell? ⟨g, o + k, none⟩ = some (.int .i64 x) := fun q => ((un _ q.ok).cell (p := ⟨g, o + k, none⟩) hg).trans c0
      have q1 : ∀ q : SX CL, q.w.cell? ⟨g', o' + k, none⟩ = some (.int .i64 x) := fun q => ((un _ q.ok).cell (p := ⟨g', o' + k, none⟩) hg').trans c0'
      have UN := hide fun v hv => (unhide HH).below (un v hv)
      have ne : Nonempty (SX CL) := ⟨⟨_, base⟩⟩
      have BS := hide base
      clear hx hg hrg hg' hrg' hCL base un c0 c0'
      go_upto_region 25 with fail
      refine wp_region_sx (St := CL) (by kernel_rfl) (by kernel_rfl) (unhide BS) ?_
      repeat (go_big_quiet_step (fail))
      refine wpQuiet_nil ?_
      first | (rintro v1 ⟨⟨v1', OK1⟩, e1⟩; subst e1) | rintro ⟨v1, OK1⟩
      try dsimp only
      have B1 := hide (unhide UN _ OK1)
      clear OK1 q0 q1
      go_wp2_with fail
      exact ⟨⟨k + 1, rfl, by omega, unhide B1⟩, by simp [intOf]; omega⟩
    · have gk : ¬ (k : Int) < 4 := by omega
      go_wp2_with fail
      refine ((unhide HH).all (List.mem_cons_of_mem _ List.mem_cons_self) (unhide TOK)).mono ?_
      rintro e w9 ⟨a5, c5, rfl, h⟩
      have H9 := hide h
      clear h HH
      go_wp2_with fail
      refine (same_any ((unhide H9).row List.mem_cons_self) ((unhide H9).row (List.mem_cons_of_mem _ (List.mem_cons_of_mem _ (List.mem_cons_of_mem _ (List.mem_cons_of_mem _ List.mem_cons_self))))) (by have := all_length (unhide TOK); omega)).mono ?_
      rintro e w10 ⟨rfl, hb⟩
      rw [sameL_iff.2 rfl]
      have H10 := hide ((unhide H9).below hb)
      clear hb H9
      go_wp2_with fail
      refine (wakes_any w10).mono ?_
      rintro e w' ⟨rfl, hb⟩
      have HB := hide ((unhide H10).below hb).bel
      clear hb
      go_wp2_with fail
      go_ret
      exact ⟨rfl, unhide HB⟩
set_option maxRecDepth 100000 in
theorem quiet_any (a : Option Addr) (cap : Nat) (z : List ActV) (src seq low code : Int) (w : World) (_hm : z.length ≤ maxLen) (hA : ActK.At w a z) (_hI : ∀ b ∈ z, b.In) :
    Calls Try.prog 8 #[.slice a z.length cap, .int .i64 src, .int .i64 seq, .int .i64 low, .int .i64 code] w fun e w' => e = .returned (.bool true) ∧ Below w.heap.size w w' := by
  by_cases hn : z.length ≤ 300
  · have hs : (ask (plays new_ z (-1)) src seq low).1 = 0 ∨ (ask (plays new_ z (-1)) src seq low).1 = 1 ∨ (ask (plays new_ z (-1)) src seq low).1 = 2 ∨ (ask (plays new_ z (-1)) src seq low).1 = 3 := by
      rcases ask_state (plays new_ z (-1)) src seq low with ⟨h0, _⟩ | ⟨_, ⟨h0, _⟩ | ⟨h0, _⟩ | ⟨h0, _⟩⟩ <;> omega
    by_cases h1 : 1 ≤ code
    · by_cases h2 : code ≤ 4
      · rcases hs with hs | hs | hs | hs
        · exact quiet0in a cap z src seq low code w hA hn hs h1 h2
        · exact quiet1in a cap z src seq low code w hA hn hs h1 h2
        · exact quiet2in a cap z src seq low code w hA hn hs h1 h2
        · exact quiet3in a cap z src seq low code w hA hn hs h1 h2
      · rcases hs with hs | hs | hs | hs
        · exact quiet0hi a cap z src seq low code w hA hn hs h1 h2
        · exact quiet1hi a cap z src seq low code w hA hn hs h1 h2
        · exact quiet2hi a cap z src seq low code w hA hn hs h1 h2
        · exact quiet3hi a cap z src seq low code w hA hn hs h1 h2
    · rcases hs with hs | hs | hs | hs
      · exact quiet0lo a cap z src seq low code w hA hn hs h1
      · exact quiet1lo a cap z src seq low code w hA hn hs h1
      · exact quiet2lo a cap z src seq low code w hA hn hs h1
      · exact quiet3lo a cap z src seq low code w hA hn hs h1
  · have gz : (300 : Int) < (z.length : Int) := by omega
    clear hA
    go_enter Try.func8, Try.ntmps8
    go_wp2_with fail
    refine (wakes_any w).mono ?_
    rintro e w' ⟨rfl, hb⟩
    have HB := hide hb
    clear hb
    go_wp2_with fail
    go_ret
    exact ⟨rfl, unhide HB⟩
end Go.Proofs.Ytoofaldblldncaa

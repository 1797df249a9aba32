/- The law's own: given hands the document's entries over, alike holds a table beside the document's. Conditions: at most 100 entries, and 10000. -/
import Derived.Test.YtoofaldblldncaaRefF
namespace Go.Proofs.Ytoofaldblldncaa
open Go.RowKit

theorem exec_app {P : Program} {w : World} {o : Oper} {a : Go.Act} (s x : Operand) (t tx ty : TypeId)
    (ho : o.op = .call { callee := .builtin .append, args := #[s, x], argTypes := #[t, tx] }) (hty : o.type = ty) {v xv v' : Value} {w' : World} (hs : a.eval s = v) (hx : a.eval x = xv)
    (hr : (Builtin.append_ #[t, tx] ty #[v, xv]).run P w = .ok v' w') : (execOp a.eval o).run P w = .ok (.value v') w' := by
  unfold execOp
  simp only [ho, resolve, invoke, builtin, Sem.run_bind, Sem.run_pure, Result.andThen_ok, List.map_toArray, List.map_cons, List.map_nil, hs, hx, hty, hr]
set_option maxRecDepth 100000 in
set_option maxHeartbeats 2000000 in
theorem given_any {w : World} {b : Option Addr} {d : Nat} {l : List Ent} (hb : RefK.At w b l) (hl : l.length ≤ 100) :
    Calls Try.prog 11 #[.slice b l.length d] w fun e w' => ∃ a c, e = .returned (.slice a l.length c) ∧ EntK.Row w' w.heap.size a c l ∧ Below w.heap.size w w' := by
  have HB := hide hb
  have HL := hide hl
  clear hb hl
  go_enter Try.func11, Try.ntmps11
  go_wp2_with fail
  go_loopw [3, 4] (fun lv i wr => ∃ (j : Nat) (a : Option Addr) (c : Nat), i = .int .i64 (j : Int) ∧ j ≤ l.length ∧ lv = .slice a j c ∧ EntK.Row wr w.heap.size a c (l.take j) ∧ Below w.heap.size w wr) (fun _ i _ => l.length - (intOf i).toNat)
  case atStart => exact ⟨0, none, 0, rfl, Nat.zero_le _, rfl, by rw [List.take_zero]; exact row_none _ _, Below.refl _ _⟩
  case round =>
    obtain ⟨j, a, c, rfl, hj, rfl, hrow, hbl⟩ := hrel
    by_cases hlt : j < l.length
    · have g0 : (0 : Int) ≤ (j : Int) := by omega
      have g1 : (j : Int) < (l.length : Int) := by omega
      have hwj : IntKind.i64.wrap ((j : Int) + 1) = (j : Int) + 1 := Go.IntWalk.i64_in _ (by have := unhide HL; omega)
      obtain ⟨x, hx⟩ : ∃ x, l[j]? = some x := ⟨_, List.getElem?_eq_getElem hlt⟩
      have hAt : RefK.At wr b l := (unhide HB).below (Nat.le_refl _) hbl
      obtain ⟨g, o, rfl, hg, hrg⟩ := hAt.cell refK_law hx
      have hjl : (l.take j).length = j := by rw [List.length_take]; omega
      have rowd : EntK.Row wr.drew w.heap.size a c (l.take j) := row_keep hrow ((Moved.refl (fun _ => False) wr).drew) (fun _ f => f.elim)
      obtain ⟨a', c', w9, happ, row9, b9, _, _⟩ := grow_one entK_law rowd x 53 (by rw [hjl]; have := unhide HL; omega) hbl.size
      rw [hjl] at happ
      rw [← take_snoc hx] at row9
      have bw9 : Below w.heap.size w w9 := (hbl.drew).trans b9
      obtain ⟨xs, xq, xc⟩ := x
      obtain ⟨CL, hCL⟩ : ∃ CL : World → Prop, CL = fun v => v.rangeAt g (o + j * 3) [.int .i64 xs, .int .i64 xq, .int .i64 xc] := ⟨_, rfl⟩
      have un : ∀ v, CL v → v.rangeAt g (o + j * 3) [.int .i64 xs, .int .i64 xq, .int .i64 xc] := fun v k => by rw [hCL] at k; exact k
      have to_ : ∀ v, Below w.heap.size w v → CL v := fun v hb => by
        obtain ⟨g', o', e, _, h⟩ := ((unhide HB).below (Nat.le_refl _) hb).cell refK_law hx
        cases e
        rw [hCL]; exact h
      have q0 : ∀ q : SW CL, q.w.cell? ⟨g, o + j * 3, none⟩ = some (.int .i64 xs) := fun q => un _ q.ok 0 _ rfl
      have q1 : ∀ q : SW CL, q.w.cell? ⟨g, o + j * 3 + 1, none⟩ = some (.int .i64 xq) := fun q => un _ q.ok 1 _ rfl
      have q2 : ∀ q : SW CL, q.w.cell? ⟨g, o + j * 3 + 2, none⟩ = some (.int .i64 xc) := fun q => un _ q.ok 2 _ rfl
      have BS := hide (to_ _ hbl.drew)
      have BA := hide (to_ (wr.drew.alloc (.cells #[.int .i64 xs, .int .i64 xq, .int .i64 xc] 53)) (hbl.drew.alloc hbl.drew.size _))
      have B9 := hide (to_ _ bw9)
      have HAP : Hid ((Builtin.append_ #[30, 30] 30 #[.slice a j c, .slice (some ⟨wr.drew.heap.size, 0, none⟩) 1 1]).run Try.prog (wr.drew.alloc (.cells #[.int .i64 xs, .int .i64 xq, .int .i64 xc] 53)) = .ok (.slice a' (j + 1) c') w9) := hide happ
      have REL := hide (And.intro row9 bw9)
      clear hrow hbl hx hAt hg hrg hjl rowd happ row9 b9 bw9 hCL un to_
      go_upto_region 5 with fail
      refine wp_region_chain (S := CL) [true, true, true, true, true, true, true, true, true, true, true, true, true, true, true, true, true, false, false, false] [false, false, false, false, false, false, false, false, false, false, false, false, false, false, false, false, false, true, true, true] (by kernel_rfl) (by kernel_rfl) (by kernel_rfl) (unhide BS) ?_
      apply Exists.intro
      apply And.intro
      · intro q
        have n0 : Nonempty (SK CL q.w) := ⟨⟨q, rfl⟩⟩
        simp only [pickM]
        repeat (go_big_quiet_step (fail))
        exact wpQuiet_nil rfl
      · simp only [pickZ]
        clear q0 q1 q2
        refine chain_step (.slice (some ⟨wr.drew.heap.size, 0, none⟩) 1 1) (wr.drew.alloc (.cells #[.int .i64 xs, .int .i64 xq, .int .i64 xc] 53)) rfl (by simp [go_sem]) (unhide BA) ?_
        refine chain_step (.slice a' (j + 1) c') w9 rfl (exec_app (v := .slice a j c) (xv := .slice (some ⟨wr.drew.heap.size, 0, none⟩) 1 1) _ _ 30 30 30 rfl rfl rfl rfl (unhide HAP)) (unhide B9) ?_
        refine chain_step (.slice a' (j + 1) c') w9 rfl (by simp [go_sem]) (unhide B9) ?_
        simp only [chainM]
        go_simp
        go_wp2_with fail
        exact ⟨⟨j + 1, a', c', rfl, by omega, rfl, unhide REL⟩, by simp [intOf]; omega⟩
    · have hje : j = l.length := by omega
      have REL : Hid (EntK.Row wr w.heap.size a c l ∧ Below w.heap.size w wr) := hide ⟨by rw [hje, List.take_length] at hrow; exact hrow, hbl⟩
      have HJE := hide hje
      clear hrow hbl hje
      go_wp2_with fail
      go_ret
      exact ⟨a, c, by rw [unhide HJE]; rfl, (unhide REL).1, (unhide REL).2⟩
set_option maxRecDepth 100000 in
set_option maxHeartbeats 4000000 in
theorem alike_any {w : World} {p : Nat} {F : Nat → Prop} {T : Tab} (h : TIs w p F T) (hT : T.Ok) {low : Nat → Int} {a0 : Option Addr} {c0 : Nat} {l : List Ent} (hr : Rel T ⟨low, l⟩) (ha : RefK.At w a0 l) (hl : l.length ≤ 10000) :
    Calls Try.prog 14 #[.pointer (some ⟨p, 0, none⟩), .agg (refC low a0 l.length c0).toArray] w fun e w' => e = .returned (.bool true) ∧ Below w.heap.size w w' := by
  obtain ⟨W, hW⟩ : ∃ W, W = w.alloc (.cells (refC low a0 l.length c0).toArray 34) := ⟨_, rfl⟩
  obtain ⟨H, hH⟩ : ∃ H, H = w.heap.size := ⟨_, rfl⟩
  have bW : Below w.heap.size w W := by rw [hW]; exact (Below.refl _ _).alloc (Nat.le_refl _) _
  have R0 : RowAt W H (refC low a0 l.length c0) := by rw [hW, hH]; exact row_new _ _ _
  have tW : TIs W p F T := h.keep (Moved.of_below (F := fun _ => False) bW) (fun _ f => f.elim)
  have C19 := hide (lows_any tW)
  have STEP1 : Hid (∀ v, Below W.heap.size W v → TIs v p F T) := hide fun v hb => tW.keep (Moved.of_below (F := fun _ => False) hb) (fun _ f => f.elim)
  have RQ : Hid (∀ v, Below W.heap.size W v → RowAt v H (refC low a0 l.length c0)) := hide fun v hb => R0.keep (Moved.of_below (F := fun _ => False) hb) id
  have AQ : Hid (∀ v, Below W.heap.size W v → RefK.At v a0 l) := hide fun v hb => (ha.below (Nat.le_refl _) bW).below (Nat.le_refl _) hb
  have RA := hide (rel_all hr hT)
  have RL := hide hr.low
  have HS := hide hr.src
  have HT := hide hT
  have HL := hide hl
  have HBW := hide bW
  have HW := hide hW
  have HH := hide hH
  have HAL := hide (all_length hT)
  clear hW hH bW R0 tW h hT hr ha hl
  simp only [refC]
  go_enter Try.func14, Try.ntmps14
  go_wp2_with fail
  rw [← unhide HH]
  change Calls _ _ _ (w.alloc (.cells (refC low a0 l.length c0).toArray 34)) _
  rw [← unhide HW]
  refine (unhide C19).mono ?_
  rintro e v1 ⟨a1, c1, rfl, hr1, hb1⟩
  have B1 := hide hb1
  have R1 := hide hr1
  have C20 := hide (all_any (unhide STEP1 v1 hb1) (unhide HT))
  clear C19 hb1 hr1
  go_wp2_with fail
  refine (unhide C20).mono ?_
  rintro e v2 ⟨a2, c2, rfl, hr2, hb2⟩
  have B2 := hide ((unhide B1).trans (hb2.mono (unhide B1).size))
  have R2 := hide hr2
  have R1b := hide (row_keep (unhide R1) (Moved.of_below (F := fun _ => False) hb2) (fun _ f => f.elim))
  have C29 := hide (rall_any (low := low) (c0 := c0) (unhide AQ v2 (unhide B2)) (unhide HL) (unhide HS))
  have RG := hide (unhide RQ v2 (unhide B2)).range
  clear C20 hb2 hr2 R1
  go_wp2_with (refine wpList_load_on rfl 34 (.tmp 3) rfl H 0 rfl (refC low a0 l.length c0) _ (unhide RG) Try.underlying34 rfl (by kernel_rfl) ?_)
  refine (unhide C29).mono ?_
  rintro e v3 ⟨a3, c3, rfl, hb3, hr3⟩
  rw [unhide RA] at hr3 ⊢
  have B3 : Below W.heap.size W v3 := (unhide B2).trans (hb3.mono (unhide B2).size)
  have R1c := (row_keep (unhide R1b) (Moved.of_below (F := fun _ => False) hb3) (fun _ f => f.elim)).at_
  have R2c := (row_keep (unhide R2) (Moved.of_below (F := fun _ => False) hb3) (fun _ f => f.elim)).at_
  have R3c := hr3.at_
  have RC := unhide RQ v3 B3
  have R1d : Hid (∀ v, Below v3.heap.size v3 v → IntK.At v a1 (lows T)) := hide fun v hb => R1c.below (Nat.le_refl _) hb
  have R2d : Hid (∀ v, Below v3.heap.size v3 v → EntK.At v a2 (all T)) := hide fun v hb => R2c.below (Nat.le_refl _) hb
  have R3d : Hid (∀ v, Below v3.heap.size v3 v → RefK.At v a3 (all T)) := hide fun v hb => R3c.below (Nat.le_refl _) hb
  have RCd : Hid (∀ v, Below v3.heap.size v3 v → RowAt v H (refC low a0 l.length c0)) := hide fun v hb => RC.keep (Moved.of_below (F := fun _ => False) hb) id
  have FIN : Hid (∀ v, Below v3.heap.size v3 v → Below w.heap.size w v) := hide fun v hb => (unhide HBW).trans ((B3.trans (hb.mono B3.size)).mono (unhide HBW).size)
  clear C29 hb3 hr3 B3 R1c R2c R3c RC B1 B2 R1b R2 RQ AQ STEP1 RG
  go_wp2_with fail
  go_loopw [8] (fun i wr => ∃ k : Nat, i = .int .i64 (k : Int) ∧ k ≤ 4 ∧ Below v3.heap.size v3 wr) (fun i _ => 4 - (intOf i).toNat)
  case atStart => exact ⟨0, rfl, by decide, Below.refl _ _⟩
  case round =>
    obtain ⟨k, rfl, hk, hbl⟩ := hrel
    by_cases hlt : k < 4
    · have g0 : (0 : Int) ≤ (k : Int) := by omega
      have g1 : (k : Int) < 4 := by omega
      have hwk : IntKind.i64.wrap ((k : Int) + 1) = (k : Int) + 1 := Go.IntWalk.i64_in _ (by omega)
      have hlk : (lows T)[k]? = some (T k).low := by
        match k, hlt with
        | 0, _ => rfl
        | 1, _ => rfl
        | 2, _ => rfl
        | 3, _ => rfl
      have hrl : low k = (T k).low := unhide RL k hlt
      obtain ⟨g, o, rfl, hg, hrg⟩ := (unhide R1d wr hbl).cell intK_law hlk
      have z0 := hrg 0 (.int .i64 (T k).low) rfl
      simp only [IntK, Nat.mul_one, Nat.add_zero] at z0
      have zl : wr.cell? ⟨H, k, none⟩ = some (.int .i64 (T k).low) := by rw [← hrl]; exact refC_low (unhide RCd wr hbl) hlt
      obtain ⟨CL, hCL⟩ : ∃ CL : World → Prop, CL = fun v => Below wr.heap.size wr v := ⟨_, rfl⟩
      have un : ∀ v, CL v → Below wr.heap.size wr v := fun v k => by rw [hCL] at k; exact k
      have base : CL wr.drew := by rw [hCL]; exact (Below.refl _ _).drew
      have ne : Nonempty (SX CL) := ⟨⟨_, base⟩⟩
      have kc : ∀ (q : SX CL) (b i : Nat) (v : Value), wr.cell? ⟨b, i, none⟩ = some v → q.w.cell? ⟨b, i, none⟩ = some v := fun q b i v hv => ((un _ q.ok).cell (p := ⟨b, i, none⟩) (World.block_lt_of_cell? _ _ hv)).trans hv
      have x0 : ∀ q : SX CL, q.w.cell? ⟨g, o + k, none⟩ = some (.int .i64 (T k).low) := fun q => kc q _ _ _ z0
      have xl : ∀ q : SX CL, q.w.cell? ⟨H, k, none⟩ = some (.int .i64 (T k).low) := fun q => kc q _ _ _ zl
      have BS := hide base
      have BQ := hide (fun v hv => hbl.trans ((un v hv).mono hbl.size))
      clear hg hrg z0 zl hCL un base kc hbl hrl hlk
      generalize (T k).low = n at *
      go_upto_region 9 with fail
      refine wp_region_sx (St := CL) (by kernel_rfl) (by kernel_rfl) (unhide BS) ?_
      repeat (go_big_quiet_step (fail))
      refine wpQuiet_nil ?_
      first | (rintro v4 ⟨⟨v4', OK4⟩, e4x⟩; subst e4x) | rintro ⟨v4, OK4⟩
      try dsimp only
      have B4 := hide (unhide BQ _ OK4)
      clear OK4 x0 xl
      go_wp2_with fail
      exact ⟨⟨k + 1, rfl, by omega, unhide B4⟩, by simp [intOf]; omega⟩
    · have hbw := hide hbl
      have gk : ¬ (k : Int) < 4 := by omega
      clear hbl
      go_wp2_with fail
      go_loopw [9] (fun i wr => ∃ j : Nat, i = .int .i64 (j : Int) ∧ j ≤ (all T).length ∧ Below v3.heap.size v3 wr) (fun i _ => (all T).length - (intOf i).toNat)
      case atStart => exact ⟨0, rfl, Nat.zero_le _, unhide hbw⟩
      case round =>
        obtain ⟨j, rfl, hj, hbl⟩ := hrel
        clear hbw
        by_cases hjt : j < (all T).length
        · have g0 : (0 : Int) ≤ (j : Int) := by omega
          have g1 : (j : Int) < ((all T).length : Int) := by omega
          have hwj : IntKind.i64.wrap ((j : Int) + 1) = (j : Int) + 1 := Go.IntWalk.i64_in _ (by have := unhide HAL; omega)
          obtain ⟨x, hx⟩ : ∃ x, (all T)[j]? = some x := ⟨_, List.getElem?_eq_getElem hjt⟩
          obtain ⟨g, o, rfl, hg, hrg⟩ := (unhide R2d wr hbl).cell entK_law hx
          obtain ⟨g', o', rfl, hg', hrg'⟩ := (unhide R3d wr hbl).cell refK_law hx
          obtain ⟨xs, xq, xc⟩ := x
          have z0 : wr.cell? ⟨g, o + j * 3, none⟩ = some (.int .i64 xs) := hrg 0 _ rfl
          have z1 : wr.cell? ⟨g, o + j * 3 + 1, none⟩ = some (.int .i64 xq) := hrg 1 _ rfl
          have z2 : wr.cell? ⟨g, o + j * 3 + 2, none⟩ = some (.int .i64 xc) := hrg 2 _ rfl
          have u0 : wr.cell? ⟨g', o' + j * 3, none⟩ = some (.int .i64 xs) := hrg' 0 _ rfl
          have u1 : wr.cell? ⟨g', o' + j * 3 + 1, none⟩ = some (.int .i64 xq) := hrg' 1 _ rfl
          have u2 : wr.cell? ⟨g', o' + j * 3 + 2, none⟩ = some (.int .i64 xc) := hrg' 2 _ rfl
          obtain ⟨CL, hCL⟩ : ∃ CL : World → Prop, CL = fun v => Below wr.heap.size wr v := ⟨_, rfl⟩
          have un : ∀ v, CL v → Below wr.heap.size wr v := fun v k => by rw [hCL] at k; exact k
          have base : CL wr.drew := by rw [hCL]; exact (Below.refl _ _).drew
          have ne : Nonempty (SX CL) := ⟨⟨_, base⟩⟩
          have kc : ∀ (q : SX CL) (b i : Nat) (v : Value), wr.cell? ⟨b, i, none⟩ = some v → q.w.cell? ⟨b, i, none⟩ = some v := fun q b i v hv => ((un _ q.ok).cell (p := ⟨b, i, none⟩) (World.block_lt_of_cell? _ _ hv)).trans hv
          have x0 : ∀ q : SX CL, q.w.cell? ⟨g, o + j * 3, none⟩ = some (.int .i64 xs) := fun q => kc q _ _ _ z0
          have x1 : ∀ q : SX CL, q.w.cell? ⟨g, o + j * 3 + 1, none⟩ = some (.int .i64 xq) := fun q => kc q _ _ _ z1
          have x2 : ∀ q : SX CL, q.w.cell? ⟨g, o + j * 3 + 2, none⟩ = some (.int .i64 xc) := fun q => kc q _ _ _ z2
          have y0 : ∀ q : SX CL, q.w.cell? ⟨g', o' + j * 3, none⟩ = some (.int .i64 xs) := fun q => kc q _ _ _ u0
          have y1 : ∀ q : SX CL, q.w.cell? ⟨g', o' + j * 3 + 1, none⟩ = some (.int .i64 xq) := fun q => kc q _ _ _ u1
          have y2 : ∀ q : SX CL, q.w.cell? ⟨g', o' + j * 3 + 2, none⟩ = some (.int .i64 xc) := fun q => kc q _ _ _ u2
          have BS := hide base
          have BQ := hide (fun v hv => hbl.trans ((un v hv).mono hbl.size))
          clear hg hrg hg' hrg' z0 z1 z2 u0 u1 u2 hCL un base kc hbl hx
          go_upto_region 14 with fail
          refine wp_region_sx (St := CL) (by kernel_rfl) (by kernel_rfl) (unhide BS) ?_
          repeat (go_big_quiet_step (fail))
          refine wpQuiet_nil ?_
          first | (rintro v4 ⟨⟨v4', OK4⟩, e4x⟩; subst e4x) | rintro ⟨v4, OK4⟩
          try dsimp only
          have B4 := hide (unhide BQ _ OK4)
          clear OK4 x0 x1 x2 y0 y1 y2
          go_wp2_with fail
          exact ⟨⟨j + 1, rfl, by omega, unhide B4⟩, by simp [intOf]; omega⟩
        · have gj : ¬ (j : Int) < ((all T).length : Int) := by omega
          have gjd : decide (j < (all T).length) = false := decide_eq_false hjt
          have B4 := hide (unhide FIN _ hbl)
          clear hbl
          go_wp2_with fail
          go_ret
          exact ⟨rfl, unhide B4⟩
end Go.Proofs.Ytoofaldblldncaa

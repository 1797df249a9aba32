/- SeenOnce's walk. Conditions: the numbers handed in are a machine's. -/
import Derived.Test.YtoofaldblldncaaOnceM
namespace Go.Proofs.Ytoofaldblldncaa
open Go.RowKit

theorem given1_nil : given1 [] = fun _ => 0 := rfl
set_option maxRecDepth 100000 in
set_option maxHeartbeats 8000000 in
theorem oncew_small (a3 : Option Addr) (cap3 : Nat) (z3 : List ActV) (w : World) (hA3 : ActK.At w a3 z3) (hn3 : z3.length ≤ 300) (hi3 : ∀ x ∈ z3, x.In) :
    Calls Try.prog 5 #[.slice a3 z3.length cap3] w fun e w' => e = .returned (.bool true) ∧ Below w.heap.size w w' := by
  have hmm := @run_makeMap Try.prog
  have H0 := hide (HR.start w)
  have gz3 : ¬ (300 : Int) < (z3.length : Int) := by omega
  have HA3 := hide hA3
  have HN3 := hide hn3
  have HI3 := hide hi3
  clear hA3 hi3 hn3
  go_enter Try.func5, Try.ntmps5
  go_wp2_with fail
  refine (HR.new (unhide H0)).mono ?_
  rintro e w1 ⟨s, F, rfl, h⟩
  obtain ⟨b, hb⟩ : ∃ b, b = w1.heap.size := ⟨_, rfl⟩
  obtain ⟨w2, hw2⟩ : ∃ w2, w2 = w1.alloc (.map #[] 0) := ⟨_, rfl⟩
  have h2 : HR w w2 (hMap PKey b 0 (given1 []) :: hTab s F new_ :: []) := by rw [hb, hw2, given1_nil]; exact h.newmap PKey
  obtain ⟨B, hB⟩ : ∃ B, B = w2.heap.size := ⟨_, rfl⟩
  obtain ⟨w3, hw3⟩ : ∃ w3, w3 = w2.alloc (.cells #[.int .i64 1, .int .i64 1, .int .i64 1, .int .i64 1] 3) := ⟨_, rfl⟩
  have h3 : HR w w3 (hAt IntK (some ⟨B, 0, none⟩) (lows new_) :: hMap PKey b 0 (given1 []) :: hTab s F new_ :: []) := by rw [hB, hw3]; exact h2.lit (K := IntK) [1, 1, 1, 1] 3
  have H3 : Hid (HR w w3 (hTab s F new_ :: hMap PKey b 0 (given1 []) :: hAt IntK (some ⟨B, 0, none⟩) (lows new_) :: [])) := hide ((h3.front (r := hTab s F new_) [hAt IntK (some ⟨B, 0, none⟩) (lows new_), hMap PKey b 0 (given1 [])]).perm (List.Perm.cons _ (List.Perm.swap _ _ _)))
  have HB0 := hide hb
  have HW2 := hide hw2
  have HB := hide hB
  have HW3 := hide hw3
  clear h hb hw2 h2 hB hw3 h3 H0
  go_upto_region 5 with fail
  rw [← unhide HB0]
  rw [← unhide HW2]
  clear hmm
  go_upto_region 6 with fail
  rw [← unhide HB]
  rw [← unhide HW3]
  go_wp2_with fail
  go_loopw [5, 6] (fun lv i wr => ∃ (k : Nat) (F' : Nat → Prop) (T : Tab) (W : RefS) (al : Option Addr) (cl n : Nat), i = .int .i64 (k : Int) ∧ k ≤ z3.length ∧ lv = .slice al 4 cl ∧ HR w wr (hTab s F' T :: hMap PKey b n (given1 W.l) :: hAt IntK al (lows T) :: []) ∧ T.Ok ∧ Rel T W ∧ n ≤ k) (fun _ i _ => z3.length - (intOf i).toNat)
  case atStart => exact ⟨0, F, new_, ⟨fun _ => 1, []⟩, some ⟨B, 0, none⟩, 4, 0, rfl, Nat.zero_le _, rfl, unhide H3, new_ok, rel_new, Nat.le_refl _⟩
  case round =>
    obtain ⟨k, F', T, W, al, cl, n, rfl, hk, rfl, hr, hok, hrl, hnk⟩ := hrel
    clear H3
    have HRR := hide hr
    have OKT := hide hok
    have REL := hide hrl
    have HNK := hide hnk
    clear hr hok hrl hnk
    by_cases hlt : k < z3.length
    · have g0 : (0 : Int) ≤ (k : Int) := by omega
      have g1 : (k : Int) < (z3.length : Int) := by omega
      have hwk : IntKind.i64.wrap ((k : Int) + 1) = (k : Int) + 1 := Go.IntWalk.i64_in _ (by have := unhide HN3; omega)
      obtain ⟨x, hx⟩ : ∃ x, z3[k]? = some x := ⟨_, List.getElem?_eq_getElem hlt⟩
      have hxi := unhide HI3 x (List.mem_of_getElem? hx)
      have hAt_ : ActK.At wr a3 z3 := (unhide HA3).below (Nat.le_refl _) (unhide HRR).bel
      obtain ⟨g, o, rfl, hg, hrg⟩ := hAt_.cell actK_law hx
      obtain ⟨xa, xs, xq, xl, xc⟩ := x
      have XOK : Hid (PKey.ok (xs, xq)) := hide ⟨⟨hxi.src.1, hxi.src.2⟩, ⟨hxi.seq.1, hxi.seq.2⟩⟩
      have XC : Hid (-9223372036854775808 ≤ xc ∧ xc ≤ 9223372036854775807) := hide ⟨hxi.code.1, hxi.code.2⟩
      have RG : Hid (wr.rangeAt g (o + k * 5) [.bool xa, .int .i64 xs, .int .i64 xq, .int .i64 xl, .int .i64 xc]) := hide hrg
      obtain ⟨X, hX⟩ : ∃ X, X = wr.heap.size := ⟨_, rfl⟩
      obtain ⟨W1, hW1⟩ : ∃ W1, W1 = wr.alloc (.cells #[.bool xa, .int .i64 xs, .int .i64 xq, .int .i64 xl, .int .i64 xc] 40) := ⟨_, rfl⟩
      have h1 : HR w W1 (hVal X (actC ⟨xa, xs, xq, xl, xc⟩) :: hTab s F' T :: hMap PKey b n (given1 W.l) :: hAt IntK al (lows T) :: []) := by
        rw [hX, hW1]; exact (unhide HRR).made (actC ⟨xa, xs, xq, xl, xc⟩) 40
      obtain ⟨c0, c1, c2, c3, c4⟩ := act_cells (h1.val List.mem_cons_self)
      obtain ⟨Y, hY⟩ : ∃ Y, Y = W1.heap.size := ⟨_, rfl⟩
      obtain ⟨W2, hW2⟩ : ∃ W2, W2 = W1.alloc (.cells #[.int .i64 xs, .int .i64 xq] 50) := ⟨_, rfl⟩
      have h2 : HR w W2 (hVal Y [.int .i64 xs, .int .i64 xq] :: hVal X (actC ⟨xa, xs, xq, xl, xc⟩) :: hTab s F' T :: hMap PKey b n (given1 W.l) :: hAt IntK al (lows T) :: []) := by
        rw [hY, hW2]; exact h1.made [.int .i64 xs, .int .i64 xq] 50
      have H2 := hide h2
      have RGY := hide (h2.val (P := Y) List.mem_cons_self).range
      have LK0 : Hid ((Instr.lookup 49 (.map (some b)) (.agg #[.int .i64 xs, .int .i64 xq]) false).run Try.prog W2 = .ok (.int .i64 (given1 W.l (xs, xq))) W2) := hide ((h2.map (K := PKey) (List.mem_cons_of_mem _ (List.mem_cons_of_mem _ (List.mem_cons_of_mem _ List.mem_cons_self)))).get pkey (unhide XOK))
      have HW1 := hide hW1
      have HX := hide hX
      have HW2 := hide hW2
      have HY := hide hY
      have AE : Hid (rask W xs xq xl = ask T xs xq xl) := hide (rel_ask (unhide REL) (unhide OKT) xs xq xl)
      have NE : Hid (rnoteE W xs xq xl xc = noteE T xs xq xl xc) := hide (rel_noteE (unhide REL) (unhide OKT) xs xq xl xc)
      have NR : Hid (Rel (note T xs xq xl xc) (rnote W xs xq xl xc)) := hide (rel_note (unhide REL) (unhide OKT) xs xq xl xc)
      have NO : Hid ((note T xs xq xl xc).Ok) := hide (note_ok (unhide OKT) xs xq xl xc)
      have NLOW : Hid (∀ i, (T i).low ≤ (note T xs xq xl xc i).low) := hide (note_low T xs xq xl xc)
      have FR : Hid ((rask W xs xq xl).1 = 3 → rlook W.l xs xq = none) := hide given1_fresh
      have KN : Hid ((rask W xs xq xl).1 = 2 → given1 W.l (xs, xq) = (rask W xs xq xl).2) := hide given1_known
      have NF : Hid (rnoteE W xs xq xl xc = 0 → (rask W xs xq xl).1 = 3) := hide rnoteE_fresh
      clear hx hxi hAt_ hg hrg hX hW1 h1 HRR hY hW2 h2 REL
      go_upto_region 10 with (refine wpList_load_on rfl 40 (.tmp 32) rfl g (o + k * 5) rfl [.bool xa, .int .i64 xs, .int .i64 xq, .int .i64 xl, .int .i64 xc] _ (unhide RG) Try.underlying40 rfl (by kernel_rfl) ?_)
      rw [← unhide HX]
      rw [← unhide HW1]
      go_upto_region 11 with fail
      rw [← unhide HY]
      rw [← unhide HW2]
      clear c0 c1 c2 c3 c4
      obtain ⟨c0, c1, c2, c3, c4⟩ := act_cells ((unhide H2).val (P := X) (List.mem_cons_of_mem _ List.mem_cons_self))
      go_wp2_with fail
      refine ((unhide H2).ask (List.mem_cons_of_mem _ (List.mem_cons_of_mem _ List.mem_cons_self)) xs xq xl).mono ?_
      rintro e w' ⟨rfl, hw'⟩
      rw [hw']
      clear hw'
      have H2b : Hid (HR w W2 (hTab s F' T :: hVal Y [.int .i64 xs, .int .i64 xq] :: hVal X (actC ⟨xa, xs, xq, xl, xc⟩) :: hMap PKey b n (given1 W.l) :: hAt IntK al (lows T) :: [])) := hide ((unhide H2).front (r := hTab s F' T) [hVal Y [.int .i64 xs, .int .i64 xq], hVal X (actC ⟨xa, xs, xq, xl, xc⟩)])
      have HOKT : Hid (T.Ok → Calls Try.prog 17 #[.pointer (some ⟨s, 0, none⟩), .int .i64 xs, .int .i64 xq, .int .i64 xl, .int .i64 xc] W2 fun e v' => e = .returned (.int .i64 (noteE T xs xq xl xc)) ∧ ∃ F3, HR w v' (hTab s F3 (note T xs xq xl xc) :: hVal Y [.int .i64 xs, .int .i64 xq] :: hVal X (actC ⟨xa, xs, xq, xl, xc⟩) :: hMap PKey b n (given1 W.l) :: hAt IntK al (lows T) :: [])) := hide fun h => (unhide H2b).note h xs xq xl xc
      have C17 := hide (unhide HOKT (unhide OKT))
      clear H2 H2b HOKT
      rcases hask : ask T xs xq xl with ⟨st, cn⟩
      rw [unhide AE, hask] at FR KN NF
      simp only at FR KN NF ⊢
      rw [unhide NE] at NF
      clear hask AE
      by_cases h3 : st = 3
      · subst h3
        have RN := unhide FR rfl
        have LK : (Instr.lookup 49 (.map (some b)) (.agg #[.int .i64 xs, .int .i64 xq]) false).run Try.prog W2 = .ok (.int .i64 0) W2 := by rw [unhide LK0]; unfold given1; rw [RN]; rfl
        have HRN := hide RN
        clear RN FR KN NF LK0
        go_wp2_with (refine wpList_load_on rfl 50 (.tmp 8) rfl Y 0 rfl [.int .i64 xs, .int .i64 xq] _ (unhide RGY) Try.underlying50 rfl (by kernel_rfl) ?_)
        try clear LK
        refine (unhide C17).mono ?_
        rintro e w3 ⟨rfl, F3, hr3⟩
        have H3 := hide hr3
        clear c0 c1 c2 c3 c4 RGY
        obtain ⟨c0, c1, c2, c3, c4⟩ := act_cells (hr3.val (P := X) (List.mem_cons_of_mem _ (List.mem_cons_of_mem _ List.mem_cons_self)))
        have RGY := hide (hr3.val (P := Y) (List.mem_cons_of_mem _ List.mem_cons_self)).range
        clear hr3 C17
        by_cases hne : noteE T xs xq xl xc = 0
        · have NW : Hid (rnote W xs xq xl xc = ⟨rlow W xs xl, W.l ++ [⟨xs, xq, xc⟩]⟩) := hide (if_pos ((unhide NE).trans hne))
          rw [hne]
          obtain ⟨w4, hput, h4⟩ := (unhide H3).front (r := hMap PKey b n (given1 W.l)) [hTab s F3 (note T xs xq xl xc), hVal Y [.int .i64 xs, .int .i64 xq], hVal X (actC ⟨xa, xs, xq, xl, xc⟩)] |>.mapput pkey (f' := given1 (W.l ++ [⟨xs, xq, xc⟩])) (by have := unhide HNK; have := unhide HN3; unfold maxLen; omega) (unhide XOK) (unhide XC) (given1_same xc (unhide HRN)) (fun y hy => given1_other xc hy)
          have PUT : (Instr.mapUpdate 49 (.map (some b)) (.agg #[.int .i64 xs, .int .i64 xq]) (.int .i64 xc)).run Try.prog w3 = .ok () w4 := hput
          obtain ⟨W3, hW3⟩ : ∃ W3, W3 = rnote W xs xq xl xc := ⟨_, rfl⟩
          have hl3 : W3.l = W.l ++ [⟨xs, xq, xc⟩] := by rw [hW3, unhide NW]
          rw [← hW3] at NR
          rw [← hl3] at h4
          have H4 : Hid (HR w w4 (hTab s F3 (note T xs xq xl xc) :: hMap PKey b (n + 1) (given1 W3.l) :: hAt IntK al (lows T) :: [])) := hide ((h4.front (r := hTab s F3 (note T xs xq xl xc)) [hMap PKey b (n + 1) (given1 W3.l)]).sub (List.Sublist.cons_cons _ (List.Sublist.cons_cons _ (List.Sublist.cons _ (List.Sublist.cons _ (List.Sublist.cons_cons _ (List.Sublist.refl _)))))))
          have HN4 : Hid (n + 1 ≤ k + 1) := hide (by have := unhide HNK; omega)
          clear hput h4 hW3 hl3 H3 NW NE HRN HNK
          go_wp2_with (refine wpList_load_on rfl 50 (.tmp 8) rfl Y 0 rfl [.int .i64 xs, .int .i64 xq] _ (unhide RGY) Try.underlying50 rfl (by kernel_rfl) ?_)
          clear PUT c0 c1 c2 c3 c4 RGY
          obtain ⟨T3, hT3⟩ : ∃ T3, T3 = note T xs xq xl xc := ⟨_, rfl⟩
          rw [← hT3] at H4 NR NO NLOW
          clear hT3
          obtain ⟨n4, hn4⟩ : ∃ n4, n4 = n+1 := ⟨_, rfl⟩
          rw [← hn4] at H4 HN4
          clear hn4
          refine ((unhide H4).lows List.mem_cons_self).mono ?_
          rintro e w5 ⟨a5, c5, rfl, hr5⟩
          have H5 : Hid (HR w w5 (hAt IntK a5 (lows T3) :: hTab s F3 T3 :: hMap PKey b n4 (given1 W3.l) :: hAt IntK al (lows T) :: [])) := hide hr5.read
          clear hr5 H4
          go_wp2_with fail
          go_loopw [12] (fun i wr => ∃ m : Nat, i = .int .i64 (m : Int) ∧ m ≤ 4 ∧ HR w wr (hAt IntK a5 (lows T3) :: hTab s F3 T3 :: hMap PKey b n4 (given1 W3.l) :: hAt IntK al (lows T) :: [])) (fun i _ => 4 - (intOf i).toNat)
          case atStart => exact ⟨0, rfl, by decide, unhide H5⟩
          case round =>
            obtain ⟨m, rfl, hm, hr⟩ := hrel
            clear H5
            by_cases hm4 : m < 4
            · have m0 : (0 : Int) ≤ (m : Int) := by omega
              have m1 : (m : Int) < 4 := by omega
              have hwm : IntKind.i64.wrap ((m : Int) + 1) = (m : Int) + 1 := Go.IntWalk.i64_in _ (by omega)
              have hl3 : (lows T3)[m]? = some (T3 m).low := by
                match m, hm4 with
                | 0, _ => rfl
                | 1, _ => rfl
                | 2, _ => rfl
                | 3, _ => rfl
              have hl : (lows T)[m]? = some (T m).low := by
                match m, hm4 with
                | 0, _ => rfl
                | 1, _ => rfl
                | 2, _ => rfl
                | 3, _ => rfl
              have hle := unhide NLOW m
              obtain ⟨g5, o5, rfl, _, hr5⟩ := (hr.at List.mem_cons_self : IntK.At wr a5 (lows T3)).cell intK_law hl3
              obtain ⟨g6, o6, rfl, _, hr6⟩ := (hr.at (List.mem_cons_of_mem _ (List.mem_cons_of_mem _ (List.mem_cons_of_mem _ List.mem_cons_self))) : IntK.At wr al (lows T)).cell intK_law hl
              have z5 := hr5 0 (.int .i64 (T3 m).low) rfl
              have z6 := hr6 0 (.int .i64 (T m).low) rfl
              simp only [IntK, Nat.mul_one, Nat.add_zero] at z5 z6
              obtain ⟨CL, hCL⟩ : ∃ CL : World → Prop, CL = fun v => Below wr.heap.size wr v := ⟨_, rfl⟩
              have un : ∀ v, CL v → Below wr.heap.size wr v := fun v k => by rw [hCL] at k; exact k
              have base : CL wr.drew := by rw [hCL]; exact (Below.refl _ _).drew
              have ne : Nonempty (SX CL) := ⟨⟨_, base⟩⟩
              have kc : ∀ (q : SX CL) (b i : Nat) (v : Value), wr.cell? ⟨b, i, none⟩ = some v → q.w.cell? ⟨b, i, none⟩ = some v := fun q b i v hv => ((un _ q.ok).cell (p := ⟨b, i, none⟩) (World.block_lt_of_cell? _ _ hv)).trans hv
              have x5 : ∀ q : SX CL, q.w.cell? ⟨g5, o5 + m, none⟩ = some (.int .i64 (T3 m).low) := fun q => kc q _ _ _ z5
              have x6 : ∀ q : SX CL, q.w.cell? ⟨g6, o6 + m, none⟩ = some (.int .i64 (T m).low) := fun q => kc q _ _ _ z6
              have BS := hide base
              have BQ := hide (fun v hv => hr.below (un v hv))
              have ld : decide ((T3 m).low < (T m).low) = false := decide_eq_false (by omega)
              clear hr5 hr6 z5 z6 hCL un base kc hr hl hl3 hle
              generalize (T3 m).low = u5 at *
              generalize (T m).low = u6 at *
              go_upto_region 24 with fail
              refine wp_region_sx (St := CL) (by kernel_rfl) (by kernel_rfl) (unhide BS) ?_
              repeat (go_big_quiet_step (fail))
              refine wpQuiet_nil ?_
              first | (rintro v7 ⟨⟨v7', OK7⟩, e7x⟩; subst e7x) | rintro ⟨v7, OK7⟩
              try dsimp only
              have B7 := hide (unhide BQ _ OK7)
              clear OK7 x5 x6 BQ
              go_wp2_with fail
              exact ⟨⟨m + 1, rfl, by omega, unhide B7⟩, by simp [intOf]; omega⟩
            · have gm : ¬ (m : Int) < 4 := by omega
              have H6 : Hid (HR w wr (hTab s F3 T3 :: hAt IntK a5 (lows T3) :: hMap PKey b n4 (given1 W3.l) :: [])) := hide ((hr.front (r := hTab s F3 T3) [hAt IntK a5 (lows T3)]).sub (List.Sublist.cons_cons _ (List.Sublist.cons_cons _ (List.Sublist.cons_cons _ (List.Sublist.cons _ (List.Sublist.refl _))))))
              clear hr
              go_wp2_with fail
              refine ((unhide H6).all List.mem_cons_self (unhide NO)).mono ?_
              rintro e w7 ⟨a7, c7, rfl, hr7⟩
              obtain ⟨b7, hb7⟩ : ∃ b7, b7 = w7.heap.size := ⟨_, rfl⟩
              obtain ⟨w8, hw8⟩ : ∃ w8, w8 = w7.alloc (.map #[] 0) := ⟨_, rfl⟩
              have H8 : Hid (HR w w8 (hMap IKey b7 0 (manyTo (all T3) 0) :: hAt EntK a7 (all T3) :: hTab s F3 T3 :: hAt IntK a5 (lows T3) :: hMap PKey b n4 (given1 W3.l) :: [])) := hide (by rw [hb7, hw8, manyTo_zero]; exact hr7.read.newmap IKey)
              have HB7 := hide hb7
              have HW8 := hide hw8
              have hmm := @run_makeMap Try.prog
              have HAL := hide (all_length (unhide NO))
              clear hr7 hb7 hw8 H6
              go_upto_region 29 with fail
              rw [← unhide HB7]
              rw [← unhide HW8]
              clear hmm
              go_wp2_with fail
              go_loopw [15] (fun i wr => ∃ (j n2 : Nat), i = .int .i64 (j : Int) ∧ j ≤ (all T3).length ∧ HR w wr (hMap IKey b7 n2 (manyTo (all T3) j) :: hAt EntK a7 (all T3) :: hTab s F3 T3 :: hAt IntK a5 (lows T3) :: hMap PKey b n4 (given1 W3.l) :: []) ∧ n2 ≤ j) (fun i _ => (all T3).length - (intOf i).toNat)
              case atStart => exact ⟨0, 0, rfl, Nat.zero_le _, unhide H8, Nat.le_refl _⟩
              case round =>
                obtain ⟨j, n2, rfl, hj, hr, hn2⟩ := hrel
                clear H8
                by_cases hjl : j < (all T3).length
                · have gj : (j : Int) < ((all T3).length : Int) := by omega
                  have gj0 : (0 : Int) ≤ (j : Int) := by omega
                  have hwj : IntKind.i64.wrap ((j : Int) + 1) = (j : Int) + 1 := Go.IntWalk.i64_in _ (by have := unhide HAL; omega)
                  obtain ⟨x, hx⟩ : ∃ x, (all T3)[j]? = some x := ⟨_, List.getElem?_eq_getElem hjl⟩
                  obtain ⟨f1, f2, f3, f4⟩ := kept_facts (unhide NR) (unhide NO) (List.mem_of_getElem? hx)
                  have f5 := (unhide NO x.src.toNat).lo
                  have f6 := (unhide NO x.src.toNat).hi
                  obtain ⟨g7, o7, rfl, _, hr7⟩ := (hr.at (List.mem_cons_of_mem _ List.mem_cons_self) : EntK.At wr a7 (all T3)).cell entK_law hx
                  have mj := manyTo_le (unhide NO) j x.src
                  have mj1 := manyTo_le (unhide NO) (j + 1) x.src
                  have ms := manyTo_same hx
                  have mo := fun s hs => manyTo_other hx (s := s) hs
                  obtain ⟨ys, yq, yc⟩ := x
                  simp only at f1 f2 f3 f4 f5 f6 mj mj1 ms mo
                  obtain ⟨y, rfl⟩ : ∃ y : Nat, ys = y := ⟨ys.toNat, by omega⟩
                  rw [Int.toNat_natCast] at f2 f3 f5 f6
                  have hy4 : y < 4 := by omega
                  obtain ⟨Z, hZ⟩ : ∃ Z, Z = wr.heap.size := ⟨_, rfl⟩
                  obtain ⟨w9, hw9⟩ : ∃ w9, w9 = wr.alloc (.cells #[.int .i64 (y : Int), .int .i64 yq, .int .i64 yc] 53) := ⟨_, rfl⟩
                  have h9 : HR w w9 (hVal Z [.int .i64 (y : Int), .int .i64 yq, .int .i64 yc] :: hMap IKey b7 n2 (manyTo (all T3) j) :: hAt EntK (some ⟨g7, o7, none⟩) (all T3) :: hTab s F3 T3 :: hAt IntK a5 (lows T3) :: hMap PKey b n4 (given1 W3.l) :: []) := by
                    rw [hZ, hw9]; exact hr.made [.int .i64 (y : Int), .int .i64 yq, .int .i64 yc] 53
                  have d0 : w9.cell? ⟨Z, 0, none⟩ = some (.int .i64 (y : Int)) := (h9.val (P := Z) List.mem_cons_self).cell 0 (by simp)
                  have yin : i64in (y : Int) := ⟨by omega, by omega⟩
                  have LK9 : (Instr.lookup 51 (.map (some b7)) (.int .i64 (y : Int)) false).run Try.prog w9 = .ok (.int .i64 (manyTo (all T3) j (y : Int))) w9 := (h9.map (K := IKey) (List.mem_cons_of_mem _ List.mem_cons_self)).get ikey yin
                  have hwc : IntKind.i64.wrap (manyTo (all T3) j (y : Int) + 1) = manyTo (all T3) j (y : Int) + 1 := Go.IntWalk.i64_in _ (by omega)
                  obtain ⟨w10, hput, h10⟩ := (h9.front (r := hMap IKey b7 n2 (manyTo (all T3) j)) [hVal Z [.int .i64 (y : Int), .int .i64 yq, .int .i64 yc]]).mapput ikey (f' := manyTo (all T3) (j + 1)) (c := manyTo (all T3) j (y : Int) + 1) (by have := unhide HAL; unfold maxLen; omega) yin (by omega) ms mo
                  have PUT : (Instr.mapUpdate 51 (.map (some b7)) (.int .i64 (y : Int)) (.int .i64 (manyTo (all T3) j (y : Int) + 1))).run Try.prog w9 = .ok () w10 := hput
                  have hl3 : (lows T3)[y]? = some (T3 y).low := by
                    match y, hy4 with
                    | 0, _ => rfl
                    | 1, _ => rfl
                    | 2, _ => rfl
                    | 3, _ => rfl
                  obtain ⟨g5, o5, rfl, _, _⟩ := (h10.at (List.mem_cons_of_mem _ (List.mem_cons_of_mem _ (List.mem_cons_of_mem _ (List.mem_cons_of_mem _ List.mem_cons_self)))) : IntK.At w10 a5 (lows T3)).cell intK_law hl3
                  obtain ⟨CL, hCL⟩ : ∃ CL : World → Prop, CL = fun v => HR w v (hMap IKey b7 (n2 + 1) (manyTo (all T3) (j + 1)) :: hVal Z [.int .i64 (y : Int), .int .i64 yq, .int .i64 yc] :: hAt EntK (some ⟨g7, o7, none⟩) (all T3) :: hTab s F3 T3 :: hAt IntK (some ⟨g5, o5, none⟩) (lows T3) :: hMap PKey b n4 (given1 W3.l) :: []) := ⟨_, rfl⟩
                  have un : ∀ v, CL v → HR w v (hMap IKey b7 (n2 + 1) (manyTo (all T3) (j + 1)) :: hVal Z [.int .i64 (y : Int), .int .i64 yq, .int .i64 yc] :: hAt EntK (some ⟨g7, o7, none⟩) (all T3) :: hTab s F3 T3 :: hAt IntK (some ⟨g5, o5, none⟩) (lows T3) :: hMap PKey b n4 (given1 W3.l) :: []) := fun v k => by rw [hCL] at k; exact k
                  have base : CL w10.drew := by rw [hCL]; exact h10.below ((Below.refl _ _).drew)
                  have ne : Nonempty (SX CL) := ⟨⟨_, base⟩⟩
                  have e0 : ∀ q : SX CL, q.w.cell? ⟨Z, 0, none⟩ = some (.int .i64 (y : Int)) := fun q => ((un _ q.ok).val (P := Z) (List.mem_cons_of_mem _ List.mem_cons_self)).cell 0 (by simp)
                  have e1 : ∀ q : SX CL, q.w.cell? ⟨Z, 1, none⟩ = some (.int .i64 yq) := fun q => ((un _ q.ok).val (P := Z) (List.mem_cons_of_mem _ List.mem_cons_self)).cell 1 (by simp)
                  have e2 : ∀ q : SX CL, q.w.cell? ⟨Z, 2, none⟩ = some (.int .i64 yc) := fun q => ((un _ q.ok).val (P := Z) (List.mem_cons_of_mem _ List.mem_cons_self)).cell 2 (by simp)
                  have el : ∀ q : SX CL, q.w.cell? ⟨g5, o5 + y, none⟩ = some (.int .i64 (T3 y).low) := fun q => by
                    obtain ⟨g', o', e, _, hr5⟩ := ((un _ q.ok).at (List.mem_cons_of_mem _ (List.mem_cons_of_mem _ (List.mem_cons_of_mem _ (List.mem_cons_of_mem _ List.mem_cons_self)))) : IntK.At q.w (some ⟨g5, o5, none⟩) (lows T3)).cell intK_law hl3
                    cases e
                    have z5 := hr5 0 (.int .i64 (T3 y).low) rfl
                    simpa only [IntK, Nat.mul_one, Nat.add_zero] using z5
                  obtain ⟨u, hu⟩ : ∃ u, u = manyTo (all T3) (j + 1) (y : Int) := ⟨_, rfl⟩
                  have LQ : ∀ q : SX CL, (Instr.lookup 51 (.map (some b7)) (.int .i64 (y : Int)) false).run Try.prog q.w = .ok (.int .i64 u) q.w := fun q => by rw [hu]; exact ((un _ q.ok).map (K := IKey) List.mem_cons_self).get ikey yin
                  have KQ : ∀ q : SX CL, (Instr.lookup 49 (.map (some b)) (.agg #[.int .i64 (y : Int), .int .i64 yq]) false).run Try.prog q.w = .ok (.int .i64 yc) q.w := fun q => by
                    have := ((un _ q.ok).map (K := PKey) (List.mem_cons_of_mem _ (List.mem_cons_of_mem _ (List.mem_cons_of_mem _ (List.mem_cons_of_mem _ (List.mem_cons_of_mem _ List.mem_cons_self)))))).get pkey (x := ((y : Int), yq)) ⟨yin, ⟨by simp only; omega, by simp only; omega⟩⟩
                    rw [f4] at this
                    exact this
                  have HUN := hide un
                  have BS := hide base
                  have HZ := hide hZ
                  have HW9 := hide hw9
                  have RG9 : Hid (wr.rangeAt g7 (o7 + j * 3) [.int .i64 (y : Int), .int .i64 yq, .int .i64 yc]) := hide hr7
                  have HN2 := hide hn2
                  have u16 : decide (16 < u) = false := decide_eq_false (by omega)
                  have y0 : (0 : Int) ≤ (y : Int) := by omega
                  have y4 : (y : Int) < 4 := by omega
                  have yd0 : decide ((y : Int) < 0) = false := decide_eq_false (by omega)
                  have yd4 : decide ((4 : Int) ≤ (y : Int)) = false := decide_eq_false (by omega)
                  have yd5 : decide (4 ≤ y) = false := decide_eq_false (by omega)
                  obtain ⟨lk, hlk⟩ : ∃ lk, lk = (T3 y).low := ⟨_, rfl⟩
                  rw [← hlk] at el f2 f3 f5 f6
                  have ql : decide (yq < lk) = false := decide_eq_false (by omega)
                  have qw : IntKind.i64.wrap (yq - lk) = yq - lk := Go.IntWalk.i64_in _ (by omega)
                  have q16 : decide (16 ≤ yq - lk) = false := decide_eq_false (by omega)
                  obtain ⟨u0, hu0⟩ : ∃ u0, u0 = manyTo (all T3) j (y : Int) := ⟨_, rfl⟩
                  rw [← hu0] at LK9 hwc PUT
                  clear hx f1 f2 f3 f4 f5 f6 hr7 mj mj1 ms mo hZ hw9 h9 yin hput h10 hl3 hCL un base hu hu0 hlk hr hn2 hy4
                  go_upto_region 33 with (refine wpList_load_on rfl 53 (.tmp 120) rfl g7 (o7 + j * 3) rfl [.int .i64 (y : Int), .int .i64 yq, .int .i64 yc] _ (unhide RG9) Try.underlying53 rfl (by kernel_rfl) ?_)
                  rw [← unhide HZ]
                  rw [← unhide HW9]
                  go_upto_region 34 with fail
                  clear LK9 PUT d0
                  refine wp_region_sx (St := CL) (by kernel_rfl) (by kernel_rfl) (unhide BS) ?_
                  repeat (go_big_quiet_step (fail))
                  refine wpQuiet_nil ?_
                  first | (rintro v7 ⟨⟨v7', OK7⟩, e7x⟩; subst e7x) | rintro ⟨v7, OK7⟩
                  try dsimp only
                  have B7 := hide ((unhide HUN _ OK7).sub (List.Sublist.cons_cons _ (List.Sublist.cons _ (List.Sublist.cons_cons _ (List.Sublist.cons_cons _ (List.Sublist.cons_cons _ (List.Sublist.cons_cons _ (List.Sublist.refl _))))))))
                  clear OK7 e0 e1 e2 el LQ KQ HUN
                  go_wp2_with fail
                  exact ⟨⟨j + 1, n2 + 1, rfl, by omega, unhide B7, by have := unhide HN2; omega⟩, by simp [intOf]; omega⟩
                · have gj : ¬ (j : Int) < ((all T3).length : Int) := by omega
                  have gjd : decide (j < (all T3).length) = false := decide_eq_false hjl
                  have H10 : Hid (HR w wr (hTab s F3 T3 :: hMap PKey b n4 (given1 W3.l) :: hAt IntK a5 (lows T3) :: [])) := hide ((hr.sub (List.Sublist.cons _ (List.Sublist.cons _ (List.Sublist.cons_cons _ (List.Sublist.cons_cons _ (List.Sublist.cons_cons _ (List.Sublist.refl _))))))).perm (List.Perm.cons _ (List.Perm.swap _ _ _)))
                  clear hr
                  go_wp2_with fail
                  exact ⟨⟨k + 1, F3, T3, W3, a5, c5, n4, rfl, by omega, rfl, unhide H10, unhide NO, unhide NR, unhide HN4⟩, by simp [intOf]; omega⟩
        · have NW : Hid (rnote W xs xq xl xc = W) := hide (if_neg (by rw [unhide NE]; exact hne))
          have ne0 : (noteE T xs xq xl xc == 0) = false := beq_eq_false_iff_ne.2 hne
          have ne1 : decide (noteE T xs xq xl xc = 0) = false := decide_eq_false hne
          have H4 : Hid (HR w w3 (hTab s F3 (note T xs xq xl xc) :: hMap PKey b n (given1 W.l) :: hAt IntK al (lows T) :: [])) := hide ((unhide H3).sub (List.Sublist.cons_cons _ (List.Sublist.cons _ (List.Sublist.cons _ (List.Sublist.cons_cons _ (List.Sublist.cons_cons _ (List.Sublist.refl _)))))))
          have HN4 : Hid (n ≤ k + 1) := hide (by have := unhide HNK; omega)
          rw [unhide NW] at NR
          obtain ⟨W3, hW3⟩ : ∃ W3, W3 = W := ⟨_, rfl⟩
          rw [← hW3] at NR H4
          clear hW3 H3 NW NE HNK c0 c1 c2 c3 c4 RGY
          generalize noteE T xs xq xl xc = ne at *
          go_wp2_with fail
          clear ne0 ne1 hne
          obtain ⟨T3, hT3⟩ : ∃ T3, T3 = note T xs xq xl xc := ⟨_, rfl⟩
          rw [← hT3] at H4 NR NO NLOW
          clear hT3
          obtain ⟨n4, hn4⟩ : ∃ n4, n4 = n := ⟨_, rfl⟩
          rw [← hn4] at H4 HN4
          clear hn4
          refine ((unhide H4).lows List.mem_cons_self).mono ?_
          rintro e w5 ⟨a5, c5, rfl, hr5⟩
          have H5 : Hid (HR w w5 (hAt IntK a5 (lows T3) :: hTab s F3 T3 :: hMap PKey b n4 (given1 W3.l) :: hAt IntK al (lows T) :: [])) := hide hr5.read
          clear hr5 H4
          go_wp2_with fail
          go_loopw [12] (fun i wr => ∃ m : Nat, i = .int .i64 (m : Int) ∧ m ≤ 4 ∧ HR w wr (hAt IntK a5 (lows T3) :: hTab s F3 T3 :: hMap PKey b n4 (given1 W3.l) :: hAt IntK al (lows T) :: [])) (fun i _ => 4 - (intOf i).toNat)
          case atStart => exact ⟨0, rfl, by decide, unhide H5⟩
          case round =>
            obtain ⟨m, rfl, hm, hr⟩ := hrel
            clear H5
            by_cases hm4 : m < 4
            · have m0 : (0 : Int) ≤ (m : Int) := by omega
              have m1 : (m : Int) < 4 := by omega
              have hwm : IntKind.i64.wrap ((m : Int) + 1) = (m : Int) + 1 := Go.IntWalk.i64_in _ (by omega)
              have hl3 : (lows T3)[m]? = some (T3 m).low := by
                match m, hm4 with
                | 0, _ => rfl
                | 1, _ => rfl
                | 2, _ => rfl
                | 3, _ => rfl
              have hl : (lows T)[m]? = some (T m).low := by
                match m, hm4 with
                | 0, _ => rfl
                | 1, _ => rfl
                | 2, _ => rfl
                | 3, _ => rfl
              have hle := unhide NLOW m
              obtain ⟨g5, o5, rfl, _, hr5⟩ := (hr.at List.mem_cons_self : IntK.At wr a5 (lows T3)).cell intK_law hl3
              obtain ⟨g6, o6, rfl, _, hr6⟩ := (hr.at (List.mem_cons_of_mem _ (List.mem_cons_of_mem _ (List.mem_cons_of_mem _ List.mem_cons_self))) : IntK.At wr al (lows T)).cell intK_law hl
              have z5 := hr5 0 (.int .i64 (T3 m).low) rfl
              have z6 := hr6 0 (.int .i64 (T m).low) rfl
              simp only [IntK, Nat.mul_one, Nat.add_zero] at z5 z6
              obtain ⟨CL, hCL⟩ : ∃ CL : World → Prop, CL = fun v => Below wr.heap.size wr v := ⟨_, rfl⟩
              have un : ∀ v, CL v → Below wr.heap.size wr v := fun v k => by rw [hCL] at k; exact k
              have base : CL wr.drew := by rw [hCL]; exact (Below.refl _ _).drew
              have ne : Nonempty (SX CL) := ⟨⟨_, base⟩⟩
              have kc : ∀ (q : SX CL) (b i : Nat) (v : Value), wr.cell? ⟨b, i, none⟩ = some v → q.w.cell? ⟨b, i, none⟩ = some v := fun q b i v hv => ((un _ q.ok).cell (p := ⟨b, i, none⟩) (World.block_lt_of_cell? _ _ hv)).trans hv
              have x5 : ∀ q : SX CL, q.w.cell? ⟨g5, o5 + m, none⟩ = some (.int .i64 (T3 m).low) := fun q => kc q _ _ _ z5
              have x6 : ∀ q : SX CL, q.w.cell? ⟨g6, o6 + m, none⟩ = some (.int .i64 (T m).low) := fun q => kc q _ _ _ z6
              have BS := hide base
              have BQ := hide (fun v hv => hr.below (un v hv))
              have ld : decide ((T3 m).low < (T m).low) = false := decide_eq_false (by omega)
              clear hr5 hr6 z5 z6 hCL un base kc hr hl hl3 hle
              generalize (T3 m).low = u5 at *
              generalize (T m).low = u6 at *
              go_upto_region 24 with fail
              refine wp_region_sx (St := CL) (by kernel_rfl) (by kernel_rfl) (unhide BS) ?_
              repeat (go_big_quiet_step (fail))
              refine wpQuiet_nil ?_
              first | (rintro v7 ⟨⟨v7', OK7⟩, e7x⟩; subst e7x) | rintro ⟨v7, OK7⟩
              try dsimp only
              have B7 := hide (unhide BQ _ OK7)
              clear OK7 x5 x6 BQ
              go_wp2_with fail
              exact ⟨⟨m + 1, rfl, by omega, unhide B7⟩, by simp [intOf]; omega⟩
            · have gm : ¬ (m : Int) < 4 := by omega
              have H6 : Hid (HR w wr (hTab s F3 T3 :: hAt IntK a5 (lows T3) :: hMap PKey b n4 (given1 W3.l) :: [])) := hide ((hr.front (r := hTab s F3 T3) [hAt IntK a5 (lows T3)]).sub (List.Sublist.cons_cons _ (List.Sublist.cons_cons _ (List.Sublist.cons_cons _ (List.Sublist.cons _ (List.Sublist.refl _))))))
              clear hr
              go_wp2_with fail
              refine ((unhide H6).all List.mem_cons_self (unhide NO)).mono ?_
              rintro e w7 ⟨a7, c7, rfl, hr7⟩
              obtain ⟨b7, hb7⟩ : ∃ b7, b7 = w7.heap.size := ⟨_, rfl⟩
              obtain ⟨w8, hw8⟩ : ∃ w8, w8 = w7.alloc (.map #[] 0) := ⟨_, rfl⟩
              have H8 : Hid (HR w w8 (hMap IKey b7 0 (manyTo (all T3) 0) :: hAt EntK a7 (all T3) :: hTab s F3 T3 :: hAt IntK a5 (lows T3) :: hMap PKey b n4 (given1 W3.l) :: [])) := hide (by rw [hb7, hw8, manyTo_zero]; exact hr7.read.newmap IKey)
              have HB7 := hide hb7
              have HW8 := hide hw8
              have hmm := @run_makeMap Try.prog
              have HAL := hide (all_length (unhide NO))
              clear hr7 hb7 hw8 H6
              go_upto_region 29 with fail
              rw [← unhide HB7]
              rw [← unhide HW8]
              clear hmm
              go_wp2_with fail
              go_loopw [15] (fun i wr => ∃ (j n2 : Nat), i = .int .i64 (j : Int) ∧ j ≤ (all T3).length ∧ HR w wr (hMap IKey b7 n2 (manyTo (all T3) j) :: hAt EntK a7 (all T3) :: hTab s F3 T3 :: hAt IntK a5 (lows T3) :: hMap PKey b n4 (given1 W3.l) :: []) ∧ n2 ≤ j) (fun i _ => (all T3).length - (intOf i).toNat)
              case atStart => exact ⟨0, 0, rfl, Nat.zero_le _, unhide H8, Nat.le_refl _⟩
              case round =>
                obtain ⟨j, n2, rfl, hj, hr, hn2⟩ := hrel
                clear H8
                by_cases hjl : j < (all T3).length
                · have gj : (j : Int) < ((all T3).length : Int) := by omega
                  have gj0 : (0 : Int) ≤ (j : Int) := by omega
                  have hwj : IntKind.i64.wrap ((j : Int) + 1) = (j : Int) + 1 := Go.IntWalk.i64_in _ (by have := unhide HAL; omega)
                  obtain ⟨x, hx⟩ : ∃ x, (all T3)[j]? = some x := ⟨_, List.getElem?_eq_getElem hjl⟩
                  obtain ⟨f1, f2, f3, f4⟩ := kept_facts (unhide NR) (unhide NO) (List.mem_of_getElem? hx)
                  have f5 := (unhide NO x.src.toNat).lo
                  have f6 := (unhide NO x.src.toNat).hi
                  obtain ⟨g7, o7, rfl, _, hr7⟩ := (hr.at (List.mem_cons_of_mem _ List.mem_cons_self) : EntK.At wr a7 (all T3)).cell entK_law hx
                  have mj := manyTo_le (unhide NO) j x.src
                  have mj1 := manyTo_le (unhide NO) (j + 1) x.src
                  have ms := manyTo_same hx
                  have mo := fun s hs => manyTo_other hx (s := s) hs
                  obtain ⟨ys, yq, yc⟩ := x
                  simp only at f1 f2 f3 f4 f5 f6 mj mj1 ms mo
                  obtain ⟨y, rfl⟩ : ∃ y : Nat, ys = y := ⟨ys.toNat, by omega⟩
                  rw [Int.toNat_natCast] at f2 f3 f5 f6
                  have hy4 : y < 4 := by omega
                  obtain ⟨Z, hZ⟩ : ∃ Z, Z = wr.heap.size := ⟨_, rfl⟩
                  obtain ⟨w9, hw9⟩ : ∃ w9, w9 = wr.alloc (.cells #[.int .i64 (y : Int), .int .i64 yq, .int .i64 yc] 53) := ⟨_, rfl⟩
                  have h9 : HR w w9 (hVal Z [.int .i64 (y : Int), .int .i64 yq, .int .i64 yc] :: hMap IKey b7 n2 (manyTo (all T3) j) :: hAt EntK (some ⟨g7, o7, none⟩) (all T3) :: hTab s F3 T3 :: hAt IntK a5 (lows T3) :: hMap PKey b n4 (given1 W3.l) :: []) := by
                    rw [hZ, hw9]; exact hr.made [.int .i64 (y : Int), .int .i64 yq, .int .i64 yc] 53
                  have d0 : w9.cell? ⟨Z, 0, none⟩ = some (.int .i64 (y : Int)) := (h9.val (P := Z) List.mem_cons_self).cell 0 (by simp)
                  have yin : i64in (y : Int) := ⟨by omega, by omega⟩
                  have LK9 : (Instr.lookup 51 (.map (some b7)) (.int .i64 (y : Int)) false).run Try.prog w9 = .ok (.int .i64 (manyTo (all T3) j (y : Int))) w9 := (h9.map (K := IKey) (List.mem_cons_of_mem _ List.mem_cons_self)).get ikey yin
                  have hwc : IntKind.i64.wrap (manyTo (all T3) j (y : Int) + 1) = manyTo (all T3) j (y : Int) + 1 := Go.IntWalk.i64_in _ (by omega)
                  obtain ⟨w10, hput, h10⟩ := (h9.front (r := hMap IKey b7 n2 (manyTo (all T3) j)) [hVal Z [.int .i64 (y : Int), .int .i64 yq, .int .i64 yc]]).mapput ikey (f' := manyTo (all T3) (j + 1)) (c := manyTo (all T3) j (y : Int) + 1) (by have := unhide HAL; unfold maxLen; omega) yin (by omega) ms mo
                  have PUT : (Instr.mapUpdate 51 (.map (some b7)) (.int .i64 (y : Int)) (.int .i64 (manyTo (all T3) j (y : Int) + 1))).run Try.prog w9 = .ok () w10 := hput
                  have hl3 : (lows T3)[y]? = some (T3 y).low := by
                    match y, hy4 with
                    | 0, _ => rfl
                    | 1, _ => rfl
                    | 2, _ => rfl
                    | 3, _ => rfl
                  obtain ⟨g5, o5, rfl, _, _⟩ := (h10.at (List.mem_cons_of_mem _ (List.mem_cons_of_mem _ (List.mem_cons_of_mem _ (List.mem_cons_of_mem _ List.mem_cons_self)))) : IntK.At w10 a5 (lows T3)).cell intK_law hl3
                  obtain ⟨CL, hCL⟩ : ∃ CL : World → Prop, CL = fun v => HR w v (hMap IKey b7 (n2 + 1) (manyTo (all T3) (j + 1)) :: hVal Z [.int .i64 (y : Int), .int .i64 yq, .int .i64 yc] :: hAt EntK (some ⟨g7, o7, none⟩) (all T3) :: hTab s F3 T3 :: hAt IntK (some ⟨g5, o5, none⟩) (lows T3) :: hMap PKey b n4 (given1 W3.l) :: []) := ⟨_, rfl⟩
                  have un : ∀ v, CL v → HR w v (hMap IKey b7 (n2 + 1) (manyTo (all T3) (j + 1)) :: hVal Z [.int .i64 (y : Int), .int .i64 yq, .int .i64 yc] :: hAt EntK (some ⟨g7, o7, none⟩) (all T3) :: hTab s F3 T3 :: hAt IntK (some ⟨g5, o5, none⟩) (lows T3) :: hMap PKey b n4 (given1 W3.l) :: []) := fun v k => by rw [hCL] at k; exact k
                  have base : CL w10.drew := by rw [hCL]; exact h10.below ((Below.refl _ _).drew)
                  have ne : Nonempty (SX CL) := ⟨⟨_, base⟩⟩
                  have e0 : ∀ q : SX CL, q.w.cell? ⟨Z, 0, none⟩ = some (.int .i64 (y : Int)) := fun q => ((un _ q.ok).val (P := Z) (List.mem_cons_of_mem _ List.mem_cons_self)).cell 0 (by simp)
                  have e1 : ∀ q : SX CL, q.w.cell? ⟨Z, 1, none⟩ = some (.int .i64 yq) := fun q => ((un _ q.ok).val (P := Z) (List.mem_cons_of_mem _ List.mem_cons_self)).cell 1 (by simp)
                  have e2 : ∀ q : SX CL, q.w.cell? ⟨Z, 2, none⟩ = some (.int .i64 yc) := fun q => ((un _ q.ok).val (P := Z) (List.mem_cons_of_mem _ List.mem_cons_self)).cell 2 (by simp)
                  have el : ∀ q : SX CL, q.w.cell? ⟨g5, o5 + y, none⟩ = some (.int .i64 (T3 y).low) := fun q => by
                    obtain ⟨g', o', e, _, hr5⟩ := ((un _ q.ok).at (List.mem_cons_of_mem _ (List.mem_cons_of_mem _ (List.mem_cons_of_mem _ (List.mem_cons_of_mem _ List.mem_cons_self)))) : IntK.At q.w (some ⟨g5, o5, none⟩) (lows T3)).cell intK_law hl3
                    cases e
                    have z5 := hr5 0 (.int .i64 (T3 y).low) rfl
                    simpa only [IntK, Nat.mul_one, Nat.add_zero] using z5
                  obtain ⟨u, hu⟩ : ∃ u, u = manyTo (all T3) (j + 1) (y : Int) := ⟨_, rfl⟩
                  have LQ : ∀ q : SX CL, (Instr.lookup 51 (.map (some b7)) (.int .i64 (y : Int)) false).run Try.prog q.w = .ok (.int .i64 u) q.w := fun q => by rw [hu]; exact ((un _ q.ok).map (K := IKey) List.mem_cons_self).get ikey yin
                  have KQ : ∀ q : SX CL, (Instr.lookup 49 (.map (some b)) (.agg #[.int .i64 (y : Int), .int .i64 yq]) false).run Try.prog q.w = .ok (.int .i64 yc) q.w := fun q => by
                    have := ((un _ q.ok).map (K := PKey) (List.mem_cons_of_mem _ (List.mem_cons_of_mem _ (List.mem_cons_of_mem _ (List.mem_cons_of_mem _ (List.mem_cons_of_mem _ List.mem_cons_self)))))).get pkey (x := ((y : Int), yq)) ⟨yin, ⟨by simp only; omega, by simp only; omega⟩⟩
                    rw [f4] at this
                    exact this
                  have HUN := hide un
                  have BS := hide base
                  have HZ := hide hZ
                  have HW9 := hide hw9
                  have RG9 : Hid (wr.rangeAt g7 (o7 + j * 3) [.int .i64 (y : Int), .int .i64 yq, .int .i64 yc]) := hide hr7
                  have HN2 := hide hn2
                  have u16 : decide (16 < u) = false := decide_eq_false (by omega)
                  have y0 : (0 : Int) ≤ (y : Int) := by omega
                  have y4 : (y : Int) < 4 := by omega
                  have yd0 : decide ((y : Int) < 0) = false := decide_eq_false (by omega)
                  have yd4 : decide ((4 : Int) ≤ (y : Int)) = false := decide_eq_false (by omega)
                  have yd5 : decide (4 ≤ y) = false := decide_eq_false (by omega)
                  obtain ⟨lk, hlk⟩ : ∃ lk, lk = (T3 y).low := ⟨_, rfl⟩
                  rw [← hlk] at el f2 f3 f5 f6
                  have ql : decide (yq < lk) = false := decide_eq_false (by omega)
                  have qw : IntKind.i64.wrap (yq - lk) = yq - lk := Go.IntWalk.i64_in _ (by omega)
                  have q16 : decide (16 ≤ yq - lk) = false := decide_eq_false (by omega)
                  obtain ⟨u0, hu0⟩ : ∃ u0, u0 = manyTo (all T3) j (y : Int) := ⟨_, rfl⟩
                  rw [← hu0] at LK9 hwc PUT
                  clear hx f1 f2 f3 f4 f5 f6 hr7 mj mj1 ms mo hZ hw9 h9 yin hput h10 hl3 hCL un base hu hu0 hlk hr hn2 hy4
                  go_upto_region 33 with (refine wpList_load_on rfl 53 (.tmp 120) rfl g7 (o7 + j * 3) rfl [.int .i64 (y : Int), .int .i64 yq, .int .i64 yc] _ (unhide RG9) Try.underlying53 rfl (by kernel_rfl) ?_)
                  rw [← unhide HZ]
                  rw [← unhide HW9]
                  go_upto_region 34 with fail
                  clear LK9 PUT d0
                  refine wp_region_sx (St := CL) (by kernel_rfl) (by kernel_rfl) (unhide BS) ?_
                  repeat (go_big_quiet_step (fail))
                  refine wpQuiet_nil ?_
                  first | (rintro v7 ⟨⟨v7', OK7⟩, e7x⟩; subst e7x) | rintro ⟨v7, OK7⟩
                  try dsimp only
                  have B7 := hide ((unhide HUN _ OK7).sub (List.Sublist.cons_cons _ (List.Sublist.cons _ (List.Sublist.cons_cons _ (List.Sublist.cons_cons _ (List.Sublist.cons_cons _ (List.Sublist.cons_cons _ (List.Sublist.refl _))))))))
                  clear OK7 e0 e1 e2 el LQ KQ HUN
                  go_wp2_with fail
                  exact ⟨⟨j + 1, n2 + 1, rfl, by omega, unhide B7, by have := unhide HN2; omega⟩, by simp [intOf]; omega⟩
                · have gj : ¬ (j : Int) < ((all T3).length : Int) := by omega
                  have gjd : decide (j < (all T3).length) = false := decide_eq_false hjl
                  have H10 : Hid (HR w wr (hTab s F3 T3 :: hMap PKey b n4 (given1 W3.l) :: hAt IntK a5 (lows T3) :: [])) := hide ((hr.sub (List.Sublist.cons _ (List.Sublist.cons _ (List.Sublist.cons_cons _ (List.Sublist.cons_cons _ (List.Sublist.cons_cons _ (List.Sublist.refl _))))))).perm (List.Perm.cons _ (List.Perm.swap _ _ _)))
                  clear hr
                  go_wp2_with fail
                  exact ⟨⟨k + 1, F3, T3, W3, a5, c5, n4, rfl, by omega, rfl, unhide H10, unhide NO, unhide NR, unhide HN4⟩, by simp [intOf]; omega⟩
      · have e3 : (st == 3) = false := beq_eq_false_iff_ne.2 h3
        have e3d : decide (st = 3) = false := decide_eq_false h3
        have hne : ¬ noteE T xs xq xl xc = 0 := fun h => h3 (unhide NF h)
        by_cases h2 : st = 2
        · subst h2
          have LK : (Instr.lookup 49 (.map (some b)) (.agg #[.int .i64 xs, .int .i64 xq]) false).run Try.prog W2 = .ok (.int .i64 cn) W2 := by rw [unhide LK0, unhide KN rfl]
          clear FR KN NF LK0 h3
          go_wp2_with (refine wpList_load_on rfl 50 (.tmp 8) rfl Y 0 rfl [.int .i64 xs, .int .i64 xq] _ (unhide RGY) Try.underlying50 rfl (by kernel_rfl) ?_)
          try clear LK
          refine (unhide C17).mono ?_
          rintro e w3 ⟨rfl, F3, hr3⟩
          have H3 := hide hr3
          clear c0 c1 c2 c3 c4 RGY
          obtain ⟨c0, c1, c2, c3, c4⟩ := act_cells (hr3.val (P := X) (List.mem_cons_of_mem _ (List.mem_cons_of_mem _ List.mem_cons_self)))
          have RGY := hide (hr3.val (P := Y) (List.mem_cons_of_mem _ List.mem_cons_self)).range
          clear hr3 C17
          have NW : Hid (rnote W xs xq xl xc = W) := hide (if_neg (by rw [unhide NE]; exact hne))
          have ne0 : (noteE T xs xq xl xc == 0) = false := beq_eq_false_iff_ne.2 hne
          have ne1 : decide (noteE T xs xq xl xc = 0) = false := decide_eq_false hne
          have H4 : Hid (HR w w3 (hTab s F3 (note T xs xq xl xc) :: hMap PKey b n (given1 W.l) :: hAt IntK al (lows T) :: [])) := hide ((unhide H3).sub (List.Sublist.cons_cons _ (List.Sublist.cons _ (List.Sublist.cons _ (List.Sublist.cons_cons _ (List.Sublist.cons_cons _ (List.Sublist.refl _)))))))
          have HN4 : Hid (n ≤ k + 1) := hide (by have := unhide HNK; omega)
          rw [unhide NW] at NR
          obtain ⟨W3, hW3⟩ : ∃ W3, W3 = W := ⟨_, rfl⟩
          rw [← hW3] at NR H4
          clear hW3 H3 NW NE HNK c0 c1 c2 c3 c4 RGY
          generalize noteE T xs xq xl xc = ne at *
          go_wp2_with fail
          clear ne0 ne1 hne
          obtain ⟨T3, hT3⟩ : ∃ T3, T3 = note T xs xq xl xc := ⟨_, rfl⟩
          rw [← hT3] at H4 NR NO NLOW
          clear hT3
          obtain ⟨n4, hn4⟩ : ∃ n4, n4 = n := ⟨_, rfl⟩
          rw [← hn4] at H4 HN4
          clear hn4
          refine ((unhide H4).lows List.mem_cons_self).mono ?_
          rintro e w5 ⟨a5, c5, rfl, hr5⟩
          have H5 : Hid (HR w w5 (hAt IntK a5 (lows T3) :: hTab s F3 T3 :: hMap PKey b n4 (given1 W3.l) :: hAt IntK al (lows T) :: [])) := hide hr5.read
          clear hr5 H4
          go_wp2_with fail
          go_loopw [12] (fun i wr => ∃ m : Nat, i = .int .i64 (m : Int) ∧ m ≤ 4 ∧ HR w wr (hAt IntK a5 (lows T3) :: hTab s F3 T3 :: hMap PKey b n4 (given1 W3.l) :: hAt IntK al (lows T) :: [])) (fun i _ => 4 - (intOf i).toNat)
          case atStart => exact ⟨0, rfl, by decide, unhide H5⟩
          case round =>
            obtain ⟨m, rfl, hm, hr⟩ := hrel
            clear H5
            by_cases hm4 : m < 4
            · have m0 : (0 : Int) ≤ (m : Int) := by omega
              have m1 : (m : Int) < 4 := by omega
              have hwm : IntKind.i64.wrap ((m : Int) + 1) = (m : Int) + 1 := Go.IntWalk.i64_in _ (by omega)
              have hl3 : (lows T3)[m]? = some (T3 m).low := by
                match m, hm4 with
                | 0, _ => rfl
                | 1, _ => rfl
                | 2, _ => rfl
                | 3, _ => rfl
              have hl : (lows T)[m]? = some (T m).low := by
                match m, hm4 with
                | 0, _ => rfl
                | 1, _ => rfl
                | 2, _ => rfl
                | 3, _ => rfl
              have hle := unhide NLOW m
              obtain ⟨g5, o5, rfl, _, hr5⟩ := (hr.at List.mem_cons_self : IntK.At wr a5 (lows T3)).cell intK_law hl3
              obtain ⟨g6, o6, rfl, _, hr6⟩ := (hr.at (List.mem_cons_of_mem _ (List.mem_cons_of_mem _ (List.mem_cons_of_mem _ List.mem_cons_self))) : IntK.At wr al (lows T)).cell intK_law hl
              have z5 := hr5 0 (.int .i64 (T3 m).low) rfl
              have z6 := hr6 0 (.int .i64 (T m).low) rfl
              simp only [IntK, Nat.mul_one, Nat.add_zero] at z5 z6
              obtain ⟨CL, hCL⟩ : ∃ CL : World → Prop, CL = fun v => Below wr.heap.size wr v := ⟨_, rfl⟩
              have un : ∀ v, CL v → Below wr.heap.size wr v := fun v k => by rw [hCL] at k; exact k
              have base : CL wr.drew := by rw [hCL]; exact (Below.refl _ _).drew
              have ne : Nonempty (SX CL) := ⟨⟨_, base⟩⟩
              have kc : ∀ (q : SX CL) (b i : Nat) (v : Value), wr.cell? ⟨b, i, none⟩ = some v → q.w.cell? ⟨b, i, none⟩ = some v := fun q b i v hv => ((un _ q.ok).cell (p := ⟨b, i, none⟩) (World.block_lt_of_cell? _ _ hv)).trans hv
              have x5 : ∀ q : SX CL, q.w.cell? ⟨g5, o5 + m, none⟩ = some (.int .i64 (T3 m).low) := fun q => kc q _ _ _ z5
              have x6 : ∀ q : SX CL, q.w.cell? ⟨g6, o6 + m, none⟩ = some (.int .i64 (T m).low) := fun q => kc q _ _ _ z6
              have BS := hide base
              have BQ := hide (fun v hv => hr.below (un v hv))
              have ld : decide ((T3 m).low < (T m).low) = false := decide_eq_false (by omega)
              clear hr5 hr6 z5 z6 hCL un base kc hr hl hl3 hle
              generalize (T3 m).low = u5 at *
              generalize (T m).low = u6 at *
              go_upto_region 24 with fail
              refine wp_region_sx (St := CL) (by kernel_rfl) (by kernel_rfl) (unhide BS) ?_
              repeat (go_big_quiet_step (fail))
              refine wpQuiet_nil ?_
              first | (rintro v7 ⟨⟨v7', OK7⟩, e7x⟩; subst e7x) | rintro ⟨v7, OK7⟩
              try dsimp only
              have B7 := hide (unhide BQ _ OK7)
              clear OK7 x5 x6 BQ
              go_wp2_with fail
              exact ⟨⟨m + 1, rfl, by omega, unhide B7⟩, by simp [intOf]; omega⟩
            · have gm : ¬ (m : Int) < 4 := by omega
              have H6 : Hid (HR w wr (hTab s F3 T3 :: hAt IntK a5 (lows T3) :: hMap PKey b n4 (given1 W3.l) :: [])) := hide ((hr.front (r := hTab s F3 T3) [hAt IntK a5 (lows T3)]).sub (List.Sublist.cons_cons _ (List.Sublist.cons_cons _ (List.Sublist.cons_cons _ (List.Sublist.cons _ (List.Sublist.refl _))))))
              clear hr
              go_wp2_with fail
              refine ((unhide H6).all List.mem_cons_self (unhide NO)).mono ?_
              rintro e w7 ⟨a7, c7, rfl, hr7⟩
              obtain ⟨b7, hb7⟩ : ∃ b7, b7 = w7.heap.size := ⟨_, rfl⟩
              obtain ⟨w8, hw8⟩ : ∃ w8, w8 = w7.alloc (.map #[] 0) := ⟨_, rfl⟩
              have H8 : Hid (HR w w8 (hMap IKey b7 0 (manyTo (all T3) 0) :: hAt EntK a7 (all T3) :: hTab s F3 T3 :: hAt IntK a5 (lows T3) :: hMap PKey b n4 (given1 W3.l) :: [])) := hide (by rw [hb7, hw8, manyTo_zero]; exact hr7.read.newmap IKey)
              have HB7 := hide hb7
              have HW8 := hide hw8
              have hmm := @run_makeMap Try.prog
              have HAL := hide (all_length (unhide NO))
              clear hr7 hb7 hw8 H6
              go_upto_region 29 with fail
              rw [← unhide HB7]
              rw [← unhide HW8]
              clear hmm
              go_wp2_with fail
              go_loopw [15] (fun i wr => ∃ (j n2 : Nat), i = .int .i64 (j : Int) ∧ j ≤ (all T3).length ∧ HR w wr (hMap IKey b7 n2 (manyTo (all T3) j) :: hAt EntK a7 (all T3) :: hTab s F3 T3 :: hAt IntK a5 (lows T3) :: hMap PKey b n4 (given1 W3.l) :: []) ∧ n2 ≤ j) (fun i _ => (all T3).length - (intOf i).toNat)
              case atStart => exact ⟨0, 0, rfl, Nat.zero_le _, unhide H8, Nat.le_refl _⟩
              case round =>
                obtain ⟨j, n2, rfl, hj, hr, hn2⟩ := hrel
                clear H8
                by_cases hjl : j < (all T3).length
                · have gj : (j : Int) < ((all T3).length : Int) := by omega
                  have gj0 : (0 : Int) ≤ (j : Int) := by omega
                  have hwj : IntKind.i64.wrap ((j : Int) + 1) = (j : Int) + 1 := Go.IntWalk.i64_in _ (by have := unhide HAL; omega)
                  obtain ⟨x, hx⟩ : ∃ x, (all T3)[j]? = some x := ⟨_, List.getElem?_eq_getElem hjl⟩
                  obtain ⟨f1, f2, f3, f4⟩ := kept_facts (unhide NR) (unhide NO) (List.mem_of_getElem? hx)
                  have f5 := (unhide NO x.src.toNat).lo
                  have f6 := (unhide NO x.src.toNat).hi
                  obtain ⟨g7, o7, rfl, _, hr7⟩ := (hr.at (List.mem_cons_of_mem _ List.mem_cons_self) : EntK.At wr a7 (all T3)).cell entK_law hx
                  have mj := manyTo_le (unhide NO) j x.src
                  have mj1 := manyTo_le (unhide NO) (j + 1) x.src
                  have ms := manyTo_same hx
                  have mo := fun s hs => manyTo_other hx (s := s) hs
                  obtain ⟨ys, yq, yc⟩ := x
                  simp only at f1 f2 f3 f4 f5 f6 mj mj1 ms mo
                  obtain ⟨y, rfl⟩ : ∃ y : Nat, ys = y := ⟨ys.toNat, by omega⟩
                  rw [Int.toNat_natCast] at f2 f3 f5 f6
                  have hy4 : y < 4 := by omega
                  obtain ⟨Z, hZ⟩ : ∃ Z, Z = wr.heap.size := ⟨_, rfl⟩
                  obtain ⟨w9, hw9⟩ : ∃ w9, w9 = wr.alloc (.cells #[.int .i64 (y : Int), .int .i64 yq, .int .i64 yc] 53) := ⟨_, rfl⟩
                  have h9 : HR w w9 (hVal Z [.int .i64 (y : Int), .int .i64 yq, .int .i64 yc] :: hMap IKey b7 n2 (manyTo (all T3) j) :: hAt EntK (some ⟨g7, o7, none⟩) (all T3) :: hTab s F3 T3 :: hAt IntK a5 (lows T3) :: hMap PKey b n4 (given1 W3.l) :: []) := by
                    rw [hZ, hw9]; exact hr.made [.int .i64 (y : Int), .int .i64 yq, .int .i64 yc] 53
                  have d0 : w9.cell? ⟨Z, 0, none⟩ = some (.int .i64 (y : Int)) := (h9.val (P := Z) List.mem_cons_self).cell 0 (by simp)
                  have yin : i64in (y : Int) := ⟨by omega, by omega⟩
                  have LK9 : (Instr.lookup 51 (.map (some b7)) (.int .i64 (y : Int)) false).run Try.prog w9 = .ok (.int .i64 (manyTo (all T3) j (y : Int))) w9 := (h9.map (K := IKey) (List.mem_cons_of_mem _ List.mem_cons_self)).get ikey yin
                  have hwc : IntKind.i64.wrap (manyTo (all T3) j (y : Int) + 1) = manyTo (all T3) j (y : Int) + 1 := Go.IntWalk.i64_in _ (by omega)
                  obtain ⟨w10, hput, h10⟩ := (h9.front (r := hMap IKey b7 n2 (manyTo (all T3) j)) [hVal Z [.int .i64 (y : Int), .int .i64 yq, .int .i64 yc]]).mapput ikey (f' := manyTo (all T3) (j + 1)) (c := manyTo (all T3) j (y : Int) + 1) (by have := unhide HAL; unfold maxLen; omega) yin (by omega) ms mo
                  have PUT : (Instr.mapUpdate 51 (.map (some b7)) (.int .i64 (y : Int)) (.int .i64 (manyTo (all T3) j (y : Int) + 1))).run Try.prog w9 = .ok () w10 := hput
                  have hl3 : (lows T3)[y]? = some (T3 y).low := by
                    match y, hy4 with
                    | 0, _ => rfl
                    | 1, _ => rfl
                    | 2, _ => rfl
                    | 3, _ => rfl
                  obtain ⟨g5, o5, rfl, _, _⟩ := (h10.at (List.mem_cons_of_mem _ (List.mem_cons_of_mem _ (List.mem_cons_of_mem _ (List.mem_cons_of_mem _ List.mem_cons_self)))) : IntK.At w10 a5 (lows T3)).cell intK_law hl3
                  obtain ⟨CL, hCL⟩ : ∃ CL : World → Prop, CL = fun v => HR w v (hMap IKey b7 (n2 + 1) (manyTo (all T3) (j + 1)) :: hVal Z [.int .i64 (y : Int), .int .i64 yq, .int .i64 yc] :: hAt EntK (some ⟨g7, o7, none⟩) (all T3) :: hTab s F3 T3 :: hAt IntK (some ⟨g5, o5, none⟩) (lows T3) :: hMap PKey b n4 (given1 W3.l) :: []) := ⟨_, rfl⟩
                  have un : ∀ v, CL v → HR w v (hMap IKey b7 (n2 + 1) (manyTo (all T3) (j + 1)) :: hVal Z [.int .i64 (y : Int), .int .i64 yq, .int .i64 yc] :: hAt EntK (some ⟨g7, o7, none⟩) (all T3) :: hTab s F3 T3 :: hAt IntK (some ⟨g5, o5, none⟩) (lows T3) :: hMap PKey b n4 (given1 W3.l) :: []) := fun v k => by rw [hCL] at k; exact k
                  have base : CL w10.drew := by rw [hCL]; exact h10.below ((Below.refl _ _).drew)
                  have ne : Nonempty (SX CL) := ⟨⟨_, base⟩⟩
                  have e0 : ∀ q : SX CL, q.w.cell? ⟨Z, 0, none⟩ = some (.int .i64 (y : Int)) := fun q => ((un _ q.ok).val (P := Z) (List.mem_cons_of_mem _ List.mem_cons_self)).cell 0 (by simp)
                  have e1 : ∀ q : SX CL, q.w.cell? ⟨Z, 1, none⟩ = some (.int .i64 yq) := fun q => ((un _ q.ok).val (P := Z) (List.mem_cons_of_mem _ List.mem_cons_self)).cell 1 (by simp)
                  have e2 : ∀ q : SX CL, q.w.cell? ⟨Z, 2, none⟩ = some (.int .i64 yc) := fun q => ((un _ q.ok).val (P := Z) (List.mem_cons_of_mem _ List.mem_cons_self)).cell 2 (by simp)
                  have el : ∀ q : SX CL, q.w.cell? ⟨g5, o5 + y, none⟩ = some (.int .i64 (T3 y).low) := fun q => by
                    obtain ⟨g', o', e, _, hr5⟩ := ((un _ q.ok).at (List.mem_cons_of_mem _ (List.mem_cons_of_mem _ (List.mem_cons_of_mem _ (List.mem_cons_of_mem _ List.mem_cons_self)))) : IntK.At q.w (some ⟨g5, o5, none⟩) (lows T3)).cell intK_law hl3
                    cases e
                    have z5 := hr5 0 (.int .i64 (T3 y).low) rfl
                    simpa only [IntK, Nat.mul_one, Nat.add_zero] using z5
                  obtain ⟨u, hu⟩ : ∃ u, u = manyTo (all T3) (j + 1) (y : Int) := ⟨_, rfl⟩
                  have LQ : ∀ q : SX CL, (Instr.lookup 51 (.map (some b7)) (.int .i64 (y : Int)) false).run Try.prog q.w = .ok (.int .i64 u) q.w := fun q => by rw [hu]; exact ((un _ q.ok).map (K := IKey) List.mem_cons_self).get ikey yin
                  have KQ : ∀ q : SX CL, (Instr.lookup 49 (.map (some b)) (.agg #[.int .i64 (y : Int), .int .i64 yq]) false).run Try.prog q.w = .ok (.int .i64 yc) q.w := fun q => by
                    have := ((un _ q.ok).map (K := PKey) (List.mem_cons_of_mem _ (List.mem_cons_of_mem _ (List.mem_cons_of_mem _ (List.mem_cons_of_mem _ (List.mem_cons_of_mem _ List.mem_cons_self)))))).get pkey (x := ((y : Int), yq)) ⟨yin, ⟨by simp only; omega, by simp only; omega⟩⟩
                    rw [f4] at this
                    exact this
                  have HUN := hide un
                  have BS := hide base
                  have HZ := hide hZ
                  have HW9 := hide hw9
                  have RG9 : Hid (wr.rangeAt g7 (o7 + j * 3) [.int .i64 (y : Int), .int .i64 yq, .int .i64 yc]) := hide hr7
                  have HN2 := hide hn2
                  have u16 : decide (16 < u) = false := decide_eq_false (by omega)
                  have y0 : (0 : Int) ≤ (y : Int) := by omega
                  have y4 : (y : Int) < 4 := by omega
                  have yd0 : decide ((y : Int) < 0) = false := decide_eq_false (by omega)
                  have yd4 : decide ((4 : Int) ≤ (y : Int)) = false := decide_eq_false (by omega)
                  have yd5 : decide (4 ≤ y) = false := decide_eq_false (by omega)
                  obtain ⟨lk, hlk⟩ : ∃ lk, lk = (T3 y).low := ⟨_, rfl⟩
                  rw [← hlk] at el f2 f3 f5 f6
                  have ql : decide (yq < lk) = false := decide_eq_false (by omega)
                  have qw : IntKind.i64.wrap (yq - lk) = yq - lk := Go.IntWalk.i64_in _ (by omega)
                  have q16 : decide (16 ≤ yq - lk) = false := decide_eq_false (by omega)
                  obtain ⟨u0, hu0⟩ : ∃ u0, u0 = manyTo (all T3) j (y : Int) := ⟨_, rfl⟩
                  rw [← hu0] at LK9 hwc PUT
                  clear hx f1 f2 f3 f4 f5 f6 hr7 mj mj1 ms mo hZ hw9 h9 yin hput h10 hl3 hCL un base hu hu0 hlk hr hn2 hy4
                  go_upto_region 33 with (refine wpList_load_on rfl 53 (.tmp 120) rfl g7 (o7 + j * 3) rfl [.int .i64 (y : Int), .int .i64 yq, .int .i64 yc] _ (unhide RG9) Try.underlying53 rfl (by kernel_rfl) ?_)
                  rw [← unhide HZ]
                  rw [← unhide HW9]
                  go_upto_region 34 with fail
                  clear LK9 PUT d0
                  refine wp_region_sx (St := CL) (by kernel_rfl) (by kernel_rfl) (unhide BS) ?_
                  repeat (go_big_quiet_step (fail))
                  refine wpQuiet_nil ?_
                  first | (rintro v7 ⟨⟨v7', OK7⟩, e7x⟩; subst e7x) | rintro ⟨v7, OK7⟩
                  try dsimp only
                  have B7 := hide ((unhide HUN _ OK7).sub (List.Sublist.cons_cons _ (List.Sublist.cons _ (List.Sublist.cons_cons _ (List.Sublist.cons_cons _ (List.Sublist.cons_cons _ (List.Sublist.cons_cons _ (List.Sublist.refl _))))))))
                  clear OK7 e0 e1 e2 el LQ KQ HUN
                  go_wp2_with fail
                  exact ⟨⟨j + 1, n2 + 1, rfl, by omega, unhide B7, by have := unhide HN2; omega⟩, by simp [intOf]; omega⟩
                · have gj : ¬ (j : Int) < ((all T3).length : Int) := by omega
                  have gjd : decide (j < (all T3).length) = false := decide_eq_false hjl
                  have H10 : Hid (HR w wr (hTab s F3 T3 :: hMap PKey b n4 (given1 W3.l) :: hAt IntK a5 (lows T3) :: [])) := hide ((hr.sub (List.Sublist.cons _ (List.Sublist.cons _ (List.Sublist.cons_cons _ (List.Sublist.cons_cons _ (List.Sublist.cons_cons _ (List.Sublist.refl _))))))).perm (List.Perm.cons _ (List.Perm.swap _ _ _)))
                  clear hr
                  go_wp2_with fail
                  exact ⟨⟨k + 1, F3, T3, W3, a5, c5, n4, rfl, by omega, rfl, unhide H10, unhide NO, unhide NR, unhide HN4⟩, by simp [intOf]; omega⟩
        · have e2 : (st == 2) = false := beq_eq_false_iff_ne.2 h2
          have e2d : decide (st = 2) = false := decide_eq_false h2
          clear FR KN NF LK0 h2 h3
          go_wp2_with (refine wpList_load_on rfl 50 (.tmp 8) rfl Y 0 rfl [.int .i64 xs, .int .i64 xq] _ (unhide RGY) Try.underlying50 rfl (by kernel_rfl) ?_)
          try clear LK
          refine (unhide C17).mono ?_
          rintro e w3 ⟨rfl, F3, hr3⟩
          have H3 := hide hr3
          clear c0 c1 c2 c3 c4 RGY
          obtain ⟨c0, c1, c2, c3, c4⟩ := act_cells (hr3.val (P := X) (List.mem_cons_of_mem _ (List.mem_cons_of_mem _ List.mem_cons_self)))
          have RGY := hide (hr3.val (P := Y) (List.mem_cons_of_mem _ List.mem_cons_self)).range
          clear hr3 C17
          clear e2 e2d e3 e3d
          have NW : Hid (rnote W xs xq xl xc = W) := hide (if_neg (by rw [unhide NE]; exact hne))
          have ne0 : (noteE T xs xq xl xc == 0) = false := beq_eq_false_iff_ne.2 hne
          have ne1 : decide (noteE T xs xq xl xc = 0) = false := decide_eq_false hne
          have H4 : Hid (HR w w3 (hTab s F3 (note T xs xq xl xc) :: hMap PKey b n (given1 W.l) :: hAt IntK al (lows T) :: [])) := hide ((unhide H3).sub (List.Sublist.cons_cons _ (List.Sublist.cons _ (List.Sublist.cons _ (List.Sublist.cons_cons _ (List.Sublist.cons_cons _ (List.Sublist.refl _)))))))
          have HN4 : Hid (n ≤ k + 1) := hide (by have := unhide HNK; omega)
          rw [unhide NW] at NR
          obtain ⟨W3, hW3⟩ : ∃ W3, W3 = W := ⟨_, rfl⟩
          rw [← hW3] at NR H4
          clear hW3 H3 NW NE HNK c0 c1 c2 c3 c4 RGY
          generalize noteE T xs xq xl xc = ne at *
          go_wp2_with fail
          clear ne0 ne1 hne
          obtain ⟨T3, hT3⟩ : ∃ T3, T3 = note T xs xq xl xc := ⟨_, rfl⟩
          rw [← hT3] at H4 NR NO NLOW
          clear hT3
          obtain ⟨n4, hn4⟩ : ∃ n4, n4 = n := ⟨_, rfl⟩
          rw [← hn4] at H4 HN4
          clear hn4
          refine ((unhide H4).lows List.mem_cons_self).mono ?_
          rintro e w5 ⟨a5, c5, rfl, hr5⟩
          have H5 : Hid (HR w w5 (hAt IntK a5 (lows T3) :: hTab s F3 T3 :: hMap PKey b n4 (given1 W3.l) :: hAt IntK al (lows T) :: [])) := hide hr5.read
          clear hr5 H4
          go_wp2_with fail
          go_loopw [12] (fun i wr => ∃ m : Nat, i = .int .i64 (m : Int) ∧ m ≤ 4 ∧ HR w wr (hAt IntK a5 (lows T3) :: hTab s F3 T3 :: hMap PKey b n4 (given1 W3.l) :: hAt IntK al (lows T) :: [])) (fun i _ => 4 - (intOf i).toNat)
          case atStart => exact ⟨0, rfl, by decide, unhide H5⟩
          case round =>
            obtain ⟨m, rfl, hm, hr⟩ := hrel
            clear H5
            by_cases hm4 : m < 4
            · have m0 : (0 : Int) ≤ (m : Int) := by omega
              have m1 : (m : Int) < 4 := by omega
              have hwm : IntKind.i64.wrap ((m : Int) + 1) = (m : Int) + 1 := Go.IntWalk.i64_in _ (by omega)
              have hl3 : (lows T3)[m]? = some (T3 m).low := by
                match m, hm4 with
                | 0, _ => rfl
                | 1, _ => rfl
                | 2, _ => rfl
                | 3, _ => rfl
              have hl : (lows T)[m]? = some (T m).low := by
                match m, hm4 with
                | 0, _ => rfl
                | 1, _ => rfl
                | 2, _ => rfl
                | 3, _ => rfl
              have hle := unhide NLOW m
              obtain ⟨g5, o5, rfl, _, hr5⟩ := (hr.at List.mem_cons_self : IntK.At wr a5 (lows T3)).cell intK_law hl3
              obtain ⟨g6, o6, rfl, _, hr6⟩ := (hr.at (List.mem_cons_of_mem _ (List.mem_cons_of_mem _ (List.mem_cons_of_mem _ List.mem_cons_self))) : IntK.At wr al (lows T)).cell intK_law hl
              have z5 := hr5 0 (.int .i64 (T3 m).low) rfl
              have z6 := hr6 0 (.int .i64 (T m).low) rfl
              simp only [IntK, Nat.mul_one, Nat.add_zero] at z5 z6
              obtain ⟨CL, hCL⟩ : ∃ CL : World → Prop, CL = fun v => Below wr.heap.size wr v := ⟨_, rfl⟩
              have un : ∀ v, CL v → Below wr.heap.size wr v := fun v k => by rw [hCL] at k; exact k
              have base : CL wr.drew := by rw [hCL]; exact (Below.refl _ _).drew
              have ne : Nonempty (SX CL) := ⟨⟨_, base⟩⟩
              have kc : ∀ (q : SX CL) (b i : Nat) (v : Value), wr.cell? ⟨b, i, none⟩ = some v → q.w.cell? ⟨b, i, none⟩ = some v := fun q b i v hv => ((un _ q.ok).cell (p := ⟨b, i, none⟩) (World.block_lt_of_cell? _ _ hv)).trans hv
              have x5 : ∀ q : SX CL, q.w.cell? ⟨g5, o5 + m, none⟩ = some (.int .i64 (T3 m).low) := fun q => kc q _ _ _ z5
              have x6 : ∀ q : SX CL, q.w.cell? ⟨g6, o6 + m, none⟩ = some (.int .i64 (T m).low) := fun q => kc q _ _ _ z6
              have BS := hide base
              have BQ := hide (fun v hv => hr.below (un v hv))
              have ld : decide ((T3 m).low < (T m).low) = false := decide_eq_false (by omega)
              clear hr5 hr6 z5 z6 hCL un base kc hr hl hl3 hle
              generalize (T3 m).low = u5 at *
              generalize (T m).low = u6 at *
              go_upto_region 24 with fail
              refine wp_region_sx (St := CL) (by kernel_rfl) (by kernel_rfl) (unhide BS) ?_
              repeat (go_big_quiet_step (fail))
              refine wpQuiet_nil ?_
              first | (rintro v7 ⟨⟨v7', OK7⟩, e7x⟩; subst e7x) | rintro ⟨v7, OK7⟩
              try dsimp only
              have B7 := hide (unhide BQ _ OK7)
              clear OK7 x5 x6 BQ
              go_wp2_with fail
              exact ⟨⟨m + 1, rfl, by omega, unhide B7⟩, by simp [intOf]; omega⟩
            · have gm : ¬ (m : Int) < 4 := by omega
              have H6 : Hid (HR w wr (hTab s F3 T3 :: hAt IntK a5 (lows T3) :: hMap PKey b n4 (given1 W3.l) :: [])) := hide ((hr.front (r := hTab s F3 T3) [hAt IntK a5 (lows T3)]).sub (List.Sublist.cons_cons _ (List.Sublist.cons_cons _ (List.Sublist.cons_cons _ (List.Sublist.cons _ (List.Sublist.refl _))))))
              clear hr
              go_wp2_with fail
              refine ((unhide H6).all List.mem_cons_self (unhide NO)).mono ?_
              rintro e w7 ⟨a7, c7, rfl, hr7⟩
              obtain ⟨b7, hb7⟩ : ∃ b7, b7 = w7.heap.size := ⟨_, rfl⟩
              obtain ⟨w8, hw8⟩ : ∃ w8, w8 = w7.alloc (.map #[] 0) := ⟨_, rfl⟩
              have H8 : Hid (HR w w8 (hMap IKey b7 0 (manyTo (all T3) 0) :: hAt EntK a7 (all T3) :: hTab s F3 T3 :: hAt IntK a5 (lows T3) :: hMap PKey b n4 (given1 W3.l) :: [])) := hide (by rw [hb7, hw8, manyTo_zero]; exact hr7.read.newmap IKey)
              have HB7 := hide hb7
              have HW8 := hide hw8
              have hmm := @run_makeMap Try.prog
              have HAL := hide (all_length (unhide NO))
              clear hr7 hb7 hw8 H6
              go_upto_region 29 with fail
              rw [← unhide HB7]
              rw [← unhide HW8]
              clear hmm
              go_wp2_with fail
              go_loopw [15] (fun i wr => ∃ (j n2 : Nat), i = .int .i64 (j : Int) ∧ j ≤ (all T3).length ∧ HR w wr (hMap IKey b7 n2 (manyTo (all T3) j) :: hAt EntK a7 (all T3) :: hTab s F3 T3 :: hAt IntK a5 (lows T3) :: hMap PKey b n4 (given1 W3.l) :: []) ∧ n2 ≤ j) (fun i _ => (all T3).length - (intOf i).toNat)
              case atStart => exact ⟨0, 0, rfl, Nat.zero_le _, unhide H8, Nat.le_refl _⟩
              case round =>
                obtain ⟨j, n2, rfl, hj, hr, hn2⟩ := hrel
                clear H8
                by_cases hjl : j < (all T3).length
                · have gj : (j : Int) < ((all T3).length : Int) := by omega
                  have gj0 : (0 : Int) ≤ (j : Int) := by omega
                  have hwj : IntKind.i64.wrap ((j : Int) + 1) = (j : Int) + 1 := Go.IntWalk.i64_in _ (by have := unhide HAL; omega)
                  obtain ⟨x, hx⟩ : ∃ x, (all T3)[j]? = some x := ⟨_, List.getElem?_eq_getElem hjl⟩
                  obtain ⟨f1, f2, f3, f4⟩ := kept_facts (unhide NR) (unhide NO) (List.mem_of_getElem? hx)
                  have f5 := (unhide NO x.src.toNat).lo
                  have f6 := (unhide NO x.src.toNat).hi
                  obtain ⟨g7, o7, rfl, _, hr7⟩ := (hr.at (List.mem_cons_of_mem _ List.mem_cons_self) : EntK.At wr a7 (all T3)).cell entK_law hx
                  have mj := manyTo_le (unhide NO) j x.src
                  have mj1 := manyTo_le (unhide NO) (j + 1) x.src
                  have ms := manyTo_same hx
                  have mo := fun s hs => manyTo_other hx (s := s) hs
                  obtain ⟨ys, yq, yc⟩ := x
                  simp only at f1 f2 f3 f4 f5 f6 mj mj1 ms mo
                  obtain ⟨y, rfl⟩ : ∃ y : Nat, ys = y := ⟨ys.toNat, by omega⟩
                  rw [Int.toNat_natCast] at f2 f3 f5 f6
                  have hy4 : y < 4 := by omega
                  obtain ⟨Z, hZ⟩ : ∃ Z, Z = wr.heap.size := ⟨_, rfl⟩
                  obtain ⟨w9, hw9⟩ : ∃ w9, w9 = wr.alloc (.cells #[.int .i64 (y : Int), .int .i64 yq, .int .i64 yc] 53) := ⟨_, rfl⟩
                  have h9 : HR w w9 (hVal Z [.int .i64 (y : Int), .int .i64 yq, .int .i64 yc] :: hMap IKey b7 n2 (manyTo (all T3) j) :: hAt EntK (some ⟨g7, o7, none⟩) (all T3) :: hTab s F3 T3 :: hAt IntK a5 (lows T3) :: hMap PKey b n4 (given1 W3.l) :: []) := by
                    rw [hZ, hw9]; exact hr.made [.int .i64 (y : Int), .int .i64 yq, .int .i64 yc] 53
                  have d0 : w9.cell? ⟨Z, 0, none⟩ = some (.int .i64 (y : Int)) := (h9.val (P := Z) List.mem_cons_self).cell 0 (by simp)
                  have yin : i64in (y : Int) := ⟨by omega, by omega⟩
                  have LK9 : (Instr.lookup 51 (.map (some b7)) (.int .i64 (y : Int)) false).run Try.prog w9 = .ok (.int .i64 (manyTo (all T3) j (y : Int))) w9 := (h9.map (K := IKey) (List.mem_cons_of_mem _ List.mem_cons_self)).get ikey yin
                  have hwc : IntKind.i64.wrap (manyTo (all T3) j (y : Int) + 1) = manyTo (all T3) j (y : Int) + 1 := Go.IntWalk.i64_in _ (by omega)
                  obtain ⟨w10, hput, h10⟩ := (h9.front (r := hMap IKey b7 n2 (manyTo (all T3) j)) [hVal Z [.int .i64 (y : Int), .int .i64 yq, .int .i64 yc]]).mapput ikey (f' := manyTo (all T3) (j + 1)) (c := manyTo (all T3) j (y : Int) + 1) (by have := unhide HAL; unfold maxLen; omega) yin (by omega) ms mo
                  have PUT : (Instr.mapUpdate 51 (.map (some b7)) (.int .i64 (y : Int)) (.int .i64 (manyTo (all T3) j (y : Int) + 1))).run Try.prog w9 = .ok () w10 := hput
                  have hl3 : (lows T3)[y]? = some (T3 y).low := by
                    match y, hy4 with
                    | 0, _ => rfl
                    | 1, _ => rfl
                    | 2, _ => rfl
                    | 3, _ => rfl
                  obtain ⟨g5, o5, rfl, _, _⟩ := (h10.at (List.mem_cons_of_mem _ (List.mem_cons_of_mem _ (List.mem_cons_of_mem _ (List.mem_cons_of_mem _ List.mem_cons_self)))) : IntK.At w10 a5 (lows T3)).cell intK_law hl3
                  obtain ⟨CL, hCL⟩ : ∃ CL : World → Prop, CL = fun v => HR w v (hMap IKey b7 (n2 + 1) (manyTo (all T3) (j + 1)) :: hVal Z [.int .i64 (y : Int), .int .i64 yq, .int .i64 yc] :: hAt EntK (some ⟨g7, o7, none⟩) (all T3) :: hTab s F3 T3 :: hAt IntK (some ⟨g5, o5, none⟩) (lows T3) :: hMap PKey b n4 (given1 W3.l) :: []) := ⟨_, rfl⟩
                  have un : ∀ v, CL v → HR w v (hMap IKey b7 (n2 + 1) (manyTo (all T3) (j + 1)) :: hVal Z [.int .i64 (y : Int), .int .i64 yq, .int .i64 yc] :: hAt EntK (some ⟨g7, o7, none⟩) (all T3) :: hTab s F3 T3 :: hAt IntK (some ⟨g5, o5, none⟩) (lows T3) :: hMap PKey b n4 (given1 W3.l) :: []) := fun v k => by rw [hCL] at k; exact k
                  have base : CL w10.drew := by rw [hCL]; exact h10.below ((Below.refl _ _).drew)
                  have ne : Nonempty (SX CL) := ⟨⟨_, base⟩⟩
                  have e0 : ∀ q : SX CL, q.w.cell? ⟨Z, 0, none⟩ = some (.int .i64 (y : Int)) := fun q => ((un _ q.ok).val (P := Z) (List.mem_cons_of_mem _ List.mem_cons_self)).cell 0 (by simp)
                  have e1 : ∀ q : SX CL, q.w.cell? ⟨Z, 1, none⟩ = some (.int .i64 yq) := fun q => ((un _ q.ok).val (P := Z) (List.mem_cons_of_mem _ List.mem_cons_self)).cell 1 (by simp)
                  have e2 : ∀ q : SX CL, q.w.cell? ⟨Z, 2, none⟩ = some (.int .i64 yc) := fun q => ((un _ q.ok).val (P := Z) (List.mem_cons_of_mem _ List.mem_cons_self)).cell 2 (by simp)
                  have el : ∀ q : SX CL, q.w.cell? ⟨g5, o5 + y, none⟩ = some (.int .i64 (T3 y).low) := fun q => by
                    obtain ⟨g', o', e, _, hr5⟩ := ((un _ q.ok).at (List.mem_cons_of_mem _ (List.mem_cons_of_mem _ (List.mem_cons_of_mem _ (List.mem_cons_of_mem _ List.mem_cons_self)))) : IntK.At q.w (some ⟨g5, o5, none⟩) (lows T3)).cell intK_law hl3
                    cases e
                    have z5 := hr5 0 (.int .i64 (T3 y).low) rfl
                    simpa only [IntK, Nat.mul_one, Nat.add_zero] using z5
                  obtain ⟨u, hu⟩ : ∃ u, u = manyTo (all T3) (j + 1) (y : Int) := ⟨_, rfl⟩
                  have LQ : ∀ q : SX CL, (Instr.lookup 51 (.map (some b7)) (.int .i64 (y : Int)) false).run Try.prog q.w = .ok (.int .i64 u) q.w := fun q => by rw [hu]; exact ((un _ q.ok).map (K := IKey) List.mem_cons_self).get ikey yin
                  have KQ : ∀ q : SX CL, (Instr.lookup 49 (.map (some b)) (.agg #[.int .i64 (y : Int), .int .i64 yq]) false).run Try.prog q.w = .ok (.int .i64 yc) q.w := fun q => by
                    have := ((un _ q.ok).map (K := PKey) (List.mem_cons_of_mem _ (List.mem_cons_of_mem _ (List.mem_cons_of_mem _ (List.mem_cons_of_mem _ (List.mem_cons_of_mem _ List.mem_cons_self)))))).get pkey (x := ((y : Int), yq)) ⟨yin, ⟨by simp only; omega, by simp only; omega⟩⟩
                    rw [f4] at this
                    exact this
                  have HUN := hide un
                  have BS := hide base
                  have HZ := hide hZ
                  have HW9 := hide hw9
                  have RG9 : Hid (wr.rangeAt g7 (o7 + j * 3) [.int .i64 (y : Int), .int .i64 yq, .int .i64 yc]) := hide hr7
                  have HN2 := hide hn2
                  have u16 : decide (16 < u) = false := decide_eq_false (by omega)
                  have y0 : (0 : Int) ≤ (y : Int) := by omega
                  have y4 : (y : Int) < 4 := by omega
                  have yd0 : decide ((y : Int) < 0) = false := decide_eq_false (by omega)
                  have yd4 : decide ((4 : Int) ≤ (y : Int)) = false := decide_eq_false (by omega)
                  have yd5 : decide (4 ≤ y) = false := decide_eq_false (by omega)
                  obtain ⟨lk, hlk⟩ : ∃ lk, lk = (T3 y).low := ⟨_, rfl⟩
                  rw [← hlk] at el f2 f3 f5 f6
                  have ql : decide (yq < lk) = false := decide_eq_false (by omega)
                  have qw : IntKind.i64.wrap (yq - lk) = yq - lk := Go.IntWalk.i64_in _ (by omega)
                  have q16 : decide (16 ≤ yq - lk) = false := decide_eq_false (by omega)
                  obtain ⟨u0, hu0⟩ : ∃ u0, u0 = manyTo (all T3) j (y : Int) := ⟨_, rfl⟩
                  rw [← hu0] at LK9 hwc PUT
                  clear hx f1 f2 f3 f4 f5 f6 hr7 mj mj1 ms mo hZ hw9 h9 yin hput h10 hl3 hCL un base hu hu0 hlk hr hn2 hy4
                  go_upto_region 33 with (refine wpList_load_on rfl 53 (.tmp 120) rfl g7 (o7 + j * 3) rfl [.int .i64 (y : Int), .int .i64 yq, .int .i64 yc] _ (unhide RG9) Try.underlying53 rfl (by kernel_rfl) ?_)
                  rw [← unhide HZ]
                  rw [← unhide HW9]
                  go_upto_region 34 with fail
                  clear LK9 PUT d0
                  refine wp_region_sx (St := CL) (by kernel_rfl) (by kernel_rfl) (unhide BS) ?_
                  repeat (go_big_quiet_step (fail))
                  refine wpQuiet_nil ?_
                  first | (rintro v7 ⟨⟨v7', OK7⟩, e7x⟩; subst e7x) | rintro ⟨v7, OK7⟩
                  try dsimp only
                  have B7 := hide ((unhide HUN _ OK7).sub (List.Sublist.cons_cons _ (List.Sublist.cons _ (List.Sublist.cons_cons _ (List.Sublist.cons_cons _ (List.Sublist.cons_cons _ (List.Sublist.cons_cons _ (List.Sublist.refl _))))))))
                  clear OK7 e0 e1 e2 el LQ KQ HUN
                  go_wp2_with fail
                  exact ⟨⟨j + 1, n2 + 1, rfl, by omega, unhide B7, by have := unhide HN2; omega⟩, by simp [intOf]; omega⟩
                · have gj : ¬ (j : Int) < ((all T3).length : Int) := by omega
                  have gjd : decide (j < (all T3).length) = false := decide_eq_false hjl
                  have H10 : Hid (HR w wr (hTab s F3 T3 :: hMap PKey b n4 (given1 W3.l) :: hAt IntK a5 (lows T3) :: [])) := hide ((hr.sub (List.Sublist.cons _ (List.Sublist.cons _ (List.Sublist.cons_cons _ (List.Sublist.cons_cons _ (List.Sublist.cons_cons _ (List.Sublist.refl _))))))).perm (List.Perm.cons _ (List.Perm.swap _ _ _)))
                  clear hr
                  go_wp2_with fail
                  exact ⟨⟨k + 1, F3, T3, W3, a5, c5, n4, rfl, by omega, rfl, unhide H10, unhide NO, unhide NR, unhide HN4⟩, by simp [intOf]; omega⟩
    · have gk : ¬ (k : Int) < (z3.length : Int) := by omega
      have gkd : decide (k < z3.length) = false := decide_eq_false hlt
      go_wp2_with fail
      refine (wakes_any wr).mono ?_
      rintro e w' ⟨rfl, hb⟩
      have HB := hide ((unhide HRR).below hb).bel
      clear hb HRR
      go_wp2_with fail
      go_ret
      exact ⟨rfl, unhide HB⟩
set_option maxRecDepth 100000 in
theorem oncew_any (a3 : Option Addr) (cap3 : Nat) (z3 : List ActV) (w : World) (_h3 : z3.length ≤ maxLen) (hA3 : ActK.At w a3 z3) (i3 : ∀ b ∈ z3, b.In) :
    Calls Try.prog 5 #[.slice a3 z3.length cap3] w fun e w' => e = .returned (.bool true) ∧ Below w.heap.size w w' := by
  by_cases hn3 : z3.length ≤ 300
  · exact oncew_small a3 cap3 z3 w hA3 hn3 i3
  · have g3 : (300 : Int) < (z3.length : Int) := by omega
    clear hA3 i3
    go_enter Try.func5, Try.ntmps5
    go_wp2_with fail
    refine (wakes_any w).mono ?_
    rintro e w' ⟨rfl, hb⟩
    have HB := hide hb
    clear hb
    go_wp2_with fail
    go_ret
    exact ⟨rfl, unhide HB⟩
end Go.Proofs.Ytoofaldblldncaa

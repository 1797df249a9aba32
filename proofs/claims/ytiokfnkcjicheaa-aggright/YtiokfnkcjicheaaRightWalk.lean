/- What AggRight does, for lists of at most 1000 values: it answers true, and nothing that was there has turned. No conditions. -/
import Derived.Test.YtiokfnkcjicheaaRightB
namespace Go.Proofs.Ytiokfnkcjicheaa
open Go.RowKit

set_option maxRecDepth 100000 in
set_option maxHeartbeats 8000000 in
theorem rightlaw_main (a : Option Addr) (cap : Nat) (xs : List Int) (at_ : Int) (w : World) (h : IntsIn w a xs.length xs) (hcap : xs.length ≤ cap ∧ cap ≤ maxLen) (hat : i64 at_) (g : ¬ (1000 : Int) < (xs.length : Int)) :
    Calls Try.prog 5 #[.slice a xs.length cap, .int .i64 at_] w fun e w' => e = .returned (.bool true) ∧ Below w.heap.size w w' := by
  have HI := hide h
  have HC := hide hcap
  have HT : Hid (i64 at_) := hide hat
  obtain ⟨n, hn⟩ : ∃ n, n = xs.length := ⟨_, rfl⟩
  have HN := hide hn
  rw [← hn] at g ⊢
  have hn' : n ≤ 1000 := by omega
  clear h hcap hat hn
  have m1 : 0 < n → Int.tmod at_ (n : Int) < (n : Int) := fun hp => Int.tmod_lt_of_pos _ (by omega)
  have m2 : 0 < n → -(n : Int) < Int.tmod at_ (n : Int) := fun hp => by have := Int.lt_tmod_of_pos at_ (show (0 : Int) < (n : Int) by omega); omega
  have M1 := hide m1
  have M2 := hide m2
  clear m1 m2
  go_enter Try.func5, Try.ntmps5
  go_upto_region 4 with fail
  go_cut [18] from 16 to 17 (fun s18 wx => s18 = .bool (decide (0 < n)) ∧ wx = w)
  case first =>
    by_cases hp : 0 < n
    · have hp' : (0 : Int) < (n : Int) := by omega
      go_wp2_with fail
      go_meet
      exact ⟨by rw [decide_eq_true hp], rfl⟩
    · have h0 : n = 0 := by omega
      subst h0
      go_wp2_with fail
      go_meet
      exact ⟨rfl, rfl⟩
  case rest =>
  obtain ⟨rfl, hwx⟩ := hcut
  rw [hwx]
  clear hwx
  refine ‹∀ (a : Act) (w : World), Code.wp Try.prog _ _ a w → _› _ _ ?_
  go_cut [5] from 16 to 28 (fun s5 wx => (∃ k : Nat, s5 = .int .i64 k ∧ k ≤ n) ∧ wx = w)
  case first =>
    by_cases hp : 0 < n
    · have m1 := unhide M1 hp
      have m2 := unhide M2 hp
      have e := decide_eq_true hp
      have hz : ¬ (n : Int) = 0 := by omega
      generalize hr : Int.tmod at_ (n : Int) = r at *
      by_cases hneg : r < 0
      · have hw : IntKind.i64.wrap (r + (n : Int)) = r + (n : Int) := Go.IntWalk.i64_in _ (by omega)
        go_wp2_with fail
        go_meet
        exact ⟨⟨(r + (n : Int)).toNat, by congr 1; omega, by omega⟩, rfl⟩
      · go_wp2_with fail
        go_meet
        exact ⟨⟨r.toNat, by congr 1; omega, by omega⟩, rfl⟩
    · have h0 : n = 0 := by omega
      subst h0
      go_wp2_with fail
      go_meet
      exact ⟨⟨0, rfl, by omega⟩, rfl⟩
  case rest =>
  obtain ⟨⟨k, rfl, hk⟩, hwx⟩ := hcut
  rw [hwx]
  clear hwx M1 M2 HT
  have HK := hide hk
  clear hk
  have hw0 : IntKind.i64.wrap ((n : Int) - 1) = (n : Int) - 1 := Go.IntWalk.i64_in _ (by omega)
  go_wp2_with fail
  clear hw0
  go_loopw [6, 7, 8] (fun sl sm i wr => ∃ m : Nat, m ≤ n ∧ i = .int .i64 ((m : Int) - 1) ∧ wr.ownsRow w.heap.size 2 1 sl (turnedTo xs m).length (intCells (turnedTo xs m)) ∧ sm = .bool ((turnedTo xs m).all small) ∧ Below w.heap.size w wr) (fun _ _ i _ => (intOf i + 1).toNat)
  case atStart => exact ⟨n, Nat.le_refl _, rfl, by rw [unhide HN, turned_none]; exact owns_none _ _, by rw [unhide HN, turned_none]; rfl, Below.refl _ _⟩
  case round =>
  obtain ⟨m, hm, rfl, ho, rfl, hb⟩ := hrel
  have HO := hide ho
  have HB := hide hb
  clear ho hb
  rcases m with _ | m
  · rw [show (((0 : Nat) : Int) - 1) = -1 from rfl]
    rw [turned_whole] at HO ⊢
    obtain ⟨a', cap', hsl, hIt⟩ := ints_of_owns (unhide HO)
    subst hsl
    have HIT := hide hIt
    clear hIt HO
    have hl : xs.length ≤ 1000 := by rw [← unhide HN]; exact hn'
    obtain ⟨A, hA⟩ : ∃ A, A = of xs := ⟨_, rfl⟩
    obtain ⟨Bv, hBv⟩ : ∃ A, A = of xs.reverse := ⟨_, rfl⟩
    obtain ⟨Ta, hTa⟩ : ∃ A, A = of (xs.take k) := ⟨_, rfl⟩
    obtain ⟨Td, hTd⟩ : ∃ A, A = of (xs.drop k) := ⟨_, rfl⟩
    obtain ⟨Cv, hCv⟩ : ∃ A, A = join Ta Td := ⟨_, rfl⟩
    obtain ⟨s, hs⟩ : ∃ s, s = xs.reverse.all small := ⟨_, rfl⟩
    rw [← hs]
    have F := right_facts xs k (unhide HI).all hl
    have HX : Hid (A.In ∧ right A = true ∧ { Bv with sum := A.sum } = A ∧ { Cv with sum := A.sum } = A ∧ (s = true → Bv = A ∧ Cv = A) ∧ A.count = (n : Int)) := hide (by
      rw [hA, hBv, hCv, hTa, hTd, hs, unhide HN]; exact ⟨F.iA, F.rA, F.eB, F.eC, F.eS, F.hcnt⟩)
    have iTa : Ta.In := by rw [hTa]; exact F.iTa
    have iTd : Td.In := by rw [hTd]; exact F.iTd
    clear F
    have O1 : Hid (∀ p, Below w.heap.size w p → Calls Try.prog 18 #[.slice a n cap] p fun e w' => e = .returned (aggV A) ∧ Below p.heap.size p w') := hide (fun p hp => by
      rw [unhide HN, hA]; exact of_any a cap xs p ((unhide HI).row.keep hp) (unhide HI).all (unhide HI).max)
    have O2 : Hid (∀ p, Below wr.heap.size wr p → Calls Try.prog 18 #[.slice a' xs.length cap'] p fun e w' => e = .returned (aggV Bv) ∧ Below p.heap.size p w') := hide (fun p hp => by
      have h := of_any a' cap' xs.reverse p ((unhide HIT).keep hp) (fun v hv => (unhide HI).all v (List.mem_reverse.1 hv)) (by rw [List.length_reverse]; exact (unhide HI).max)
      rw [List.length_reverse] at h
      rw [hBv]; exact h)
    have hkx : k ≤ xs.length := by rw [← unhide HN]; exact unhide HK
    have S1 : Hid (∀ (L : List (Nat × AggV)) (c : Option Nat) (p : SW (StR w L c)), Calls Try.prog 18 #[.slice (cutA a 0 cap) k cap] p.w fun e w' => e = .returned (aggV Ta) ∧ ∃ q : SW (StR w L c), w' = q.w) := hide (fun L c p => by
      have h := StR.of c (cutA a 0 cap) cap (xs.take k) (ints_cutB (unhide HI).row k cap (unhide HC).1) (fun v hv => (unhide HI).all v (List.mem_of_mem_take hv)) (by rw [List.length_take]; have := (unhide HI).max; omega) p
      rw [List.length_take, Nat.min_eq_left hkx, ← hTa] at h; exact h)
    have S2 : Hid (∀ (L : List (Nat × AggV)) (c : Option Nat) (p : SW (StR w L c)), Calls Try.prog 18 #[.slice (cutA a k cap) (n - k) (cap - k)] p.w fun e w' => e = .returned (aggV Td) ∧ ∃ q : SW (StR w L c), w' = q.w) := hide (fun L c p => by
      have h := StR.of c (cutA a k cap) (cap - k) (xs.drop k) (ints_cutA (unhide HI).row k cap (unhide HC).1) (fun v hv => (unhide HI).all v (List.mem_of_mem_drop hv)) (by rw [List.length_drop]; have := (unhide HI).max; omega) p
      rw [List.length_drop, ← unhide HN, ← hTd] at h; exact h)
    have J : Hid (∀ (L : List (Nat × AggV)) (c : Option Nat) (p : SW (StR w L c)), Calls Try.prog 15 #[aggV Ta, aggV Td] p.w fun e w' => e = .returned (aggV Cv) ∧ ∃ q : SW (StR w L c), w' = q.w) := hide (fun L c p => by rw [hCv]; exact StR.join c Ta Td iTa iTd p)
    have hkn := unhide HK
    have hnc : n ≤ cap := by rw [unhide HN]; exact (unhide HC).1
    clear hA hBv hTa hTd hCv hs iTa iTd hl hkx
    go_wp2_with fail
    refine (unhide O1 _ (unhide HB)).mono ?_
    rintro e w1 ⟨rfl, hb1⟩
    have R1 := hide ((Rs.start ((unhide HB).trans (hb1.mono (unhide HB).size))).alloc A)
    have W1 := hide (fun o => hb1.alloc hb1.size o)
    clear hb1 HB O1
    simp only [aggV, cellsA, I]
    simp only [cellsA, I] at R1
    go_wp2_with fail
    refine (unhide O2 _ (unhide W1 _)).mono ?_
    rintro e w2 ⟨rfl, hb2⟩
    have R2 := hide (((unhide R1).carry hb2).alloc Bv)
    have NE := hide (((unhide R1).carry hb2).ne _ List.mem_cons_self)
    clear hb2 R1 W1 O2
    generalize w1.heap.size = B1 at *
    simp only [aggV, cellsA, I]
    simp only [cellsA, I] at R2
    go_upto_region 17 with fail
    generalize w2.alloc (.cells #[.int .i64 Bv.count, .int .i64 Bv.sum, .int .i64 Bv.mn, .int .i64 Bv.mx, .int .i64 Bv.h0, .int .i64 Bv.h1, .int .i64 Bv.h2, .int .i64 Bv.h3] 24) = w4 at *
    generalize w2.heap.size = B2 at *
    have N12 : Hid (¬ B1 = B2) := hide (unhide NE)
    clear NE
    have st : StR w [(B2, Bv), (B1, A)] none w4.drew := (unhide R2).drew
    refine wp_region_two_ex (V := fun B => .pointer (some ⟨B, 0, none⟩)) (St := StR w [(B2, Bv), (B1, A)]) (by kernel_rfl) (by kernel_rfl) (by kernel_rfl) st ?_
    clear st
    apply Exists.intro
    apply And.intro
    · intro c
      simp only [List.dropLast_cons_cons, List.dropLast_singleton]
      repeat (go_big_quiet_step (fail))
      refine wpQuiet_pure rfl (.slice (cutA a 0 cap) k cap) (fun wq => by simp [execOp, go_sem, cutA]; first | done | (intro hh; omega)) ?_
      go_simp
      go_big_quiet_step (first | (go_at_call 18; exact unhide S1 _ c _))
      repeat (go_big_quiet_step (fail))
      refine wpQuiet_pure rfl (.slice (cutA a k cap) (n - k) (cap - k)) (fun wq => by simp [execOp, go_sem, cutA]; first | done | (intro hh; omega)) ?_
      go_simp
      go_big_quiet_step (first | (go_at_call 18; exact unhide S2 _ c _))
      go_big_quiet_step (first | (go_at_call 15; exact unhide J _ c _))
      exact wpQuiet_nil rfl
    constructor
    · intro o1 ho
      simp only [List.dropLast_cons_cons, List.dropLast_singleton, List.getLast?_cons_cons, List.getLast?_singleton, Option.some.injEq] at ho
      subst ho
      refine ⟨rfl, fun w' hw' => ⟨w'.heap.size, w'.alloc (.cells #[.int .i64 0, .int .i64 0, .int .i64 0, .int .i64 0, .int .i64 0, .int .i64 0, .int .i64 0, .int .i64 0] 24), ?_, ?_⟩⟩
      · simp [execOp, go_sem]
      · exact ⟨Rs.alloc hw' zero, Rs.ne hw'⟩
    intro o1 o0 h1 h0 B3 w5' hw'
    simp only [List.dropLast_cons_cons, List.dropLast_singleton, List.getLast?_cons_cons, List.getLast?_singleton, Option.some.injEq] at h1 h0
    subst h1
    subst h0
    have hth := (hw'.1.row (B3, zero) List.mem_cons_self).there
    refine ⟨rfl, ?_⟩
    refine wp_store_mid 24 (.tmp 11) (.tmp 70) rfl B3 0 (cellsA Cv).toArray rfl rfl hth (by kernel_rfl) (by simp [Value.oneCell', cellsA, I]) ?_
    have R5 := hide (hw'.1.put hw'.2 Cv)
    have NB3 := hide hw'.2
    clear hth hw' R2
    change Exit.then _ _ _ _ (w5'.setCells B3 0 (cellsA Cv))
    generalize w5'.setCells B3 0 (cellsA Cv) = w5 at *
    go_simp
    go_upto_region 18 with fail
    have K1 := hide ((unhide R5).row (B1, A) (by simp))
    have K2 := hide ((unhide R5).row (B2, Bv) (by simp))
    have K3 := hide ((unhide R5).row (B3, Cv) (by simp))
    have n13 : ¬ B1 = B3 := (unhide NB3) (B1, A) (by simp)
    have n23 : ¬ B2 = B3 := (unhide NB3) (B2, Bv) (by simp)
    clear J S1 S2
    cases s
    · have v1 : w5.cell? ⟨B1, 1, none⟩ = some (.int .i64 A.sum) := (unhide K1).cell 1 (show 1 < 8 by decide)
      have v2 : w5.cell? ⟨B2, 1, none⟩ = some (.int .i64 Bv.sum) := (unhide K2).cell 1 (show 1 < 8 by decide)
      have v3 : w5.cell? ⟨B3, 1, none⟩ = some (.int .i64 Cv.sum) := (unhide K3).cell 1 (show 1 < 8 by decide)
      have u2 : w5.frozen? ⟨B2, 1, none⟩ = false := (unhide K2).free 1 (show 1 < 8 by decide)
      have u3 : w5.frozen? ⟨B3, 1, none⟩ = false := (unhide K3).free 1 (show 1 < 8 by decide)
      have n12 : ¬ B1 = B2 := unhide N12
      have KW : Hid (∀ wq, wq = (w5.setCell ⟨B2, 1, none⟩ (.int .i64 A.sum)).setCell ⟨B3, 1, none⟩ (.int .i64 A.sum) → RowAt wq B1 (cellsA A) ∧ RowAt wq B2 (cellsA A) ∧ RowAt wq B3 (cellsA A) ∧ Below w.heap.size w wq) := hide (by
        rintro wq rfl
        have m5 := moved_set w5 B2 1 (.int .i64 A.sum)
        have m6 := moved_set (w5.setCell ⟨B2, 1, none⟩ (.int .i64 A.sum)) B3 1 (.int .i64 A.sum)
        have e5 : (cellsA Bv).set 1 (.int .i64 A.sum) = cellsA A := by rw [← (unhide HX).2.2.1]; rfl
        have e6 : (cellsA Cv).set 1 (.int .i64 A.sum) = cellsA A := by rw [← (unhide HX).2.2.2.1]; rfl
        have p5 := (unhide K2).set 1 (show 1 < 8 by decide) (.int .i64 A.sum)
        rw [e5] at p5
        have p6 := ((unhide K3).keep m5 (fun e => n23 e.symm)).set 1 (show 1 < 8 by decide) (.int .i64 A.sum)
        rw [e6] at p6
        refine ⟨((unhide K1).keep m5 n12).keep m6 n13, p5.keep m6 n23, p6, ?_⟩
        exact ((unhide R5).below.setCell (p := ⟨B2, 1, none⟩) ((unhide R5).new (B2, Bv) (by simp)) _).setCell (p := ⟨B3, 1, none⟩) ((unhide R5).new (B3, Cv) (by simp)) _)
      clear K1 K2 K3 R5 NB3 N12
      go_upto_region 21 with fail
      clear v1 v2 v3 u2 u3 n12 n13 n23
      generalize (w5.setCell ⟨B2, 1, none⟩ (.int .i64 A.sum)).setCell ⟨B3, 1, none⟩ (.int .i64 A.sum) = w12 at *
      have KX := hide (unhide KW w12 rfl)
      clear KW
      have hr1 := (unhide KX).1.range
      go_step
      refine wpList_load_A rfl (.tmp 9) rfl B1 rfl A hr1 ?_
      clear hr1
      go_wp2_with fail
      refine (right_any A _ (unhide HX).1).mono ?_
      rintro e w13 ⟨rfl, hb⟩
      rw [(unhide HX).2.1]
      have mv : Moved (fun _ => False) w12 w13 := Moved.of_below hb
      have hq1 := (unhide KX).1.keep mv id
      have hr1 := hq1.range
      have hr2 := ((unhide KX).2.1.keep mv id).range
      have hr3 := ((unhide KX).2.2.1.keep mv id).range
      have hr0 : w13.cell? ⟨B1, 0, none⟩ = some (.int .i64 A.count) := hq1.cell 0 (show 0 < 8 by decide)
      have BL := hide ((unhide KX).2.2.2.trans (hb.mono (unhide KX).2.2.2.size))
      have hsa := sameA_self
      have hce : (A.count == (n : Int)) = true := by rw [(unhide HX).2.2.2.2.2]; exact beq_self_eq_true _
      clear mv hb KX hq1
      go_wp2_with (first | (refine wpList_load_A rfl (.tmp 9) rfl B1 rfl A hr1 ?_) | (refine wpList_load_A rfl (.tmp 10) rfl B2 rfl A hr2 ?_) | (refine wpList_load_A rfl (.tmp 11) rfl B3 rfl A hr3 ?_))
      clear hr1 hr2 hr3 hr0
      refine (awake_any _).mono ?_
      rintro e w14 ⟨rfl, hb⟩
      have BB := hide ((unhide BL).trans (hb.mono (unhide BL).size))
      clear hb
      go_wp2_with fail
      go_ret
      exact ⟨rfl, unhide BB⟩
    · have eBA := ((unhide HX).2.2.2.2.1 rfl).1
      have eCA := ((unhide HX).2.2.2.2.1 rfl).2
      have KX : Hid (RowAt w5 B1 (cellsA A) ∧ RowAt w5 B2 (cellsA A) ∧ RowAt w5 B3 (cellsA A) ∧ Below w.heap.size w w5) := hide ⟨unhide K1, by have h := unhide K2; rw [eBA] at h; exact h, by have h := unhide K3; rw [eCA] at h; exact h, (unhide R5).below⟩
      clear K1 K2 K3 R5 NB3 N12 eBA eCA n13 n23
      go_upto_region 21 with fail
      generalize hw12 : w5 = w12 at *
      clear hw12
      have hr1 := (unhide KX).1.range
      go_step
      refine wpList_load_A rfl (.tmp 9) rfl B1 rfl A hr1 ?_
      clear hr1
      go_wp2_with fail
      refine (right_any A _ (unhide HX).1).mono ?_
      rintro e w13 ⟨rfl, hb⟩
      rw [(unhide HX).2.1]
      have mv : Moved (fun _ => False) w12 w13 := Moved.of_below hb
      have hq1 := (unhide KX).1.keep mv id
      have hr1 := hq1.range
      have hr2 := ((unhide KX).2.1.keep mv id).range
      have hr3 := ((unhide KX).2.2.1.keep mv id).range
      have hr0 : w13.cell? ⟨B1, 0, none⟩ = some (.int .i64 A.count) := hq1.cell 0 (show 0 < 8 by decide)
      have BL := hide ((unhide KX).2.2.2.trans (hb.mono (unhide KX).2.2.2.size))
      have hsa := sameA_self
      have hce : (A.count == (n : Int)) = true := by rw [(unhide HX).2.2.2.2.2]; exact beq_self_eq_true _
      clear mv hb KX hq1
      go_wp2_with (first | (refine wpList_load_A rfl (.tmp 9) rfl B1 rfl A hr1 ?_) | (refine wpList_load_A rfl (.tmp 10) rfl B2 rfl A hr2 ?_) | (refine wpList_load_A rfl (.tmp 11) rfl B3 rfl A hr3 ?_))
      clear hr1 hr2 hr3 hr0
      refine (awake_any _).mono ?_
      rintro e w14 ⟨rfl, hb⟩
      have BB := hide ((unhide BL).trans (hb.mono (unhide BL).size))
      clear hb
      go_wp2_with fail
      go_ret
      exact ⟨rfl, unhide BB⟩
  · rw [show (((m + 1 : Nat) : Int) - 1) = (m : Int) by omega]
    have hlt : m < xs.length := by rw [← unhide HN]; omega
    obtain ⟨x, hax, hc⟩ := (unhide HI).row m hlt
    subst hax
    have hxb : x.block < w.heap.size := by have := World.block_lt_of_cell? _ _ hc; rw [add_block] at this; exact this
    have ts := turned_step hlt
    have tl := turned_len xs (m + 1) (by omega)
    generalize xs.getD m 0 = v at *
    obtain ⟨v', w3, hr, hown3, hmv3⟩ := app_int (unhide HO) v (by have := unhide HN; omega) (unhide HB).size
    have hlt2 := (unhide HO).lt
    have c1 : wr.cell? (x.add m) = some (.int .i64 v) := ((unhide HB).cell (by rw [add_block]; exact hxb)).trans hc
    have c3 : w3.cell? (x.add m) = some (.int .i64 v) := (hmv3.cell (by rw [add_block]; exact Nat.lt_of_lt_of_le hxb (unhide HB).size) (by rw [add_block]; intro e; have := (hlt2 _ e).1; omega)).trans c1
    have B3 := hide ((unhide HB).trans (hmv3.below (B := w.heap.size) (fun i e => (hlt2 i e).1) (unhide HB).size))
    rw [← ts] at hown3
    have O3 := hide hown3
    have HR := hide hr
    have TS : Hid ((turnedTo xs m).all small = ((turnedTo xs (m + 1)).all small && small v)) := hide (by rw [ts, List.all_append]; simp)
    clear hr hown3 hmv3 hlt2 hc ts tl HO HB
    have hi0 : (0 : Int) ≤ (m : Int) := Int.natCast_nonneg _
    have hi1 : (m : Int) < (n : Int) := by omega
    have hwm : IntKind.i64.wrap ((m : Int) - 1) = (m : Int) - 1 := Go.IntWalk.i64_in _ (by omega)
    generalize (turnedTo xs (m + 1)).all small = bb at *
    cases bb
    · go_wp2_with (at_builtin; refine wpList_app rfl _ _ 31 31 rfl rfl rfl (unhide HR) ?_)
      go_roundw
      case rel => exact ⟨m, by omega, rfl, unhide O3, by rw [unhide TS]; rfl, unhide B3⟩
      case measure => first | (simp [intOf]; done) | (simp [intOf]; omega)
    · by_cases s1 : -1099511627776 < v
      · by_cases s2 : v < 1099511627776
        · go_wp2_with (at_builtin; refine wpList_app rfl _ _ 31 31 rfl rfl rfl (unhide HR) ?_)
          go_roundw
          case rel => exact ⟨m, by omega, rfl, unhide O3, by rw [unhide TS]; simp [small, s1, s2], unhide B3⟩
          case measure => first | (simp [intOf]; done) | (simp [intOf]; omega)
        · go_wp2_with (at_builtin; refine wpList_app rfl _ _ 31 31 rfl rfl rfl (unhide HR) ?_)
          go_roundw
          case rel => exact ⟨m, by omega, rfl, unhide O3, by rw [unhide TS]; simp [small, s1, s2], unhide B3⟩
          case measure => first | (simp [intOf]; done) | (simp [intOf]; omega)
      · go_wp2_with (at_builtin; refine wpList_app rfl _ _ 31 31 rfl rfl rfl (unhide HR) ?_)
        go_roundw
        case rel => exact ⟨m, by omega, rfl, unhide O3, by rw [unhide TS]; simp [small, s1], unhide B3⟩
        case measure => first | (simp [intOf]; done) | (simp [intOf]; omega)
end Go.Proofs.Ytiokfnkcjicheaa

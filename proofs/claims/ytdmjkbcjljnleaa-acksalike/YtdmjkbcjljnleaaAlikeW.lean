/- Those that were told the same numbers tell the same: the walk of the statement's own function. No conditions but those of the row. -/
import Derived.Test.YtdmjkbcjljnleaaJoinW
namespace Go.Proofs.Ytdmjkbcjljnleaa
open Go.RowKit

theorem none_has (n : Int) : none0.has n = false := by
  cases h : none0.has n with
  | false => rfl
  | true =>
    rcases has_iff.1 h with e | e
    · have h1 : n ≤ 0 := e.2
      omega
    · cases e
theorem has_none {L : List Int} {n : Int} : (none0.adds L).has n = true ↔ n ∈ L ∧ isNum n = true := by
  rw [has_adds fine_none, none_has]
  simp
/-- The same numbers, in whatever order, doubled or not. -/
theorem adds_alike {L M : List Int} (h : ∀ n, n ∈ L ↔ n ∈ M) : none0.adds L = none0.adds M := (fine_none.adds _).ext (fine_none.adds _) fun n => by rw [has_none, has_none, h]
theorem merge_none {S : AckV} (hS : Fine S) (l : S.low ≤ 1048576) : none0.merge S.low S.set = S := (fine_none.adds _).ext hS fun n => by
  show (none0.merge S.low S.set).has n = true ↔ _
  rw [has_merge fine_none hS l, none_has]
  simp
theorem news_total {S : AckV} (hS : Fine S) (l : S.low ≤ 1048576) : none0.news (told S.low S.set) = S.total := by
  have := merge_none hS l
  unfold AckV.merge at this
  unfold AckV.news
  rw [this]
  show S.total - 0 = S.total
  omega
theorem drop_mem {l : List ActM} {k : Nat} {x : ActM} (hx : l[k]? = some x) {y : ActM} : y ∈ l.drop k ↔ y = x ∨ y ∈ l.drop (k + 1) := by
  obtain ⟨h, e⟩ := List.getElem?_eq_some_iff.1 hx
  rw [List.drop_eq_getElem_cons h, e, List.mem_cons]
theorem set_has {s : AckV} {j : Nat} {x : Int} (h : s.set[j]? = some x) : s.has x = true := has_iff.2 (.inr (List.mem_iff_getElem?.2 ⟨j, h⟩))
theorem set_rise {s : AckV} (hs : Fine s) {j : Nat} {x y : Int} (hx : s.set[j]? = some x) (hy : s.set[j + 1]? = some y) : x < y := by
  obtain ⟨h1, e1⟩ := List.getElem?_eq_some_iff.1 hx
  obtain ⟨h2, e2⟩ := List.getElem?_eq_some_iff.1 hy
  have := List.pairwise_iff_getElem.1 hs.rise j (j + 1) h1 h2 (by omega)
  rw [e1, e2] at this
  exact this
structure Part (l : List ActM) (k : Nat) (L : List Int) : Prop where
  sub : ∀ n ∈ L, n ∈ l.flatMap toldA
  sup : ∀ x ∈ l.drop k, ∀ n ∈ toldA x, n ∈ L
  len : L.length + 440 * k ≤ 440 * l.length
theorem Part.start (l : List ActM) : Part l l.length [] := ⟨fun _ h => (by cases h), fun x hx => (by rw [List.drop_length] at hx; cases hx), by simp⟩
theorem Part.next {l : List ActM} (hm : Mild l) {k : Nat} {L : List Int} (h : Part l (k + 1) L) {x y : ActM} (hx : l[k]? = some x) (hy : y ∈ l) : Part l k ((L ++ toldA x) ++ toldA y) := by
  have xm : x ∈ l := List.mem_iff_getElem?.2 ⟨k, hx⟩
  refine ⟨fun n hn => ?_, fun z hz n hn => ?_, ?_⟩
  · rcases List.mem_append.1 hn with hn | hn
    · rcases List.mem_append.1 hn with hn | hn
      · exact h.sub n hn
      · exact List.mem_flatMap.2 ⟨x, xm, hn⟩
    · exact List.mem_flatMap.2 ⟨y, hy, hn⟩
  · rcases (drop_mem hx).1 hz with rfl | hz
    · exact List.mem_append.2 (.inl (List.mem_append.2 (.inr hn)))
    · exact List.mem_append.2 (.inl (List.mem_append.2 (.inl (h.sup z hz n hn))))
  · have h1 := toldA_len hm xm
    have h2 := toldA_len hm hy
    have h3 := h.len
    simp only [List.length_append]
    omega
theorem Part.stop {l : List ActM} {L : List Int} (h : Part l 0 L) : none0.adds L = after l := adds_alike fun n => ⟨h.sub n, fun hn => by
  obtain ⟨x, hx, hn⟩ := List.mem_flatMap.1 hn
  exact h.sup x hx n hn⟩
theorem part_total {l : List ActM} (hm : Mild l) {k : Nat} {L : List Int} (h : Part l k L) : (none0.adds L).total ≤ 26400 := by
  have h1 := (total_adds_le none0 L).2
  have h2 := h.len
  have h3 := hm.len
  have h4 : none0.total = 0 := rfl
  omega

set_option maxRecDepth 100000 in
set_option maxHeartbeats 8000000 in
theorem alikeW_any (a : Option Addr) (c : Nat) (l : List ActM) (w : World) (hz : l.length ≤ maxLen) (hl : ActK.At w a l) (hin : ∀ x ∈ l, x.In w) :
    Calls Try.prog 5 #[.slice a l.length c] w fun e w' => e = .returned (.bool true) ∧ Below w.heap.size w w' := by
  have AW := hide (awake_any w)
  have HL := hide hl
  have HI := hide hin
  have HZ := hide hz
  clear hl hin hz
  go_enter Try.func5, Try.ntmps5
  go_wp2_with fail
  refine (unhide AW).mono ?_
  rintro e v0 ⟨rfl, b1⟩
  have H0 := hide ((HR.start w).below b1)
  have G1 := hide (great_any ((unhide HL).below (Nat.le_refl _) b1) (c := c) (unhide HZ))
  clear b1
  go_wp2_with fail
  refine (unhide G1).mono ?_
  rintro e w' ⟨rfl, hw'⟩
  rw [hw']
  clear hw'
  cases hg : great l with
  | true =>
    clear hg
    go_wp2_with fail
    go_ret
    exact ⟨rfl, (unhide H0).bel⟩
  | false =>
    have HM := hide (mild_of hg)
    have hm60 := (mild_of hg).len
    clear hg
    go_wp2_with fail
    refine (unhide H0).new.mono ?_
    rintro e v1 ⟨pa, rfl, h⟩
    have H1 := hide h
    clear h
    go_wp2_with fail
    refine (unhide H1).new.mono ?_
    rintro e v2 ⟨pb, rfl, h⟩
    have H2 : Hid (HR w v2 (hAck pa none (after []) :: hAck pb none none0 :: [])) := hide h.swap
    clear h
    go_wp2_with fail
    go_loopw [5, 6] (fun lo i wr => ∃ (k : Nat) (m : Option Nat), i = .int .i64 (k : Int) ∧ k ≤ l.length ∧ lo = .int .i64 (after (l.take k)).low ∧ HR w wr (hAck pa m (after (l.take k)) :: hAck pb none none0 :: [])) (fun _ i _ => l.length - (RowKit.intOf i).toNat)
    case atStart => exact ⟨0, none, rfl, Nat.zero_le _, rfl, unhide H2⟩
    case round =>
      obtain ⟨k, m, rfl, hk, rfl, hr⟩ := hrel
      clear H2
      have HRR := hide hr
      clear hr
      by_cases hlt : k < l.length
      · have g0 : (0 : Int) ≤ (k : Int) := by omega
        have g1 : (k : Int) < (l.length : Int) := by omega
        have hwk : IntKind.i64.wrap ((k : Int) + 1) = (k : Int) + 1 := Go.IntWalk.i64_in _ (by omega)
        obtain ⟨x, hx⟩ : ∃ x, l[k]? = some x := ⟨_, List.getElem?_eq_getElem hlt⟩
        obtain ⟨g, o, rfl, hg, hrg⟩ := ((unhide HL).below (Nat.le_refl _) (unhide HRR).bel).cell actK_law hx
        have hxm : x ∈ l := List.mem_iff_getElem?.2 ⟨k, hx⟩
        have hsn := hide (after_snoc hx)
        have htl := tell_any (unhide HRR) (unhide HI x hxm) (by have := after_take (unhide HM) k; have := (unhide HM).set x hxm; omega)
        have HRG : Hid (wr.rangeAt g (o + k * 3) [.int .i64 x.act, .int .i64 x.n, .slice x.a x.set.length x.c]) := hide hrg
        have LOW : Hid ((after (l.take k)).low ≤ (after (l.take (k + 1))).low) := hide (by rw [after_snoc hx]; exact low_adds _ _)
        have FS := hide (after_fine (l.take (k + 1)))
        have TS := hide (after_take (unhide HM) (k + 1))
        rw [← unhide hsn] at htl
        obtain ⟨S, hS⟩ : ∃ S, S = after (l.take (k + 1)) := ⟨_, rfl⟩
        have ES := hide hS
        rw [← hS] at htl LOW FS TS
        clear hx hg hrg hxm hS hsn
        go_wp2_with (refine wpList_load_on rfl 37 (.tmp 27) rfl g (o + k * 3) rfl [.int .i64 x.act, .int .i64 x.n, .slice x.a x.set.length x.c] _ (unhide HRG) Try.underlying37 rfl (by kernel_rfl) ?_)
        refine htl.mono ?_
        rintro e v2 ⟨rfl, m2, h2⟩
        have H2 := hide h2
        clear htl h2
        go_wp2_with fail
        refine ((unhide H2).set List.mem_cons_self (by have := unhide TS; omega)).mono ?_
        rintro e v3 ⟨a3, c3, rfl, h3⟩
        have H3 := hide h3
        have L3 := hide (h3.low (p := pa) (m := m2) (s := S) (List.mem_cons_of_mem _ List.mem_cons_self))
        clear h3
        go_wp2_with fail
        refine (unhide L3).mono ?_
        rintro e w' ⟨rfl, hw'⟩
        rw [hw']
        clear hw'
        have hle : ¬ S.low < (after (l.take k)).low := by have := unhide LOW; omega
        go_wp2_with fail
        refine (unhide L3).mono ?_
        rintro e w' ⟨rfl, hw'⟩
        rw [hw']
        clear hw' hle
        have hlo0 := (unhide FS).lo
        have hlo1 := (unhide FS).hi
        have hwl : IntKind.i64.wrap (S.low + 1) = S.low + 1 := Go.IntWalk.i64_in _ (by omega)
        have hsl : (S.set.length : Int) ≤ 13200 := by have := set_total (unhide FS); have := unhide TS; omega
        go_wp2_with fail
        go_loopw [8] (fun i wr => ∃ j : Nat, i = .int .i64 (j : Int) ∧ j ≤ S.set.length ∧ HR w wr (hRow IntK a3 c3 S.set :: hAck pa m2 S :: hAck pb none none0 :: [])) (fun i _ => S.set.length - (RowKit.intOf i).toNat)
        case atStart => exact ⟨0, rfl, Nat.zero_le _, unhide H3⟩
        case round =>
          obtain ⟨j, rfl, hj, hr⟩ := hrel
          have HJ := hide hr
          clear hr H3 L3
          by_cases hjt : j < S.set.length
          · have j0 : (0 : Int) ≤ (j : Int) := by omega
            have j1 : (j : Int) < (S.set.length : Int) := by omega
            have hwj : IntKind.i64.wrap ((j : Int) + 1) = (j : Int) + 1 := Go.IntWalk.i64_in _ (by omega)
            obtain ⟨y, hy⟩ : ∃ y, S.set[j]? = some y := ⟨_, List.getElem?_eq_getElem hjt⟩
            have hyb := (unhide FS).beh y (List.mem_iff_getElem?.2 ⟨j, hy⟩)
            have At3 := (unhide HJ).row List.mem_cons_self
            obtain ⟨g, o, rfl, hg, hrg⟩ := At3.cell intK_law hy
            have z0 := hrg 0 (.int .i64 y) rfl
            simp only [IntK, Nat.mul_one, Nat.add_zero] at z0
            obtain ⟨CL, hCL⟩ : ∃ CL : World → Prop, CL = fun v => Below wr.heap.size wr v := ⟨_, rfl⟩
            have un : ∀ v, CL v → Below wr.heap.size wr v := fun v k => by rw [hCL] at k; exact k
            have base : CL wr.drew := by rw [hCL]; exact (Below.refl _ _).drew
            have ne : Nonempty (SX CL) := ⟨⟨_, base⟩⟩
            have kc : ∀ (q : SX CL) (b i : Nat) (v : Value), wr.cell? ⟨b, i, none⟩ = some v → q.w.cell? ⟨b, i, none⟩ = some v := fun q b i v hv => ((un _ q.ok).cell (p := ⟨b, i, none⟩) (World.block_lt_of_cell? _ _ hv)).trans hv
            have x0 : ∀ q : SX CL, q.w.cell? ⟨g, o + j, none⟩ = some (.int .i64 y) := fun q => kc q _ _ _ z0
            have hasC : Hid (∀ q : SX CL, Calls Try.prog 22 #[.pointer (some ⟨pa, 0, none⟩), .int .i64 y] q.w fun e w' => e = .returned (.bool true) ∧ ∃ p : SX CL, w' = p.w) := hide fun q => by
              have ak := (unhide HJ).ack (p := pa) (m := m2) (s := S) (List.mem_cons_of_mem _ List.mem_cons_self)
              have bq := un _ q.ok
              have := has_any (ak.1.below bq) ak.2.pre (n := y) (by unfold i64; omega)
              rw [show AckV.has ⟨S.low, S.set⟩ y = true from set_has hy] at this
              exact this.mono fun e w' ⟨h1, h2⟩ => ⟨h1, ⟨w', by rw [hCL]; exact bq.trans (h2.mono bq.size)⟩, rfl⟩
            have BS := hide base
            have BQ := hide (fun v hv => (unhide HJ).below (un v hv))
            have d0 : decide (y ≤ S.low + 1) = false := decide_eq_false (by omega)
            have d00 : ¬ y ≤ S.low + 1 := by omega
            by_cases hj0 : j = 0
            · subst hj0
              simp only [Nat.add_zero] at x0
              clear hCL un base hy hyb hg hrg z0 At3 kc
              go_upto_region 19 with fail
              refine wp_region_sx (St := CL) (by kernel_rfl) (by kernel_rfl) (unhide BS) ?_
              repeat (go_big_quiet_step (first | (go_at_call 22; exact unhide hasC _)))
              refine wpQuiet_nil ?_
              first | (rintro v4 ⟨⟨v4', OK4⟩, e4x⟩; subst e4x) | rintro ⟨v4, OK4⟩
              try dsimp only
              have B4 := hide (unhide BQ _ OK4)
              clear OK4 x0
              go_wp2_with fail
              exact ⟨⟨1, rfl, by omega, unhide B4⟩, by simp [RowKit.intOf]; omega⟩
            · obtain ⟨i, rfl⟩ : ∃ i, j = i + 1 := ⟨j - 1, by omega⟩
              obtain ⟨z, hz⟩ : ∃ z, S.set[i]? = some z := ⟨_, List.getElem?_eq_getElem (by omega)⟩
              have hzy := set_rise (unhide FS) hz hy
              obtain ⟨g', o', e', hg', hrg'⟩ := At3.cell intK_law hz
              cases e'
              have z1 := hrg' 0 (.int .i64 z) rfl
              simp only [IntK, Nat.mul_one, Nat.add_zero] at z1
              have x1 : ∀ q : SX CL, q.w.cell? ⟨g, o + i, none⟩ = some (.int .i64 z) := fun q => kc q _ _ _ z1
              have d1 : decide (y ≤ z) = false := decide_eq_false (by omega)
              have d11 : ¬ y ≤ z := by omega
              have hwi : IntKind.i64.wrap ((i : Int) + 1 - 1) = (i : Int) := by rw [show (i : Int) + 1 - 1 = (i : Int) by omega]; exact Go.IntWalk.i64_in _ (by omega)
              have hwi2 : IntKind.i64.wrap (((i + 1 : Nat) : Int) - 1) = (i : Int) := by rw [show ((i + 1 : Nat) : Int) - 1 = (i : Int) by omega]; exact Go.IntWalk.i64_in _ (by omega)
              have i0 : (0 : Int) ≤ (i : Int) := by omega
              have i1 : (i : Int) < (S.set.length : Int) := by omega
              have i2 : (0 : Int) < (i : Int) + 1 := by omega
              clear hCL un base hy hyb hg hrg z0 z1 At3 kc hz hg' hrg' hzy
              go_upto_region 19 with fail
              refine wp_region_sx (St := CL) (by kernel_rfl) (by kernel_rfl) (unhide BS) ?_
              repeat (go_big_quiet_step (first | (go_at_call 22; exact unhide hasC _)))
              refine wpQuiet_nil ?_
              first | (rintro v4 ⟨⟨v4', OK4⟩, e4x⟩; subst e4x) | rintro ⟨v4, OK4⟩
              try dsimp only
              have B4 := hide (unhide BQ _ OK4)
              clear OK4 x0 x1
              go_wp2_with fail
              exact ⟨⟨i + 1 + 1, rfl, by omega, unhide B4⟩, by simp [RowKit.intOf]; omega⟩
          · have HE := hide (unhide HJ).drop1
            clear HJ
            go_wp2_with fail
            exact ⟨⟨k + 1, m2, rfl, by omega, by rw [← unhide ES], by rw [← unhide ES]; exact unhide HE⟩, by simp [RowKit.intOf]; omega⟩
      · have hke : k = l.length := by omega
        subst hke
        rw [List.take_length]
        have HA : Hid (HR w wr (hAck pa m (after l) :: hAck pb none none0 :: [])) := hide (by have := unhide HRR; rwa [List.take_length] at this)
        clear HRR
        have FS := hide (after_fine l)
        have TS := hide (after_total (unhide HM))
        obtain ⟨S, hS⟩ : ∃ S, S = after l := ⟨_, rfl⟩
        have ES := hide hS
        rw [← hS] at HA FS TS
        rw [← hS]
        clear hS
        have hwm : IntKind.i64.wrap ((l.length : Int) - 1) = (l.length : Int) - 1 := Go.IntWalk.i64_in _ (by omega)
        go_wp2_with fail
        go_loopw [9] (fun i wr => ∃ (k : Nat) (m' : Option Nat) (T : List Int), i = .int .i64 ((k : Int) - 1) ∧ k ≤ l.length ∧ Part l k T ∧ HR w wr (hAck pb m' (none0.adds T) :: hAck pa m S :: [])) (fun i _ => (RowKit.intOf i + 1).toNat)
        case atStart => exact ⟨l.length, none, [], rfl, Nat.le_refl _, Part.start l, (unhide HA).swap⟩
        case round =>
          obtain ⟨k, m', T, rfl, hk, hp, hr⟩ := hrel
          have HB := hide hr
          have HP := hide hp
          clear hr hp HA
          by_cases hk0 : k = 0
          · subst hk0
            have e1 : none0.adds T = S := (unhide HP).stop.trans (unhide ES).symm
            rw [e1] at HB
            have lS : S.low ≤ 1048576 := by have := low_total (s := S); have := unhide TS; omega
            have MN := hide (merge_none (unhide FS) lS)
            have NT := hide (news_total (unhide FS) lS)
            have NN := hide (news_none lS)
            have IS := hide (unhide FS).ins
            have BS : Hid (S.total ≤ 13200 ∧ S.set.length ≤ 13200) := hide ⟨unhide TS, by have := set_total (unhide FS); have := unhide TS; omega⟩
            have hwt : IntKind.i64.wrap (S.low + (S.set.length : Int)) = S.total := Go.IntWalk.i64_in _ (by have h1 := unhide TS; have h2 := (unhide FS).lo; unfold AckV.total at h1; omega)
            have HC0 := hide ((unhide HB))
            clear e1 lS HB HP
            go_wp2_with fail
            refine (unhide HC0).new.mono ?_
            rintro e u1 ⟨pc, rfl, h⟩
            have HC1 : Hid (HR w u1 (hAck pc none none0 :: hAck pb m' S :: hAck pa m S :: [])) := hide h
            clear h
            go_wp2_with fail
            refine ((unhide HC1).low (List.mem_cons_of_mem _ (List.mem_cons_of_mem _ List.mem_cons_self))).mono ?_
            rintro e w' ⟨rfl, hw'⟩
            rw [hw']
            clear hw'
            go_wp2_with fail
            refine ((unhide HC1).set (List.mem_cons_of_mem _ (List.mem_cons_of_mem _ List.mem_cons_self)) (by have := unhide BS; omega)).mono ?_
            rintro e u2 ⟨a2, c2, rfl, h⟩
            have HC2 : Hid (HR w u2 (hRow IntK a2 c2 S.set :: hAck pc none none0 :: hAck pb m' S :: hAck pa m S :: [])) := hide h
            clear h
            go_wp2_with fail
            refine ((unhide HC2).swap.mergeRow S.low List.mem_cons_self (unhide IS) (by have := unhide BS; have : none0.total = 0 := rfl; omega)).mono ?_
            rintro e u3 ⟨rfl, m3, h⟩
            rw [unhide NT]
            rw [unhide MN] at h
            have HC3 : Hid (HR w u3 (hAck pc m3 S :: hAck pb m' S :: hAck pa m S :: [])) := hide h.drop2
            clear h
            go_wp2_with fail
            refine ((unhide HC3).low (List.mem_cons_of_mem _ (List.mem_cons_of_mem _ List.mem_cons_self))).mono ?_
            rintro e w' ⟨rfl, hw'⟩
            rw [hw']
            clear hw'
            go_wp2_with fail
            refine ((unhide HC3).low (List.mem_cons_of_mem _ List.mem_cons_self)).mono ?_
            rintro e w' ⟨rfl, hw'⟩
            rw [hw']
            clear hw'
            go_wp2_with fail
            refine ((unhide HC3).set (List.mem_cons_of_mem _ (List.mem_cons_of_mem _ List.mem_cons_self)) (by have := unhide BS; omega)).mono ?_
            rintro e u4 ⟨a4, c4, rfl, h⟩
            have HC4 : Hid (HR w u4 (hRow IntK a4 c4 S.set :: hAck pc m3 S :: hAck pb m' S :: hAck pa m S :: [])) := hide h
            clear h
            go_wp2_with fail
            refine ((unhide HC4).set (List.mem_cons_of_mem _ (List.mem_cons_of_mem _ List.mem_cons_self)) (by have := unhide BS; omega)).mono ?_
            rintro e u5 ⟨a5, c5, rfl, h⟩
            have HC5 : Hid (HR w u5 (hRow IntK a5 c5 S.set :: hRow IntK a4 c4 S.set :: hAck pc m3 S :: hAck pb m' S :: hAck pa m S :: [])) := hide h
            clear h
            go_wp2_with fail
            refine ((unhide HC5).same (List.mem_cons_of_mem _ List.mem_cons_self) List.mem_cons_self (by have := unhide BS; omega)).mono ?_
            rintro e u6 ⟨rfl, h⟩
            rw [sameL_self]
            have HC6 : Hid (HR w u6 (hAck pc m3 S :: hAck pb m' S :: hAck pa m S :: [])) := hide h.drop1.drop1
            clear h
            go_wp2_with fail
            refine ((unhide HC6).low List.mem_cons_self).mono ?_
            rintro e w' ⟨rfl, hw'⟩
            rw [hw']
            clear hw'
            go_wp2_with fail
            refine ((unhide HC6).low (List.mem_cons_of_mem _ (List.mem_cons_of_mem _ List.mem_cons_self))).mono ?_
            rintro e w' ⟨rfl, hw'⟩
            rw [hw']
            clear hw'
            go_wp2_with fail
            refine ((unhide HC6).set List.mem_cons_self (by have := unhide BS; omega)).mono ?_
            rintro e u7 ⟨a7, c7, rfl, h⟩
            have HC7 : Hid (HR w u7 (hRow IntK a7 c7 S.set :: hAck pc m3 S :: hAck pb m' S :: hAck pa m S :: [])) := hide h
            clear h
            go_wp2_with fail
            refine ((unhide HC7).set (List.mem_cons_of_mem _ (List.mem_cons_of_mem _ (List.mem_cons_of_mem _ List.mem_cons_self))) (by have := unhide BS; omega)).mono ?_
            rintro e u8 ⟨a8, c8, rfl, h⟩
            have HC8 : Hid (HR w u8 (hRow IntK a8 c8 S.set :: hRow IntK a7 c7 S.set :: hAck pc m3 S :: hAck pb m' S :: hAck pa m S :: [])) := hide h
            clear h
            go_wp2_with fail
            refine ((unhide HC8).same (List.mem_cons_of_mem _ List.mem_cons_self) List.mem_cons_self (by have := unhide BS; omega)).mono ?_
            rintro e u9 ⟨rfl, h⟩
            rw [sameL_self]
            have HC9 : Hid (HR w u9 (hAck pc m3 S :: hAck pb m' S :: hAck pa m S :: [])) := hide h.drop1.drop1
            clear h
            go_wp2_with fail
            refine ((unhide HC9).low (List.mem_cons_of_mem _ (List.mem_cons_of_mem _ List.mem_cons_self))).mono ?_
            rintro e w' ⟨rfl, hw'⟩
            rw [hw']
            clear hw'
            go_wp2_with fail
            refine ((unhide HC9).set (List.mem_cons_of_mem _ (List.mem_cons_of_mem _ List.mem_cons_self)) (by have := unhide BS; omega)).mono ?_
            rintro e u10 ⟨a10, c10, rfl, h⟩
            have HC10 : Hid (HR w u10 (hRow IntK a10 c10 S.set :: hAck pc m3 S :: hAck pb m' S :: hAck pa m S :: [])) := hide h
            clear h
            go_wp2_with fail
            have h := (unhide HC10).drop1
            have HC11 := hide h
            clear h
            refine ((unhide HC11).low (List.mem_cons_of_mem _ (List.mem_cons_of_mem _ List.mem_cons_self))).mono ?_
            rintro e w' ⟨rfl, hw'⟩
            rw [hw']
            clear hw'
            go_wp2_with fail
            refine ((unhide HC11).set (List.mem_cons_of_mem _ (List.mem_cons_of_mem _ List.mem_cons_self)) (by have := unhide BS; omega)).mono ?_
            rintro e u12 ⟨a12, c12, rfl, h⟩
            have HC12 : Hid (HR w u12 (hRow IntK a12 c12 S.set :: hAck pc m3 S :: hAck pb m' S :: hAck pa m S :: [])) := hide h
            clear h
            go_wp2_with fail
            refine ((unhide HC12).swap.mergeRow S.low List.mem_cons_self (unhide IS) (by have := unhide BS; omega)).mono ?_
            rintro e u13 ⟨rfl, m13, h⟩
            rw [unhide NN]
            rw [merge_same (by have := low_total (s := S); have := unhide BS; omega) (fun _ h => h)] at h
            have HC13 : Hid (HR w u13 (hAck pc m13 S :: hAck pb m' S :: hAck pa m S :: [])) := hide h.drop2
            clear h
            go_wp2_with fail
            go_ret
            exact ⟨rfl, (unhide HC13).bel⟩
          · obtain ⟨i, rfl⟩ : ∃ i, k = i + 1 := ⟨k - 1, by omega⟩
            have hlt : i < l.length := by omega
            have e1 : ((i + 1 : Nat) : Int) - 1 = (i : Int) := by omega
            rw [e1]
            have g0 : (0 : Int) ≤ (i : Int) := by omega
            have g1 : (i : Int) < (l.length : Int) := by omega
            have hwk : IntKind.i64.wrap ((i : Int) - 1) = (i : Int) - 1 := Go.IntWalk.i64_in _ (by omega)
            have hw7 : IntKind.i64.wrap ((i : Int) * 7) = (i : Int) * 7 := Go.IntWalk.i64_in _ (by omega)
            have hl0 : ¬ (l.length : Int) = 0 := by omega
            have hrm : ((i : Int) * 7).tmod (l.length : Int) = ((i * 7 % l.length : Nat) : Int) := by
              rw [Int.tmod_eq_emod_of_nonneg (by omega)]; push_cast; rfl
            have hjl : i * 7 % l.length < l.length := Nat.mod_lt _ (by omega)
            generalize hje : i * 7 % l.length = j at *
            have j0 : (0 : Int) ≤ (j : Int) := by omega
            have j1 : (j : Int) < (l.length : Int) := by omega
            have hwj : IntKind.i64.wrap (j : Int) = (j : Int) := Go.IntWalk.i64_in _ (by omega)
            obtain ⟨x, hx⟩ : ∃ x, l[i]? = some x := ⟨_, List.getElem?_eq_getElem hlt⟩
            obtain ⟨y, hy⟩ : ∃ y, l[j]? = some y := ⟨_, List.getElem?_eq_getElem hjl⟩
            obtain ⟨g, o, rfl, hg, hrg⟩ := ((unhide HL).below (Nat.le_refl _) (unhide HB).bel).cell actK_law hx
            have hxm : x ∈ l := List.mem_iff_getElem?.2 ⟨i, hx⟩
            have hym : y ∈ l := List.mem_iff_getElem?.2 ⟨j, hy⟩
            have HP2 := hide ((unhide HP).next (unhide HM) hx hym)
            have htl := tell_any (unhide HB) (unhide HI x hxm) (by have := part_total (unhide HM) (unhide HP); have := (unhide HM).set x hxm; omega)
            rw [← adds_append] at htl
            have IY := hide (unhide HI y hym)
            have BY : Hid ((none0.adds (T ++ toldA x)).total + y.set.length < 900000000000) := hide (by
              have h1 := part_total (unhide HM) (unhide HP)
              have h2 := (total_adds_le (none0.adds T) (toldA x)).2
              rw [← adds_append] at h2
              have h3 := toldA_len (unhide HM) hxm
              have h4 := (unhide HM).set y hym
              omega)
            have HRG : Hid (wr.rangeAt g (o + i * 3) [.int .i64 x.act, .int .i64 x.n, .slice x.a x.set.length x.c]) := hide hrg
            have HY := hide hy
            clear hx hy hg hrg hxm hym e1 hje
            go_wp2_with (refine wpList_load_on rfl 37 (.tmp 86) rfl g (o + i * 3) rfl [.int .i64 x.act, .int .i64 x.n, .slice x.a x.set.length x.c] _ (unhide HRG) Try.underlying37 rfl (by kernel_rfl) ?_)
            refine htl.mono ?_
            rintro e v2 ⟨rfl, m2, h2⟩
            have H2 := hide h2
            obtain ⟨g2, o2, eg, hg2, hrg2⟩ := ((unhide HL).below (Nat.le_refl _) h2.bel).cell actK_law (unhide HY)
            cases eg
            have HRG2 : Hid (v2.rangeAt g (o + j * 3) [.int .i64 y.act, .int .i64 y.n, .slice y.a y.set.length y.c]) := hide hrg2
            have htl2 := tell_any h2 (unhide IY) (unhide BY)
            rw [← adds_append] at htl2
            clear htl h2 hg2 hrg2
            go_wp2_with (refine wpList_load_on rfl 37 (.tmp 96) rfl g (o + j * 3) rfl [.int .i64 y.act, .int .i64 y.n, .slice y.a y.set.length y.c] _ (unhide HRG2) Try.underlying37 rfl (by kernel_rfl) ?_)
            refine htl2.mono ?_
            rintro e v3 ⟨rfl, m3, h3⟩
            have H3 := hide h3
            clear htl2 h3
            go_wp2_with fail
            exact ⟨⟨i, m3, _, rfl, by omega, unhide HP2, unhide H3⟩, by simp [RowKit.intOf]⟩
end Go.Proofs.Ytdmjkbcjljnleaa

/- What TellQuiet does: it answers true, and nothing that was there has turned. Conditions: the act's key is no longer than a machine's texts, its numbers are 64 bits wide. -/
import Derived.Test.YtmgmkdkdpeljmabTPlays
import Derived.Test.YtmgmkdkdpeljmabTWakes
namespace Go.Proofs.Ytmgmkdkdpeljmab
open Go.RowKit
section
variable {P : Program} {md : Region.Mode} {ops : Array Oper} {S : World → Prop}
/-- A call among those that turn the world, whatever guards it. -/
theorem chain_call_on {K : Act → World → Prop} {j : Nat} {o : Oper} {l : List (Nat × Oper)} {a : Act} {w : World} (f : FuncId) (args : Array Value) (hw : Region.wanted o (yielded ops a.tmps) = true) (hr : (execOp a.eval o).run P w = .ok (.enter f args) w)
    (h : Calls P f args w fun e w' => ∃ v, e = .returned v ∧ S w' ∧ chainM P md ops S K l (a.put o.dst v) w') : chainM P md ops S K ((j, o) :: l) a w := by
  refine ⟨hw, ?_⟩
  unfold goes
  rw [hr]
  exact h.mono fun e w' ⟨v, he, hS, hc⟩ => ⟨v, he, fun _ => hS, hc⟩
theorem chain_step_on {K : Act → World → Prop} {j : Nat} {o : Oper} {l : List (Nat × Oper)} {a : Act} {w : World} (v : Value) (w' : World) (hw : Region.wanted o (yielded ops a.tmps) = true) (hr : (execOp a.eval o).run P w = .ok (.value v) w') (hS : S w')
    (h : chainM P md ops S K l (a.put o.dst v) w') : chainM P md ops S K ((j, o) :: l) a w := by
  refine ⟨hw, ?_⟩
  unfold goes
  rw [hr]
  exact ⟨fun _ => hS, h⟩
end
theorem isActL_one {w : World} {y : ActL} (hy : y.Ok) : IsActL (w.alloc (.cells (actLC y).toArray 24)) (some ⟨w.heap.size, 0, none⟩) 1 1 [y] := by
  have r := row_new w (actLC y) 24
  refine ⟨rfl, by unfold maxLen; omega, fun k hk => ?_⟩
  have : k = 0 := by omega
  subst this
  exact ⟨w.heap.size, 0, rfl, ⟨r.cell 0 (by simp [actLC]), r.cell 1 (by simp [actLC]), r.cell 2 (by simp [actLC]), r.cell 3 (by simp [actLC])⟩, hy, r.lt⟩
theorem goodL_plays {w : World} {a : Option Addr} {len cap : Nat} {z : List ActL} {L : LineV} (h : IsActL w a len cap z) (hg : GoodL L) (T : List (Win AggV)) : GoodL (playL (L, T) z).1 := goodL_play hg (fun p hp => (h.ok p hp).n)
theorem short_acts {w : World} {a : Option Addr} {len cap : Nat} {z : List ActL} (h : IsActL w a len cap z) (hg : ¬ tooGreatL z = true) : len ≤ 200 := by
  refine Nat.le_of_not_lt fun hl => hg ?_
  unfold tooGreatL
  rw [h.size_, decide_eq_true hl, Bool.true_or]
theorem same_rows {w0 v : World} {p : Nat} {L : LineV} {a b : Option Addr} {c d : Nat} {R : List Held} (h : HL w0 v p L ((a, c, L.row) :: (b, d, L.row) :: R)) (hm : Mild L.row) :
    Calls Try.prog 15 #[.slice a L.row.length c, .slice b L.row.length d] v fun e v' => e = .returned (.bool true) ∧ Below v.heap.size v v' :=
  same_self (c := c) (d := d) (Held.lay (r := (a, c, L.row)) (h.row List.mem_cons_self) (Nat.le_trans hm.most (by omega))) (Held.lay (r := (b, d, L.row)) (h.row (List.mem_cons_of_mem _ List.mem_cons_self)) (Nat.le_trans hm.most (by omega)))
set_option maxRecDepth 100000 in
set_option maxHeartbeats 8000000 in
theorem tquiet_any (a : Option Addr) (len cap : Nat) (z : List ActL) (y : ActL) (w : World) (hz : IsActL w a len cap z) (hy : y.Ok) :
    Calls Try.prog 3 #[.slice a len cap, .agg (actLC y).toArray] w fun e w' => e = .returned (.bool true) ∧ Below w.heap.size w w' := by
  obtain ⟨W, hW⟩ : ∃ W, W = w.alloc (.cells (actLC y).toArray 24) := ⟨_, rfl⟩
  obtain ⟨b, hb⟩ : ∃ b, b = w.heap.size := ⟨_, rfl⟩
  have bw : Below w.heap.size w W := by rw [hW]; exact (Below.refl _ _).alloc (Nat.le_refl _) _
  have RB : Hid (RowAt W b (actLC y)) := hide (by rw [hW, hb]; exact row_new _ _ _)
  have hzW := hz.below bw
  have HZ := hide hzW
  have GR := hide (greatL_any a len cap z W hzW)
  have g1 := greatL_any (some ⟨W.heap.size, 0, none⟩) 1 1 [y] (W.alloc (.cells (actLC y).toArray 24)) (isActL_one hy)
  have BW := hide bw
  have BW2 : Hid (Below W.heap.size W (W.alloc (.cells (actLC y).toArray 24))) := hide ((Below.refl _ _).alloc (Nat.le_refl _) _)
  have HW := hide hW
  have HB := hide hb
  have WK := hide twakes_any
  have hw0 := hide (fun (u : World) (hu : Below W.heap.size W u) => HL.new hu)
  have HOK := hide hy
  clear hz hzW bw hW hb
  obtain ⟨yd, yk, ya, yn⟩ := y
  simp only [actLC] at *
  have G1 := hide g1
  clear g1
  by_cases hg : tooGreatL z = true
  · rw [hg] at GR
    go_enter Try.func3, Try.ntmps3
    go_upto_region 1 with fail
    rw [← unhide HB]
    try change Code.wp _ _ _ _ (w.alloc (.cells #[.int .u8 (yd : Int), .string ⟨yk.toArray⟩, .int .i64 ya, .int .i64 yn] 24))
    rw [← unhide HW]
    go_wp2_with fail
    refine (unhide GR).mono ?_
    rintro e v' ⟨rfl, hw⟩
    rw [hw]
    clear hw v'
    go_wp2_with fail
    refine (unhide WK _).mono ?_
    rintro e v' ⟨rfl, hb⟩
    go_wp2_with fail
    go_ret
    exact ⟨rfl, (unhide BW).trans (hb.mono (unhide BW).size)⟩
  · have hl1 := hide (short_acts (unhide HZ) hg)
    rw [Bool.eq_false_iff.2 hg] at GR
    have c0 : W.cell? ⟨b, 0, none⟩ = some (.int .u8 (yd : Int)) := (unhide RB).cell 0 (by simp)
    have c1 : W.cell? ⟨b, 1, none⟩ = some (.string ⟨yk.toArray⟩) := (unhide RB).cell 1 (by simp)
    have c2 : W.cell? ⟨b, 2, none⟩ = some (.int .i64 ya) := (unhide RB).cell 2 (by simp)
    have c3 : W.cell? ⟨b, 3, none⟩ = some (.int .i64 yn) := (unhide RB).cell 3 (by simp)
    have RR := hide (unhide RB).range
    by_cases hg2 : tooGreatL [⟨yd, yk, ya, yn⟩] = true
    · rw [hg2] at G1
      go_enter Try.func3, Try.ntmps3
      go_upto_region 1 with fail
      rw [← unhide HB]
      try change Code.wp _ _ _ _ (w.alloc (.cells #[.int .u8 (yd : Int), .string ⟨yk.toArray⟩, .int .i64 ya, .int .i64 yn] 24))
      rw [← unhide HW]
      go_wp2_with fail
      refine (unhide GR).mono ?_
      rintro e v' ⟨rfl, hw⟩
      rw [hw]
      clear hw v'
      go_wp2_with (refine wpList_load_on rfl 24 (.tmp 3) rfl b 0 rfl [.int .u8 (yd : Int), .string ⟨yk.toArray⟩, .int .i64 ya, .int .i64 yn] _ (unhide RR) Try.underlying24 rfl (by kernel_rfl) ?_)
      refine (unhide G1).mono ?_
      rintro e v' ⟨rfl, hw⟩
      rw [hw]
      clear hw v'
      go_wp2_with fail
      refine (unhide WK _).mono ?_
      rintro e v' ⟨rfl, hb⟩
      go_wp2_with fail
      go_ret
      exact ⟨rfl, (unhide BW).trans (((unhide BW2).trans (hb.mono (unhide BW2).size)).mono (unhide BW).size)⟩
    · rw [Bool.eq_false_iff.2 hg2] at G1
      go_enter Try.func3, Try.ntmps3
      go_upto_region 1 with fail
      rw [← unhide HB]
      try change Code.wp _ _ _ _ (w.alloc (.cells #[.int .u8 (yd : Int), .string ⟨yk.toArray⟩, .int .i64 ya, .int .i64 yn] 24))
      rw [← unhide HW]
      go_upto_region 3 with fail
      refine (unhide GR).mono ?_
      rintro e v' ⟨rfl, hw⟩
      rw [hw]
      clear hw v'
      go_upto_region 3 with (refine wpList_load_on rfl 24 (.tmp 3) rfl b 0 rfl [.int .u8 (yd : Int), .string ⟨yk.toArray⟩, .int .i64 ya, .int .i64 yn] _ (unhide RR) Try.underlying24 rfl (by kernel_rfl) ?_)
      refine (unhide G1).mono ?_
      rintro e v' ⟨rfl, hw⟩
      rw [hw]
      clear hw v' c0 c1 c2 c3 RR GR G1
      go_upto_region 4 with fail
      refine (unhide hw0 _ (unhide BW2)).mono ?_
      rintro e u1 ⟨p0, rfl, HE⟩
      have HS := hide HE
      clear HE hw0 BW2 hg hg2
      go_upto_region 5 with fail
      refine (tplays_any (unhide HS) mild_nil a len cap z (unhide HZ) (Nat.le_trans (unhide hl1) (by omega))).mono ?_
      rintro e u2 ⟨ta, tc, rfl, HE, hm, _⟩
      have ML := hide hm
      have GL := hide (goodL_plays (unhide HZ) goodL_new [])
      clear HS
      have HS := hide (HE.drop (R' := []) (fun _ h => by cases h))
      clear HE hm
      generalize (playL (newL, []) z).2.length = tn at *
      generalize (playL (newL, []) z).1 = L at *
      go_upto_region 6 with fail
      refine ((unhide HS).at_).mono ?_
      rintro e v' ⟨rfl, hw⟩
      rw [hw]
      clear hw v'
      go_upto_region 7 with fail
      refine ((unhide HS).open_ (unhide ML)).mono ?_
      rintro e u3 ⟨a1, c1, rfl, HE, _⟩
      clear HS
      have HS := hide HE
      clear HE
      have d0 : u3.cell? ⟨b, 0, none⟩ = some (.int .u8 (yd : Int)) := ((unhide RB).below (unhide HS).bel).cell 0 (by simp)
      have d1 : u3.cell? ⟨b, 1, none⟩ = some (.string ⟨yk.toArray⟩) := ((unhide RB).below (unhide HS).bel).cell 1 (by simp)
      have d2 : u3.cell? ⟨b, 2, none⟩ = some (.int .i64 ya) := ((unhide RB).below (unhide HS).bel).cell 2 (by simp)
      have d3 : u3.cell? ⟨b, 3, none⟩ = some (.int .i64 yn) := ((unhide RB).below (unhide HS).bel).cell 3 (by simp)
      by_cases e0 : yd = 0
      · subst e0
        rcases putL_ways L yk ya yn with ⟨hk, e⟩ | ⟨hk, ⟨hlt, e⟩ | ⟨hlt, ⟨h0, e⟩ | ⟨h0, e⟩⟩⟩
        · clear hk
          have CP := (unhide HS).put (unhide ML) yk ya yn (unhide HOK).n
          rw [e] at CP
          have HCP := hide CP
          clear CP e
          go_upto_region 9 with fail
          refine (unhide HCP).mono ?_
          rintro e v7 ⟨rfl, HE⟩
          clear HS HCP
          have HS := hide HE
          clear HE
          go_upto_region 18 with fail
          have HH := hide ((unhide HS).drop (R' := [(a1, c1, L.row)]) (fun r hr => hr))
          have AT := hide (unhide HH).at_
          go_wp2_with fail
          refine (unhide AT).mono ?_
          rintro e v' ⟨rfl, hw⟩
          rw [hw]
          clear hw v' AT HS
          go_wp2_with fail
          refine ((unhide HH).open_ (unhide ML)).mono ?_
          rintro e v8 ⟨a8, c8, rfl, HE, _⟩
          have SM := hide (same_rows HE (unhide ML))
          have H8 := hide HE
          clear HE HH
          go_wp2_with fail
          refine (unhide SM).mono ?_
          rintro e v9 ⟨rfl, hb⟩
          have BEL := hide ((unhide H8).below hb).bel
          clear hb SM H8
          go_wp2_with fail
          refine (unhide WK _).mono ?_
          rintro e v' ⟨rfl, hb⟩
          go_wp2_with fail
          go_ret
          exact ⟨rfl, (unhide BW).trans ((((unhide BEL).trans (hb.mono (unhide BEL).size))).mono (unhide BW).size)⟩
        · clear hk
          have CLT := hide (fun u => tlate_any ya L.mark u)
          rw [hlt] at CLT
          clear hlt
          have CP := (unhide HS).put (unhide ML) yk ya yn (unhide HOK).n
          rw [e] at CP
          have HCP := hide CP
          clear CP e
          go_upto_region 9 with fail
          refine (unhide HCP).mono ?_
          rintro e v7 ⟨rfl, HE⟩
          clear HS HCP
          have HS := hide HE
          clear HE
          have k2 : v7.cell? ⟨b, 2, none⟩ = some (.int .i64 ya) := ((unhide RB).below (unhide HS).bel).cell 2 (by simp)
          go_upto_region 18 with fail
          refine (unhide CLT _).mono ?_
          rintro e v' ⟨rfl, hw⟩
          rw [hw]
          clear hw v' CLT k2
          go_upto_region 18 with fail
          have HH := hide ((unhide HS).drop (R' := [(a1, c1, L.row)]) (fun r hr => hr))
          have AT := hide (unhide HH).at_
          go_wp2_with fail
          refine (unhide AT).mono ?_
          rintro e v' ⟨rfl, hw⟩
          rw [hw]
          clear hw v' AT HS
          go_wp2_with fail
          refine ((unhide HH).open_ (unhide ML)).mono ?_
          rintro e v8 ⟨a8, c8, rfl, HE, _⟩
          have SM := hide (same_rows HE (unhide ML))
          have H8 := hide HE
          clear HE HH
          go_wp2_with fail
          refine (unhide SM).mono ?_
          rintro e v9 ⟨rfl, hb⟩
          have BEL := hide ((unhide H8).below hb).bel
          clear hb SM H8
          go_wp2_with fail
          refine (unhide WK _).mono ?_
          rintro e v' ⟨rfl, hb⟩
          go_wp2_with fail
          go_ret
          exact ⟨rfl, (unhide BW).trans ((((unhide BEL).trans (hb.mono (unhide BEL).size))).mono (unhide BW).size)⟩
        · clear hk hlt h0
          have HLE : Hid ((L.row.length : Int) ≤ ((putS SO L.row yk ya yn).1.length : Int)) := hide (by
            have h1 := put_len (unhide GL).good (k := yk) (a := ya) (v := yn)
            rw [h1]; split <;> omega)
          have HM2 := hide (by have := mild_putL (unhide ML) (k := yk) (a := ya) (n := yn) (unhide HOK).n; rw [e] at this; exact this : Mild (putS SO L.row yk ya yn).1)
          have CP := (unhide HS).put (unhide ML) yk ya yn (unhide HOK).n
          rw [e] at CP
          have HCP := hide CP
          clear CP e
          go_upto_region 9 with fail
          refine (unhide HCP).mono ?_
          rintro e v7 ⟨rfl, HE⟩
          clear HS HCP
          have HS := hide HE
          clear HE
          generalize (putS SO L.row yk ya yn).1 = l2 at *
          have AT := hide (unhide HS).at_
          go_upto_region 11 with fail
          refine (unhide AT).mono ?_
          rintro e v' ⟨rfl, hw⟩
          rw [hw]
          clear hw v' AT
          go_wp2_with fail
          refine ((unhide HS).open_ (unhide HM2)).mono ?_
          rintro e v8 ⟨a8, c8, rfl, HE, _⟩
          have BEL := hide HE.bel
          have hle := unhide HLE
          clear HE HS HLE
          go_wp2_with fail
          refine (unhide WK _).mono ?_
          rintro e v' ⟨rfl, hb⟩
          go_wp2_with fail
          go_ret
          exact ⟨rfl, (unhide BW).trans ((((unhide BEL).trans (hb.mono (unhide BEL).size))).mono (unhide BW).size)⟩
        · have hc3 := hk
          clear hk hlt h0 hc3
          have CP := (unhide HS).put (unhide ML) yk ya yn (unhide HOK).n
          rw [e] at CP
          have HCP := hide CP
          clear CP e
          go_upto_region 9 with fail
          refine (unhide HCP).mono ?_
          rintro e v7 ⟨rfl, HE⟩
          clear HS HCP
          have HS := hide HE
          clear HE
          go_upto_region 18 with fail
          have HH := hide ((unhide HS).drop (R' := [(a1, c1, L.row)]) (fun r hr => hr))
          have AT := hide (unhide HH).at_
          go_wp2_with fail
          refine (unhide AT).mono ?_
          rintro e v' ⟨rfl, hw⟩
          rw [hw]
          clear hw v' AT HS
          go_wp2_with fail
          refine ((unhide HH).open_ (unhide ML)).mono ?_
          rintro e v8 ⟨a8, c8, rfl, HE, _⟩
          have SM := hide (same_rows HE (unhide ML))
          have H8 := hide HE
          clear HE HH
          go_wp2_with fail
          refine (unhide SM).mono ?_
          rintro e v9 ⟨rfl, hb⟩
          have BEL := hide ((unhide H8).below hb).bel
          clear hb SM H8
          go_wp2_with fail
          refine (unhide WK _).mono ?_
          rintro e v' ⟨rfl, hb⟩
          go_wp2_with fail
          go_ret
          exact ⟨rfl, (unhide BW).trans ((((unhide BEL).trans (hb.mono (unhide BEL).size))).mono (unhide BW).size)⟩
      · have n0 : ¬ (yd : Int) = 0 := by omega
        rcases markL_ways L ya with ⟨hr, e⟩ | ⟨hr, ⟨hle, e⟩ | ⟨hle, e⟩⟩
        · have CR := hide (fun u => Sp.right_any ya u)
          rw [hr] at CR
          clear hr
          have CP := (unhide HS).mark (unhide ML) ya
          rw [e] at CP
          have HCP := hide CP
          clear CP e
          go_upto_region 14 with fail
          refine (unhide HCP).mono ?_
          rintro e v7 ⟨a7, c7, rfl, HE⟩
          clear HS HCP
          have HS := hide HE
          clear HE
          have k2 : v7.cell? ⟨b, 2, none⟩ = some (.int .i64 ya) := ((unhide RB).below (unhide HS).bel).cell 2 (by simp)
          go_upto_region 18 with fail
          refine (unhide CR _).mono ?_
          rintro e v' ⟨rfl, hw⟩
          rw [hw]
          clear hw v' CR k2
          go_upto_region 18 with fail
          have HH := hide ((unhide HS).drop (R' := [(a1, c1, L.row)]) (fun r hr => List.mem_cons_of_mem _ hr))
          have AT := hide (unhide HH).at_
          go_wp2_with fail
          refine (unhide AT).mono ?_
          rintro e v' ⟨rfl, hw⟩
          rw [hw]
          clear hw v' AT HS
          go_wp2_with fail
          refine ((unhide HH).open_ (unhide ML)).mono ?_
          rintro e v8 ⟨a8, c8, rfl, HE, _⟩
          have SM := hide (same_rows HE (unhide ML))
          have H8 := hide HE
          clear HE HH
          go_wp2_with fail
          refine (unhide SM).mono ?_
          rintro e v9 ⟨rfl, hb⟩
          have BEL := hide ((unhide H8).below hb).bel
          clear hb SM H8
          go_wp2_with fail
          refine (unhide WK _).mono ?_
          rintro e v' ⟨rfl, hb⟩
          go_wp2_with fail
          go_ret
          exact ⟨rfl, (unhide BW).trans ((((unhide BEL).trans (hb.mono (unhide BEL).size))).mono (unhide BW).size)⟩
        · have CR := hide (fun u => Sp.right_any ya u)
          rw [hr] at CR
          have hgt : ¬ L.mark < ya := by omega
          clear hr
          have CP := (unhide HS).mark (unhide ML) ya
          rw [e] at CP
          have HCP := hide CP
          clear CP e
          go_upto_region 14 with fail
          refine (unhide HCP).mono ?_
          rintro e v7 ⟨a7, c7, rfl, HE⟩
          clear HS HCP
          have HS := hide HE
          clear HE
          have k2 : v7.cell? ⟨b, 2, none⟩ = some (.int .i64 ya) := ((unhide RB).below (unhide HS).bel).cell 2 (by simp)
          go_upto_region 18 with fail
          refine (unhide CR _).mono ?_
          rintro e v' ⟨rfl, hw⟩
          rw [hw]
          clear hw v' CR k2
          go_upto_region 18 with fail
          have HH := hide ((unhide HS).drop (R' := [(a1, c1, L.row)]) (fun r hr => List.mem_cons_of_mem _ hr))
          have AT := hide (unhide HH).at_
          go_wp2_with fail
          refine (unhide AT).mono ?_
          rintro e v' ⟨rfl, hw⟩
          rw [hw]
          clear hw v' AT HS
          go_wp2_with fail
          refine ((unhide HH).open_ (unhide ML)).mono ?_
          rintro e v8 ⟨a8, c8, rfl, HE, _⟩
          have SM := hide (same_rows HE (unhide ML))
          have H8 := hide HE
          clear HE HH
          go_wp2_with fail
          refine (unhide SM).mono ?_
          rintro e v9 ⟨rfl, hb⟩
          have BEL := hide ((unhide H8).below hb).bel
          clear hb SM H8
          go_wp2_with fail
          refine (unhide WK _).mono ?_
          rintro e v' ⟨rfl, hb⟩
          go_wp2_with fail
          go_ret
          exact ⟨rfl, (unhide BW).trans ((((unhide BEL).trans (hb.mono (unhide BEL).size))).mono (unhide BW).size)⟩
        · have hgt : L.mark < ya := by omega
          have HLEN := hide (take_len (O := SO) L.row ya)
          have HM2 := hide (mild_take (unhide ML) ya)
          clear hr
          have CP := (unhide HS).mark (unhide ML) ya
          rw [e] at CP
          have HCP := hide CP
          clear CP e
          go_upto_region 14 with fail
          refine (unhide HCP).mono ?_
          rintro e v7 ⟨a7, c7, rfl, HE⟩
          clear HS HCP
          have HS := hide HE
          clear HE
          have k2 : v7.cell? ⟨b, 2, none⟩ = some (.int .i64 ya) := ((unhide RB).below (unhide HS).bel).cell 2 (by simp)
          clear k2
          generalize (takeS SO L.row ya).1 = l2 at *
          generalize (takeS SO L.row ya).2 = o2 at *
          have hlen : ((l2.length : Int) + (o2.length : Int)) = (L.row.length : Int) := by have := unhide HLEN; omega
          have hw1 : IntKind.i64.wrap ((l2.length : Int) + (o2.length : Int)) = (L.row.length : Int) := by rw [hlen]; exact Go.IntWalk.i64_in _ (by have := (unhide ML).most; omega)
          clear hlen HLEN
          obtain ⟨CL, hCL⟩ : ∃ CL : World → Prop, CL = fun v => HL W v p0 ⟨ya, l2⟩ [(a7, c7, o2), (a1, c1, L.row)] := ⟨_, rfl⟩
          have un : ∀ v, CL v → HL W v p0 ⟨ya, l2⟩ [(a7, c7, o2), (a1, c1, L.row)] := fun v k => by rw [hCL] at k; exact k
          have TO : Hid (∀ v, HL W v p0 ⟨ya, l2⟩ [(a7, c7, o2), (a1, c1, L.row)] → CL v) := hide fun v k => by rw [hCL]; exact k
          have base : CL v7.drew := unhide TO _ ((unhide HS).below (Below.refl _ _).drew)
          have q2 : ∀ q : SW CL, q.w.cell? ⟨b, 2, none⟩ = some (.int .i64 ya) := fun q => ((unhide RB).below (un _ q.ok).bel).cell 2 (by simp)
          have sAT := hide (fun q : SW CL => (un _ q.ok).at_)
          have COP := hide (((unhide HS).below (Below.refl _ _).drew).open_ (unhide HM2))
          have k2 : v7.cell? ⟨b, 2, none⟩ = some (.int .i64 ya) := ((unhide RB).below (unhide HS).bel).cell 2 (by simp)
          clear hCL un HS
          go_upto_region 15 with fail
          clear k2
          refine wp_region_chain (S := CL) [true, true, true, true, true, true, true, false, false, true, true, false, true, true, false, false, false, false, false, false] [false, false, false, false, false, false, false, true, true, false, false, true, false, false, true, true, true, true, true, true] (by kernel_rfl) (by kernel_rfl) (by kernel_rfl) base ?_
          apply Exists.intro
          apply And.intro
          · intro q
            have n0 : Nonempty (SK CL q.w) := ⟨⟨q, rfl⟩⟩
            simp only [pickM]
            repeat (go_big_quiet_step (first | (go_at_call 9; exact (unhide sAT _).mono fun e w' ⟨he, hw⟩ => ⟨he, _, hw⟩)))
            exact wpQuiet_nil rfl
          · simp only [pickZ]
            refine chain_call_on 10 #[.pointer (some ⟨p0, 0, none⟩)] rfl (by simp [go_sem]) ?_
            refine (unhide COP).mono ?_
            rintro e v8 ⟨a8, c8, rfl, HE, _⟩
            have H8 := hide (HE.drop (R' := [(a7, c7, o2), (a1, c1, L.row)]) (fun r hr => List.mem_cons_of_mem _ hr))
            have C8 := hide (unhide TO _ (unhide H8))
            refine ⟨_, rfl, unhide C8, ?_⟩
            clear HE COP q2 sAT base
            go_simp
            refine chain_step_on (.int .i64 (l2.length : Int)) v8 rfl (by simp [go_sem]) (unhide C8) ?_
            go_simp
            refine chain_step_on (.int .i64 (L.row.length : Int)) v8 rfl (by simp [go_sem, hw1]) (unhide C8) ?_
            go_simp
            refine chain_step_on (.bool true) v8 rfl (by simp [go_sem]) (unhide C8) ?_
            go_simp
            refine chain_step_on (.bool true) v8 rfl (by simp [go_sem]) (unhide C8) ?_
            go_simp
            refine chain_step_on (.bool true) v8 rfl (by simp [go_sem]) (unhide C8) ?_
            go_simp
            refine chain_call_on 6 #[] rfl (by simp [go_sem]) ?_
            refine (unhide WK _).mono ?_
            rintro e v9 ⟨rfl, hb⟩
            have H9 := hide ((unhide H8).below hb)
            have C9 := hide (unhide TO _ (unhide H9))
            refine ⟨_, rfl, unhide C9, ?_⟩
            clear hb H8
            go_simp
            refine chain_step_on (.bool true) v9 rfl (by simp [go_sem]) (unhide C9) ?_
            go_simp
            refine chain_step_on (.bool true) v9 rfl (by simp [go_sem]) (unhide C9) ?_
            simp only [chainM]
            go_simp
            go_wp2_with fail
            go_ret
            exact ⟨rfl, (unhide BW).trans ((unhide H9).bel.mono (unhide BW).size)⟩
end Go.Proofs.Ytmgmkdkdpeljmab

/- A line made of a mark and windows. Conditions: there are at most 1000 windows, whose numbers are 64 bits wide. -/
import Derived.Test.YtmgmkdkdpeljmaaTHere
namespace Go.Proofs.Ytmgmkdkdpeljmaa
open Go.RowKit
/-- What Of's line is on the way. -/
structure OfS (v wr : World) (p q : Nat) (G : Nat → Prop) (L : LineV) : Prop where
  line : LineF wr p q G L
  big : ∀ k, k = p ∨ G k → v.heap.size ≤ k
  bel : Below v.heap.size v wr
theorem OfS.below {v wr w' : World} {p q : Nat} {G : Nat → Prop} {L : LineV} (h : OfS v wr p q G L) (hb : Below wr.heap.size wr w') : OfS v w' p q G L :=
  ⟨⟨h.line.row.below hb, h.line.st.keep (Moved.of_below (F := fun _ => False) hb) (fun _ f => f.elim), h.line.off⟩, h.big, h.bel.trans (hb.mono h.bel.size)⟩
theorem OfS.did {v wr w' : World} {p q : Nat} {G : Nat → Prop} {L : LineV} {l : List (Win AggV)} (h : OfS v wr p q G L) (hd : Did wr w' q G l) : ∃ G', OfS v w' p q G' ⟨L.mark, l⟩ := by
  obtain ⟨G', h1, h2, h3⟩ := hd
  refine ⟨G', ⟨h.line.row.keep h3 h.line.off, h1, fun f => ?_⟩, ?_, below_of_moved h.bel (fun k g => h.big k (.inr g)) h3⟩
  · rcases h2 p f with f | f
    · exact h.line.off f
    · have := h.line.row.lt; omega
  · rintro k (rfl | f)
    · exact h.big k (.inl rfl)
    · exact (h2 k f).elim (fun g => h.big k (.inr g)) (fun e => Nat.le_trans h.bel.size e)
theorem OfS.hl {v wr : World} {p q : Nat} {G : Nat → Prop} {L : LineV} (h : OfS v wr p q G L) : HL v wr p L [] := ⟨_, ⟨q, G, h.line, rfl⟩, h.big, h.bel, fun r hr => by cases hr⟩
theorem setAll_over {m : Int} {r xs : List (Win AggV)} {x : Win AggV} (h : Sp.overI x.start m = true) : setAll m r (x :: xs) = (r, 12) := by rw [setAll, if_pos h]
theorem setAll_set {m : Int} {r xs : List (Win AggV)} {x : Win AggV} (h : Sp.overI x.start m = false) (h0 : (setS SO r x).2 = 0) : setAll m r (x :: xs) = setAll m (setS SO r x).1 xs := by
  rw [setAll, if_neg (by rw [h]; simp), if_pos h0]
theorem setAll_no {m : Int} {r xs : List (Win AggV)} {x : Win AggV} (h : Sp.overI x.start m = false) (h0 : ¬ (setS SO r x).2 = 0) : setAll m r (x :: xs) = (r, (setS SO r x).2) := by
  rw [setAll, if_neg (by rw [h]; simp), if_neg h0]
set_option maxRecDepth 100000 in
set_option maxHeartbeats 8000000 in
theorem tof_any {v : World} {a : Option Addr} {c : Nat} {o : List (Win AggV)} (m : Int) (hlay : ∀ u, Below v.heap.size v u → Lay u a o) (hx : ∀ x ∈ o, x.agg.In ∧ okk x.key x.start) :
    Calls Try.prog 22 #[.int .i64 m, .slice a o.length c] v fun e v' => ∃ pt, e = .returned (.tuple #[.pointer pt, .int .i64 ((ofL m o).2 : Int)]) ∧ Below v.heap.size v v' ∧
      ((ofL m o).2 = 0 → ∃ p, pt = some ⟨p, 0, none⟩ ∧ HL v v' p (ofL m o).1 [] ∧ Mild (ofL m o).1.row) ∧ (¬ (ofL m o).2 = 0 → pt = none) := by
  have CR := hide (fun u => Sp.right_any m u)
  have LAY := hide hlay
  have HX := hide hx
  have hmost : o.length ≤ 1000 := (hlay v (Below.refl _ _)).most
  clear hlay hx
  cases hr : Sp.rightI m with
  | false =>
    have HO : Hid (ofL m o = (newL, 1)) := hide (by unfold ofL; rw [hr]; rfl)
    rw [hr] at CR
    clear hr
    go_enter Try.func22, Try.ntmps22
    go_wp2_with fail
    refine (unhide CR _).mono ?_
    rintro e v' ⟨rfl, hw⟩
    rw [hw]
    clear hw v'
    go_wp2_with fail
    go_ret2
    exact ⟨none, by rw [unhide HO]; rfl, Below.refl _ _, fun h => (by rw [unhide HO] at h; cases h), fun _ => rfl⟩
  | true =>
    have HO : Hid (ofL m o = (⟨m, (setAll m [] o).1⟩, (setAll m [] o).2)) := hide (by unfold ofL; rw [hr]; rfl)
    rw [unhide HO]
    rw [hr] at CR
    have CN := hide (tnew_any v)
    clear hr HO
    go_enter Try.func22, Try.ntmps22
    go_upto_region 3 with fail
    refine (unhide CR _).mono ?_
    rintro e v' ⟨rfl, hw⟩
    rw [hw]
    clear hw v' CR
    go_upto_region 4 with fail
    refine (unhide CN).mono ?_
    rintro e u1 ⟨p, F, rfl, hl, hbig, hb⟩
    obtain ⟨q, G, hf, rfl⟩ := hl
    have k1 : u1.cell? ⟨p, 1, none⟩ = some (.int .i64 0) := hf.row.cell 1 (Nat.lt_of_sub_pos (Nat.succ_pos _))
    have f1 : u1.frozen? ⟨p, 1, none⟩ = false := hf.row.free 1 (Nat.lt_of_sub_pos (Nat.succ_pos _))
    obtain ⟨u2, hu2⟩ : ∃ u2, u2 = u1.setCell ⟨p, 1, none⟩ (.int .i64 m) := ⟨_, rfl⟩
    have m2 : Moved (fun k => k = p) u1 u2 := by rw [hu2]; exact moved_set u1 p 1 _
    have START : Hid (OfS v u2 p q G ⟨m, []⟩) := hide ⟨⟨by rw [hu2]; exact hf.row.set 1 (Nat.lt_of_sub_pos (Nat.succ_pos _)) _, hf.st.keep m2 (fun i hi g => hf.off (hi ▸ g)), hf.off⟩, hbig, ((Moved.of_below (F := fun k => k = p) hb).trans m2 (fun _ hi => .inl hi)).below (fun i hi => hbig i (.inl hi)) (Nat.le_refl _)⟩
    have HU2 := hide hu2
    clear hf hbig hb m2 hu2 CN
    go_upto_region 5 with fail
    rw [← unhide HU2]
    clear HU2 k1 f1
    have ho0 : (0 : Int) ≤ (o.length : Int) := by omega
    go_wp2_with fail
    go_loopw [20] (fun i wr => ∃ (k : Nat) (r : List (Win AggV)), i = .int .i64 (k : Int) ∧ k ≤ o.length ∧ (∃ G, OfS v wr p q G ⟨m, r⟩) ∧ Mild r ∧ Hid (setAll m [] o = setAll m r (o.drop k))) (fun i _ => o.length - (intOf i).toNat)
    case atStart => exact ⟨0, [], rfl, Nat.zero_le _, ⟨G, unhide START⟩, mild_nil, hide (by rw [List.drop_zero])⟩
    case round =>
      obtain ⟨k, r, rfl, hk, hs, hmm, HA⟩ := hrel
      have HS := hide hs
      have HMM := hide hmm
      clear hs hmm START
      by_cases hlt : k < o.length
      · have g1 : (k : Int) < (o.length : Int) := by omega
        have hk0 : (0 : Int) ≤ (k : Int) := by omega
        have hwk : IntKind.i64.wrap ((k : Int) + 1) = (k : Int) + 1 := Go.IntWalk.i64_in _ (by omega)
        obtain ⟨x, hx⟩ : ∃ x, o[k]? = some x := ⟨_, List.getElem?_eq_getElem hlt⟩
        have HXX := hide (unhide HX x (List.mem_of_getElem? hx))
        have hdrop : o.drop k = x :: o.drop (k + 1) := by rw [List.drop_eq_getElem_cons hlt, (List.getElem?_eq_some_iff.1 hx).2]
        rw [hdrop] at HA
        obtain ⟨G1, hs⟩ := unhide HS
        obtain ⟨g, rfl, hra, _⟩ := (unhide LAY wr hs.bel).at hx
        have HRA := hide hra
        clear hx hdrop hra HS
        obtain ⟨xk, xs, ⟨g0, g1', g2, g3, g4, g5, g6, g7⟩⟩ := x
        simp only [outV_eq] at HRA
        obtain ⟨w1, hw1⟩ : ∃ w1, w1 = wr.alloc (.cells #[.string ⟨xk.toArray⟩, .int .i64 xs, .int .i64 g0, .int .i64 g1', .int .i64 g2, .int .i64 g3, .int .i64 g4, .int .i64 g5, .int .i64 g6, .int .i64 g7] 38) := ⟨_, rfl⟩
        obtain ⟨b, hb⟩ : ∃ b, b = wr.heap.size := ⟨_, rfl⟩
        have S1 := hide (hs.below (by rw [hw1]; exact (Below.refl _ _).alloc (Nat.le_refl _) _) : OfS v w1 p q G1 ⟨m, r⟩)
        have R1 : Hid (RowAt w1 b [.string ⟨xk.toArray⟩, .int .i64 xs, .int .i64 g0, .int .i64 g1', .int .i64 g2, .int .i64 g3, .int .i64 g4, .int .i64 g5, .int .i64 g6, .int .i64 g7]) := hide (by rw [hw1, hb]; exact row_new _ _ _)
        have hnb : ¬ (b = p ∨ G1 b) := fun h => by
          rw [hb] at h
          rcases h with h | h
          · have := hs.line.row.lt; omega
          · have := hs.line.st.lt _ h; omega
        have HNB := hide hnb
        have HW1 := hide hw1
        have HBB := hide hb
        clear hs hw1 hb hnb
        have CO := hide (fun u => Sp.over_any xs m u)
        go_upto_region 8 with (refine wpList_load_on rfl 38 (.tmp 22) rfl g (k * 10) rfl [.string ⟨xk.toArray⟩, .int .i64 xs, .int .i64 g0, .int .i64 g1', .int .i64 g2, .int .i64 g3, .int .i64 g4, .int .i64 g5, .int .i64 g6, .int .i64 g7] _ (unhide HRA) Try.underlying38 rfl (by kernel_rfl) ?_)
        rw [← unhide HBB]
        try change Code.wp _ _ _ _ (wr.alloc (.cells #[.string ⟨xk.toArray⟩, .int .i64 xs, .int .i64 g0, .int .i64 g1', .int .i64 g2, .int .i64 g3, .int .i64 g4, .int .i64 g5, .int .i64 g6, .int .i64 g7] 38))
        rw [← unhide HW1]
        clear HRA
        have k1 : w1.cell? ⟨b, 1, none⟩ = some (.int .i64 xs) := (unhide R1).cell 1 (by simp)
        go_upto_region 9 with fail
        refine (unhide CO _).mono ?_
        rintro e v' ⟨rfl, hw⟩
        rw [hw]
        clear hw v' CO k1
        cases hov : Sp.overI xs m with
        | true =>
          have HE := hide ((unhide HA).trans (setAll_over hov))
          have BB := hide (unhide S1).bel
          clear HA hov S1
          go_wp2_with fail
          go_ret2
          exact ⟨none, by rw [unhide HE]; rfl, unhide BB, fun h => (by rw [unhide HE] at h; cases h), fun _ => rfl⟩
        | false =>
          have CS := hide (set_any ((unhide S1).line.st.keep ((Moved.refl (fun _ => False) w1).drew) (fun _ f => f.elim)) (unhide HMM).most ⟨xk, xs, ⟨g0, g1', g2, g3, g4, g5, g6, g7⟩⟩ (unhide HXX).1 (unhide HXX).2)
          simp only [outV_eq] at CS
          obtain ⟨CL, hCL⟩ : ∃ CL : World → Prop, CL = fun u => Moved G1 w1 u := ⟨_, rfl⟩
          have un : ∀ u, CL u → Moved G1 w1 u := fun u k => by rw [hCL] at k; exact k
          have TO : Hid (∀ u, Moved G1 w1 u → CL u) := hide fun u k => by rw [hCL]; exact k
          have base : CL w1.drew := unhide TO _ ((Moved.refl _ _).drew)
          have q0 : ∀ u : SW CL, u.w.cell? ⟨p, 0, none⟩ = some (.pointer (some ⟨q, 0, none⟩)) := fun u => ((unhide S1).line.row.keep (un _ u.ok) (unhide S1).line.off).cell 0 (Nat.succ_pos _)
          have RB : Hid (∀ u, (∃ y : SW CL, u = y.w) → u.rangeAt b 0 [.string ⟨xk.toArray⟩, .int .i64 xs, .int .i64 g0, .int .i64 g1', .int .i64 g2, .int .i64 g3, .int .i64 g4, .int .i64 g5, .int .i64 g6, .int .i64 g7]) := hide (by rintro u ⟨y, rfl⟩; exact ((unhide R1).keep (un _ y.ok) (fun g => unhide HNB (.inr g))).range)
          have HOV := hide hov
          clear hCL un hov
          go_upto_region 10 with fail
          refine wp_region_chain (S := CL) [true, true, true, true, true, false, false] [false, false, false, false, false, true, true] (by kernel_rfl) (by kernel_rfl) (by kernel_rfl) base ?_
          apply Exists.intro
          apply And.intro
          · intro u
            have n0 : Nonempty (SK CL u.w) := ⟨⟨u, rfl⟩⟩
            simp only [pickM]
            repeat (go_big_quiet_step (fail))
            refine wpQuiet_load_onx rfl 38 (.tmp 8) rfl b 0 rfl [.string ⟨xk.toArray⟩, .int .i64 xs, .int .i64 g0, .int .i64 g1', .int .i64 g2, .int .i64 g3, .int .i64 g4, .int .i64 g5, .int .i64 g6, .int .i64 g7] _ (fun y ⟨q1, hq⟩ => by rw [hq]; exact unhide RB _ ⟨q1.s, rfl⟩) Try.underlying38 rfl (by kernel_rfl) ?_
            go_simp
            exact wpQuiet_nil rfl
          · simp only [pickZ]
            refine chain_call 37 #[.pointer (some ⟨q, 0, none⟩), .agg #[.string ⟨xk.toArray⟩, .int .i64 xs, .int .i64 g0, .int .i64 g1', .int .i64 g2, .int .i64 g3, .int .i64 g4, .int .i64 g5, .int .i64 g6, .int .i64 g7]] rfl (by simp [go_sem]) ?_
            refine (unhide CS).mono ?_
            rintro e w2 ⟨rfl, hd⟩
            have hd' : Did w1 w2 q G1 (setS SO r ⟨xk, xs, ⟨g0, g1', g2, g3, g4, g5, g6, g7⟩⟩).1 := Did.trans (fun _ f => .inl f) ((Moved.refl _ w1).drew) hd
            refine ⟨_, rfl, unhide TO _ (by obtain ⟨_, _, _, mm⟩ := hd'; exact mm), ?_⟩
            have S2 := hide ((unhide S1).did hd')
            have CL2 := hide (unhide TO w2 (by obtain ⟨_, _, _, mm⟩ := hd'; exact mm))
            have HM2 := hide (mild_set (unhide HMM) (x := ⟨xk, xs, ⟨g0, g1', g2, g3, g4, g5, g6, g7⟩⟩) (unhide HXX).1)
            clear hd hd' CS q0 base
            by_cases h0 : (setS SO r ⟨xk, xs, ⟨g0, g1', g2, g3, g4, g5, g6, g7⟩⟩).2 = 0
            · have HA2 := hide ((unhide HA).trans (setAll_set (unhide HOV) h0))
              rw [h0]
              clear HA h0
              go_simp
              refine chain_step (.int .i64 0) w2 rfl (by simp [go_sem]) (unhide CL2) ?_
              simp only [chainM]
              go_simp
              go_wp2_with fail
              exact ⟨⟨k + 1, _, rfl, by omega, unhide S2, unhide HM2, HA2⟩, by simp [intOf]; omega⟩
            · have HE := hide ((unhide HA).trans (setAll_no (unhide HOV) h0))
              have hz : ¬ (((setS SO r ⟨xk, xs, ⟨g0, g1', g2, g3, g4, g5, g6, g7⟩⟩).2 : Nat) : Int) = 0 := by omega
              have HZ := hide h0
              obtain ⟨ec, hec⟩ : ∃ ec : Int, ec = (((setS SO r ⟨xk, xs, ⟨g0, g1', g2, g3, g4, g5, g6, g7⟩⟩).2 : Nat) : Int) := ⟨_, rfl⟩
              rw [← hec] at hz ⊢
              have HEC := hide hec
              clear HA h0 hec
              go_simp
              refine chain_step (.int .i64 ec) w2 rfl (by simp [go_sem]) (unhide CL2) ?_
              simp only [chainM]
              go_simp
              go_wp2_with fail
              go_ret2
              obtain ⟨_, s2⟩ := unhide S2
              exact ⟨none, by rw [unhide HE, unhide HEC]; rfl, s2.bel, fun h => (by rw [unhide HE] at h; exact absurd h (unhide HZ)), fun _ => rfl⟩
      · have g1 : ¬ (k : Int) < (o.length : Int) := by omega
        have hke : k = o.length := by omega
        subst hke
        obtain ⟨G1, hs⟩ := unhide HS
        have HE : Hid (setAll m [] o = (r, 0)) := hide (by rw [unhide HA, List.drop_length]; rfl)
        have S1 := hide hs
        clear hs HS HA
        go_wp2_with fail
        go_ret2
        exact ⟨_, by rw [unhide HE]; rfl, (unhide S1).bel, fun _ => ⟨p, rfl, by rw [unhide HE]; exact (unhide S1).hl, by rw [unhide HE]; exact unhide HMM⟩, fun h => (by rw [unhide HE] at h; exact absurd rfl h)⟩
end Go.Proofs.Ytmgmkdkdpeljmaa

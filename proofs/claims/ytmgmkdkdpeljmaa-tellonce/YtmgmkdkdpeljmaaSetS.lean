/- What the store's Set does. Conditions: the window's key is no longer than a machine's texts, its numbers are int64's; the store has at most 32 windows. -/
import Derived.Test.YtmgmkdkdpeljmaaPutS
namespace Go.Proofs.Ytmgmkdkdpeljmaa
open Go.RowKit

theorem StIs.below {w w' : World} {p : Nat} {F : Nat → Prop} {l : List (Win AggV)} (h : StIs w p F l) (hb : Below w.heap.size w w') : StIs w' p F l := h.keep (Moved.of_below (F := fun _ => False) hb) (fun _ f => f.elim)
theorem RowAt.below {w w' : World} {B : Nat} {vs : List Value} (h : RowAt w B vs) (hb : Below w.heap.size w w') : RowAt w' B vs := h.keep (Moved.of_below (F := fun _ => False) hb) id
theorem Did.below {w v w' : World} {p : Nat} {F : Nat → Prop} {l : List (Win AggV)} (hb : Below w.heap.size w v) (h : Did v w' p F l) : Did w w' p F l := Did.trans (F := F) (fun _ f => .inl f) ((Moved.of_below (F := fun _ => False) hb).mono fun _ f => f.elim) h
theorem outV_range {w : World} {H : Nat} {x : Win AggV} (h : RowAt w H (outV x)) : w.rangeAt H 2 (cellsA x.agg) := fun j u hu => by
  have := h.range (2 + j) u (by rw [Nat.add_comm]; exact hu)
  rwa [Nat.zero_add] at this
theorem outV_c0 {w : World} {H : Nat} {x : Win AggV} (h : RowAt w H (outV x)) : w.cell? ⟨H, 0, none⟩ = some (.string ⟨x.key.toArray⟩) := h.cell 0 (Nat.succ_pos _)
theorem outV_c1 {w : World} {H : Nat} {x : Win AggV} (h : RowAt w H (outV x)) : w.cell? ⟨H, 1, none⟩ = some (.int .i64 x.start) := h.cell 1 (Nat.lt_of_sub_pos (Nat.succ_pos _))
theorem set_nil (x : Win AggV) (w : World) : Calls Try.prog 37 #[.pointer none, .agg (outV x).toArray] w fun e w' => e = .returned (.int .i64 2) ∧ Below w.heap.size w w' := by
  go_enter Try.func37, Try.ntmps37
  go_wp2
  go_ret
  exact ⟨rfl, (Below.refl _ _).alloc (Nat.le_refl _) _⟩
set_option maxRecDepth 100000 in
set_option maxHeartbeats 2000000 in
theorem set_any {w : World} {p : Nat} {F : Nat → Prop} {l : List (Win AggV)} (h : StIs w p F l) (hl : l.length ≤ 32) (x : Win AggV) (hx : x.agg.In) (hk : okk x.key x.start) :
    Calls Try.prog 37 #[.pointer (some ⟨p, 0, none⟩), .agg (outV x).toArray] w fun e w' => e = .returned (.int .i64 ((setS SO l x).2 : Int)) ∧ Did w w' p F (setS SO l x).1 := by
  obtain ⟨W, hW⟩ : ∃ W, W = w.alloc (.cells (outV x).toArray 38) := ⟨_, rfl⟩
  obtain ⟨H, hH⟩ : ∃ H, H = w.heap.size := ⟨_, rfl⟩
  have bW : Below w.heap.size w W := by rw [hW]; exact (Below.refl _ _).alloc (Nat.le_refl _) _
  have R0 : RowAt W H (outV x) := by rw [hW, hH]; exact row_new _ _ _
  have S0 := h.below bW
  have HW := hide hW
  have HH := hide hH
  have BW := hide bW
  have RR := hide R0.range
  clear hW hH bW h
  by_cases hr : (keyOk x.key && SO.isStart x.start && SO.ok x.agg) = true
  · have hr3 : keyOk x.key = true ∧ SO.isStart x.start = true ∧ SO.ok x.agg = true := by simpa [and_assoc] using hr
    have hks : x.key.length ≤ 281474976710656 := by have := of_decide_eq_true hr3.1; omega
    by_cases ho : (look l x.key x.start).isSome = true
    · have RS : Hid (setS SO l x = (l, 5)) := hide (by unfold setS; rw [if_pos hr3, if_pos ho])
      go_enter Try.func37, Try.ntmps37
      go_upto_region 1 with fail
      rw [← unhide HH]
      try change Code.wp _ _ _ _ (w.alloc (.cells (outV x).toArray 38))
      rw [← unhide HW]
      go_wp2_with (refine wpList_load_on rfl 38 (.tmp 3) rfl H 0 rfl (outV x) _ (unhide RR) Try.underlying38 rfl (by kernel_rfl) ?_)
      refine (sright_any x hx _).mono ?_
      rintro e v1 ⟨rfl, hb1⟩
      rw [hr]
      have S1 := S0.below hb1
      have R1 := R0.below hb1
      have B1 := hide ((unhide BW).trans (hb1.mono (unhide BW).size))
      have d0 := outV_c0 R1
      have d1 := outV_c1 R1
      clear hb1 S0 R0 RR
      go_wp2_with fail
      refine (get_any S1 hk).mono ?_
      rintro e v2 ⟨rfl, hb2⟩
      rw [ho]
      generalize (look l x.key x.start).getD zero = a
      obtain ⟨a0, a1, a2, a3, a4, a5, a6, a7⟩ := a
      obtain ⟨V, hV⟩ : ∃ V, V = v2.alloc (.cells #[.int .i64 a0, .int .i64 a1, .int .i64 a2, .int .i64 a3, .int .i64 a4, .int .i64 a5, .int .i64 a6, .int .i64 a7] 34) := ⟨_, rfl⟩
      have b3 : Below v1.heap.size v1 V := by rw [hV]; exact hb2.alloc hb2.size _
      have S3 := S1.below b3
      have R3 := R1.below b3
      have B3 := hide ((unhide B1).trans (b3.mono (unhide B1).size))
      have HV := hide hV
      simp only [aggV, cellsA, I]
      clear hb2 b3 hV d0 d1 S1 R1
      go_wp2_with fail
      go_ret
      rw [← unhide HV]
      exact ⟨by rw [unhide RS]; rfl, by rw [unhide RS]; exact Did.below (unhide B3) (Did.start S3 (Moved.refl _ _))⟩
    · have hn : look l x.key x.start = none := by cases e : look l x.key x.start with | none => rfl | some y => exact absurd (by rw [e]; rfl) ho
      replace ho := Bool.eq_false_iff.2 ho
      by_cases hf : 32 ≤ l.length
      · have RS : Hid (setS SO l x = (l, 6)) := hide (by unfold setS; rw [if_pos hr3, ho, if_neg (by simp), if_pos hf])
        clear hn
        go_enter Try.func37, Try.ntmps37
        go_upto_region 1 with fail
        rw [← unhide HH]
        try change Code.wp _ _ _ _ (w.alloc (.cells (outV x).toArray 38))
        rw [← unhide HW]
        go_wp2_with (refine wpList_load_on rfl 38 (.tmp 3) rfl H 0 rfl (outV x) _ (unhide RR) Try.underlying38 rfl (by kernel_rfl) ?_)
        refine (sright_any x hx _).mono ?_
        rintro e v1 ⟨rfl, hb1⟩
        rw [hr]
        have S1 := S0.below hb1
        have R1 := R0.below hb1
        have B1 := hide ((unhide BW).trans (hb1.mono (unhide BW).size))
        have d0 := outV_c0 R1
        have d1 := outV_c1 R1
        clear hb1 S0 R0 RR
        go_wp2_with fail
        refine (get_any S1 hk).mono ?_
        rintro e v2 ⟨rfl, hb2⟩
        rw [ho]
        generalize (look l x.key x.start).getD zero = a
        obtain ⟨a0, a1, a2, a3, a4, a5, a6, a7⟩ := a
        obtain ⟨V, hV⟩ : ∃ V, V = v2.alloc (.cells #[.int .i64 a0, .int .i64 a1, .int .i64 a2, .int .i64 a3, .int .i64 a4, .int .i64 a5, .int .i64 a6, .int .i64 a7] 34) := ⟨_, rfl⟩
        have b3 : Below v1.heap.size v1 V := by rw [hV]; exact hb2.alloc hb2.size _
        have S3 := S1.below b3
        have R3 := R1.below b3
        have B3 := hide ((unhide B1).trans (b3.mono (unhide B1).size))
        have HV := hide hV
        simp only [aggV, cellsA, I]
        clear hb2 b3 hV d0 d1 S1 R1
        go_wp2_with fail
        rw [← unhide HV]
        refine (full_any S3).mono ?_
        rintro e w' ⟨rfl, hw⟩
        rw [hw, decide_eq_true hf]
        go_wp2_with fail
        go_ret
        exact ⟨by rw [unhide RS]; rfl, by rw [unhide RS]; exact Did.below (unhide B3) (Did.start S3 (Moved.refl _ _))⟩
      · have RS : Hid (setS SO l x = (ins x l, 0)) := hide (by unfold setS; rw [if_pos hr3, ho, if_neg (by simp), if_neg hf])
        clear hn
        go_enter Try.func37, Try.ntmps37
        go_upto_region 1 with fail
        rw [← unhide HH]
        try change Code.wp _ _ _ _ (w.alloc (.cells (outV x).toArray 38))
        rw [← unhide HW]
        go_wp2_with (refine wpList_load_on rfl 38 (.tmp 3) rfl H 0 rfl (outV x) _ (unhide RR) Try.underlying38 rfl (by kernel_rfl) ?_)
        refine (sright_any x hx _).mono ?_
        rintro e v1 ⟨rfl, hb1⟩
        rw [hr]
        have S1 := S0.below hb1
        have R1 := R0.below hb1
        have B1 := hide ((unhide BW).trans (hb1.mono (unhide BW).size))
        have d0 := outV_c0 R1
        have d1 := outV_c1 R1
        clear hb1 S0 R0 RR
        go_wp2_with fail
        refine (get_any S1 hk).mono ?_
        rintro e v2 ⟨rfl, hb2⟩
        rw [ho]
        generalize (look l x.key x.start).getD zero = a
        obtain ⟨a0, a1, a2, a3, a4, a5, a6, a7⟩ := a
        obtain ⟨V, hV⟩ : ∃ V, V = v2.alloc (.cells #[.int .i64 a0, .int .i64 a1, .int .i64 a2, .int .i64 a3, .int .i64 a4, .int .i64 a5, .int .i64 a6, .int .i64 a7] 34) := ⟨_, rfl⟩
        have b3 : Below v1.heap.size v1 V := by rw [hV]; exact hb2.alloc hb2.size _
        have S3 := S1.below b3
        have R3 := R1.below b3
        have B3 := hide ((unhide B1).trans (b3.mono (unhide B1).size))
        have HV := hide hV
        simp only [aggV, cellsA, I]
        clear hb2 b3 hV d0 d1 S1 R1
        go_wp2_with fail
        rw [← unhide HV]
        refine (full_any S3).mono ?_
        rintro e w' ⟨rfl, hw⟩
        rw [hw, decide_eq_false hf]
        have d0 := outV_c0 R3
        have d1 := outV_c1 R3
        have RR3 := hide (outV_range R3)
        go_wp2_with (refine wpList_load_on rfl 34 (.tmp 30) rfl H 2 rfl (cellsA x.agg) _ (unhide RR3) Try.underlying34 rfl (by kernel_rfl) ?_)
        refine (keep_any S3 (by omega) x hk hks).mono ?_
        rintro e w9 ⟨rfl, hd⟩
        have HD := hide hd
        clear hd
        go_wp2_with fail
        go_ret
        exact ⟨by rw [unhide RS]; rfl, by rw [unhide RS]; exact Did.below (unhide B3) (unhide HD)⟩
  · have RS : Hid (setS SO l x = (l, 1)) := hide (by unfold setS; rw [if_neg (fun h3 => hr (by rw [h3.1, h3.2.1, h3.2.2]; rfl))])
    replace hr := Bool.eq_false_iff.2 hr
    go_enter Try.func37, Try.ntmps37
    go_upto_region 1 with fail
    rw [← unhide HH]
    try change Code.wp _ _ _ _ (w.alloc (.cells (outV x).toArray 38))
    rw [← unhide HW]
    go_wp2_with (refine wpList_load_on rfl 38 (.tmp 3) rfl H 0 rfl (outV x) _ (unhide RR) Try.underlying38 rfl (by kernel_rfl) ?_)
    refine (sright_any x hx _).mono ?_
    rintro e v1 ⟨rfl, hb1⟩
    rw [hr]
    have FI := hide (Did.below (unhide BW) (Did.start S0 (Moved.of_below hb1)))
    clear hb1
    go_wp2_with fail
    go_ret
    exact ⟨by rw [unhide RS]; rfl, by rw [unhide RS]; exact unhide FI⟩
end Go.Proofs.Ytmgmkdkdpeljmaa

/- SeenRows's walk. No conditions. -/
import Derived.Test.YtoofaldblldncabSames
namespace Go.Proofs.Ytoofaldblldncab
open Go.RowKit

/-- A variable's own block. -/
def hVal (P : Nat) (vs : List Value) : Held := ⟨fun k => k = P, fun v => RowAt v P vs, fun _ h k e => by rw [e]; exact h.lt, fun v v' h hz hk => by
  have hp := hk P rfl
  exact ⟨Nat.lt_of_lt_of_le h.lt hz, fun i hi => (World.cell?_of_block (w := v) hp).trans (h.cell i hi), fun i hi => (World.frozen?_of_block (w := v) hp).trans (h.free i hi)⟩⟩
section
variable {w0 v : World} {P : Nat} {vs : List Value} {R : List Held}
theorem HR.val (h : HR w0 v R) (m : hVal P vs ∈ R) : RowAt v P vs := h.ok _ m
theorem HR.made (h : HR w0 v R) (vs : List Value) (ty : TypeId) : HR w0 (v.alloc (.cells vs.toArray ty)) (hVal v.heap.size vs :: R) :=
  h.add ((Below.refl _ v).alloc (Nat.le_refl _) _) (row_new v vs ty) (fun k e => by have : k = v.heap.size := e; omega)
end
theorem act_cells {v : World} {X : Nat} {xa : Bool} {xs xq xl xc : Int} (h : RowAt v X (actC ⟨xa, xs, xq, xl, xc⟩)) : v.cell? ⟨X, 0, none⟩ = some (.bool xa) ∧ v.cell? ⟨X, 1, none⟩ = some (.int .i64 xs) ∧ v.cell? ⟨X, 2, none⟩ = some (.int .i64 xq) ∧ v.cell? ⟨X, 3, none⟩ = some (.int .i64 xl) ∧ v.cell? ⟨X, 4, none⟩ = some (.int .i64 xc) :=
  ⟨h.cell 0 (by simp [actC]), h.cell 1 (by simp [actC]), h.cell 2 (by simp [actC]), h.cell 3 (by simp [actC]), h.cell 4 (by simp [actC])⟩
set_option maxRecDepth 100000 in
set_option maxHeartbeats 4000000 in
theorem rowsw_wakes (a1 : Option Addr) (cap1 : Nat) (z1 : List ActV) (xa : Bool) (xs xq xl xc : Int) (ya : Bool) (ys yq yl yc : Int) (w : World) (hc : ¬ z1.length ≤ 300 ∨ xs = ys) :
    Calls Try.prog 3 #[.slice a1 z1.length cap1, .agg #[.bool xa, .int .i64 xs, .int .i64 xq, .int .i64 xl, .int .i64 xc], .agg #[.bool ya, .int .i64 ys, .int .i64 yq, .int .i64 yl, .int .i64 yc]] w fun e w' => e = .returned (.bool true) ∧ Below w.heap.size w w' := by
  by_cases hn1 : z1.length ≤ 300
  · have g1 : ¬ (300 : Int) < (z1.length : Int) := by omega
    rcases hc with hc | hc
    · exact absurd hn1 hc
    · subst hc
      obtain ⟨W, hW⟩ : ∃ W, W = ((w.alloc (.cells #[.bool xa, .int .i64 xs, .int .i64 xq, .int .i64 xl, .int .i64 xc] 24)).alloc (.cells #[.bool ya, .int .i64 xs, .int .i64 yq, .int .i64 yl, .int .i64 yc] 24)) := ⟨_, rfl⟩
      obtain ⟨H, hH⟩ : ∃ H, H = w.heap.size := ⟨_, rfl⟩
      have h0 : HR w W (hVal (H + 1) (actC ⟨ya, xs, yq, yl, yc⟩) :: hVal H (actC ⟨xa, xs, xq, xl, xc⟩) :: []) := by
        have h := ((HR.start w).made (actC ⟨xa, xs, xq, xl, xc⟩) 24).made (actC ⟨ya, xs, yq, yl, yc⟩) 24
        rw [World.size_alloc] at h
        rw [hW, hH]; exact h
      obtain ⟨c0, c1, c2, c3, c4⟩ := act_cells (h0.val (P := H) (List.mem_cons_of_mem _ List.mem_cons_self))
      obtain ⟨d0, d1, d2, d3, d4⟩ := act_cells (h0.val (P := H + 1) List.mem_cons_self)
      have H0 := hide h0
      have HW := hide hW
      have HH := hide hH
      clear hW hH h0
      go_enter Try.func3, Try.ntmps3
      go_upto_region 1 with fail
      rw [← unhide HH]
      rw [← unhide HW]
      go_wp2_with fail
      refine (wakes_any W).mono ?_
      rintro e w' ⟨rfl, hb⟩
      have HB := hide ((unhide H0).below hb).bel
      clear hb
      go_wp2_with fail
      go_ret
      exact ⟨rfl, unhide HB⟩
  · have g1 : (300 : Int) < (z1.length : Int) := by omega
    clear hc
    obtain ⟨W, hW⟩ : ∃ W, W = ((w.alloc (.cells #[.bool xa, .int .i64 xs, .int .i64 xq, .int .i64 xl, .int .i64 xc] 24)).alloc (.cells #[.bool ya, .int .i64 ys, .int .i64 yq, .int .i64 yl, .int .i64 yc] 24)) := ⟨_, rfl⟩
    obtain ⟨H, hH⟩ : ∃ H, H = w.heap.size := ⟨_, rfl⟩
    have h0 : HR w W (hVal (H + 1) (actC ⟨ya, ys, yq, yl, yc⟩) :: hVal H (actC ⟨xa, xs, xq, xl, xc⟩) :: []) := by
      have h := ((HR.start w).made (actC ⟨xa, xs, xq, xl, xc⟩) 24).made (actC ⟨ya, ys, yq, yl, yc⟩) 24
      rw [World.size_alloc] at h
      rw [hW, hH]; exact h
    obtain ⟨c0, c1, c2, c3, c4⟩ := act_cells (h0.val (P := H) (List.mem_cons_of_mem _ List.mem_cons_self))
    obtain ⟨d0, d1, d2, d3, d4⟩ := act_cells (h0.val (P := H + 1) List.mem_cons_self)
    have H0 := hide h0
    have HW := hide hW
    have HH := hide hH
    clear hW hH h0
    go_enter Try.func3, Try.ntmps3
    go_upto_region 1 with fail
    rw [← unhide HH]
    rw [← unhide HW]
    clear c0 c1 c2 c3 c4 d0 d1 d2 d3 d4
    go_wp2_with fail
    refine (wakes_any W).mono ?_
    rintro e w' ⟨rfl, hb⟩
    have HB := hide ((unhide H0).below hb).bel
    clear hb
    go_wp2_with fail
    go_ret
    exact ⟨rfl, unhide HB⟩
set_option maxRecDepth 100000 in
set_option maxHeartbeats 4000000 in
theorem rowsw_small (a1 : Option Addr) (cap1 : Nat) (z1 : List ActV) (xa : Bool) (xs xq xl xc : Int) (ya : Bool) (ys yq yl yc : Int) (w : World) (hA1 : ActK.At w a1 z1) (hn1 : z1.length ≤ 300) (hne : ¬ xs = ys) :
    Calls Try.prog 3 #[.slice a1 z1.length cap1, .agg #[.bool xa, .int .i64 xs, .int .i64 xq, .int .i64 xl, .int .i64 xc], .agg #[.bool ya, .int .i64 ys, .int .i64 yq, .int .i64 yl, .int .i64 yc]] w fun e w' => e = .returned (.bool true) ∧ Below w.heap.size w w' := by
  have g1 : ¬ (300 : Int) < (z1.length : Int) := by omega
  have HA1 := hide hA1
  have HN1 : Hid (z1.length ≤ 1000) := hide (by omega)
  have e1 : (xs == ys) = false := beq_eq_false_iff_ne.2 hne
  have e2 : decide (xs = ys) = false := decide_eq_false hne
  have SW1 := hide (fun T => note_swap T (a := ⟨xa, xs, xq, xl, xc⟩) (b := ⟨ya, ys, yq, yl, yc⟩) hne)
  have SW2 := hide (fun T => note_swap T (a := ⟨ya, ys, yq, yl, yc⟩) (b := ⟨xa, xs, xq, xl, xc⟩) (fun e => hne e.symm))
  clear hA1 hne
  obtain ⟨W, hW⟩ : ∃ W, W = ((w.alloc (.cells #[.bool xa, .int .i64 xs, .int .i64 xq, .int .i64 xl, .int .i64 xc] 24)).alloc (.cells #[.bool ya, .int .i64 ys, .int .i64 yq, .int .i64 yl, .int .i64 yc] 24)) := ⟨_, rfl⟩
  obtain ⟨H, hH⟩ : ∃ H, H = w.heap.size := ⟨_, rfl⟩
  have h0 : HR w W (hVal (H + 1) (actC ⟨ya, ys, yq, yl, yc⟩) :: hVal H (actC ⟨xa, xs, xq, xl, xc⟩) :: []) := by
    have h := ((HR.start w).made (actC ⟨xa, xs, xq, xl, xc⟩) 24).made (actC ⟨ya, ys, yq, yl, yc⟩) 24
    rw [World.size_alloc] at h
    rw [hW, hH]; exact h
  obtain ⟨c0, c1, c2, c3, c4⟩ := act_cells (h0.val (P := H) (List.mem_cons_of_mem _ List.mem_cons_self))
  obtain ⟨d0, d1, d2, d3, d4⟩ := act_cells (h0.val (P := H + 1) List.mem_cons_self)
  have H0 := hide h0
  have HW := hide hW
  have HH := hide hH
  clear hW hH h0
  go_enter Try.func3, Try.ntmps3
  go_upto_region 1 with fail
  rw [← unhide HH]
  rw [← unhide HW]
  clear HW HH
  go_upto_region 3 with fail
  clear e1 e2 c0 c1 c2 c3 c4 d0 d1 d2 d3 d4
  go_wp2_with fail
  refine ((unhide H0).new).mono ?_
  rintro e w1 ⟨s, F1, rfl, hr⟩
  have H1 := hide hr
  clear hr H0
  go_wp2_with fail
  refine (plays_any (unhide H1) new_ok (unhide HA1) (unhide HN1) (-1)).mono ?_
  rintro e w2 ⟨rfl, F2, hr⟩
  obtain ⟨S, hS⟩ : ∃ S, S = plays new_ z1 (-1) := ⟨_, rfl⟩
  rw [← hS] at hr
  have OS : Hid S.Ok := hide (by rw [hS]; exact plays_ok new_ok _ _)
  have SW := hide (And.intro (unhide SW1 S) (unhide SW2 S))
  have H2 := hide hr
  clear hr hS H1 HA1 HN1 SW1 SW2
  go_wp2_with fail
  refine ((unhide H2).twin List.mem_cons_self).mono ?_
  rintro e w3 ⟨t, F3, rfl, hr⟩
  have H3 : Hid (HR w w3 (hTab s F2 S :: hTab t F3 S :: hVal (H + 1) (actC ⟨ya, ys, yq, yl, yc⟩) :: hVal H (actC ⟨xa, xs, xq, xl, xc⟩) :: [])) := hide hr.swap
  obtain ⟨c0, c1, c2, c3, c4⟩ := act_cells (hr.val (P := H) (List.mem_cons_of_mem _ (List.mem_cons_of_mem _ (List.mem_cons_of_mem _ List.mem_cons_self))))
  clear hr H2
  go_wp2_with fail
  refine ((unhide H3).note (unhide OS) xs xq xl xc).mono ?_
  rintro e w4 ⟨rfl, F4, hr⟩
  obtain ⟨A, hA⟩ : ∃ A, A = note S xs xq xl xc := ⟨_, rfl⟩
  have OA : Hid A.Ok := hide (by rw [hA]; exact note_ok (unhide OS) _ _ _ _)
  have SA : Hid (noteE A ys yq yl yc = noteE S ys yq yl yc ∧ note A ys yq yl yc = noteA (noteA S ⟨ya, ys, yq, yl, yc⟩) ⟨xa, xs, xq, xl, xc⟩) := hide (by rw [hA]; exact (unhide SW).1)
  rw [← hA] at hr
  have H4 := hide hr
  clear c0 c1 c2 c3 c4
  obtain ⟨d0, d1, d2, d3, d4⟩ := act_cells (hr.val (P := H + 1) (List.mem_cons_of_mem _ (List.mem_cons_of_mem _ List.mem_cons_self)))
  clear hr H3 hA
  go_wp2_with fail
  refine ((unhide H4).note (unhide OA) ys yq yl yc).mono ?_
  rintro e w5 ⟨rfl, F5, hr⟩
  rw [(unhide SA).1]
  rw [(unhide SA).2] at hr
  obtain ⟨C, hC⟩ : ∃ C, C = noteA (noteA S ⟨ya, ys, yq, yl, yc⟩) ⟨xa, xs, xq, xl, xc⟩ := ⟨_, rfl⟩
  rw [← hC] at hr
  have H5 : Hid (HR w w5 (hTab t F3 S :: hTab s F5 C :: hVal (H + 1) (actC ⟨ya, ys, yq, yl, yc⟩) :: hVal H (actC ⟨xa, xs, xq, xl, xc⟩) :: [])) := hide hr.swap
  have HC := hide hC
  clear d0 d1 d2 d3 d4
  obtain ⟨d0, d1, d2, d3, d4⟩ := act_cells (hr.val (P := H + 1) (List.mem_cons_of_mem _ (List.mem_cons_of_mem _ List.mem_cons_self)))
  clear hr H4 SA OA hC
  go_wp2_with fail
  refine ((unhide H5).note (unhide OS) ys yq yl yc).mono ?_
  rintro e w6 ⟨rfl, F6, hr⟩
  obtain ⟨B, hB⟩ : ∃ B, B = note S ys yq yl yc := ⟨_, rfl⟩
  have OB : Hid B.Ok := hide (by rw [hB]; exact note_ok (unhide OS) _ _ _ _)
  have SB : Hid (noteE B xs xq xl xc = noteE S xs xq xl xc ∧ note B xs xq xl xc = C) := hide ⟨by rw [hB]; exact (unhide SW).2.1, by rw [hB, unhide HC]; rfl⟩
  have OC : Hid C.Ok := hide (by rw [← (unhide SB).2]; exact note_ok (unhide OB) _ _ _ _)
  rw [← hB] at hr
  have H6 := hide hr
  clear d0 d1 d2 d3 d4
  obtain ⟨c0, c1, c2, c3, c4⟩ := act_cells (hr.val (P := H) (List.mem_cons_of_mem _ (List.mem_cons_of_mem _ (List.mem_cons_of_mem _ List.mem_cons_self))))
  clear hr H5 hB HC
  go_wp2_with fail
  refine ((unhide H6).note (unhide OB) xs xq xl xc).mono ?_
  rintro e w7 ⟨rfl, F7, hr⟩
  rw [(unhide SB).1]
  rw [(unhide SB).2] at hr
  have H7 := hide hr
  clear hr H6 SB OB SW c0 c1 c2 c3 c4
  generalize noteE S xs xq xl xc = n1
  generalize noteE S ys yq yl yc = n2
  go_wp2_with fail
  refine ((unhide H7).all (List.mem_cons_of_mem _ List.mem_cons_self) (unhide OC)).mono ?_
  rintro e w8 ⟨a8, c8, rfl, hr⟩
  have H8 := hide hr
  clear hr H7
  go_wp2_with fail
  refine ((unhide H8).all (List.mem_cons_of_mem _ List.mem_cons_self) (unhide OC)).mono ?_
  rintro e w9 ⟨a9, c9, rfl, hr⟩
  have H9 := hide hr
  clear hr H8
  have SM := hide (same_any (c := c8) (d := c9) ((unhide H9).row (List.mem_cons_of_mem _ List.mem_cons_self) : EntK.At w9 a8 (all C)) ((unhide H9).row List.mem_cons_self : EntK.At w9 a9 (all C)) (by have := all_length (unhide OC); omega))
  go_wp2_with fail
  refine (unhide SM).mono ?_
  rintro e w10 ⟨rfl, hb⟩
  rw [sameL_iff.2 rfl]
  have H10 := hide ((unhide H9).below hb)
  clear hb H9 SM
  go_wp2_with fail
  refine (wakes_any w10).mono ?_
  rintro e w' ⟨rfl, hb⟩
  have HB := hide ((unhide H10).below hb).bel
  clear hb H10
  go_wp2_with fail
  go_ret
  exact ⟨rfl, unhide HB⟩
theorem rowsw_any (a1 : Option Addr) (cap1 : Nat) (z1 : List ActV) (x y : ActV) (w : World) (_m1 : z1.length ≤ maxLen) (hA1 : ActK.At w a1 z1) (_i1 : ∀ b ∈ z1, b.In) (_hx : x.In) (_hy : y.In) :
    Calls Try.prog 3 #[.slice a1 z1.length cap1, .agg (actC x).toArray, .agg (actC y).toArray] w fun e w' => e = .returned (.bool true) ∧ Below w.heap.size w w' := by
  obtain ⟨xa, xs, xq, xl, xc⟩ := x
  obtain ⟨ya, ys, yq, yl, yc⟩ := y
  by_cases hn1 : z1.length ≤ 300
  · by_cases hne : xs = ys
    · exact rowsw_wakes a1 cap1 z1 xa xs xq xl xc ya ys yq yl yc w (.inr hne)
    · exact rowsw_small a1 cap1 z1 xa xs xq xl xc ya ys yq yl yc w hA1 hn1 hne
  · exact rowsw_wakes a1 cap1 z1 xa xs xq xl xc ya ys yq yl yc w (.inl hn1)
end Go.Proofs.Ytoofaldblldncab

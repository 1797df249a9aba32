/- What the store's Put and Set do. Conditions: keys are no longer than a machine's texts; numbers are int64's; the store has at most 1000 windows. -/
import Derived.Test.YtmgmkdkdpeljmaaKeep
import Derived.Test.YtmgmkdkdpeljmaaRight
import Derived.Test.YtmgmkdkdpeljmaaPut
import Derived.Test.YtmgmkdkdpeljmaaLoads
namespace Go.Proofs.Ytmgmkdkdpeljmaa
open Go.RowKit

/-- What this store leans on. -/
def SO : Ops AggV := ⟨zero, put, fun a => right a && decide (1 ≤ a.count), Sp.rightI, Sp.startI, fun s => decide (0 ≤ Sp.endI s), Sp.overI⟩
theorem startI_i64 {x : Int} (h : Sp.rightI x = true) : 0 ≤ Sp.startI x ∧ Sp.startI x ≤ 1099511627776 := by
  have h' := Sp.rightI_iff.1 h
  rw [Sp.startI_right h']
  omega
theorem outV_eq (x : Win AggV) : outV x = [.string ⟨x.key.toArray⟩, .int .i64 x.start, .int .i64 x.agg.count, .int .i64 x.agg.sum, .int .i64 x.agg.mn, .int .i64 x.agg.mx, .int .i64 x.agg.h0, .int .i64 x.agg.h1, .int .i64 x.agg.h2, .int .i64 x.agg.h3] := rfl
/-- May a window be set? -/
theorem sright_any (x : Win AggV) (hx : x.agg.In) (w : World) : Calls Try.prog 58 #[.agg (outV x).toArray] w fun e w' => e = .returned (.bool (keyOk x.key && SO.isStart x.start && SO.ok x.agg)) ∧ Below w.heap.size w w' := by
  obtain ⟨W, hW⟩ : ∃ W, W = w.alloc (.cells (outV x).toArray 38) := ⟨_, rfl⟩
  obtain ⟨H, hH⟩ : ∃ H, H = w.heap.size := ⟨_, rfl⟩
  have bW : Below w.heap.size w W := by rw [hW]; exact (Below.refl _ _).alloc (Nat.le_refl _) _
  have hsz : W.heap.size = H + 1 := by rw [hW, hH]; simp
  have R0 : RowAt W H (outV x) := by rw [hW, hH]; exact row_new _ _ _
  have c0 : W.cell? ⟨H, 0, none⟩ = some (.string ⟨x.key.toArray⟩) := R0.cell 0 (Nat.succ_pos _)
  have c1 : W.cell? ⟨H, 1, none⟩ = some (.int .i64 x.start) := R0.cell 1 (Nat.lt_of_sub_pos (Nat.succ_pos _))
  have c2 : Hid (W.rangeAt H 2 (cellsA x.agg)) := hide fun j u hu => by
    have := R0.range (2 + j) u (by rw [Nat.add_comm]; exact hu)
    rwa [Nat.zero_add] at this
  have HW := hide hW
  have HH := hide hH
  have BW := hide bW
  have CE := hide (fun v => Sp.end_any x.start v)
  have CK := hide (fun v => key_any x.key v)
  clear hW hH bW hsz
  have c3' : W.cell? ⟨H, 2, none⟩ = some (.int .i64 x.agg.count) := R0.cell 2 (Nat.lt_of_sub_pos (Nat.succ_pos _))
  have C3 := hide c3'
  clear c3'
  by_cases hk : keyOk x.key = true
  · by_cases he : 0 ≤ Sp.endI x.start
    · by_cases hr : right x.agg = true
      · have RS : Hid ((keyOk x.key && SO.isStart x.start && SO.ok x.agg) = decide (1 ≤ x.agg.count)) := hide (by simp [SO, hk, he, hr])
        have CK2 := hide (fun v => (unhide CK v).mono (fun e w' (h : e = .returned (.bool (keyOk x.key)) ∧ w' = v) => (by rw [hk] at h; exact h : e = .returned (.bool true) ∧ w' = v)))
        clear CK hk
        go_enter Try.func58, Try.ntmps58
        go_upto_region 1 with fail
        rw [← unhide HH]
        try change Code.wp _ _ _ _ (w.alloc (.cells (outV x).toArray 38))
        rw [← unhide HW]
        go_wp2_with (first | (go_at_call 44; refine (unhide CK2 _).mono ?_; rintro e w' ⟨rfl, hw⟩; rw [hw]) | (go_at_call 57; refine (unhide CE _).mono ?_; rintro e w' ⟨rfl, hw⟩; rw [hw]) | (refine wpList_load_on rfl 34 (.tmp 13) rfl H 2 rfl (cellsA x.agg) _ (unhide c2) Try.underlying34 rfl (by kernel_rfl) ?_) | (go_at_call 73; refine (right_any x.agg _ hx).mono ?_; rintro e v2 ⟨rfl, hb⟩; have c3 : v2.cell? ⟨H, 2, none⟩ = some (.int .i64 x.agg.count) := (hb.cell (p := ⟨H, 2, none⟩) R0.lt).trans (unhide C3); have FI := hide ((unhide BW).trans (hb.mono (unhide BW).size)); rw [hr]; clear hb))
        go_ret
        exact ⟨by rw [unhide RS]; rfl, unhide FI⟩
      · replace hr := Bool.eq_false_iff.2 hr
        have RS : Hid ((keyOk x.key && SO.isStart x.start && SO.ok x.agg) = false) := hide (by simp [SO, hr])
        have CK2 := hide (fun v => (unhide CK v).mono (fun e w' (h : e = .returned (.bool (keyOk x.key)) ∧ w' = v) => (by rw [hk] at h; exact h : e = .returned (.bool true) ∧ w' = v)))
        clear CK hk
        go_enter Try.func58, Try.ntmps58
        go_upto_region 1 with fail
        rw [← unhide HH]
        try change Code.wp _ _ _ _ (w.alloc (.cells (outV x).toArray 38))
        rw [← unhide HW]
        go_wp2_with (first | (go_at_call 44; refine (unhide CK2 _).mono ?_; rintro e w' ⟨rfl, hw⟩; rw [hw]) | (go_at_call 57; refine (unhide CE _).mono ?_; rintro e w' ⟨rfl, hw⟩; rw [hw]) | (refine wpList_load_on rfl 34 (.tmp 13) rfl H 2 rfl (cellsA x.agg) _ (unhide c2) Try.underlying34 rfl (by kernel_rfl) ?_) | (go_at_call 73; refine (right_any x.agg _ hx).mono ?_; rintro e v2 ⟨rfl, hb⟩; have c3 : v2.cell? ⟨H, 2, none⟩ = some (.int .i64 x.agg.count) := (hb.cell (p := ⟨H, 2, none⟩) R0.lt).trans (unhide C3); have FI := hide ((unhide BW).trans (hb.mono (unhide BW).size)); rw [hr]; clear hb))
        go_ret
        exact ⟨by rw [unhide RS]; rfl, unhide FI⟩
    · have RS : Hid ((keyOk x.key && SO.isStart x.start && SO.ok x.agg) = false) := hide (by simp [SO, he])
      have CK2 := hide (fun v => (unhide CK v).mono (fun e w' (h : e = .returned (.bool (keyOk x.key)) ∧ w' = v) => (by rw [hk] at h; exact h : e = .returned (.bool true) ∧ w' = v)))
      clear CK hk
      go_enter Try.func58, Try.ntmps58
      go_upto_region 1 with fail
      rw [← unhide HH]
      try change Code.wp _ _ _ _ (w.alloc (.cells (outV x).toArray 38))
      rw [← unhide HW]
      go_wp2_with (first | (go_at_call 44; refine (unhide CK2 _).mono ?_; rintro e w' ⟨rfl, hw⟩; rw [hw]) | (go_at_call 57; refine (unhide CE _).mono ?_; rintro e w' ⟨rfl, hw⟩; rw [hw]) | (refine wpList_load_on rfl 34 (.tmp 13) rfl H 2 rfl (cellsA x.agg) _ (unhide c2) Try.underlying34 rfl (by kernel_rfl) ?_) | (go_at_call 73; refine (right_any x.agg _ hx).mono ?_; rintro e v2 ⟨rfl, hb⟩; have c3 : v2.cell? ⟨H, 2, none⟩ = some (.int .i64 x.agg.count) := (hb.cell (p := ⟨H, 2, none⟩) R0.lt).trans (unhide C3); have FI := hide ((unhide BW).trans (hb.mono (unhide BW).size)); rw [hr]; clear hb))
      go_ret
      exact ⟨by rw [unhide RS]; rfl, unhide BW⟩
  · replace hk := Bool.eq_false_iff.2 hk
    have RS : Hid ((keyOk x.key && SO.isStart x.start && SO.ok x.agg) = false) := hide (by simp [hk])
    have CK2 := hide (fun v => (unhide CK v).mono (fun e w' (h : e = .returned (.bool (keyOk x.key)) ∧ w' = v) => (by rw [hk] at h; exact h : e = .returned (.bool false) ∧ w' = v)))
    clear CK hk
    go_enter Try.func58, Try.ntmps58
    go_upto_region 1 with fail
    rw [← unhide HH]
    try change Code.wp _ _ _ _ (w.alloc (.cells (outV x).toArray 38))
    rw [← unhide HW]
    go_wp2_with (first | (go_at_call 44; refine (unhide CK2 _).mono ?_; rintro e w' ⟨rfl, hw⟩; rw [hw]) | (go_at_call 57; refine (unhide CE _).mono ?_; rintro e w' ⟨rfl, hw⟩; rw [hw]) | (refine wpList_load_on rfl 34 (.tmp 13) rfl H 2 rfl (cellsA x.agg) _ (unhide c2) Try.underlying34 rfl (by kernel_rfl) ?_) | (go_at_call 73; refine (right_any x.agg _ hx).mono ?_; rintro e v2 ⟨rfl, hb⟩; have c3 : v2.cell? ⟨H, 2, none⟩ = some (.int .i64 x.agg.count) := (hb.cell (p := ⟨H, 2, none⟩) R0.lt).trans (unhide C3); have FI := hide ((unhide BW).trans (hb.mono (unhide BW).size)); rw [hr]; clear hb))
    go_ret
    exact ⟨by rw [unhide RS]; rfl, unhide BW⟩
end Go.Proofs.Ytmgmkdkdpeljmaa

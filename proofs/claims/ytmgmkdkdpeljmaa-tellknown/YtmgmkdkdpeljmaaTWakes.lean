/- The chapter's first example; a nil line; and what TellNobody does: it answers true, and nothing that was there has turned. No conditions. -/
import Derived.Test.YtmgmkdkdpeljmaaTHere
namespace Go.Proofs.Ytmgmkdkdpeljmaa
open Go.RowKit
def wt1 : List (Win AggV) := [⟨[97], 0, put zero 5⟩]
theorem wt_put : putL newL [97] 3 5 = (⟨0, wt1⟩, 1) := by kernel_rfl
theorem wt_mark1 : markL ⟨0, wt1⟩ 14 = (⟨14, wt1⟩, 1, []) := by kernel_rfl
theorem wt_mark2 : markL ⟨14, wt1⟩ 15 = (⟨15, []⟩, 1, wt1) := by kernel_rfl
theorem wt_late : putL ⟨15, []⟩ [97] 4 1 = (⟨15, []⟩, 2) := by kernel_rfl
theorem wt_mild : Mild wt1 := by
  have := mild_putL (L := newL) mild_nil (k := [97]) (a := 3) (n := 5) (by unfold i64; omega)
  rw [wt_put] at this; exact this
theorem tw_put {w v : World} {p : Nat} (h : HL w v p newL []) : Calls Try.prog 25 #[.pointer (some ⟨p, 0, none⟩), .string ⟨#[97]⟩, .int .i64 3, .int .i64 5] v fun e v' => e = .returned (.int .i64 1) ∧ HL w v' p ⟨0, wt1⟩ [] := by
  have := h.put mild_nil [97] 3 5 (by unfold i64; omega)
  rw [wt_put] at this; exact this
theorem tw_mark1 {w v : World} {p : Nat} (h : HL w v p ⟨0, wt1⟩ []) : Calls Try.prog 27 #[.pointer (some ⟨p, 0, none⟩), .int .i64 14] v fun e v' => ∃ a c, e = .returned (.tuple #[.int .i64 1, .slice a 0 c]) ∧ HL w v' p ⟨14, wt1⟩ [] := by
  have := h.mark wt_mild 14
  rw [wt_mark1] at this
  exact this.mono fun e v' ⟨a, c, h1, h2⟩ => ⟨a, c, h1, h2.drop (fun _ h => by cases h)⟩
theorem tw_mark2 {w v : World} {p : Nat} (h : HL w v p ⟨14, wt1⟩ []) : Calls Try.prog 27 #[.pointer (some ⟨p, 0, none⟩), .int .i64 15] v fun e v' => ∃ a c, e = .returned (.tuple #[.int .i64 1, .slice a 1 c]) ∧ HL w v' p ⟨15, []⟩ [(a, c, wt1)] := by
  have := h.mark wt_mild 15
  rw [wt_mark2] at this
  exact this
theorem tw_late {w v : World} {p : Nat} {R : List Held} (h : HL w v p ⟨15, []⟩ R) : Calls Try.prog 25 #[.pointer (some ⟨p, 0, none⟩), .string ⟨#[97]⟩, .int .i64 4, .int .i64 1] v fun e v' => e = .returned (.int .i64 2) ∧ HL w v' p ⟨15, []⟩ R := by
  have := h.put mild_nil [97] 4 1 (by unfold i64; omega)
  rw [wt_late] at this; exact this
theorem wt_row {w v : World} {p : Nat} {a : Option Addr} {c : Nat} (h : HL w v p ⟨15, []⟩ [(a, c, wt1)]) : ∃ g, a = some ⟨g, 0, none⟩ ∧ v.cell? ⟨g, 3, none⟩ = some (.int .i64 5) := by
  obtain ⟨g, hg, hr, _⟩ := held_at (h.row List.mem_cons_self) (j := 0) (x := ⟨[97], 0, put zero 5⟩) rfl
  exact ⟨g, hg, hr 3 _ rfl⟩
set_option maxRecDepth 100000 in
set_option maxHeartbeats 4000000 in
theorem twakes_any (w : World) : Calls Try.prog 21 #[] w fun e w' => e = .returned (.bool true) ∧ Below w.heap.size w w' := by
  have hw0 := hide (HL.new (Below.refl w.heap.size w))
  go_enter Try.func21, Try.ntmps21
  go_upto_region 2 with fail
  refine (unhide hw0).mono ?_
  rintro e v1 ⟨p0, rfl, HE⟩
  have H1 := hide HE
  clear HE hw0
  go_upto_region 3 with fail
  refine (tw_put (unhide H1)).mono ?_
  rintro e v2 ⟨rfl, HE⟩
  have H2 := hide HE
  clear HE H1
  go_upto_region 4 with fail
  refine (tw_mark1 (unhide H2)).mono ?_
  rintro e v3 ⟨a3, c3, rfl, HE⟩
  have H3 := hide HE
  clear HE H2
  go_upto_region 5 with fail
  refine (tw_mark2 (unhide H3)).mono ?_
  rintro e v4 ⟨a4, c4, rfl, HE⟩
  have H4 := hide HE
  clear HE H3
  go_upto_region 6 with fail
  refine (tw_late (unhide H4)).mono ?_
  rintro e v5 ⟨rfl, HE⟩
  obtain ⟨g, rfl, hc⟩ := wt_row HE
  have H5 := hide HE
  have HAT := hide HE.at_
  clear HE H4
  go_wp2_with fail
  refine (unhide HAT).mono ?_
  rintro e v' ⟨rfl, hw⟩
  rw [hw]
  clear hw v'
  go_wp2_with fail
  go_ret
  exact ⟨rfl, (unhide H5).bel⟩
theorem tput_nil (k : ByteArray) (a n : Int) (w : World) : Calls Try.prog 25 #[.pointer none, .string k, .int .i64 a, .int .i64 n] w fun e w' => e = .returned (.int .i64 4) ∧ w' = w := by
  go_enter Try.func25, Try.ntmps25
  go_wp2_with fail
  go_ret
  exact ⟨rfl, rfl⟩
theorem tmark_nil (a : Int) (w : World) : Calls Try.prog 27 #[.pointer none, .int .i64 a] w fun e w' => e = .returned (.tuple #[.int .i64 4, .slice none 0 0]) ∧ w' = w := by
  go_enter Try.func27, Try.ntmps27
  go_wp2_with fail
  go_ret2
  exact ⟨rfl, rfl⟩
theorem tat_nil (w : World) : Calls Try.prog 29 #[.pointer none] w fun e w' => e = .returned (.int .i64 0) ∧ w' = w := by
  go_enter Try.func29, Try.ntmps29
  go_wp2_with fail
  go_ret
  exact ⟨rfl, rfl⟩
theorem topen_nil (w : World) : Calls Try.prog 30 #[.pointer none] w fun e w' => e = .returned (.slice none 0 0) ∧ w' = w := by
  go_enter Try.func30, Try.ntmps30
  go_wp2_with fail
  go_ret
  exact ⟨rfl, rfl⟩
theorem ttwin_nil (w : World) : Calls Try.prog 31 #[.pointer none] w fun e w' => e = .returned (.pointer none) ∧ w' = w := by
  go_enter Try.func31, Try.ntmps31
  go_wp2_with fail
  go_ret
  exact ⟨rfl, rfl⟩
set_option maxRecDepth 100000 in
set_option maxHeartbeats 4000000 in
theorem tnobody_any (s : ByteArray) (a n : Int) (w : World) : Calls Try.prog 5 #[.string s, .int .i64 a, .int .i64 n] w fun e w' => e = .returned (.bool true) ∧ Below w.heap.size w w' := by
  have WK := hide twakes_any
  by_cases h1 : (100 : Int) < (s.size : Int)
  · go_enter Try.func5, Try.ntmps5
    go_wp2_with fail
    refine (unhide WK _).mono ?_
    rintro e v' ⟨rfl, hb⟩
    go_wp2_with fail
    go_ret
    exact ⟨rfl, hb⟩
  · go_enter Try.func5, Try.ntmps5
    go_wp2_with (first | (go_at_call 25; refine (tput_nil _ _ _ _).mono ?_; rintro e w' ⟨rfl, hw⟩; rw [hw]) | (go_at_call 27; refine (tmark_nil _ _).mono ?_; rintro e w' ⟨rfl, hw⟩; rw [hw]) | (go_at_call 29; refine (tat_nil _).mono ?_; rintro e w' ⟨rfl, hw⟩; rw [hw]) | (go_at_call 30; refine (topen_nil _).mono ?_; rintro e w' ⟨rfl, hw⟩; rw [hw]) | (go_at_call 31; refine (ttwin_nil _).mono ?_; rintro e w' ⟨rfl, hw⟩; rw [hw]) | (go_at_call 21; refine (unhide WK _).mono ?_; rintro e w' ⟨rfl, hb⟩; have B4 := hide hb; clear hb))
    go_ret
    exact ⟨rfl, unhide B4⟩
end Go.Proofs.Ytmgmkdkdpeljmaa

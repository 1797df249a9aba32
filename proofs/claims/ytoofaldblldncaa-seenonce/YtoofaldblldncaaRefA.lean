/- The document's own New and Ask. Condition: the table has at most 100000 entries. -/
import Derived.Test.YtoofaldblldncaaSames
import Derived.Test.YtoofaldblldncaaRefMath
namespace Go.Proofs.Ytoofaldblldncaa
open Go.RowKit

/-- The document's table, as a value. -/
def refC (low : Nat → Int) (a : Option Addr) (n c : Nat) : List Value := [.int .i64 (low 0), .int .i64 (low 1), .int .i64 (low 2), .int .i64 (low 3), .slice a n c]
theorem refC_low {w : World} {H : Nat} {low : Nat → Int} {a : Option Addr} {n c : Nat} (h : RowAt w H (refC low a n c)) {k : Nat} (hk : k < 4) : w.cell? ⟨H, k, none⟩ = some (.int .i64 (low k)) := by
  match k, hk with
  | 0, _ => exact h.cell 0 (by simp [refC])
  | 1, _ => exact h.cell 1 (by simp [refC])
  | 2, _ => exact h.cell 2 (by simp [refC])
  | 3, _ => exact h.cell 3 (by simp [refC])
theorem refC_list {w : World} {H : Nat} {low : Nat → Int} {a : Option Addr} {n c : Nat} (h : RowAt w H (refC low a n c)) : w.cell? ⟨H, 4, none⟩ = some (.slice a n c) := h.cell 4 (by simp [refC])
theorem rnew_any (w : World) : Calls Try.prog 28 #[] w fun e w' => e = .returned (.agg (refC (fun _ => 1) none 0 0).toArray) ∧ Below w.heap.size w w' := by
  have hr := (row_new w (refC (fun _ => 1) none 0 0) 34).range
  go_enter Try.func28, Try.ntmps28
  go_wp2_with fail
  refine bodyPost_ret (v := .agg (refC (fun _ => 1) none 0 0).toArray) ?_ rfl ⟨rfl, ?_⟩
  · exact results_cell_mid Try.results28 _ _ w.heap.size _ _ rfl hr Try.underlying34 rfl (by kernel_rfl)
  · exact (Below.refl _ w).alloc (Nat.le_refl _) _
theorem may_not {src seq low : Int} (h : may src seq low = false) : ¬ (0 ≤ src ∧ src < 4 ∧ 1 ≤ low ∧ low ≤ seq ∧ seq ≤ 1099511627776 ∧ seq < low + 16) := fun hc => by rw [may_iff.2 hc] at h; cases h
set_option maxRecDepth 100000 in
set_option maxHeartbeats 2000000 in
theorem rask_any {w : World} {low : Nat → Int} {a : Option Addr} {c : Nat} {l : List Ent} (h : RefK.At w a l) (hl : l.length ≤ 100000) (src seq lo : Int) (hq : seq ≤ 9223372036854775807) :
    Calls Try.prog 16 #[.agg (refC low a l.length c).toArray, .int .i64 src, .int .i64 seq, .int .i64 lo] w fun e w' => e = .returned (.tuple #[.int .i64 (rask ⟨low, l⟩ src seq lo).1, .int .i64 (rask ⟨low, l⟩ src seq lo).2]) ∧ Below w.heap.size w w' := by
  obtain ⟨W, hW⟩ : ∃ W, W = w.alloc (.cells (refC low a l.length c).toArray 34) := ⟨_, rfl⟩
  obtain ⟨H, hH⟩ : ∃ H, H = w.heap.size := ⟨_, rfl⟩
  have bW : Below w.heap.size w W := by rw [hW]; exact (Below.refl _ _).alloc (Nat.le_refl _) _
  have R0 : RowAt W H (refC low a l.length c) := by rw [hW, hH]; exact row_new _ _ _
  have HA := hide (h.below (Nat.le_refl _) bW)
  have FIN := hide bW
  have HW := hide hW
  have HH := hide hH
  have HL := hide hl
  have c4 := refC_list R0
  have HR := hide R0
  clear hW hH bW R0 h
  cases hm : may src seq lo with
  | false =>
    have HE : Hid (rask ⟨low, l⟩ src seq lo = (0, 0)) := hide (by unfold rask; rw [hm]; rfl)
    have hn := may_not hm
    clear hm
    by_cases h1 : src < 0
    · simp only [refC]
      go_enter Try.func16, Try.ntmps16
      go_upto_region 1 with fail
      rw [← unhide HH]
      try change Code.wp _ _ _ _ (w.alloc (.cells (refC low a l.length c).toArray 34))
      rw [← unhide HW]
      go_wp2_with fail
      go_ret2
      exact ⟨by rw [unhide HE]; rfl, unhide FIN⟩
    · have d1 : decide (src < 0) = false := decide_eq_false h1
      by_cases h2 : 3 < src
      · simp only [refC]
        go_enter Try.func16, Try.ntmps16
        go_upto_region 1 with fail
        rw [← unhide HH]
        try change Code.wp _ _ _ _ (w.alloc (.cells (refC low a l.length c).toArray 34))
        rw [← unhide HW]
        go_wp2_with fail
        go_ret2
        exact ⟨by rw [unhide HE]; rfl, unhide FIN⟩
      · have d2 : decide (3 < src) = false := decide_eq_false h2
        by_cases h3 : lo < 1
        · simp only [refC]
          go_enter Try.func16, Try.ntmps16
          go_upto_region 1 with fail
          rw [← unhide HH]
          try change Code.wp _ _ _ _ (w.alloc (.cells (refC low a l.length c).toArray 34))
          rw [← unhide HW]
          go_wp2_with fail
          go_ret2
          exact ⟨by rw [unhide HE]; rfl, unhide FIN⟩
        · have d3 : decide (lo < 1) = false := decide_eq_false h3
          by_cases h4 : seq < lo
          · simp only [refC]
            go_enter Try.func16, Try.ntmps16
            go_upto_region 1 with fail
            rw [← unhide HH]
            try change Code.wp _ _ _ _ (w.alloc (.cells (refC low a l.length c).toArray 34))
            rw [← unhide HW]
            go_wp2_with fail
            go_ret2
            exact ⟨by rw [unhide HE]; rfl, unhide FIN⟩
          · have d4 : decide (seq < lo) = false := decide_eq_false h4
            by_cases h5 : 1099511627776 < seq
            · have hw : IntKind.i64.wrap (seq - lo) = seq - lo := Go.IntWalk.i64_in _ (by omega)
              by_cases h7 : 15 < seq - lo
              · simp only [refC]
                go_enter Try.func16, Try.ntmps16
                go_upto_region 1 with fail
                rw [← unhide HH]
                try change Code.wp _ _ _ _ (w.alloc (.cells (refC low a l.length c).toArray 34))
                rw [← unhide HW]
                go_wp2_with fail
                go_ret2
                exact ⟨by rw [unhide HE]; rfl, unhide FIN⟩
              · have d7 : decide (15 < seq - lo) = false := decide_eq_false h7
                simp only [refC]
                go_enter Try.func16, Try.ntmps16
                go_upto_region 1 with fail
                rw [← unhide HH]
                try change Code.wp _ _ _ _ (w.alloc (.cells (refC low a l.length c).toArray 34))
                rw [← unhide HW]
                go_wp2_with fail
                go_ret2
                exact ⟨by rw [unhide HE]; rfl, unhide FIN⟩
            · have hw : IntKind.i64.wrap (seq - lo) = seq - lo := Go.IntWalk.i64_in _ (by omega)
              have h7 : 15 < seq - lo := by omega
              simp only [refC]
              go_enter Try.func16, Try.ntmps16
              go_upto_region 1 with fail
              rw [← unhide HH]
              try change Code.wp _ _ _ _ (w.alloc (.cells (refC low a l.length c).toArray 34))
              rw [← unhide HW]
              go_wp2_with fail
              go_ret2
              exact ⟨by rw [unhide HE]; rfl, unhide FIN⟩
  | true =>
    have hr := may_iff.1 hm
    obtain ⟨k, rfl⟩ : ∃ k : Nat, src = k := ⟨src.toNat, by omega⟩
    have hk : k < 4 := by omega
    have cl := refC_low (unhide HR) hk
    have HE : Hid (rask ⟨low, l⟩ (k : Int) seq lo = if seq < low k then ((1 : Int), (0 : Int)) else match rlook l (k : Int) seq with | some c => ((2 : Int), c) | none => (3, 0)) := hide (by
      unfold rask
      rw [hm, if_pos rfl]
      show (if seq < low (k : Int).toNat then _ else _) = _
      rw [Int.toNat_natCast]
      split
      · rfl
      · show (match rlook l (k : Int) seq with | some c => ((2 : Int), c) | none => (3, 0)) = _
        cases rlook l (k : Int) seq <;> rfl)
    have g0 : (0 : Int) ≤ (k : Int) := by omega
    have g1 : (k : Int) < 4 := by omega
    have n1 : ¬ (k : Int) < 0 := by omega
    have n2 : ¬ 3 < (k : Int) := by omega
    have n3 : ¬ lo < 1 := by omega
    have n4 : ¬ seq < lo := by omega
    have n5 : ¬ 15 < seq - lo := by omega
    have n6 : ¬ 1099511627776 < seq := by omega
    have d1 : decide ((k : Int) < 0) = false := decide_eq_false n1
    have d2 : decide (3 < (k : Int)) = false := decide_eq_false n2
    have d2' : decide (3 < k) = false := decide_eq_false (by omega)
    have d3 : decide (lo < 1) = false := decide_eq_false n3
    have d4 : decide (seq < lo) = false := decide_eq_false n4
    have d5 : decide (15 < seq - lo) = false := decide_eq_false n5
    have d6 : decide (1099511627776 < seq) = false := decide_eq_false n6
    have hw : IntKind.i64.wrap (seq - lo) = seq - lo := Go.IntWalk.i64_in _ (by omega)
    clear hm hr
    by_cases hlow : seq < low k
    · have HE2 : Hid (rask ⟨low, l⟩ (k : Int) seq lo = (1, 0)) := hide (by rw [unhide HE, if_pos hlow])
      simp only [refC]
      go_enter Try.func16, Try.ntmps16
      go_upto_region 1 with fail
      rw [← unhide HH]
      try change Code.wp _ _ _ _ (w.alloc (.cells (refC low a l.length c).toArray 34))
      rw [← unhide HW]
      go_wp2_with fail
      go_ret2
      exact ⟨by rw [unhide HE2]; rfl, unhide FIN⟩
    · have d7 : decide (seq < low k) = false := decide_eq_false hlow
      have HE2 : Hid (rask ⟨low, l⟩ (k : Int) seq lo = match rlook l (k : Int) seq with | some c => ((2 : Int), c) | none => (3, 0)) := hide (by rw [unhide HE, if_neg hlow])
      simp only [refC]
      go_enter Try.func16, Try.ntmps16
      go_upto_region 1 with fail
      rw [← unhide HH]
      try change Code.wp _ _ _ _ (w.alloc (.cells (refC low a l.length c).toArray 34))
      rw [← unhide HW]
      go_wp2_with fail
      go_loopw [10] (fun i wr => ∃ j : Nat, i = .int .i64 (j : Int) ∧ j ≤ l.length ∧ rlook l (k : Int) seq = rlook (l.drop j) (k : Int) seq ∧ wr = W) (fun i _ => l.length - (intOf i).toNat)
      case atStart => exact ⟨0, rfl, Nat.zero_le _, by rw [List.drop_zero], rfl⟩
      case round =>
        obtain ⟨j, rfl, hj, hlk, hwr⟩ := hrel
        rw [hwr]
        clear cl
        have HLK := hide hlk
        clear hlk hwr
        have hwj : IntKind.i64.wrap ((j : Int) + 1) = (j : Int) + 1 := Go.IntWalk.i64_in _ (by have := unhide HL; omega)
        have gj0 : (0 : Int) ≤ (j : Int) := by omega
        by_cases hlt : j < l.length
        · have gj : (j : Int) < (l.length : Int) := by omega
          obtain ⟨x, hx⟩ : ∃ x, l[j]? = some x := ⟨_, List.getElem?_eq_getElem hlt⟩
          obtain ⟨g, o, rfl, hg, hrg⟩ := (unhide HA).cell refK_law hx
          have x0 : W.cell? ⟨g, o + j * 3, none⟩ = some (.int .i64 x.src) := hrg 0 _ rfl
          have x1 : W.cell? ⟨g, o + j * 3 + 1, none⟩ = some (.int .i64 x.seq) := hrg 1 _ rfl
          have x2 : W.cell? ⟨g, o + j * 3 + 2, none⟩ = some (.int .i64 x.code) := hrg 2 _ rfl
          have hdr : l.drop j = x :: l.drop (j + 1) := by
            obtain ⟨hj', rfl⟩ := List.getElem?_eq_some_iff.1 hx
            exact List.drop_eq_getElem_cons hj'
          have HD := hide hdr
          clear hx hrg hg hdr
          by_cases e1 : x.src = (k : Int)
          · by_cases e2 : x.seq = seq
            · have HF : Hid (rask ⟨low, l⟩ (k : Int) seq lo = (2, x.code)) := hide (by rw [unhide HE2, unhide HLK, unhide HD, rlook, if_pos ⟨e1, e2⟩])
              obtain ⟨CL, hCL⟩ : ∃ CL : World → Prop, CL = fun v => Below W.heap.size W v := ⟨_, rfl⟩
              have un : ∀ v, CL v → Below W.heap.size W v := fun v k => by rw [hCL] at k; exact k
              have base : CL W.drew := by rw [hCL]; exact (Below.refl _ _).drew
              have q4 : ∀ q : SX CL, q.w.cell? ⟨H, 4, none⟩ = some (.slice (some ⟨g, o, none⟩) l.length c) := fun q => ((un _ q.ok).cell (p := ⟨H, 4, none⟩) (World.block_lt_of_cell? _ _ c4)).trans c4
              have q2 : ∀ q : SX CL, q.w.cell? ⟨g, o + j * 3 + 2, none⟩ = some (.int .i64 x.code) := fun q => ((un _ q.ok).cell (p := ⟨g, o + j * 3 + 2, none⟩) (World.block_lt_of_cell? _ _ x2)).trans x2
              have ne : Nonempty (SX CL) := ⟨⟨_, base⟩⟩
              have BS := hide base
              have UN := hide (fun v hv => (unhide FIN).trans ((un v hv).mono (unhide FIN).size))
              clear hCL base un
              go_upto_region 9 with fail
              refine wp_region_sx (St := CL) (by kernel_rfl) (by kernel_rfl) (unhide BS) ?_
              repeat (go_big_quiet_step (fail))
              refine wpQuiet_nil ?_
              first | (rintro v1 ⟨⟨v1', OK1⟩, e1⟩; subst e1) | rintro ⟨v1, OK1⟩
              try dsimp only
              have B1 := hide (unhide UN _ OK1)
              clear OK1 q4 q2
              go_wp2_with fail
              go_ret2
              exact ⟨by rw [unhide HF]; rfl, unhide B1⟩
            · have e3 : decide (x.seq = seq) = false := decide_eq_false e2
              have HN := hide (show rlook l (k : Int) seq = rlook (l.drop (j + 1)) (k : Int) seq by rw [unhide HLK, unhide HD, rlook, if_neg (fun h => e2 h.2)])
              go_wp2_with fail
              exact ⟨⟨j + 1, rfl, by omega, unhide HN, trivial⟩, by simp [intOf]; omega⟩
          · have e3 : decide (x.src = (k : Int)) = false := decide_eq_false e1
            have HN := hide (show rlook l (k : Int) seq = rlook (l.drop (j + 1)) (k : Int) seq by rw [unhide HLK, unhide HD, rlook, if_neg (fun h => e1 h.1)])
            go_wp2_with fail
            exact ⟨⟨j + 1, rfl, by omega, unhide HN, trivial⟩, by simp [intOf]; omega⟩
        · have hje : j = l.length := by omega
          have HF : Hid (rask ⟨low, l⟩ (k : Int) seq lo = (3, 0)) := hide (by rw [unhide HE2, unhide HLK, hje, List.drop_length]; rfl)
          clear hje
          go_wp2_with fail
          go_ret2
          exact ⟨by rw [unhide HF]; rfl, unhide FIN⟩
end Go.Proofs.Ytoofaldblldncaa

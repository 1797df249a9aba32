/- The chapter's examples: the walk of the statement's own function. No conditions. -/
import Derived.Test.YtdmjkbcjljnleaaJoinW
namespace Go.Proofs.Ytdmjkbcjljnleaa
open Go.RowKit

theorem HR.lit {w0 v : World} {R : List Held} (h : HR w0 v R) (l : List Int) (hl : l.length ≤ 1000) : HR w0 (v.alloc (.cells (IntK.cells l).toArray 3)) (hRow IntK (some ⟨v.heap.size, 0, Option.none⟩) l.length l :: R) := by
  have e : (IntK.cells l).length = l.length := by
    have := cells_length intK_law l
    simpa [IntK] using this
  have r : IntK.Row (v.alloc (.cells (IntK.cells l).toArray 3)) v.heap.size (some ⟨v.heap.size, 0, Option.none⟩) l.length l := by
    refine ⟨?_, .inr ⟨v.heap.size, l.length, (IntK.cells l).toArray, rfl, Nat.le_refl _, (Go.MapKept.heap_alloc v _).1, Nat.le_refl _, by unfold maxLen; omega, ?_, ?_⟩⟩
    · rw [e]; simp [IntK]
    · show (IntK.cells l).toArray.size = l.length * 1
      rw [List.size_toArray, e, Nat.mul_one]
    · show List.take (l.length * 1) (IntK.cells l) = IntK.cells l
      rw [List.take_of_length_le (by omega)]
  exact h.add ((Below.refl _ v).alloc (Nat.le_refl _) _) (row_base r (Nat.zero_le _)) fun k e => (row_lt r k e).1
def kb : AckV := ⟨3, [5, 6]⟩
def kc : AckV := ⟨1048576, []⟩
def kd : AckV := ⟨1048576, [2147483647]⟩
theorem kc_merge : none0.merge 4611686018427387904 [] = kc := by
  rw [merge_eq fine_none, adds_nil, show cut20 4611686018427387904 = 1048576 by decide]
  rfl
theorem kc_news : none0.news (told 4611686018427387904 []) = 1048576 := by
  have := kc_merge
  unfold AckV.merge at this
  unfold AckV.news
  rw [this]; rfl
theorem kb_merge : none0.merge 3 [5, 6, 5] = kb := rfl
theorem kb_news : none0.news (told 3 [5, 6, 5]) = 5 := by decide +kernel
theorem kb_miss : kb.miss (min 7 1048576) = [4, 7] := by decide +kernel
theorem kd_news : kd.news (told (-5) [-1, 0, 2147483648]) = 0 := by decide +kernel
theorem kc_miss : kc.miss (min 4611686018427387904 1048576) = [] := miss_low _ (by decide)
set_option maxRecDepth 100000 in
set_option maxHeartbeats 4000000 in
theorem knownW_any (w : World) : Calls Try.prog 3 #[] w fun e w' => e = .returned (.bool true) ∧ Below w.heap.size w w' := by
  have H0 := hide (HR.start w)
  go_enter Try.func3, Try.ntmps3
  go_wp2_with fail
  refine (unhide H0).new.mono ?_
  rintro e v1 ⟨p1, rfl, h⟩
  have H1 : Hid (HR w v1 (hAck p1 none none0 :: [])) := hide h
  clear h
  go_wp2_with fail
  refine ((unhide H1).put (n := 2) (by unfold i64; omega) (by decide)).mono ?_
  rintro e v2 ⟨rfl, m2, h⟩
  rw [show none0.fresh 2 = true from by decide]
  have H2 : Hid (HR w v2 (hAck p1 m2 wk2 :: [])) := hide h
  clear h
  go_wp2_with fail
  refine ((unhide H2).put (n := 2) (by unfold i64; omega) (by decide)).mono ?_
  rintro e v3 ⟨rfl, m3, h⟩
  rw [show wk2.fresh 2 = false from by decide]
  have H3 : Hid (HR w v3 (hAck p1 m3 wk2 :: [])) := hide h
  clear h
  go_wp2_with fail
  refine ((unhide H3).put (n := 0) (by unfold i64; omega) (by decide)).mono ?_
  rintro e v4 ⟨rfl, m4, h⟩
  rw [show wk2.fresh 0 = false from by decide]
  have H4 : Hid (HR w v4 (hAck p1 m4 wk2 :: [])) := hide h
  clear h
  go_wp2_with fail
  refine ((unhide H4).low List.mem_cons_self).mono ?_
  rintro e w' ⟨rfl, hw'⟩
  rw [hw', show wk2.low = 0 from rfl]
  clear hw'
  go_wp2_with fail
  refine ((unhide H4).set List.mem_cons_self (by decide)).mono ?_
  rintro e v5 ⟨a5, c5, rfl, h⟩
  rw [show wk2.set.length = 1 from rfl]
  have H5 : Hid (HR w v5 (hRow IntK a5 c5 wk2.set :: hAck p1 m4 wk2 :: [])) := hide h
  clear h
  go_wp2_with fail
  have h := (unhide H5).lit [2] (by decide)
  refine (h.same (List.mem_cons_of_mem _ List.mem_cons_self) List.mem_cons_self (by decide)).mono ?_
  rintro e v6 ⟨rfl, h'⟩
  rw [show sameL wk2.set [2] = true from by decide +kernel]
  clear h
  have H6 : Hid (HR w v6 (hAck p1 m4 wk2 :: [])) := hide h'.drop1.drop1
  clear h'
  go_wp2_with fail
  refine ((unhide H6).put (n := 1) (by unfold i64; omega) (by decide)).mono ?_
  rintro e v7 ⟨rfl, m7, h⟩
  rw [show wk2.fresh 1 = true from by decide]
  have H7 : Hid (HR w v7 (hAck p1 m7 wk1 :: [])) := hide h
  clear h
  go_wp2_with fail
  refine ((unhide H7).low List.mem_cons_self).mono ?_
  rintro e w' ⟨rfl, hw'⟩
  rw [hw', show wk1.low = 2 from rfl]
  clear hw'
  go_wp2_with fail
  refine ((unhide H7).set List.mem_cons_self (by decide)).mono ?_
  rintro e v8 ⟨a8, c8, rfl, h⟩
  rw [show wk1.set.length = 0 from rfl]
  have H8 : Hid (HR w v8 (hRow IntK a8 c8 wk1.set :: hAck p1 m7 wk1 :: [])) := hide h
  clear h
  go_wp2_with fail
  have HX := hide (unhide H8).drop1
  clear H8
  have H8 := HX
  clear HX
  refine (unhide H8).new.mono ?_
  rintro e v9 ⟨p2, rfl, h⟩
  have H9 : Hid (HR w v9 (hAck p2 none none0 :: hAck p1 m7 wk1 :: [])) := hide h
  clear h
  go_wp2_with fail
  have h := (unhide H9).lit [5, 6, 5] (by decide)
  refine (h.swap.mergeRow 3 List.mem_cons_self (fun y hy => by simp at hy; unfold i64; omega) (by decide)).mono ?_
  rintro e v10 ⟨rfl, m10, h'⟩
  rw [kb_news]
  rw [kb_merge] at h'
  clear h
  have H10 : Hid (HR w v10 (hAck p2 m10 kb :: hAck p1 m7 wk1 :: [])) := hide h'.drop2
  clear h'
  go_wp2_with fail
  refine ((unhide H10).low List.mem_cons_self).mono ?_
  rintro e w' ⟨rfl, hw'⟩
  rw [hw', show kb.low = 3 from rfl]
  clear hw'
  go_wp2_with fail
  refine ((unhide H10).set List.mem_cons_self (by decide)).mono ?_
  rintro e v11 ⟨a11, c11, rfl, h⟩
  rw [show kb.set.length = 2 from rfl]
  have H11 : Hid (HR w v11 (hRow IntK a11 c11 kb.set :: hAck p2 m10 kb :: hAck p1 m7 wk1 :: [])) := hide h
  clear h
  go_wp2_with fail
  have h := (unhide H11).lit [5, 6] (by decide)
  refine (h.same (List.mem_cons_of_mem _ List.mem_cons_self) List.mem_cons_self (by decide)).mono ?_
  rintro e v12 ⟨rfl, h'⟩
  rw [show sameL kb.set [5, 6] = true from by decide +kernel]
  clear h
  have H12 : Hid (HR w v12 (hAck p2 m10 kb :: hAck p1 m7 wk1 :: [])) := hide h'.drop1.drop1
  clear h'
  go_wp2_with fail
  refine ((unhide H12).missing List.mem_cons_self (upto := 7) (by decide)).mono ?_
  rintro e v13 ⟨a13, c13, rfl, h⟩
  rw [kb_miss] at h ⊢
  have H13 : Hid (HR w v13 (hRow IntK a13 c13 [4, 7] :: hAck p2 m10 kb :: hAck p1 m7 wk1 :: [])) := hide h
  clear h
  rw [show ([4, 7] : List Int).length = 2 from rfl]
  go_wp2_with fail
  have h := (unhide H13).lit [4, 7] (by decide)
  refine (h.same (List.mem_cons_of_mem _ List.mem_cons_self) List.mem_cons_self (by decide)).mono ?_
  rintro e v14 ⟨rfl, h'⟩
  rw [show sameL [4, 7] [4, 7] = true from by decide +kernel]
  clear h
  have H14 : Hid (HR w v14 (hAck p2 m10 kb :: hAck p1 m7 wk1 :: [])) := hide h'.drop1.drop1
  clear h'
  go_wp2_with fail
  refine ((unhide H14).whole List.mem_cons_self 3).mono ?_
  rintro e w' ⟨rfl, hw'⟩
  rw [hw', show decide (min 3 2147483647 ≤ kb.low) = true from by decide]
  clear hw'
  go_wp2_with fail
  refine ((unhide H14).whole List.mem_cons_self 4).mono ?_
  rintro e w' ⟨rfl, hw'⟩
  rw [hw', show decide (min 4 2147483647 ≤ kb.low) = false from by decide]
  clear hw'
  go_wp2_with fail
  refine (unhide H14).new.mono ?_
  rintro e v15 ⟨p3, rfl, h⟩
  have H15 : Hid (HR w v15 (hAck p3 none none0 :: hAck p2 m10 kb :: hAck p1 m7 wk1 :: [])) := hide h
  clear h
  go_wp2_with fail
  refine (awake_any v15).mono ?_
  rintro e v16 ⟨rfl, b1⟩
  have h := (unhide H15).below b1
  clear b1
  have H16 : Hid (HR w v16 (hAck p3 none none0 :: hAck p2 m10 kb :: hAck p1 m7 wk1 :: [])) := hide h
  clear h
  go_wp2_with fail
  refine ((unhide H16).merge 4611686018427387904 (l := []) (.inl rfl) (fun y hy => by cases hy) (by decide)).mono ?_
  rintro e v17 ⟨rfl, m17, h⟩
  rw [kc_news]
  rw [kc_merge] at h
  have H17 : Hid (HR w v17 (hAck p3 m17 kc :: hAck p2 m10 kb :: hAck p1 m7 wk1 :: [])) := hide h
  clear h
  go_wp2_with fail
  refine ((unhide H17).low List.mem_cons_self).mono ?_
  rintro e w' ⟨rfl, hw'⟩
  rw [hw', show kc.low = 1048576 from rfl]
  clear hw'
  go_wp2_with fail
  refine ((unhide H17).whole List.mem_cons_self 1048576).mono ?_
  rintro e w' ⟨rfl, hw'⟩
  rw [hw', show decide (min 1048576 2147483647 ≤ kc.low) = true from by decide]
  clear hw'
  go_wp2_with fail
  refine ((unhide H17).whole List.mem_cons_self 4611686018427387904).mono ?_
  rintro e w' ⟨rfl, hw'⟩
  rw [hw', show decide (min 4611686018427387904 2147483647 ≤ kc.low) = false from by decide]
  clear hw'
  go_wp2_with fail
  refine ((unhide H17).missing List.mem_cons_self (upto := 4611686018427387904) (by decide)).mono ?_
  rintro e v18 ⟨a18, c18, rfl, h⟩
  rw [kc_miss] at h ⊢
  have H18 : Hid (HR w v18 (hAck p3 m17 kc :: hAck p2 m10 kb :: hAck p1 m7 wk1 :: [])) := hide h.drop1
  clear h
  rw [show ([] : List Int).length = 0 from rfl]
  go_wp2_with fail
  refine ((unhide H18).put (n := 2147483647) (by unfold i64; omega) (by decide)).mono ?_
  rintro e v19 ⟨rfl, m19, h⟩
  rw [show kc.fresh 2147483647 = true from by decide]
  have H19 : Hid (HR w v19 (hAck p3 m19 kd :: hAck p2 m10 kb :: hAck p1 m7 wk1 :: [])) := hide h
  clear h
  go_wp2_with fail
  refine ((unhide H19).put (n := 2147483648) (by unfold i64; omega) (by decide)).mono ?_
  rintro e v20 ⟨rfl, m20, h⟩
  rw [show kd.fresh 2147483648 = false from by decide]
  have H20 : Hid (HR w v20 (hAck p3 m20 kd :: hAck p2 m10 kb :: hAck p1 m7 wk1 :: [])) := hide h
  clear h
  go_wp2_with fail
  refine ((unhide H20).put (n := (-1)) (by unfold i64; omega) (by decide)).mono ?_
  rintro e v21 ⟨rfl, m21, h⟩
  rw [show kd.fresh (-1) = false from by decide]
  have H21 : Hid (HR w v21 (hAck p3 m21 kd :: hAck p2 m10 kb :: hAck p1 m7 wk1 :: [])) := hide h
  clear h
  go_wp2_with fail
  have h := (unhide H21).lit [-1, 0, 2147483648] (by decide)
  refine (h.swap.mergeRow (-5) List.mem_cons_self (fun y hy => by simp at hy; unfold i64; omega) (by decide)).mono ?_
  rintro e v22 ⟨rfl, m22, h'⟩
  rw [kd_news]
  clear h
  have HB := hide h'.bel
  clear h'
  go_wp2_with fail
  go_ret
  exact ⟨rfl, unhide HB⟩
end Go.Proofs.Ytdmjkbcjljnleaa

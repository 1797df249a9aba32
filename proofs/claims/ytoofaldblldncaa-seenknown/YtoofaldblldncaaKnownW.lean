/- SeenKnown's walk. No conditions. -/
import Derived.Test.YtoofaldblldncaaSames
namespace Go.Proofs.Ytoofaldblldncaa
open Go.RowKit
theorem lit_row {β : Type} {K : RowK β} (w : World) (l : List β) (ty : TypeId) : K.At (w.alloc (.cells (K.cells l).toArray ty)) (some ⟨w.heap.size, 0, none⟩) l := by
  refine .inr ⟨_, _, rfl, by simp, fun j u hu => ?_⟩
  rw [Nat.zero_add, World.cell?_alloc_new]
  simpa using hu
theorem good_bad (lows : List Int) (l : List Ent) {e : Ending} {v' : World} {w0 : World} {R : List Held} (hb : good lows l = false) (h : ((good lows l = true ∧ ∃ q F, e = .returned (.tuple #[.pointer (some ⟨q, 0, none⟩), .int .i64 0]) ∧ HR w0 v' (hTab q F (keeps (tab0 lows) l) :: R)) ∨ (good lows l = false ∧ e = .returned (.tuple #[.pointer none, .int .i64 1]) ∧ HR w0 v' R))) : e = .returned (.tuple #[.pointer none, .int .i64 1]) ∧ HR w0 v' R := by
  rcases h with ⟨h, _⟩ | ⟨_, h⟩
  · rw [hb] at h; cases h
  · exact h
theorem known_of1 {w0 v : World} {R : List Held} (h : HR w0 v R) : Calls Try.prog 10 #[.slice (some ⟨v.heap.size, 0, none⟩) 3 3, .slice none 0 0] (v.alloc (.cells #[.int .i64 1, .int .i64 1, .int .i64 1] 3)) fun e v' => e = .returned (.tuple #[.pointer none, .int .i64 1]) ∧ HR w0 v' R :=
  ((h.below ((Below.refl _ v).alloc (Nat.le_refl _) _)).of (lows := [1, 1, 1]) (l := []) (c := 3) (d := 0) (lit_row (K := IntK) v [1, 1, 1] 3) (.inl rfl) (by simp)).mono fun e v' h => good_bad _ _ (by decide) h
theorem known_of2 {w0 v : World} {R : List Held} (h : HR w0 v R) : Calls Try.prog 10 #[.slice (some ⟨v.heap.size, 0, none⟩) 4 4, .slice (some ⟨v.heap.size + 1, 0, none⟩) 1 1] ((v.alloc (.cells #[.int .i64 1, .int .i64 1, .int .i64 1, .int .i64 1] 3)).alloc (.cells #[.int .i64 0, .int .i64 17, .int .i64 1] 53)) fun e v' => e = .returned (.tuple #[.pointer none, .int .i64 1]) ∧ HR w0 v' R := by
  have b1 : Below v.heap.size v (v.alloc (.cells #[.int .i64 1, .int .i64 1, .int .i64 1, .int .i64 1] 3)) := (Below.refl _ v).alloc (Nat.le_refl _) _
  have r2 := lit_row (K := EntK) (v.alloc (.cells #[.int .i64 1, .int .i64 1, .int .i64 1, .int .i64 1] 3)) [⟨0, 17, 1⟩] 53
  rw [World.size_alloc] at r2
  exact ((h.below (b1.alloc b1.size _)).of (lows := [1, 1, 1, 1]) (l := [⟨0, 17, 1⟩]) (c := 4) (d := 1) ((lit_row (K := IntK) v [1, 1, 1, 1] 3).below (Nat.le_refl _) ((Below.refl _ _).alloc (Nat.le_refl _) _)) r2 (by simp)).mono fun e v' h => good_bad _ _ (by decide) h
theorem known_of3 {w0 v : World} {R : List Held} (h : HR w0 v R) : Calls Try.prog 10 #[.slice (some ⟨v.heap.size, 0, none⟩) 4 4, .slice (some ⟨v.heap.size + 1, 0, none⟩) 2 2] ((v.alloc (.cells #[.int .i64 1, .int .i64 1, .int .i64 1, .int .i64 1] 3)).alloc (.cells #[.int .i64 0, .int .i64 2, .int .i64 1, .int .i64 0, .int .i64 1, .int .i64 1] 53)) fun e v' => e = .returned (.tuple #[.pointer none, .int .i64 1]) ∧ HR w0 v' R := by
  have b1 : Below v.heap.size v (v.alloc (.cells #[.int .i64 1, .int .i64 1, .int .i64 1, .int .i64 1] 3)) := (Below.refl _ v).alloc (Nat.le_refl _) _
  have r2 := lit_row (K := EntK) (v.alloc (.cells #[.int .i64 1, .int .i64 1, .int .i64 1, .int .i64 1] 3)) [⟨0, 2, 1⟩, ⟨0, 1, 1⟩] 53
  rw [World.size_alloc] at r2
  exact ((h.below (b1.alloc b1.size _)).of (lows := [1, 1, 1, 1]) (l := [⟨0, 2, 1⟩, ⟨0, 1, 1⟩]) (c := 4) (d := 2) ((lit_row (K := IntK) v [1, 1, 1, 1] 3).below (Nat.le_refl _) ((Below.refl _ _).alloc (Nat.le_refl _) _)) r2 (by simp)).mono fun e v' h => good_bad _ _ (by decide) h
theorem kn0 : ask new_ 0 1 1 = (3, 0) := by decide
theorem kn1 : noteE new_ 0 1 1 2 = 0 := by decide
theorem kn2 : ask wk1 0 1 1 = (2, 2) := by decide
theorem kn3 : ask wk1 1 1 1 = (3, 0) := by decide
theorem kn4 : noteE wk1 0 3 2 1 = 0 := by decide
theorem kn5 : ask wk2 0 1 1 = (1, 0) := by decide
theorem kn6 : ask wk2 0 2 2 = (3, 0) := by decide
theorem kn7 : ask wk2 4 1 1 = (0, 0) := by decide
theorem kn8 : ask wk2 0 17 1 = (0, 0) := by decide
theorem kn9 : ask wk2 0 1 2 = (0, 0) := by decide
theorem kn10 : ask wk2 0 0 0 = (0, 0) := by decide
theorem kn11 : ask wk2 1 16 1 = (3, 0) := by decide
theorem kn12 : ask wk2 1 1099511627776 1099511627776 = (3, 0) := by decide
theorem kn13 : ask wk2 1 1099511627777 1099511627777 = (0, 0) := by decide
theorem kn14 : noteE wk2 0 1 1 1 = 12 := by decide
theorem kn15 : note wk2 0 1 1 1 = wk2 := if_neg (by decide)
theorem kn16 : noteE wk2 0 3 2 1 = 5 := by decide
theorem kn17 : note wk2 0 3 2 1 = wk2 := if_neg (by decide)
theorem kn18 : noteE wk2 0 4 2 5 = 1 := by decide
theorem kn19 : note wk2 0 4 2 5 = wk2 := if_neg (by decide)
theorem kn20 : noteE wk2 0 4 2 0 = 1 := by decide
theorem kn21 : note wk2 0 4 2 0 = wk2 := if_neg (by decide)
set_option maxRecDepth 100000 in
set_option maxHeartbeats 4000000 in
theorem known_any (w : World) : Calls Try.prog 7 #[] w fun e w' => e = .returned (.bool true) ∧ Below w.heap.size w w' := by
  have H0 := hide (HR.start w)
  go_enter Try.func7, Try.ntmps7
  go_wp2_with fail
  refine (HR.new (unhide H0)).mono ?_
  rintro e w1 ⟨q, F1, rfl, h⟩
  have H1 := hide h
  clear h
  go_wp2_with fail
  refine ((unhide H1).ask List.mem_cons_self 0 1 1).mono ?_
  rintro e w' ⟨rfl, hw'⟩
  rw [hw', kn0]
  clear hw'
  go_wp2_with fail
  refine ((unhide H1).note new_ok 0 1 1 2).mono ?_
  rintro e w2 ⟨rfl, F2, h⟩
  have H2 : Hid (HR w w2 (hTab q F2 wk1 :: [])) := hide h
  rw [kn1]
  clear h
  go_wp2_with fail
  refine ((unhide H2).ask List.mem_cons_self 0 1 1).mono ?_
  rintro e w' ⟨rfl, hw'⟩
  rw [hw', kn2]
  clear hw'
  go_wp2_with fail
  refine ((unhide H2).ask List.mem_cons_self 1 1 1).mono ?_
  rintro e w' ⟨rfl, hw'⟩
  rw [hw', kn3]
  clear hw'
  go_wp2_with fail
  refine ((unhide H2).note wk1_ok 0 3 2 1).mono ?_
  rintro e w3 ⟨rfl, F3, h⟩
  have H3 : Hid (HR w w3 (hTab q F3 wk2 :: [])) := hide h
  rw [kn4]
  clear h
  go_wp2_with fail
  refine ((unhide H3).ask List.mem_cons_self 0 1 1).mono ?_
  rintro e w' ⟨rfl, hw'⟩
  rw [hw', kn5]
  clear hw'
  go_wp2_with fail
  refine ((unhide H3).ask List.mem_cons_self 0 2 2).mono ?_
  rintro e w' ⟨rfl, hw'⟩
  rw [hw', kn6]
  clear hw'
  go_wp2_with fail
  refine ((unhide H3).lows List.mem_cons_self).mono ?_
  rintro e w4 ⟨al, cl, rfl, h⟩
  have H4 : Hid (HR w w4 (hTab q F3 wk2 :: hRow IntK al cl [2, 1, 1, 1] :: [])) := hide (h.swap)
  obtain ⟨g, o, rfl, _, hr0⟩ := (h.row List.mem_cons_self : IntK.At w4 al (lows wk2)).cell intK_law (i := 0) (x := 2) rfl
  obtain ⟨g', o', e1, _, hr1⟩ := (h.row List.mem_cons_self : IntK.At w4 (some ⟨g, o, none⟩) (lows wk2)).cell intK_law (i := 1) (x := 1) rfl
  cases e1
  have c0 : w4.cell? ⟨g, o, none⟩ = some (.int .i64 2) := hr0 0 _ rfl
  have c1 : w4.cell? ⟨g, o + 1, none⟩ = some (.int .i64 1) := hr1 0 _ rfl
  clear h hr0 hr1
  go_wp2_with fail
  clear c0 c1
  refine ((unhide H4).ask List.mem_cons_self 4 1 1).mono ?_
  rintro e w' ⟨rfl, hw'⟩
  rw [hw', kn7]
  clear hw'
  go_wp2_with fail
  refine ((unhide H4).ask List.mem_cons_self 0 17 1).mono ?_
  rintro e w' ⟨rfl, hw'⟩
  rw [hw', kn8]
  clear hw'
  go_wp2_with fail
  refine ((unhide H4).ask List.mem_cons_self 0 1 2).mono ?_
  rintro e w' ⟨rfl, hw'⟩
  rw [hw', kn9]
  clear hw'
  go_wp2_with fail
  refine ((unhide H4).ask List.mem_cons_self 0 0 0).mono ?_
  rintro e w' ⟨rfl, hw'⟩
  rw [hw', kn10]
  clear hw'
  go_wp2_with fail
  refine ((unhide H4).ask List.mem_cons_self 1 16 1).mono ?_
  rintro e w' ⟨rfl, hw'⟩
  rw [hw', kn11]
  clear hw'
  go_wp2_with fail
  refine ((unhide H4).ask List.mem_cons_self 1 1099511627776 1099511627776).mono ?_
  rintro e w' ⟨rfl, hw'⟩
  rw [hw', kn12]
  clear hw'
  go_wp2_with fail
  refine ((unhide H4).ask List.mem_cons_self 1 1099511627777 1099511627777).mono ?_
  rintro e w' ⟨rfl, hw'⟩
  rw [hw', kn13]
  clear hw'
  go_wp2_with fail
  refine ((unhide H4).note wk2_ok 0 1 1 1).mono ?_
  rintro e w5 ⟨rfl, F5, h⟩
  rw [kn15] at h
  have H5 : Hid (HR w w5 (hTab q F5 wk2 :: hRow IntK (some ⟨g, o, none⟩) cl [2, 1, 1, 1] :: [])) := hide h
  rw [kn14]
  clear h
  go_wp2_with fail
  refine ((unhide H5).note wk2_ok 0 3 2 1).mono ?_
  rintro e w6 ⟨rfl, F6, h⟩
  rw [kn17] at h
  have H6 : Hid (HR w w6 (hTab q F6 wk2 :: hRow IntK (some ⟨g, o, none⟩) cl [2, 1, 1, 1] :: [])) := hide h
  rw [kn16]
  clear h
  go_wp2_with fail
  refine ((unhide H6).note wk2_ok 0 4 2 5).mono ?_
  rintro e w7 ⟨rfl, F7, h⟩
  rw [kn19] at h
  have H7 : Hid (HR w w7 (hTab q F7 wk2 :: hRow IntK (some ⟨g, o, none⟩) cl [2, 1, 1, 1] :: [])) := hide h
  rw [kn18]
  clear h
  go_wp2_with fail
  refine ((unhide H7).note wk2_ok 0 4 2 0).mono ?_
  rintro e w8 ⟨rfl, F8, h⟩
  rw [kn21] at h
  have H8 : Hid (HR w w8 (hTab q F8 wk2 :: hRow IntK (some ⟨g, o, none⟩) cl [2, 1, 1, 1] :: [])) := hide h
  rw [kn20]
  clear h
  go_wp2_with fail
  refine (known_of1 (unhide H8)).mono ?_
  rintro e w9 ⟨rfl, h⟩
  have H9 := hide h
  clear h
  go_wp2_with fail
  refine (known_of2 (unhide H9)).mono ?_
  rintro e w10 ⟨rfl, h⟩
  have H10 := hide h
  clear h
  go_wp2_with fail
  refine (known_of3 (unhide H10)).mono ?_
  rintro e w11 ⟨rfl, h⟩
  have H11 := hide h
  clear h
  go_wp2_with fail
  refine (wakes_any w11).mono ?_
  rintro e w' ⟨rfl, hb⟩
  have HB := hide ((unhide H11).below hb).bel
  clear hb
  go_wp2_with fail
  go_ret
  exact ⟨rfl, unhide HB⟩
end Go.Proofs.Ytoofaldblldncaa

/- What TellKnown does: it answers true, and nothing that was there has turned. No conditions. -/
import Derived.Test.YtmgmkdkdpeljmaaTWakes
import Derived.Test.YtmgmkdkdpeljmaaTOf
namespace Go.Proofs.Ytmgmkdkdpeljmaa
open Go.RowKit
def kt2 : List (Win AggV) := [⟨[97], 0, put zero 5⟩, ⟨[98], 10, put zero 7⟩]
def kt3 : List (Win AggV) := [⟨[98], 10, put zero 7⟩]
def kt4 : List (Win AggV) := [⟨[97], 10, put zero 1⟩, ⟨[98], 10, put zero 7⟩]
theorem kf1 : putL newL [97] 3 5 = (⟨0, wt1⟩, 1) := by kernel_rfl
theorem kf2 : putL ⟨0, wt1⟩ [98] 12 7 = (⟨0, kt2⟩, 1) := by kernel_rfl
theorem kf3 : markL ⟨0, kt2⟩ 14 = (⟨14, kt2⟩, 1, []) := by kernel_rfl
theorem kf4 : markL ⟨14, kt2⟩ 15 = (⟨15, kt3⟩, 1, wt1) := by kernel_rfl
theorem kf5 : putL ⟨15, kt3⟩ [97] 4 1 = (⟨15, kt3⟩, 2) := by kernel_rfl
theorem kf6 : putL ⟨15, kt3⟩ [97] 10 1 = (⟨15, kt4⟩, 1) := by kernel_rfl
theorem kf7 : putL ⟨15, kt4⟩ [] 10 1 = (⟨15, kt4⟩, 4) := by kernel_rfl
theorem kf8 : putL ⟨15, kt4⟩ [97] (-1) 1 = (⟨15, kt4⟩, 4) := by kernel_rfl
theorem kf9 : markL ⟨15, kt4⟩ 15 = (⟨15, kt4⟩, 1, []) := by kernel_rfl
theorem kf10 : markL ⟨15, kt4⟩ 25 = (⟨25, []⟩, 1, kt4) := by kernel_rfl
theorem kf11 : markL ⟨25, []⟩ (-1) = (⟨25, []⟩, 4, []) := by kernel_rfl
theorem kf12 : (ofL 15 wt1).2 = 12 := by kernel_rfl
theorem kf13 : (ofL (-1) []).2 = 1 := by kernel_rfl
theorem kf14 : ofL 14 wt1 = (⟨14, wt1⟩, 0) := by kernel_rfl
def LK : Nat → LineV
  | 0 => ⟨14, wt1⟩
  | n + 1 => (putL (LK n) [107] (10 * (n : Int)) 1).1
theorem kf15 : (putL (LK 31) [122] 0 1).2 = 3 := by decide +kernel
theorem kf16 : (putL (putL (LK 31) [122] 0 1).1 [97] 0 1).2 = 1 := by decide +kernel
theorem km_wt1 : Mild wt1 := wt_mild
theorem km2 : Mild kt2 := by
  have := mild_putL (L := ⟨0, wt1⟩) wt_mild (k := [98]) (a := 12) (n := 7) (by unfold i64; omega)
  rw [kf2] at this; exact this
theorem km3 : Mild kt3 := by
  have := (mild_markL (L := ⟨14, kt2⟩) km2 15).1
  rw [kf4] at this; exact this
theorem km4 : Mild kt4 := by
  have := mild_putL (L := ⟨15, kt3⟩) km3 (k := [97]) (a := 10) (n := 1) (by unfold i64; omega)
  rw [kf6] at this; exact this
theorem kmLK : ∀ n, Mild (LK n).row
  | 0 => wt_mild
  | n + 1 => mild_putL (kmLK n) (by unfold i64; omega)
theorem kput {w v : World} {p : Nat} {L L' : LineV} {R : List Held} {k : List UInt8} {a n : Int} {c : Nat} (e : putL L k a n = (L', c)) (hm : Mild L.row) (hn : i64 n) (h : HL w v p L R) :
    Calls Try.prog 25 #[.pointer (some ⟨p, 0, none⟩), .string ⟨k.toArray⟩, .int .i64 a, .int .i64 n] v fun e v' => e = .returned (.int .i64 (c : Int)) ∧ HL w v' p L' R := by
  have := h.put hm k a n hn
  rw [e] at this; exact this
theorem kmark {w v : World} {p : Nat} {L L' : LineV} {R : List Held} {a : Int} {c : Nat} {o : List (Win AggV)} (e : markL L a = (L', c, o)) (hm : Mild L.row) (h : HL w v p L R) :
    Calls Try.prog 27 #[.pointer (some ⟨p, 0, none⟩), .int .i64 a] v fun e v' => ∃ a1 c1, e = .returned (.tuple #[.int .i64 (c : Int), .slice a1 o.length c1]) ∧ HL w v' p L' ((a1, c1, o) :: R) := by
  have := h.mark hm a
  rw [e] at this; exact this
theorem lay_keep {w u : World} {a : Option Addr} {l : List (Win AggV)} (h : Lay w a l) (hb : Below w.heap.size w u) : Lay u a l :=
  ⟨lies_keep h.lies hb, h.flat.imp (fun ⟨g, hg, hl⟩ => ⟨g, hg, Nat.lt_of_lt_of_le hl hb.size⟩) id, h.most⟩
theorem lay_new (w : World) (x : Win AggV) : Lay (w.alloc (.cells (outV x).toArray 38)) (some ⟨w.heap.size, 0, none⟩) [x] :=
  ⟨lies_new w x, .inl ⟨_, rfl, by simp⟩, by simp⟩
theorem lay_none (w : World) : Lay w none [] := ⟨lies_nil w none, .inr rfl, Nat.zero_le _⟩
theorem k4_cells {w v : World} {p : Nat} {L : LineV} {R : List Held} {a : Option Addr} {c : Nat} (h : HL w v p L ((a, c, kt4) :: R)) : ∃ g, a = some ⟨g, 0, none⟩ ∧ v.cell? ⟨g, 0, none⟩ = some (.string ⟨#[97]⟩) ∧ v.cell? ⟨g, 13, none⟩ = some (.int .i64 7) := by
  obtain ⟨g, hg, hr, _⟩ := held_at (h.row List.mem_cons_self) (j := 0) (x := ⟨[97], 10, put zero 1⟩) rfl
  obtain ⟨g', hg', hr', _⟩ := held_at (h.row List.mem_cons_self) (j := 1) (x := ⟨[98], 10, put zero 7⟩) rfl
  have e : some (⟨g, 0, none⟩ : Addr) = some ⟨g', 0, none⟩ := hg.symm.trans hg'
  cases e
  exact ⟨g, hg, hr 0 _ rfl, hr' 3 _ rfl⟩
set_option maxRecDepth 100000 in
set_option maxHeartbeats 8000000 in
theorem tknown_any (w : World) : Calls Try.prog 8 #[] w fun e w' => e = .returned (.bool true) ∧ Below w.heap.size w w' := by
  have hw0 := hide (HL.new (Below.refl w.heap.size w))
  have WK := hide twakes_any
  go_enter Try.func8, Try.ntmps8
  go_upto_region 2 with fail
  refine (unhide hw0).mono ?_
  rintro e v1 ⟨p0, rfl, HE⟩
  have HS := hide HE
  clear HE hw0
  go_upto_region 3 with fail
  refine (kput kf1 mild_nil (by unfold i64; omega) (unhide HS)).mono ?_
  rintro e v2 ⟨rfl, HE⟩
  clear HS
  have HS := hide HE
  clear HE
  go_upto_region 3 with fail
  refine (kput kf2 wt_mild (by unfold i64; omega) (unhide HS)).mono ?_
  rintro e v3 ⟨rfl, HE⟩
  clear HS
  have HS := hide HE
  clear HE
  go_upto_region 4 with fail
  refine (kmark kf3 km2 (unhide HS)).mono ?_
  rintro e v4 ⟨a4, c4, rfl, HE⟩
  clear HS
  have HS := hide (HE.drop (R' := []) (fun _ h => by cases h))
  clear HE
  go_upto_region 5 with fail
  refine (kmark kf4 km2 (unhide HS)).mono ?_
  rintro e v5 ⟨a5, c5, rfl, HE⟩
  clear HS
  have HS := hide (HE)
  clear HE
  go_upto_region 6 with fail
  refine (kput kf5 km3 (by unfold i64; omega) (unhide HS)).mono ?_
  rintro e v6 ⟨rfl, HE⟩
  clear HS
  have HS := hide HE
  clear HE
  go_upto_region 6 with fail
  refine (kput kf6 km3 (by unfold i64; omega) (unhide HS)).mono ?_
  rintro e v7 ⟨rfl, HE⟩
  clear HS
  have HS := hide HE
  clear HE
  go_upto_region 6 with fail
  refine (kput kf7 km4 (by unfold i64; omega) (unhide HS)).mono ?_
  rintro e v8 ⟨rfl, HE⟩
  clear HS
  have HS := hide HE
  clear HE
  go_upto_region 6 with fail
  refine (kput kf8 km4 (by unfold i64; omega) (unhide HS)).mono ?_
  rintro e v9 ⟨rfl, HE⟩
  clear HS
  have HS := hide HE
  clear HE
  go_upto_region 7 with fail
  refine (kmark kf9 km4 (unhide HS)).mono ?_
  rintro e v10 ⟨a10, c10, rfl, HE⟩
  clear HS
  have HS := hide (HE.drop (R' := [(a5, c5, wt1)]) (fun _ h => List.mem_cons_of_mem _ h))
  clear HE
  go_upto_region 8 with fail
  refine (kmark kf10 km4 (unhide HS)).mono ?_
  rintro e v11 ⟨a11, c11, rfl, HE⟩
  clear HS
  have HS := hide (HE)
  clear HE
  go_upto_region 9 with fail
  refine (kmark kf11 mild_nil (unhide HS)).mono ?_
  rintro e v12 ⟨a12, c12, rfl, HE⟩
  clear HS
  have HS := hide (HE.drop (R' := [(a11, c11, kt4), (a5, c5, wt1)]) (fun _ h => List.mem_cons_of_mem _ h))
  clear HE
  obtain ⟨x, hx⟩ : ∃ x, x = (⟨[97], 0, put zero 5⟩ : Win AggV) := ⟨_, rfl⟩
  have hwt : wt1 = [x] := by rw [hx]; rfl
  obtain ⟨g5, hg5, hr5, _⟩ := held_at ((unhide HS).row (r := (a5, c5, wt1)) (List.mem_cons_of_mem _ List.mem_cons_self)) (j := 0) (x := x) (by rw [hwt]; rfl)
  have hg5' : a5 = some ⟨g5, 0, none⟩ := hg5
  subst hg5'
  have LN := hide (lay_new v12 x)
  have XI : Hid (∀ y ∈ wt1, y.agg.In ∧ okk y.key y.start) := hide (fun y hy => ⟨wt_mild.ins_ y hy, by
    rw [hwt] at hy
    rw [List.mem_singleton.1 hy, hx]
    exact okc (by decide) (by decide) (by decide)⟩)
  have b13 : Below v12.heap.size v12 (v12.alloc (.cells (outV x).toArray 38)) := (Below.refl _ _).alloc (Nat.le_refl _) _
  have C15 := hide (tof_any (c := 1) 15 (fun u hu => by rw [hwt]; exact lay_keep (unhide LN) hu) (unhide XI))
  rw [kf12] at C15
  rw [show wt1.length = 1 from rfl] at C15
  have B13 := hide b13
  clear hg5 hx b13 LN
  have HWT := hide hwt
  clear hwt
  obtain ⟨xk, xs, ⟨g0, g1, g2, g3, g4, g5', g6, g7⟩⟩ := x
  have RX : Hid (v12.rangeAt g5 0 [.string ⟨xk.toArray⟩, .int .i64 xs, .int .i64 g0, .int .i64 g1, .int .i64 g2, .int .i64 g3, .int .i64 g4, .int .i64 g5', .int .i64 g6, .int .i64 g7]) := hide (by have := hr5; rw [Nat.zero_mul] at this; exact this)
  simp only [outV_eq] at C15 B13
  clear hr5
  go_upto_region 12 with (refine wpList_load_on rfl 38 (.tmp 79) rfl g5 0 rfl [.string ⟨xk.toArray⟩, .int .i64 xs, .int .i64 g0, .int .i64 g1, .int .i64 g2, .int .i64 g3, .int .i64 g4, .int .i64 g5', .int .i64 g6, .int .i64 g7] _ (unhide RX) Try.underlying38 rfl (by kernel_rfl) ?_)
  refine (unhide C15).mono ?_
  rintro e v13 ⟨pt, rfl, hb, _, hno⟩
  cases hno (by decide)
  have HS3 := hide (((unhide HS).below (unhide B13)).below hb)
  clear hb hno HS RX C15 B13 HWT
  have CM1 := hide (tof_any (v := v13) (c := 0) (-1) (fun u _ => lay_none u) (fun y (hy : y ∈ ([] : List (Win AggV))) => by cases hy))
  rw [kf13] at CM1
  go_upto_region 13 with fail
  refine (unhide CM1).mono ?_
  rintro e v14 ⟨pt, rfl, hb, _, hno⟩
  cases hno (by decide)
  have HS4 := hide ((unhide HS3).below hb)
  clear hb hno HS3 CM1
  have C14 := hide (tof_any (v := v14) (c := c5) 14 (fun u hu => Held.lay (r := (some ⟨g5, 0, none⟩, c5, wt1)) (((unhide HS4).below hu).row (List.mem_cons_of_mem _ List.mem_cons_self)) (by show wt1.length ≤ 1000; decide)) (unhide XI))
  rw [kf14] at C14
  rw [show wt1.length = 1 from rfl] at C14
  go_upto_region 14 with fail
  refine (unhide C14).mono ?_
  rintro e v15 ⟨pt, rfl, hb, hyes, _⟩
  obtain ⟨pm, rfl, HE, _⟩ := hyes trivial
  have HM := hide HE
  clear HE hb hyes C14 XI
  go_wp2_with fail
  go_loopw [20] (fun i wr => ∃ n : Nat, i = .int .i64 (n : Int) ∧ n ≤ 31 ∧ HL v14 wr pm (LK n) []) (fun i _ => 31 - (intOf i).toNat)
  case atStart => exact ⟨0, rfl, Nat.zero_le _, unhide HM⟩
  case round =>
    obtain ⟨n, rfl, hn, hh⟩ := hrel
    have HR := hide hh
    clear hh HM
    by_cases hlt : n < 31
    · have g1 : (n : Int) < 31 := by omega
      have hwn : IntKind.i64.wrap ((n : Int) + 1) = (n : Int) + 1 := Go.IntWalk.i64_in _ (by omega)
      have hwm : IntKind.i64.wrap (10 * (n : Int)) = 10 * (n : Int) := Go.IntWalk.i64_in _ (by omega)
      have CP : Calls Try.prog 25 #[.pointer (some ⟨pm, 0, none⟩), .string ⟨#[107]⟩, .int .i64 (10 * (n : Int)), .int .i64 1] wr _ := (unhide HR).put (kmLK n) [107] (10 * (n : Int)) 1 (by unfold i64; omega)
      have HCP := hide CP
      clear CP
      go_wp2_with fail
      refine (unhide HCP).mono ?_
      rintro e v16 ⟨rfl, HE⟩
      have HN : Hid (HL v14 v16 pm (LK (n + 1)) []) := hide HE
      clear HE HCP HR
      go_wp2_with fail
      exact ⟨⟨.int .i64 ((n : Int) + 1), _, _, _, _, _, _, _, _, ⟨n + 1, rfl, by omega, unhide HN⟩, rfl⟩, by simp [intOf]; omega⟩
    · have g1 : ¬ (n : Int) < 31 := by omega
      have hn31 : n = 31 := by omega
      subst hn31
      have CP : Calls Try.prog 25 #[.pointer (some ⟨pm, 0, none⟩), .string ⟨#[122]⟩, .int .i64 0, .int .i64 1] wr _ := (unhide HR).put (kmLK 31) [122] 0 1 (by unfold i64; omega)
      rw [kf15] at CP
      have HCP := hide CP
      clear CP
      go_upto_region 21 with fail
      refine (unhide HCP).mono ?_
      rintro e v16 ⟨rfl, HE⟩
      have CP : Calls Try.prog 25 #[.pointer (some ⟨pm, 0, none⟩), .string ⟨#[97]⟩, .int .i64 0, .int .i64 1] v16 _ := HE.put (mild_putL (kmLK 31) (by unfold i64; omega)) [97] 0 1 (by unfold i64; omega)
      rw [kf16] at CP
      clear HCP
      have HCP := hide CP
      clear CP HE
      go_upto_region 21 with fail
      refine (unhide HCP).mono ?_
      rintro e v17 ⟨rfl, HE⟩
      have HS5 := hide ((unhide HS4).below HE.bel)
      clear HE HCP HR HS4
      obtain ⟨g11, hg11, hc0, hc13⟩ := k4_cells (unhide HS5)
      subst hg11
      have AT := hide (unhide HS5).at_
      have BEL := hide (unhide HS5).bel
      clear HS5
      go_wp2_with fail
      refine (unhide AT).mono ?_
      rintro e v' ⟨rfl, hw⟩
      rw [hw]
      clear hw v' AT
      go_wp2_with fail
      refine (unhide WK _).mono ?_
      rintro e v' ⟨rfl, hb⟩
      go_wp2_with fail
      go_ret
      exact ⟨rfl, (unhide BEL).trans (hb.mono (unhide BEL).size)⟩
end Go.Proofs.Ytmgmkdkdpeljmaa

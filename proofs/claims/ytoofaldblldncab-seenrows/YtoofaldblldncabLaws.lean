/- What the statements' own helpers do: wakes, plays, same. No conditions. -/
import Derived.Test.YtoofaldblldncabHeres
namespace Go.Proofs.Ytoofaldblldncab
open Go.RowKit

/-- Whether two rows are the same. -/
def sameX (x y : Ent) : Bool := decide (x.src = y.src ∧ x.seq = y.seq ∧ x.code = y.code)
def sameL : List Ent → List Ent → Bool
  | [], [] => true
  | a :: l, b :: m => sameX a b && sameL l m
  | _, _ => false
theorem sameX_iff {x y : Ent} : sameX x y = true ↔ x = y := by
  unfold sameX
  rw [decide_eq_true_eq]
  exact ⟨fun h => ent_ext h.1 h.2.1 h.2.2, fun e => by rw [e]; exact ⟨rfl, rfl, rfl⟩⟩
theorem sameL_iff : ∀ {l m : List Ent}, sameL l m = true ↔ l = m
  | [], [] => by simp [sameL]
  | [], _ :: _ => by simp [sameL]
  | _ :: _, [] => by simp [sameL]
  | a :: l, b :: m => by
    rw [sameL, Bool.and_eq_true, sameX_iff, sameL_iff]
    simp
theorem sameL_false {l m : List Ent} (h : l ≠ m) : sameL l m = false := Bool.eq_false_iff.2 fun e => h (sameL_iff.1 e)
def wk1 : Tab := note new_ 0 1 1 2
def wk2 : Tab := note wk1 0 3 2 1
theorem wk1_ok : wk1.Ok := note_ok new_ok _ _ _ _
theorem wk2_ok : wk2.Ok := note_ok wk1_ok _ _ _ _
theorem wk_a : ask new_ 0 1 1 = (3, 0) := by decide
theorem wk_e : noteE new_ 0 1 1 2 = 0 := by decide
theorem wk_b : ask wk1 0 1 1 = (2, 2) := by decide
theorem wk_c : ask wk2 0 1 1 = (1, 0) := by decide
theorem wk_d : ask wk2 4 1 1 = (0, 0) := by decide
set_option maxRecDepth 100000 in
set_option maxHeartbeats 1000000 in
theorem wakes_any (w : World) : Calls Try.prog 4 #[] w fun e w' => e = .returned (.bool true) ∧ Below w.heap.size w w' := by
  have H0 := hide (HR.start w)
  go_enter Try.func4, Try.ntmps4
  go_wp2_with fail
  refine (HR.new (unhide H0)).mono ?_
  rintro e w1 ⟨q, F, rfl, h⟩
  have H1 := hide h
  clear h
  go_wp2_with fail
  refine ((unhide H1).ask List.mem_cons_self 0 1 1).mono ?_
  rintro e w' ⟨rfl, hw'⟩
  rw [hw', wk_a]
  clear hw'
  go_wp2_with fail
  refine ((unhide H1).note new_ok 0 1 1 2).mono ?_
  rintro e w2 ⟨rfl, F2, h⟩
  have H2 : Hid (HR w w2 (hTab q F2 wk1 :: [])) := hide h
  rw [wk_e]
  clear h
  go_wp2_with fail
  refine ((unhide H2).ask List.mem_cons_self 0 1 1).mono ?_
  rintro e w' ⟨rfl, hw'⟩
  rw [hw', wk_b]
  clear hw'
  go_wp2_with fail
  refine ((unhide H2).note wk1_ok 0 3 2 1).mono ?_
  rintro e w3 ⟨rfl, F3, h⟩
  have H3 : Hid (HR w w3 (hTab q F3 wk2 :: [])) := hide h
  clear h
  go_wp2_with fail
  refine ((unhide H3).ask List.mem_cons_self 0 1 1).mono ?_
  rintro e w' ⟨rfl, hw'⟩
  rw [hw', wk_c]
  clear hw'
  go_wp2_with fail
  refine ((unhide H3).ask List.mem_cons_self 4 1 1).mono ?_
  rintro e w' ⟨rfl, hw'⟩
  rw [hw', wk_d]
  clear hw'
  go_wp2_with fail
  go_ret
  exact ⟨rfl, (unhide H3).bel⟩
set_option maxRecDepth 100000 in
set_option maxHeartbeats 2000000 in
theorem plays_any {w0 v : World} {p : Nat} {F : Nat → Prop} {T : Tab} {R : List Held} (h : HR w0 v (hTab p F T :: R)) (hT : T.Ok) {a : Option Addr} {cap : Nat} {z : List ActV} (hz : ActK.At w0 a z) (hm : z.length ≤ 1000) (n : Int) :
    Calls Try.prog 6 #[.pointer (some ⟨p, 0, none⟩), .slice a z.length cap, .int .i64 n] v fun e v' => e = .returned (.tuple #[]) ∧ ∃ F', HR w0 v' (hTab p F' (plays T z n) :: R) := by
  have H0 := hide h
  have HZ := hide hz
  have HT := hide hT
  have HM := hide hm
  clear h hz hT hm
  go_enter Try.func6, Try.ntmps6
  go_wp2_with fail
  go_loopw [6] (fun i wr => ∃ (k : Nat) (F' : Nat → Prop), i = .int .i64 (k : Int) ∧ k ≤ z.length ∧ HR w0 wr (hTab p F' (plays T (z.take k) n) :: R)) (fun i _ => z.length - (intOf i).toNat)
  case atStart => exact ⟨0, F, rfl, Nat.zero_le _, by rw [List.take_zero]; exact unhide H0⟩
  case round =>
    obtain ⟨k, F', rfl, hk, hr⟩ := hrel
    clear H0
    have HRR := hide hr
    clear hr
    by_cases hlt : k < z.length
    · have g0 : (0 : Int) ≤ (k : Int) := by omega
      have g1 : (k : Int) < (z.length : Int) := by omega
      have hwk : IntKind.i64.wrap ((k : Int) + 1) = (k : Int) + 1 := Go.IntWalk.i64_in _ (by have := unhide HM; omega)
      obtain ⟨x, hx⟩ : ∃ x, z[k]? = some x := ⟨_, List.getElem?_eq_getElem hlt⟩
      have hAt : ActK.At wr a z := (unhide HZ).below (Nat.le_refl _) (unhide HRR).bel
      obtain ⟨g, o, rfl, hg, hrg⟩ := hAt.cell actK_law hx
      have OKT := hide (plays_ok (unhide HT) (z.take k) n)
      have hsn : plays T (z.take (k + 1)) n = if n < 0 ∨ x.src = n then noteA (plays T (z.take k) n) x else plays T (z.take k) n := by rw [take_snoc hx, plays_snoc]
      obtain ⟨xa, xs, xq, xl, xc⟩ := x
      have c1 : wr.cell? ⟨g, o + k * 5 + 1, none⟩ = some (.int .i64 xs) := hrg 1 _ rfl
      by_cases hc : n < 0 ∨ xs = n
      · rw [if_pos hc] at hsn
        obtain ⟨CL, hCL⟩ : ∃ CL : World → Prop, CL = fun v => v.rangeAt g (o + k * 5) (actC ⟨xa, xs, xq, xl, xc⟩) := ⟨_, rfl⟩
        have un : ∀ v, CL v → v.rangeAt g (o + k * 5) (actC ⟨xa, xs, xq, xl, xc⟩) := fun v k => by rw [hCL] at k; exact k
        have base : CL wr.drew := by rw [hCL]; exact (World.rangeAt_drew _ _ _ _).2 hrg
        have q1 : ∀ q : SW CL, q.w.cell? ⟨g, o + k * 5 + 1, none⟩ = some (.int .i64 xs) := fun q => un _ q.ok 1 _ rfl
        have q2 : ∀ q : SW CL, q.w.cell? ⟨g, o + k * 5 + 2, none⟩ = some (.int .i64 xq) := fun q => un _ q.ok 2 _ rfl
        have q3 : ∀ q : SW CL, q.w.cell? ⟨g, o + k * 5 + 3, none⟩ = some (.int .i64 xl) := fun q => un _ q.ok 3 _ rfl
        have q4 : ∀ q : SW CL, q.w.cell? ⟨g, o + k * 5 + 4, none⟩ = some (.int .i64 xc) := fun q => un _ q.ok 4 _ rfl
        have CN : Hid (Calls Try.prog 8 #[.pointer (some ⟨p, 0, none⟩), .int .i64 xs, .int .i64 xq, .int .i64 xl, .int .i64 xc] wr.drew fun e v' => ∃ u, e = .returned u ∧ CL v' ∧ ∃ F'', HR w0 v' (hTab p F'' (plays T (z.take (k + 1)) n) :: R)) := hide ((((unhide HRR).below ((Below.refl _ _).drew)).note (unhide OKT) xs xq xl xc).mono fun e v' ⟨h1, F'', h2⟩ => ⟨_, h1, by
          have h3 : ActK.At v' (some ⟨g, o, none⟩) z := (unhide HZ).below (Nat.le_refl _) h2.bel
          obtain ⟨g', o', e, _, h4⟩ := h3.cell actK_law hx
          cases e
          rw [hCL]; exact h4, F'', by rw [hsn]; exact h2⟩)
        have BS := hide base
        clear hx hAt hg hrg hsn OKT hCL un base
        rcases hc with hc | hc
        · go_upto_region 4 with fail
          refine wp_region_chain (S := CL) [true, true, true, true, true, true, true, true, true, true, true, true, true, true, true, true, true, true, true, true, true, false] [false, false, false, false, false, false, false, false, false, false, false, false, false, false, false, false, false, false, false, false, false, true] (by kernel_rfl) (by kernel_rfl) (by kernel_rfl) (unhide BS) ?_
          apply Exists.intro
          apply And.intro
          · intro q
            have n0 : Nonempty (SK CL q.w) := ⟨⟨q, rfl⟩⟩
            simp only [pickM]
            repeat (go_big_quiet_step (fail))
            exact wpQuiet_nil rfl
          · simp only [pickZ]
            refine chain_call 8 #[.pointer (some ⟨p, 0, none⟩), .int .i64 xs, .int .i64 xq, .int .i64 xl, .int .i64 xc] rfl (by simp [go_sem]) ?_
            refine (unhide CN).mono ?_
            rintro e v2 ⟨u, rfl, d4, F'', hrr⟩
            refine ⟨_, rfl, d4, ?_⟩
            have REL := hide hrr
            clear hrr d4 q1 q2 q3 q4
            simp only [chainM]
            go_simp
            go_wp2_with fail
            exact ⟨⟨k + 1, F'', rfl, by omega, unhide REL⟩, by simp [intOf]; omega⟩
        · subst hc
          by_cases hn0 : xs < 0
          · go_upto_region 4 with fail
            refine wp_region_chain (S := CL) [true, true, true, true, true, true, true, true, true, true, true, true, true, true, true, true, true, true, true, true, true, false] [false, false, false, false, false, false, false, false, false, false, false, false, false, false, false, false, false, false, false, false, false, true] (by kernel_rfl) (by kernel_rfl) (by kernel_rfl) (unhide BS) ?_
            apply Exists.intro
            apply And.intro
            · intro q
              have n0 : Nonempty (SK CL q.w) := ⟨⟨q, rfl⟩⟩
              simp only [pickM]
              repeat (go_big_quiet_step (fail))
              exact wpQuiet_nil rfl
            · simp only [pickZ]
              refine chain_call 8 #[.pointer (some ⟨p, 0, none⟩), .int .i64 xs, .int .i64 xq, .int .i64 xl, .int .i64 xc] rfl (by simp [go_sem]) ?_
              refine (unhide CN).mono ?_
              rintro e v2 ⟨u, rfl, d4, F'', hrr⟩
              refine ⟨_, rfl, d4, ?_⟩
              have REL := hide hrr
              clear hrr d4 q1 q2 q3 q4
              simp only [chainM]
              go_simp
              go_wp2_with fail
              exact ⟨⟨k + 1, F'', rfl, by omega, unhide REL⟩, by simp [intOf]; omega⟩
          · have hn1 : decide (xs < 0) = false := decide_eq_false hn0
            go_upto_region 4 with fail
            refine wp_region_chain (S := CL) [true, true, true, true, true, true, true, true, true, true, true, true, true, true, true, true, true, true, true, true, true, false] [false, false, false, false, false, false, false, false, false, false, false, false, false, false, false, false, false, false, false, false, false, true] (by kernel_rfl) (by kernel_rfl) (by kernel_rfl) (unhide BS) ?_
            apply Exists.intro
            apply And.intro
            · intro q
              have n0 : Nonempty (SK CL q.w) := ⟨⟨q, rfl⟩⟩
              simp only [pickM]
              repeat (go_big_quiet_step (fail))
              exact wpQuiet_nil rfl
            · simp only [pickZ]
              refine chain_call 8 #[.pointer (some ⟨p, 0, none⟩), .int .i64 xs, .int .i64 xq, .int .i64 xl, .int .i64 xc] rfl (by simp [go_sem]) ?_
              refine (unhide CN).mono ?_
              rintro e v2 ⟨u, rfl, d4, F'', hrr⟩
              refine ⟨_, rfl, d4, ?_⟩
              have REL := hide hrr
              clear hrr d4 q1 q2 q3 q4
              simp only [chainM]
              go_simp
              go_wp2_with fail
              exact ⟨⟨k + 1, F'', rfl, by omega, unhide REL⟩, by simp [intOf]; omega⟩
      · rw [if_neg hc] at hsn
        have h1 : ¬ n < 0 := fun h => hc (.inl h)
        have h2 : ¬ xs = n := fun h => hc (.inr h)
        have h3 : decide (n < 0) = false := decide_eq_false h1
        have REL : Hid (HR w0 wr (hTab p F' (plays T (z.take (k + 1)) n) :: R)) := hide (by rw [hsn]; exact unhide HRR)
        clear hx hAt hg hrg hsn OKT hc
        go_wp2_with fail
        exact ⟨⟨k + 1, F', rfl, by omega, unhide REL⟩, by simp [intOf]; omega⟩
    · have hke : k = z.length := by omega
      rw [hke, List.take_length] at HRR
      go_wp2_with fail
      go_end0
      exact ⟨rfl, F', unhide HRR⟩
end Go.Proofs.Ytoofaldblldncab

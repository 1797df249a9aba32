/- The document's own Merge. Condition: the list and what is told are shorter than 10^11. -/
import Derived.Test.YtdmjkbcjljnleaaRefB
import Derived.Test.YtdmjkbcjljnleaaFork
import Derived.Deep.CutRange
namespace Go.Proofs.Ytdmjkbcjljnleaa
open Go.RowKit

/-- While the document merges: its list so far. -/
structure MSt (w : World) (a : Option Addr) (c : Nat) (l : List Int) (wr : World) (H : Nat) (a1 : Option Addr) (c1 : Nat) (l1 : List Int) : Prop where
  hH : H = w.heap.size
  bel : Below w.heap.size w wr
  r0 : RowAt wr H [.slice a1 l1.length c1]
  r1 : RowAt wr (H + 1) [.slice none 0 0]
  row : IntK.Row wr 0 a1 c1 l1
  new_ : (a1 = a ∧ c1 = c ∧ l1 = l) ∨ ∀ k, own a1 l1.length c1 = some k → w.heap.size ≤ k
  sep : ∀ k, own a1 l1.length c1 = some k → k ≠ H ∧ k ≠ H + 1
section
variable {w wr : World} {a a1 a2 : Option Addr} {c c1 c2 H : Nat} {l l1 l2 : List Int}
theorem MSt.start (h : IntK.Row w 0 a c l) : MSt w a c l ((w.alloc (.cells #[.slice a l.length c] 35)).alloc (.cells #[.slice none 0 0] 35)) w.heap.size a c l := by
  have b : Below w.heap.size w ((w.alloc (.cells #[.slice a l.length c] 35)).alloc (.cells #[.slice none 0 0] 35)) := ((Below.refl _ _).alloc (Nat.le_refl _) _).alloc (by simp) _
  exact ⟨rfl, b, row_old (row_new w [.slice a l.length c] 35) _, row_new2 w [.slice none 0 0] [.slice a l.length c] 35 35, row_below h b, .inl ⟨rfl, rfl, rfl⟩, fun k e => by have := (row_lt h k e).2; omega⟩
theorem MSt.step (h : MSt w a c l wr H a1 c1 l1) {V : World} (b : Below wr.heap.size wr V) (hr : IntK.Row V 0 a2 c2 l2) (hn : (a2 = a1 ∧ c2 = c1 ∧ l2 = l1) ∨ ∀ k, own a2 l2.length c2 = some k → wr.heap.size ≤ k) :
    MSt w a c l (V.setCell ⟨H, 0, none⟩ (.slice a2 l2.length c2)) H a2 c2 l2 := by
  have hH := h.hH
  have h1 := h.r1.lt
  have hsz := h.bel.size
  have r0 := h.r0.keep (Moved.of_below (F := fun _ => False) b) id
  have r1 := h.r1.keep (Moved.of_below (F := fun _ => False) b) id
  have sep : ∀ k, own a2 l2.length c2 = some k → k ≠ H ∧ k ≠ H + 1 := fun k e => by
    rcases hn with ⟨rfl, rfl, rfl⟩ | hn
    · exact h.sep k e
    · have := hn k e; omega
  have mv : Moved (fun k => k = H) V (V.setCell ⟨H, 0, none⟩ (.slice a2 l2.length c2)) := (Moved.refl (fun k => k = H) V).setCell (p := ⟨H, 0, none⟩) (.inl rfl) _
  refine ⟨hH, (h.bel.trans (b.mono hsz)).setCell (by show w.heap.size ≤ H; omega) _, r0.set 0 (Nat.succ_pos _) _, r1.keep mv (by omega), row_keep hr mv (fun i e g => (sep i g.2).1 e), ?_, sep⟩
  rcases hn with ⟨rfl, rfl, rfl⟩ | hn
  · exact h.new_
  · exact .inr fun k e => Nat.le_trans hsz (hn k e)
theorem MSt.c0 (h : MSt w a c l wr H a1 c1 l1) : wr.cell? ⟨H, 0, none⟩ = some (.slice a1 l1.length c1) := h.r0.cell 0 (Nat.succ_pos _)
end
theorem upTo_neg {n : Int} (h : n ≤ 0) : upTo n = [] := upTo_zero h
set_option maxRecDepth 100000 in
set_option maxHeartbeats 4000000 in
theorem rmerge_any {w : World} {a : Option Addr} {c : Nat} {l : List Int} (h : IntK.Row w 0 a c l) (top : Int) {sa : Option Addr} {sc : Nat} {set : List Int} (hs : IntK.At w sa set) (hl : l.length + set.length ≤ 10000000000) {s : AckV} (hrel0 : RelA s l) :
    Calls Try.prog 19 #[.agg #[.slice a l.length c], .int .i64 top, .slice sa set.length sc] w fun e w' => ∃ a' c', e = .returned (.tuple #[.agg #[.slice a' (radds l (told top set)).length c'], .int .i64 (s.news (told top set))]) ∧ RStep w w' a c l a' c' (radds l (told top set)) := by
  obtain ⟨H, hH⟩ : ∃ H, H = w.heap.size := ⟨_, rfl⟩
  obtain ⟨W, hW⟩ : ∃ W, W = (w.alloc (.cells #[.slice a l.length c] 35)).alloc (.cells #[.slice none 0 0] 35) := ⟨_, rfl⟩
  have M0 : Hid (MSt w a c l W H a c l) := hide (by rw [hW, hH]; exact MSt.start h)
  have HW := hide hW
  have HH := hide hH
  have HL := hide hl
  have HR := hide hrel0
  have HS := hide hs
  obtain ⟨u, hu⟩ : ∃ u, u = cut20 top := ⟨_, rfl⟩
  have HT : Hid (∀ k, upTo u ++ set.take k = told top (set.take k)) := hide fun k => by unfold told; rw [hu]
  have hu1 : u ≤ 1048576 := by rw [hu]; unfold cut20; omega
  have hle : set.length ≤ 10000000000 := by omega
  have FREQ : Hid (∀ (t : List Int) (x : Int), s.news (t ++ [x]) = s.news t + one (rfresh (radds l t) x)) := hide fun t x => by rw [news_snoc, rel_fresh (rel_adds hrel0 t)]
  have LEN : Hid (∀ k, (radds l (told top (set.take k))).length ≤ 100000000000) := hide fun k => by
    have := radds_length l (told top (set.take k))
    unfold told at this
    rw [← hu, List.length_append, length_upTo, List.length_take] at this
    unfold told
    rw [← hu]
    omega
  have LEN1 : Hid (∀ n : Int, n ≤ 1048576 → (radds l (upTo n)).length ≤ 100000000000) := hide fun n hn => by
    have := radds_length l (upTo n)
    rw [length_upTo] at this
    omega
  have NW1 : Hid (∀ n : Int, n ≤ 1048576 → 0 ≤ s.news (upTo n) ∧ s.news (upTo n) ≤ 1048576) := hide fun n hn => by
    have := news_le s (upTo n)
    rw [length_upTo] at this
    omega
  have NW2 : Hid (∀ k, 0 ≤ s.news (told top (set.take k)) ∧ s.news (told top (set.take k)) ≤ 100000000000) := hide fun k => by
    have := news_le s (told top (set.take k))
    have h2 : ((told top (set.take k)).length : Int) ≤ 1048576 + set.length := by
      unfold told
      rw [← hu, List.length_append, length_upTo, List.length_take]; omega
    omega
  clear hW hH h hl hrel0 hs
  go_enter Try.func19, Try.ntmps19
  go_upto_region 1 with fail
  simp only [← unhide HH]
  rw [← unhide HW]
  go_cut [16] from 15 to 15 (fun s16 wx => s16 = .bool (decide (1048576 < top)) ∧ wx = W)
  case first =>
    go_wp2_with fail
    go_meet
    exact ⟨rfl, rfl⟩
  case rest =>
  obtain ⟨rfl, rfl⟩ := hcut
  refine ‹∀ (a : Act) (w : World), Code.wp Try.prog _ _ a w → _› _ _ ?_
  go_cut [1] from 15 to 16 (fun s1 wx => s1 = .int .i64 u ∧ wx = wc)
  case first =>
    by_cases hc : 1048576 < top
    · have e : u = 1048576 := by rw [hu]; unfold cut20; omega
      have E := hide e
      clear e hu
      go_wp2_with fail
      go_meet
      exact ⟨by rw [unhide E], rfl⟩
    · have e : u = top := by rw [hu]; unfold cut20; omega
      have E := hide e
      clear e hu
      go_wp2_with fail
      go_meet
      exact ⟨by rw [unhide E], rfl⟩
  case rest =>
  obtain ⟨rfl, rfl⟩ := hcut
  clear hu
  go_wp2_with fail
  go_loopw [8, 9] (fun f i wr => ∃ (n : Int) (a1 : Option Addr) (c1 : Nat), i = .int .i64 n ∧ 1 ≤ n ∧ (n = 1 ∨ n ≤ u + 1) ∧ f = .int .i64 (s.news (upTo (n - 1))) ∧ MSt w a c l wr H a1 c1 (radds l (upTo (n - 1)))) (fun _ i _ => (u + 1 - RowKit.intOf i).toNat)
  case atStart => exact ⟨1, a, c, rfl, by omega, .inl rfl, by rw [show (1 : Int) - 1 = 0 by omega, upTo_neg (Int.le_refl 0), news_nil], by rw [show (1 : Int) - 1 = 0 by omega, upTo_neg (Int.le_refl 0)]; exact unhide M0⟩
  case round =>
    obtain ⟨n, a1, c1, rfl, hn1, hn2, rfl, M⟩ := hrel
    clear M0
    by_cases hlt : n ≤ u
    · have hwn : IntKind.i64.wrap (n + 1) = n + 1 := Go.IntWalk.i64_in _ (by omega)
      have e1 : n + 1 - 1 = n := by omega
      have eu : upTo n = upTo (n - 1) ++ [n] := by
        have := upTo_succ (n := n - 1) (by omega)
        rwa [show n - 1 + 1 = n by omega] at this
      have c0 := M.c0
      have hra := radd_any M.row (unhide LEN1 (n - 1) (by omega)) n
      have NX := hide (unhide FREQ (upTo (n - 1)) n)
      have RX : Hid (radds l (upTo n) = radd (radds l (upTo (n - 1))) n) := hide (by rw [eu, radds_snoc])
      have NB := unhide NW1 (n - 1) (by omega)
      have hwf : IntKind.i64.wrap (s.news (upTo (n - 1)) + 1) = s.news (upTo (n - 1)) + 1 := Go.IntWalk.i64_in _ (by omega)
      have HM := hide M
      have HB := hide M.bel
      have EU := hide eu
      clear M NB eu
      cases hf : rfresh (radds l (upTo (n - 1))) n with
      | true =>
        rw [hf] at hra NX
        clear hf
        go_wp2_with fail
        refine hra.mono ?_
        rintro e w2 ⟨a2, c2, rfl, st⟩
        have bV : Below wr.heap.size wr (w2.alloc (.cells #[.slice a2 (radd (radds l (upTo (n - 1))) n).length c2] 35)) := st.bel.alloc st.bel.size _
        have MS := hide ((unhide HM).step bV (row_below st.row ((Below.refl _ _).alloc (Nat.le_refl _) _)) st.new_)
        have r0 := (unhide HM).r0.keep (Moved.of_below (F := fun _ => False) bV) id
        have d0 := r0.cell 0 (Nat.succ_pos _)
        have f0 := r0.free 0 (Nat.succ_pos _)
        simp only [List.getD_cons_zero] at d0
        clear hra st bV r0
        go_wp2_with fail
        exact ⟨⟨n + 1, a2, c2, rfl, by omega, .inr (by omega), by rw [e1, unhide EU, unhide NX]; rfl, by rw [e1, unhide RX]; exact unhide MS⟩, by simp [RowKit.intOf]; omega⟩
      | false =>
        rw [hf] at hra NX
        clear hf
        go_wp2_with fail
        refine hra.mono ?_
        rintro e w2 ⟨a2, c2, rfl, st⟩
        have bV : Below wr.heap.size wr (w2.alloc (.cells #[.slice a2 (radd (radds l (upTo (n - 1))) n).length c2] 35)) := st.bel.alloc st.bel.size _
        have MS := hide ((unhide HM).step bV (row_below st.row ((Below.refl _ _).alloc (Nat.le_refl _) _)) st.new_)
        have r0 := (unhide HM).r0.keep (Moved.of_below (F := fun _ => False) bV) id
        have d0 := r0.cell 0 (Nat.succ_pos _)
        have f0 := r0.free 0 (Nat.succ_pos _)
        simp only [List.getD_cons_zero] at d0
        clear hra st bV r0
        go_wp2_with fail
        exact ⟨⟨n + 1, a2, c2, rfl, by omega, .inr (by omega), by rw [e1, unhide EU, unhide NX]; simp [one], by rw [e1, unhide RX]; exact unhide MS⟩, by simp [RowKit.intOf]; omega⟩
    · have e1 : upTo (n - 1) = upTo u := by
        rcases hn2 with e | e
        · rw [upTo_neg (show n - 1 ≤ 0 by omega), upTo_neg (show u ≤ 0 by omega)]
        · rw [show n - 1 = u by omega]
      have T0 : Hid (upTo u = told top (set.take 0)) := hide (by have := unhide HT 0; rw [List.take_zero, List.append_nil] at this; rw [this, List.take_zero])
      rw [e1, unhide T0] at M
      rw [e1, unhide T0]
      have M1 := hide M
      clear M e1 T0
      go_wp2_with fail
      go_loopw [8, 12] (fun f i wr => ∃ (k : Nat) (a1 : Option Addr) (c1 : Nat), i = .int .i64 (k : Int) ∧ k ≤ set.length ∧ f = .int .i64 (s.news (told top (set.take k))) ∧ MSt w a c l wr H a1 c1 (radds l (told top (set.take k)))) (fun _ i _ => set.length - (RowKit.intOf i).toNat)
      case atStart => exact ⟨0, a1, c1, rfl, Nat.zero_le _, rfl, unhide M1⟩
      case round =>
        obtain ⟨k, a1', c1', rfl, hk, rfl, M⟩ := hrel
        clear M1
        by_cases hkt : k < set.length
        · have g0 : (0 : Int) ≤ (k : Int) := by omega
          have g1 : (k : Int) < (set.length : Int) := by omega
          have hwk : IntKind.i64.wrap ((k : Int) + 1) = (k : Int) + 1 := Go.IntWalk.i64_in _ (by omega)
          obtain ⟨x, hx⟩ : ∃ x, set[k]? = some x := ⟨_, List.getElem?_eq_getElem hkt⟩
          obtain ⟨g, o, rfl, hg, hrg⟩ := ((unhide HS).below (Nat.le_refl _) M.bel).cell intK_law hx
          have z0 := hrg 0 (.int .i64 x) rfl
          simp only [IntK, Nat.mul_one, Nat.add_zero] at z0
          have tx : told top (set.take (k + 1)) = told top (set.take k) ++ [x] := by
            rw [← unhide HT, ← unhide HT, take_snoc hx, List.append_assoc]
          have NX : Hid (s.news (told top (set.take (k + 1))) = s.news (told top (set.take k)) + one (rfresh (radds l (told top (set.take k))) x)) := hide (by rw [tx]; exact unhide FREQ _ _)
          have RX : Hid (radds l (told top (set.take (k + 1))) = radd (radds l (told top (set.take k))) x) := hide (by rw [tx, radds_snoc])
          have LL := hide (unhide LEN k)
          have NB := unhide NW2 k
          obtain ⟨L, hL⟩ : ∃ L, L = radds l (told top (set.take k)) := ⟨_, rfl⟩
          obtain ⟨nw, hnw⟩ : ∃ nw, nw = s.news (told top (set.take k)) := ⟨_, rfl⟩
          rw [← hL] at M RX LL NX
          rw [← hnw] at NX NB
          rw [← hnw]
          have hwf : IntKind.i64.wrap (nw + 1) = nw + 1 := Go.IntWalk.i64_in _ (by omega)
          have c0 := M.c0
          have HM := hide M
          clear hL hnw M hg hrg NB tx
          go_upto_region 14 with fail
          go_cut [13, 14] from 38 to 46 (fun s13 s14 wx => ∃ (q : Nat) (a2 : Option Addr) (c2 : Nat), s13 = .pointer (some ⟨q, 0, none⟩) ∧ s14 = .bool (rfresh L x) ∧ wx.cell? ⟨q, 0, none⟩ = some (.slice a2 (radd L x).length c2) ∧ Below wr.heap.size wr wx ∧ IntK.Row wx 0 a2 c2 (radd L x) ∧ ((a2 = a1' ∧ c2 = c1' ∧ radd L x = L) ∨ ∀ k, own a2 (radd L x).length c2 = some k → wr.heap.size ≤ k))
          case first =>
            obtain ⟨CL, hCL⟩ : ∃ CL : World → Prop, CL = fun v => Below wr.heap.size wr v := ⟨_, rfl⟩
            have un : ∀ v, CL v → Below wr.heap.size wr v := fun v k => by rw [hCL] at k; exact k
            have to_ : Hid (∀ v, Below wr.heap.size wr v → CL v) := hide fun v k => by rw [hCL]; exact k
            have base : CL wr.drew := unhide to_ _ (Below.refl _ _).drew
            have kc : ∀ (q : SW CL) (b i : Nat) (v : Value), wr.cell? ⟨b, i, none⟩ = some v → q.w.cell? ⟨b, i, none⟩ = some v := fun q b i v hv => ((un _ q.ok).cell (p := ⟨b, i, none⟩) (World.block_lt_of_cell? _ _ hv)).trans hv
            have q0 : ∀ q : SW CL, q.w.cell? ⟨H, 0, none⟩ = some (.slice a1' L.length c1') := fun q => kc q _ _ _ c0
            have q1 : ∀ q : SW CL, q.w.cell? ⟨g, o + k, none⟩ = some (.int .i64 x) := fun q => kc q _ _ _ z0
            have BS := hide base
            have RA : Hid (∀ V, Below wr.heap.size wr V → Calls Try.prog 18 #[.agg #[.slice a1' L.length c1'], .int .i64 x] V fun e w' => ∃ a' c', e = .returned (.tuple #[.agg #[.slice a' (radd L x).length c'], .bool (rfresh L x)]) ∧ RStep V w' a1' c1' L a' c' (radd L x)) := hide fun V hV => radd_any (row_below (unhide HM).row hV) (unhide LL) x
            clear hCL un kc c0 z0 base
            refine wp_region_fork (S := CL) [true, true, true, true, true, false, false, false, false, false, false, false] 5 9 [(true, 6), (true, 7), (true, 8), (false, 9), (false, 10), (true, 11)] [(false, 5), (true, 6), (true, 7), (true, 8), (false, 10), (true, 11)] (by kernel_rfl) (by kernel_rfl) (by kernel_rfl) (unhide BS) ?_
            apply Exists.intro
            apply And.intro
            · intro q
              have n0 : Nonempty (SK CL q.w) := ⟨⟨q, rfl⟩⟩
              simp only [pickM]
              repeat (go_big_quiet_step (fail))
              exact wpQuiet_nil rfl
            · clear q0 q1
              simp only [stepsZ, List.map_cons, List.map_nil, List.getD_cons_succ, List.getD_cons_zero]
              apply And.intro
              · refine turnM_call 18 #[.agg #[.slice a1' L.length c1'], .int .i64 x] rfl (by simp [go_sem]) ?_
                refine (unhide RA _ (Below.refl _ _).drew).mono ?_
                rintro e w2 ⟨a2, c2, rfl, st⟩
                have b2 : Below wr.heap.size wr w2 := ((Below.refl _ _).drew).trans st.bel
                refine ⟨_, rfl, unhide to_ _ b2, ?_⟩
                go_simp
                refine seqM_pure (.tuple #[.agg #[.slice a2 (radd L x).length c2], .bool (rfresh L x)]) rfl (by intro w; simp [go_sem]) (unhide to_ _ b2) ?_
                go_simp
                refine seqM_pure (.agg #[.slice a2 (radd L x).length c2]) rfl (by intro w; simp [go_sem]) (unhide to_ _ b2) ?_
                go_simp
                refine seqM_pure (.bool (rfresh L x)) rfl (by intro w; simp [go_sem]) (unhide to_ _ b2) ?_
                go_simp
                refine seqM_step (.pointer (some ⟨w2.heap.size, 0, none⟩)) (w2.alloc (.cells #[.slice none 0 0] 35)) rfl (by simp [go_sem]) (unhide to_ _ (b2.alloc b2.size _)) ?_
                go_simp
                have b3 : Below wr.heap.size wr (w2.alloc (.cells #[.slice a2 (radd L x).length c2] 35)) := b2.alloc b2.size _
                refine seqM_skip (w2.alloc (.cells #[.slice a2 (radd L x).length c2] 35)) rfl (by simp [go_sem]) (unhide to_ _ b3) ?_
                go_simp
                refine seqM_pure (.bool (rfresh L x)) rfl (by intro w; simp [go_sem]) (unhide to_ _ b3) ?_
                go_simp
                simp only [seqM]
                go_wp2_with fail
                go_meet
                exact ⟨w2.heap.size, a2, c2, rfl, rfl, by simp, b3, row_below st.row ((Below.refl _ _).alloc (Nat.le_refl _) _), st.new_.imp id fun h k e => h k e⟩
              · have bA : Below wr.heap.size wr (wr.drew.alloc (.cells #[.slice none 0 0] 35)) := ((Below.refl _ _).drew).alloc (Nat.le_refl _) _
                have rA := row_new wr.drew [.slice none 0 0] 35
                refine turnM_step (.pointer (some ⟨wr.heap.size, 0, none⟩)) (wr.drew.alloc (.cells #[.slice none 0 0] 35)) rfl (by simp [go_sem]) (unhide to_ _ bA) ?_
                go_simp
                refine seqM_call 18 #[.agg #[.slice a1' L.length c1'], .int .i64 x] rfl (by simp [go_sem]) ?_
                refine (unhide RA _ bA).mono ?_
                rintro e w2 ⟨a2, c2, rfl, st⟩
                have bs : Below wr.heap.size (wr.drew.alloc (.cells #[.slice none 0 0] 35)) w2 := st.bel.mono bA.size
                have b2 : Below wr.heap.size wr w2 := bA.trans bs
                have r2 := rA.keep (Moved.of_below (F := fun _ => False) st.bel) id
                have hlt := r2.lt
                refine ⟨_, rfl, unhide to_ _ b2, ?_⟩
                go_simp
                refine seqM_pure (.tuple #[.agg #[.slice a2 (radd L x).length c2], .bool (rfresh L x)]) rfl (by intro w; simp [go_sem]) (unhide to_ _ b2) ?_
                go_simp
                refine seqM_pure (.agg #[.slice a2 (radd L x).length c2]) rfl (by intro w; simp [go_sem]) (unhide to_ _ b2) ?_
                go_simp
                refine seqM_pure (.bool (rfresh L x)) rfl (by intro w; simp [go_sem]) (unhide to_ _ b2) ?_
                go_simp
                have z2 : w2.cell? ⟨wr.heap.size, 0, none⟩ = some (.slice none 0 0) := r2.cell 0 (Nat.succ_pos _)
                have f2 : w2.frozen? ⟨wr.heap.size, 0, none⟩ = false := r2.free 0 (Nat.succ_pos _)
                have b3 : Below wr.heap.size wr (w2.setCell ⟨wr.heap.size, 0, none⟩ (.slice a2 (radd L x).length c2)) := b2.setCell (Nat.le_refl _) _
                refine seqM_skip (w2.setCell ⟨wr.heap.size, 0, none⟩ (.slice a2 (radd L x).length c2)) rfl (by simp [go_sem, z2, f2]) (unhide to_ _ b3) ?_
                go_simp
                refine seqM_pure (.bool (rfresh L x)) rfl (by intro w; simp [go_sem]) (unhide to_ _ b3) ?_
                go_simp
                simp only [seqM]
                have hnew : (a2 = a1' ∧ c2 = c1' ∧ radd L x = L) ∨ ∀ k, own a2 (radd L x).length c2 = some k → wr.heap.size + 1 ≤ k := st.new_.imp id fun h k e => by have := h k e; simpa using this
                have hsep : ∀ k, own a2 (radd L x).length c2 = some k → k ≠ wr.heap.size := fun k e => by
                  rcases hnew with ⟨e1, e2, e3⟩ | h
                  · rw [e1, e2, e3] at e
                    have := (row_lt (unhide HM).row k e).2
                    omega
                  · have := h k e; omega
                have REL : Hid ((w2.setCell ⟨wr.heap.size, 0, none⟩ (.slice a2 (radd L x).length c2)).cell? ⟨wr.heap.size, 0, none⟩ = some (.slice a2 (radd L x).length c2) ∧ Below wr.heap.size wr (w2.setCell ⟨wr.heap.size, 0, none⟩ (.slice a2 (radd L x).length c2)) ∧ IntK.Row (w2.setCell ⟨wr.heap.size, 0, none⟩ (.slice a2 (radd L x).length c2)) 0 a2 c2 (radd L x) ∧ ((a2 = a1' ∧ c2 = c1' ∧ radd L x = L) ∨ ∀ k, own a2 (radd L x).length c2 = some k → wr.heap.size ≤ k)) :=
                  hide ⟨by rw [World.cell?_setCell_same (h := z2)], b3, row_keep st.row ((Moved.refl (fun k => k = wr.heap.size) w2).setCell (p := ⟨wr.heap.size, 0, none⟩) (.inl rfl) _) (fun i e g => hsep i g.2 e), hnew.imp id fun h k e => by have := h k e; omega⟩
                clear hnew hsep b3 z2 f2 r2 hlt b2 bs st rA bA
                go_wp2_with fail
                go_meet
                exact ⟨wr.heap.size, a2, c2, rfl, rfl, unhide REL⟩
          case rest =>
          obtain ⟨q, a2, c2, rfl, rfl, zq, hb, hrow, hnew⟩ := hcut
          cases hfv : rfresh L x with
          | true =>
            rw [hfv] at NX
            have HB := hide hb
            have MS := hide ((unhide HM).step hb hrow hnew)
            have r0 := (unhide HM).r0.keep (Moved.of_below (F := fun _ => False) hb) id
            have d0 := r0.cell 0 (Nat.succ_pos _)
            have f0 := r0.free 0 (Nat.succ_pos _)
            simp only [List.getD_cons_zero] at d0
            clear hfv hb hrow hnew r0
            refine ‹∀ (a : Act) (w : World), Code.wp Try.prog _ _ a w → _› _ _ ?_
            go_wp2_with fail
            exact ⟨⟨k + 1, a2, c2, rfl, by omega, by rw [unhide NX]; rfl, by rw [unhide RX]; exact unhide MS⟩, by simp [RowKit.intOf]; omega⟩
          | false =>
            rw [hfv] at NX
            have HB := hide hb
            have MS := hide ((unhide HM).step hb hrow hnew)
            have r0 := (unhide HM).r0.keep (Moved.of_below (F := fun _ => False) hb) id
            have d0 := r0.cell 0 (Nat.succ_pos _)
            have f0 := r0.free 0 (Nat.succ_pos _)
            simp only [List.getD_cons_zero] at d0
            clear hfv hb hrow hnew r0
            refine ‹∀ (a : Act) (w : World), Code.wp Try.prog _ _ a w → _› _ _ ?_
            go_wp2_with fail
            exact ⟨⟨k + 1, a2, c2, rfl, by omega, by rw [unhide NX]; simp [one], by rw [unhide RX]; exact unhide MS⟩, by simp [RowKit.intOf]; omega⟩
        · have hke : k = set.length := by omega
          subst hke
          rw [List.take_length] at M
          rw [List.take_length]
          have c0 := M.c0
          have r1 := M.r1
          have z1 := r1.cell 0 (Nat.succ_pos _)
          have f1 := r1.free 0 (Nat.succ_pos _)
          simp only [List.getD_cons_zero] at z1
          have hne : ∀ k, own a1' (radds l (told top set)).length c1' = some k → k ≠ H + 1 := fun k e => (M.sep k e).2
          have E0 := hide (⟨(r1.set 0 (Nat.succ_pos _) (.slice a1' (radds l (told top set)).length c1')).range, ⟨M.bel.setCell (by show w.heap.size ≤ H + 1; have := M.hH; omega) _, row_keep M.row ((Moved.refl (fun k => k = H + 1) wr).setCell (p := ⟨H + 1, 0, none⟩) (.inl rfl) _) (fun i e g => hne i g.2 e), M.new_⟩⟩ : (wr.setCell ⟨H + 1, 0, none⟩ (.slice a1' (radds l (told top set)).length c1')).rangeAt (H + 1) 0 [.slice a1' (radds l (told top set)).length c1'] ∧ RStep w (wr.setCell ⟨H + 1, 0, none⟩ (.slice a1' (radds l (told top set)).length c1')) a c l a1' c1' (radds l (told top set)))
          clear M r1 hne
          go_wp2_with fail
          refine bodyPost_ret (v := .tuple #[.agg #[.slice a1' (radds l (told top set)).length c1'], .int .i64 (s.news (told top set))]) ?_ rfl ⟨a1', c1', rfl, (unhide E0).2⟩
          exact results_cell_tmp Try.results19 _ _ (H + 1) [.slice a1' (radds l (told top set)).length c1'] _ rfl (unhide E0).1 Try.underlying35 rfl (by kernel_rfl)
end Go.Proofs.Ytdmjkbcjljnleaa

/- SeenPlays's walk. Conditions: the numbers handed in are a machine's. -/
import Derived.Test.YtoofaldblldncaaAlike
import Derived.Test.YtoofaldblldncaaTwinW
namespace Go.Proofs.Ytoofaldblldncaa
open Go.RowKit

/-- A variable's own block. -/
def hVal (P : Nat) (vs : List Value) : Held := ⟨fun k => k = P, fun v => RowAt v P vs, fun _ h k e => by rw [e]; exact h.lt, fun v v' h hz hk => by
  have hp := hk P rfl
  exact ⟨Nat.lt_of_lt_of_le h.lt hz, fun i hi => (World.cell?_of_block (w := v) hp).trans (h.cell i hi), fun i hi => (World.frozen?_of_block (w := v) hp).trans (h.free i hi)⟩⟩
section
variable {w0 v : World} {P : Nat} {vs : List Value} {R : List Held}
theorem HR.val (h : HR w0 v R) (m : hVal P vs ∈ R) : RowAt v P vs := h.ok _ m
theorem HR.put (h : HR w0 v (hVal P vs :: R)) (us : List Value) (hl : vs.length = us.length) : ∃ wf, v.setCells P 0 us = wf ∧ HR w0 wf (hVal P us :: R) :=
  ⟨_, rfl, h.turn (r := hVal P vs) (r' := hVal P us) (setCells_moved v P 0 us) ((h.val List.mem_cons_self).put us hl) (fun _ e => .inl e)⟩
theorem HR.made (h : HR w0 v R) (vs : List Value) (ty : TypeId) : HR w0 (v.alloc (.cells vs.toArray ty)) (hVal v.heap.size vs :: R) :=
  h.add ((Below.refl _ v).alloc (Nat.le_refl _) _) (row_new v vs ty) (fun k e => by have : k = v.heap.size := e; omega)
theorem HR.alike {p : Nat} {F : Nat → Prop} {T : Tab} {low : Nat → Int} {a : Option Addr} {c : Nat} {l : List Ent} (h : HR w0 v R) (mt : hTab p F T ∈ R) (ml : hRow RefK a c l ∈ R) (hT : T.Ok) (hr : Rel T ⟨low, l⟩) (hl : l.length ≤ 10000) :
    Calls Try.prog 14 #[.pointer (some ⟨p, 0, Option.none⟩), .agg (refC low a l.length c).toArray] v fun e v' => e = .returned (.bool true) ∧ HR w0 v' R :=
  (alike_any (h.tab mt) hT hr (h.row ml) hl).mono fun _ _ ⟨h1, h2⟩ => ⟨h1, h.below h2⟩
theorem HR.rask {low : Nat → Int} {a : Option Addr} {c : Nat} {l : List Ent} (h : HR w0 v R) (ml : hRow RefK a c l ∈ R) (hl : l.length ≤ 10000) (src seq lo : Int) (hq : seq ≤ 9223372036854775807) :
    Calls Try.prog 16 #[.agg (refC low a l.length c).toArray, .int .i64 src, .int .i64 seq, .int .i64 lo] v fun e w' => e = .returned (.tuple #[.int .i64 (Ytoofaldblldncaa.rask ⟨low, l⟩ src seq lo).1, .int .i64 (Ytoofaldblldncaa.rask ⟨low, l⟩ src seq lo).2]) ∧ HR w0 w' R :=
  (rask_any (h.row ml) (by omega) src seq lo hq).mono fun _ _ ⟨h1, h2⟩ => ⟨h1, h.below h2⟩
theorem HR.rnote {low : Nat → Int} {a : Option Addr} {c : Nat} {l : List Ent} (h : HR w0 v (hRow RefK a c l :: R)) (hl : l.length ≤ 10000) (src seq lo code : Int) (hq : seq ≤ 9223372036854775807) :
    Calls Try.prog 18 #[.agg (refC low a l.length c).toArray, .int .i64 src, .int .i64 seq, .int .i64 lo, .int .i64 code] v fun e v' => ∃ a' c', e = .returned (.tuple #[.agg (refC (Ytoofaldblldncaa.rnote ⟨low, l⟩ src seq lo code).low a' (Ytoofaldblldncaa.rnote ⟨low, l⟩ src seq lo code).l.length c').toArray, .int .i64 (rnoteE ⟨low, l⟩ src seq lo code)]) ∧ HR w0 v' (hRow RefK a' c' (Ytoofaldblldncaa.rnote ⟨low, l⟩ src seq lo code).l :: R) := by
  unfold Ytoofaldblldncaa.rnote
  by_cases hn : rnoteE ⟨low, l⟩ src seq lo code = 0
  · rw [if_pos hn, hn]
    refine (rnote_ok (h.row List.mem_cons_self) hl src seq lo code hq hn).mono ?_
    rintro e v' ⟨a', c', h1, h2, h3⟩
    refine ⟨a', c', by rw [List.length_append]; exact h1, h.drop1.add h2 (row_base h3 (Nat.zero_le _)) fun k e => (row_lt h3 k e).1⟩
  · rw [if_neg hn]
    exact (rnote_bad (h.row List.mem_cons_self) hl src seq lo code hq hn).mono fun e v' ⟨h1, h2⟩ => ⟨a, c, h1, h.below h2⟩
end
theorem perm_a (a b c : Held) (R : List Held) : (a :: b :: c :: R).Perm (b :: c :: a :: R) := (List.Perm.swap b a (c :: R)).trans (List.Perm.cons b (List.Perm.swap c a R))
theorem rnote_len (W : RefS) (src seq lo code : Int) : (rnote W src seq lo code).l.length ≤ W.l.length + 1 := by
  unfold rnote
  split
  · rw [List.length_append]; exact Nat.le_refl _
  · omega
theorem act_cells {v : World} {X : Nat} {xa : Bool} {xs xq xl xc : Int} (h : RowAt v X (actC ⟨xa, xs, xq, xl, xc⟩)) : v.cell? ⟨X, 0, none⟩ = some (.bool xa) ∧ v.cell? ⟨X, 1, none⟩ = some (.int .i64 xs) ∧ v.cell? ⟨X, 2, none⟩ = some (.int .i64 xq) ∧ v.cell? ⟨X, 3, none⟩ = some (.int .i64 xl) ∧ v.cell? ⟨X, 4, none⟩ = some (.int .i64 xc) :=
  ⟨h.cell 0 (by simp [actC]), h.cell 1 (by simp [actC]), h.cell 2 (by simp [actC]), h.cell 3 (by simp [actC]), h.cell 4 (by simp [actC])⟩
set_option maxRecDepth 100000 in
set_option maxHeartbeats 8000000 in
theorem playsw_small (a1 : Option Addr) (cap1 : Nat) (z1 : List Int) (a2 : Option Addr) (cap2 : Nat) (z2 : List Ent) (a3 : Option Addr) (cap3 : Nat) (z3 : List ActV) (w : World) (hA1 : IntK.At w a1 z1) (hA2 : RefK.At w a2 z2) (hA3 : ActK.At w a3 z3) (hn1 : z1.length ≤ 20) (hn2 : z2.length ≤ 100) (hn3 : z3.length ≤ 300) (hi2 : ∀ x ∈ z2, x.In) (hi3 : ∀ x ∈ z3, x.In) :
    Calls Try.prog 3 #[.slice a1 z1.length cap1, .slice a2 z2.length cap2, .slice a3 z3.length cap3] w fun e w' => e = .returned (.bool true) ∧ Below w.heap.size w w' := by
  have H0 := hide (HR.start w)
  have gz1 : ¬ (20 : Int) < (z1.length : Int) := by omega
  have gz2 : ¬ (100 : Int) < (z2.length : Int) := by omega
  have gz3 : ¬ (300 : Int) < (z3.length : Int) := by omega
  have HA1 := hide hA1
  have HA2 := hide hA2
  have HA3 := hide hA3
  have HN2 := hide hn2
  have HN3 := hide hn3
  have HI2 := hide hi2
  have HI3 := hide hi3
  clear hA1 hA2 hA3 hi2 hi3 hn1 hn2 hn3
  go_enter Try.func3, Try.ntmps3
  go_wp2_with fail
  refine (given_any (unhide HA2) (unhide HN2)).mono ?_
  rintro e w1 ⟨ag, cg, rfl, hg, hb⟩
  have H1 : Hid (HR w w1 (hRow EntK ag cg z2 :: [])) := hide ((unhide H0).add hb (row_base hg (Nat.zero_le _)) fun k e => (row_lt hg k e).1)
  have COF := hide ((unhide H1).of (c := cap1) (d := cg) ((unhide HA1).below (Nat.le_refl _) hb) ((unhide H1).row List.mem_cons_self) (unhide HN2))
  clear hg hb H0 H1
  cases hgd : good z1 z2 with
  | true =>
    have GD := hide hgd
    have C10 : Hid (Calls Try.prog 10 #[.slice a1 z1.length cap1, .slice ag z2.length cg] w1 fun e v' => ∃ q F, e = .returned (.tuple #[.pointer (some ⟨q, 0, none⟩), .int .i64 0]) ∧ HR w v' (hTab q F (keeps (tab0 z1) z2) :: hRow EntK ag cg z2 :: [])) := hide ((unhide COF).mono fun e v' h => by
      rcases h with ⟨_, h⟩ | ⟨h, _⟩
      · exact h
      · rw [hgd] at h; cases h)
    clear COF hgd
    go_wp2_with fail
    refine (unhide C10).mono ?_
    rintro e w2 ⟨s, F, rfl, h⟩
    have H2 := hide h
    have C12 := hide (rof_any (c := cap1) (d := cap2) ((unhide HA1).below (Nat.le_refl _) h.bel) ((unhide HA2).below (Nat.le_refl _) h.bel) (unhide HN2) (unhide HI2))
    clear C10 h
    go_wp2_with fail
    refine (unhide C12).mono ?_
    rintro e w3 ⟨hb, hc⟩
    obtain ⟨al, cl, rfl, hrow⟩ : ∃ al cl, e = .returned (.tuple #[.agg (refC (lowf z1) al z2.length cl).toArray, .int .i64 0]) ∧ RefK.Row w3 w2.heap.size al cl z2 := by
      rcases hc with ⟨_, h⟩ | ⟨h, _⟩
      · exact h
      · rw [unhide GD] at h; cases h
    obtain ⟨T0, hT0⟩ : ∃ T0, T0 = keeps (tab0 z1) z2 := ⟨_, rfl⟩
    obtain ⟨low0, hlow0⟩ : ∃ low0, low0 = lowf z1 := ⟨_, rfl⟩
    obtain ⟨l0, hl0⟩ : ∃ l0, l0 = z2 := ⟨_, rfl⟩
    have OK0 : Hid T0.Ok := hide (by rw [hT0]; exact good_ok (unhide GD))
    have RL0 : Hid (Rel T0 ⟨low0, l0⟩) := hide (by rw [hT0, hlow0, hl0]; exact rel_of (unhide GD))
    have LN0 : Hid (l0.length ≤ 100) := hide (by rw [hl0]; exact unhide HN2)
    have H3 : Hid (HR w w3 (hRow RefK al cl l0 :: hTab s F T0 :: [])) := hide (by
      rw [hl0, hT0]
      exact ((unhide H2).front (r := hTab s F (keeps (tab0 z1) z2)) []).sub (List.Sublist.cons_cons _ (List.nil_sublist _)) |>.add hb (row_base hrow (Nat.zero_le _)) fun k e => (row_lt hrow k e).1)
    have VE : Hid (refC (lowf z1) al z2.length cl = refC low0 al l0.length cl) := hide (by rw [hlow0, hl0])
    rw [unhide VE]
    clear hb hc hrow hT0 hlow0 hl0 C12 H2 VE
    obtain ⟨P, hP⟩ : ∃ P, P = w3.heap.size := ⟨_, rfl⟩
    have H3a := (unhide H3).made refZ 34
    rw [← hP] at H3a
    have hth0 := (H3a.val List.mem_cons_self).there
    obtain ⟨W4, hW4, h4⟩ := H3a.put (refC low0 al l0.length cl) rfl
    have HP := hide hP
    have HW4 := hide hW4
    have HTH := hide hth0
    have H4 : Hid (HR w W4 (hRow RefK al cl l0 :: hTab s F T0 :: hVal P (refC low0 al l0.length cl) :: [])) := hide (h4.perm (perm_a _ _ _ _))
    have RG4 := hide (h4.val List.mem_cons_self).range
    clear hP H3a hth0 hW4 h4 H3
    go_wp2_with (first | (simp only [← unhide HP]; refine wpList_store_mid rfl 34 (.tmp 9) (.tmp 44) rfl P 0 (refC low0 al l0.length cl).toArray rfl rfl (unhide HTH) (by kernel_rfl) (by simp [Value.oneCell', refC]) ?_; change wpList _ _ _ _ _ (World.setCells (World.alloc w3 (.cells refZ.toArray 34)) P 0 (refC low0 al l0.length cl)); rw [unhide HW4]) | (refine wpList_load_on rfl 34 (.tmp 9) rfl P 0 rfl (refC low0 al l0.length cl) _ (unhide RG4) Try.underlying34 rfl (by kernel_rfl) ?_))
    refine ((unhide H4).alike (List.mem_cons_of_mem _ List.mem_cons_self) List.mem_cons_self (unhide OK0) (unhide RL0) (by have := unhide LN0; omega)).mono ?_
    rintro e w6 ⟨rfl, h⟩
    have H6 := hide h
    clear h H4 RG4
    go_wp2_with fail
    go_loopw [11] (fun i wr => ∃ (k : Nat) (F' : Nat → Prop) (T : Tab) (low : Nat → Int) (al : Option Addr) (cl : Nat) (l : List Ent), i = .int .i64 (k : Int) ∧ k ≤ z3.length ∧ HR w wr (hRow RefK al cl l :: hTab s F' T :: hVal P (refC low al l.length cl) :: []) ∧ T.Ok ∧ Rel T ⟨low, l⟩ ∧ l.length ≤ 100 + k) (fun i _ => z3.length - (intOf i).toNat)
    case atStart => exact ⟨0, F, T0, low0, al, cl, l0, rfl, Nat.zero_le _, unhide H6, unhide OK0, unhide RL0, unhide LN0⟩
    case round =>
      obtain ⟨k, F', T, low, al, cl, l, rfl, hk, hr, hok, hrl, hln⟩ := hrel
      clear H6
      have HRR := hide hr
      have OKT := hide hok
      have REL := hide hrl
      have HLN := hide hln
      clear hr hok hrl hln OK0 RL0 LN0
      by_cases hlt : k < z3.length
      · have g0 : (0 : Int) ≤ (k : Int) := by omega
        have g1 : (k : Int) < (z3.length : Int) := by omega
        have hwk : IntKind.i64.wrap ((k : Int) + 1) = (k : Int) + 1 := Go.IntWalk.i64_in _ (by have := unhide HN3; omega)
        obtain ⟨x, hx⟩ : ∃ x, z3[k]? = some x := ⟨_, List.getElem?_eq_getElem hlt⟩
        have hxi := (unhide HI3 x (List.mem_of_getElem? hx)).seq.2
        have hAt : ActK.At wr a3 z3 := (unhide HA3).below (Nat.le_refl _) (unhide HRR).bel
        obtain ⟨g, o, rfl, hg, hrg⟩ := hAt.cell actK_law hx
        obtain ⟨xa, xs, xq, xl, xc⟩ := x
        have HXI : Hid (xq ≤ 9223372036854775807) := hide hxi
        have RG : Hid (wr.rangeAt g (o + k * 5) [.bool xa, .int .i64 xs, .int .i64 xq, .int .i64 xl, .int .i64 xc]) := hide hrg
        obtain ⟨X, hX⟩ : ∃ X, X = wr.heap.size := ⟨_, rfl⟩
        obtain ⟨W1, hW1⟩ : ∃ W1, W1 = wr.alloc (.cells #[.bool xa, .int .i64 xs, .int .i64 xq, .int .i64 xl, .int .i64 xc] 40) := ⟨_, rfl⟩
        have h1 : HR w W1 (hVal X (actC ⟨xa, xs, xq, xl, xc⟩) :: hRow RefK al cl l :: hTab s F' T :: hVal P (refC low al l.length cl) :: []) := by
          rw [hX, hW1]; exact (unhide HRR).made (actC ⟨xa, xs, xq, xl, xc⟩) 40
        obtain ⟨c0, c1, c2, c3, c4⟩ := act_cells (h1.val List.mem_cons_self)
        have H1 := hide h1
        have RG1 := hide (h1.val (P := P) (vs := refC low al l.length cl) (List.mem_cons_of_mem _ (List.mem_cons_of_mem _ (List.mem_cons_of_mem _ List.mem_cons_self)))).range
        have HW1 := hide hW1
        have HX := hide hX
        have AE : Hid (rask ⟨low, l⟩ xs xq xl = ask T xs xq xl) := hide (rel_ask (unhide REL) (unhide OKT) xs xq xl)
        clear hx hxi hAt hg hrg hX hW1 h1 HRR
        go_upto_region 15 with (refine wpList_load_on rfl 40 (.tmp 71) rfl g (o + k * 5) rfl [.bool xa, .int .i64 xs, .int .i64 xq, .int .i64 xl, .int .i64 xc] _ (unhide RG) Try.underlying40 rfl (by kernel_rfl) ?_)
        rw [← unhide HX]
        rw [← unhide HW1]
        go_wp2_with fail
        refine ((unhide H1).ask (List.mem_cons_of_mem _ (List.mem_cons_of_mem _ List.mem_cons_self)) xs xq xl).mono ?_
        rintro e w' ⟨rfl, hw'⟩
        rw [hw']
        clear hw'
        go_wp2_with (refine wpList_load_on rfl 34 (.tmp 9) rfl P 0 rfl (refC low al l.length cl) _ (unhide RG1) Try.underlying34 rfl (by kernel_rfl) ?_)
        refine ((unhide H1).rask (List.mem_cons_of_mem _ List.mem_cons_self) (by have := unhide HLN; have := unhide HN3; omega) xs xq xl (unhide HXI)).mono ?_
        rintro e w2 ⟨rfl, h2⟩
        rw [unhide AE]
        clear c0 c1 c2 c3 c4
        obtain ⟨c0, c1, c2, c3, c4⟩ := act_cells (h2.val List.mem_cons_self)
        have H2 := hide h2
        clear h2 H1 RG1 AE
        generalize (ask T xs xq xl).1 = n1
        generalize (ask T xs xq xl).2 = n2
        cases xa with
        | true =>
          have HN : Hid (HR w w2 (hRow RefK al cl l :: hTab s F' T :: hVal P (refC low al l.length cl) :: [])) := hide (unhide H2).drop1
          clear H2
          go_wp2_with fail
          exact ⟨⟨k + 1, F', T, low, al, cl, l, rfl, by omega, unhide HN, unhide OKT, unhide REL, by have := unhide HLN; omega⟩, by simp [intOf]; omega⟩
        | false =>
          have H2b : Hid (HR w w2 (hTab s F' T :: hVal X (actC ⟨false, xs, xq, xl, xc⟩) :: hRow RefK al cl l :: hVal P (refC low al l.length cl) :: [])) := hide ((unhide H2).front (r := hTab s F' T) [hVal X (actC ⟨false, xs, xq, xl, xc⟩), hRow RefK al cl l])
          clear H2
          go_wp2_with fail
          refine ((unhide H2b).note (unhide OKT) xs xq xl xc).mono ?_
          rintro e w3 ⟨rfl, F3, h3⟩
          have NE : Hid (rnoteE ⟨low, l⟩ xs xq xl xc = noteE T xs xq xl xc) := hide (rel_noteE (unhide REL) (unhide OKT) xs xq xl xc)
          have NR : Hid (Rel (note T xs xq xl xc) (rnote ⟨low, l⟩ xs xq xl xc)) := hide (rel_note (unhide REL) (unhide OKT) xs xq xl xc)
          have NO : Hid ((note T xs xq xl xc).Ok) := hide (note_ok (unhide OKT) xs xq xl xc)
          have NL : Hid ((rnote ⟨low, l⟩ xs xq xl xc).l.length ≤ 100 + (k + 1)) := hide (by have := rnote_len ⟨low, l⟩ xs xq xl xc; have := unhide HLN; simp only at *; omega)
          clear c0 c1 c2 c3 c4
          obtain ⟨c0, c1, c2, c3, c4⟩ := act_cells (h3.val (List.mem_cons_of_mem _ List.mem_cons_self))
          have RG3 := hide (h3.val (P := P) (vs := refC low al l.length cl) (List.mem_cons_of_mem _ (List.mem_cons_of_mem _ (List.mem_cons_of_mem _ List.mem_cons_self)))).range
          have H3 : Hid (HR w w3 (hRow RefK al cl l :: hTab s F3 (note T xs xq xl xc) :: hVal X (actC ⟨false, xs, xq, xl, xc⟩) :: hVal P (refC low al l.length cl) :: [])) := hide (h3.front (r := hRow RefK al cl l) [hTab s F3 (note T xs xq xl xc), hVal X (actC ⟨false, xs, xq, xl, xc⟩)])
          clear h3 H2b
          go_wp2_with (refine wpList_load_on rfl 34 (.tmp 9) rfl P 0 rfl (refC low al l.length cl) _ (unhide RG3) Try.underlying34 rfl (by kernel_rfl) ?_)
          refine ((unhide H3).rnote (by have := unhide HLN; have := unhide HN3; omega) xs xq xl xc (unhide HXI)).mono ?_
          rintro e w4 ⟨a5, c5, rfl, h4⟩
          rw [unhide NE]
          obtain ⟨W, hW⟩ : ∃ W, W = rnote ⟨low, l⟩ xs xq xl xc := ⟨_, rfl⟩
          rw [← hW] at h4 NR NL ⊢
          obtain ⟨low5, l5⟩ := W
          simp only at h4 NL ⊢
          obtain ⟨T5, hT5⟩ : ∃ T5, T5 = note T xs xq xl xc := ⟨_, rfl⟩
          rw [← hT5] at h4 NR NO
          have h4b := h4.front (r := hVal P (refC low al l.length cl)) [hRow RefK a5 c5 l5, hTab s F3 T5, hVal X (actC ⟨false, xs, xq, xl, xc⟩)]
          have HTH5 := hide (h4b.val List.mem_cons_self).there
          obtain ⟨wf, hwf, h5⟩ := h4b.put (refC low5 a5 l5.length c5) rfl
          have HWF := hide hwf
          have RG5 := hide (h5.val List.mem_cons_self).range
          have H5 : Hid (HR w wf (hVal P (refC low5 a5 l5.length c5) :: hRow RefK a5 c5 l5 :: hTab s F3 T5 :: hVal X (actC ⟨false, xs, xq, xl, xc⟩) :: [])) := hide h5
          clear h4 h4b hwf h5 H3 RG3 hW hT5 NE c0 c1 c2 c3 c4
          generalize noteE T xs xq xl xc = ne
          go_wp2_with (first | (refine wpList_store_mid rfl 34 (.tmp 9) (.tmp 127) rfl P 0 (refC low5 a5 l5.length c5).toArray rfl rfl (unhide HTH5) (by kernel_rfl) (by simp [Value.oneCell', refC]) ?_; change wpList _ _ _ _ _ (World.setCells _ P 0 (refC low5 a5 l5.length c5)); rw [unhide HWF]) | (refine wpList_load_on rfl 34 (.tmp 9) rfl P 0 rfl (refC low5 a5 l5.length c5) _ (unhide RG5) Try.underlying34 rfl (by kernel_rfl) ?_))
          refine ((unhide H5).alike (List.mem_cons_of_mem _ (List.mem_cons_of_mem _ List.mem_cons_self)) (List.mem_cons_of_mem _ List.mem_cons_self) (unhide NO) (unhide NR) (by have := unhide NL; have := unhide HN3; omega)).mono ?_
          rintro e w6' ⟨rfl, h6⟩
          have HN : Hid (HR w w6' (hRow RefK a5 c5 l5 :: hTab s F3 T5 :: hVal P (refC low5 a5 l5.length c5) :: [])) := hide ((h6.front (r := hVal X (actC ⟨false, xs, xq, xl, xc⟩)) [hVal P (refC low5 a5 l5.length c5), hRow RefK a5 c5 l5, hTab s F3 T5]).drop1.perm (perm_a _ _ _ _))
          clear h6 H5 RG5
          go_wp2_with fail
          exact ⟨⟨k + 1, F3, T5, low5, a5, c5, l5, rfl, by omega, unhide HN, unhide NO, unhide NR, unhide NL⟩, by simp [intOf]; omega⟩
      · have gk : ¬ (k : Int) < (z3.length : Int) := by omega
        have gkd : decide (k < z3.length) = false := decide_eq_false hlt
        go_wp2_with fail
        refine (wakes_any wr).mono ?_
        rintro e w' ⟨rfl, hb⟩
        have HB := hide ((unhide HRR).below hb).bel
        clear hb HRR
        go_wp2_with fail
        go_ret
        exact ⟨rfl, unhide HB⟩
  | false =>
    have GD := hide hgd
    have C10 : Hid (Calls Try.prog 10 #[.slice a1 z1.length cap1, .slice ag z2.length cg] w1 fun e v' => e = .returned (.tuple #[.pointer none, .int .i64 1]) ∧ HR w v' (hRow EntK ag cg z2 :: [])) := hide ((unhide COF).mono fun e v' h => by
      rcases h with ⟨h, _⟩ | ⟨_, h⟩
      · rw [hgd] at h; cases h
      · exact h)
    clear COF hgd
    go_wp2_with fail
    refine (unhide C10).mono ?_
    rintro e w2 ⟨rfl, h⟩
    have H2 := hide h
    have C12 := hide (rof_any (c := cap1) (d := cap2) ((unhide HA1).below (Nat.le_refl _) h.bel) ((unhide HA2).below (Nat.le_refl _) h.bel) (unhide HN2) (unhide HI2))
    clear C10 h
    go_wp2_with fail
    refine (unhide C12).mono ?_
    rintro e w3 ⟨hb, hc⟩
    obtain rfl : e = .returned (.tuple #[.agg (refC (fun _ => 1) none 0 0).toArray, .int .i64 1]) := by
      rcases hc with ⟨h, _⟩ | ⟨_, h⟩
      · rw [unhide GD] at h; cases h
      · exact h
    obtain ⟨T0, hT0⟩ : ∃ T0, T0 = new_ := ⟨_, rfl⟩
    obtain ⟨low0, hlow0⟩ : ∃ low0 : Nat → Int, low0 = fun _ => 1 := ⟨_, rfl⟩
    obtain ⟨l0, hl0⟩ : ∃ l0 : List Ent, l0 = [] := ⟨_, rfl⟩
    obtain ⟨al, hal⟩ : ∃ al : Option Addr, al = none := ⟨_, rfl⟩
    obtain ⟨cl, hcl⟩ : ∃ cl : Nat, cl = 0 := ⟨_, rfl⟩
    have OK0 : Hid T0.Ok := hide (by rw [hT0]; exact new_ok)
    have RL0 : Hid (Rel T0 ⟨low0, l0⟩) := hide (by rw [hT0, hlow0, hl0]; exact rel_new)
    have LN0 : Hid (l0.length ≤ 100) := hide (by rw [hl0]; simp)
    have H3 : Hid (HR w w3 (hRow RefK al cl l0 :: [])) := hide (by
      rw [hl0, hal, hcl]
      exact ((unhide H2).drop1.below hb).none RefK)
    have VE : Hid (refC (fun _ => 1) none 0 0 = refC low0 al l0.length cl) := hide (by rw [hlow0, hl0, hal, hcl]; rfl)
    have HT0 := hide hT0
    rw [unhide VE]
    clear hb hc hT0 hlow0 hl0 hal hcl C12 H2 VE
    obtain ⟨P, hP⟩ : ∃ P, P = w3.heap.size := ⟨_, rfl⟩
    have H3a := (unhide H3).made refZ 34
    rw [← hP] at H3a
    have hth0 := (H3a.val List.mem_cons_self).there
    obtain ⟨W4, hW4, h4⟩ := H3a.put (refC low0 al l0.length cl) rfl
    have HP := hide hP
    have HW4 := hide hW4
    have HTH := hide hth0
    have H4 : Hid (HR w W4 (hRow RefK al cl l0 :: hVal P (refC low0 al l0.length cl) :: [])) := hide (h4.perm (List.Perm.swap _ _ _))
    have RG4 := hide (h4.val List.mem_cons_self).range
    clear hP H3a hth0 hW4 h4 H3
    go_wp2_with (first | (simp only [← unhide HP]; refine wpList_store_mid rfl 34 (.tmp 9) (.tmp 44) rfl P 0 (refC low0 al l0.length cl).toArray rfl rfl (unhide HTH) (by kernel_rfl) (by simp [Value.oneCell', refC]) ?_; change wpList _ _ _ _ _ (World.setCells (World.alloc w3 (.cells refZ.toArray 34)) P 0 (refC low0 al l0.length cl)); rw [unhide HW4]) | (refine wpList_load_on rfl 34 (.tmp 9) rfl P 0 rfl (refC low0 al l0.length cl) _ (unhide RG4) Try.underlying34 rfl (by kernel_rfl) ?_))
    refine ((unhide H4).new).mono ?_
    rintro e w5 ⟨s, F, rfl, h⟩
    rw [← unhide HT0] at h
    have H5 : Hid (HR w w5 (hRow RefK al cl l0 :: hTab s F T0 :: hVal P (refC low0 al l0.length cl) :: [])) := hide h.swap
    have RG5 := hide (h.val (P := P) (vs := refC low0 al l0.length cl) (List.mem_cons_of_mem _ (List.mem_cons_of_mem _ List.mem_cons_self))).range
    clear h H4 RG4
    go_wp2_with (refine wpList_load_on rfl 34 (.tmp 9) rfl P 0 rfl (refC low0 al l0.length cl) _ (unhide RG5) Try.underlying34 rfl (by kernel_rfl) ?_)
    refine ((unhide H5).alike (List.mem_cons_of_mem _ List.mem_cons_self) List.mem_cons_self (unhide OK0) (unhide RL0) (by have := unhide LN0; omega)).mono ?_
    rintro e w6 ⟨rfl, h⟩
    have H6 := hide h
    clear h H5 RG5
    go_wp2_with fail
    go_loopw [11] (fun i wr => ∃ (k : Nat) (F' : Nat → Prop) (T : Tab) (low : Nat → Int) (al : Option Addr) (cl : Nat) (l : List Ent), i = .int .i64 (k : Int) ∧ k ≤ z3.length ∧ HR w wr (hRow RefK al cl l :: hTab s F' T :: hVal P (refC low al l.length cl) :: []) ∧ T.Ok ∧ Rel T ⟨low, l⟩ ∧ l.length ≤ 100 + k) (fun i _ => z3.length - (intOf i).toNat)
    case atStart => exact ⟨0, F, T0, low0, al, cl, l0, rfl, Nat.zero_le _, unhide H6, unhide OK0, unhide RL0, unhide LN0⟩
    case round =>
      obtain ⟨k, F', T, low, al, cl, l, rfl, hk, hr, hok, hrl, hln⟩ := hrel
      clear H6
      have HRR := hide hr
      have OKT := hide hok
      have REL := hide hrl
      have HLN := hide hln
      clear hr hok hrl hln OK0 RL0 LN0
      by_cases hlt : k < z3.length
      · have g0 : (0 : Int) ≤ (k : Int) := by omega
        have g1 : (k : Int) < (z3.length : Int) := by omega
        have hwk : IntKind.i64.wrap ((k : Int) + 1) = (k : Int) + 1 := Go.IntWalk.i64_in _ (by have := unhide HN3; omega)
        obtain ⟨x, hx⟩ : ∃ x, z3[k]? = some x := ⟨_, List.getElem?_eq_getElem hlt⟩
        have hxi := (unhide HI3 x (List.mem_of_getElem? hx)).seq.2
        have hAt : ActK.At wr a3 z3 := (unhide HA3).below (Nat.le_refl _) (unhide HRR).bel
        obtain ⟨g, o, rfl, hg, hrg⟩ := hAt.cell actK_law hx
        obtain ⟨xa, xs, xq, xl, xc⟩ := x
        have HXI : Hid (xq ≤ 9223372036854775807) := hide hxi
        have RG : Hid (wr.rangeAt g (o + k * 5) [.bool xa, .int .i64 xs, .int .i64 xq, .int .i64 xl, .int .i64 xc]) := hide hrg
        obtain ⟨X, hX⟩ : ∃ X, X = wr.heap.size := ⟨_, rfl⟩
        obtain ⟨W1, hW1⟩ : ∃ W1, W1 = wr.alloc (.cells #[.bool xa, .int .i64 xs, .int .i64 xq, .int .i64 xl, .int .i64 xc] 40) := ⟨_, rfl⟩
        have h1 : HR w W1 (hVal X (actC ⟨xa, xs, xq, xl, xc⟩) :: hRow RefK al cl l :: hTab s F' T :: hVal P (refC low al l.length cl) :: []) := by
          rw [hX, hW1]; exact (unhide HRR).made (actC ⟨xa, xs, xq, xl, xc⟩) 40
        obtain ⟨c0, c1, c2, c3, c4⟩ := act_cells (h1.val List.mem_cons_self)
        have H1 := hide h1
        have RG1 := hide (h1.val (P := P) (vs := refC low al l.length cl) (List.mem_cons_of_mem _ (List.mem_cons_of_mem _ (List.mem_cons_of_mem _ List.mem_cons_self)))).range
        have HW1 := hide hW1
        have HX := hide hX
        have AE : Hid (rask ⟨low, l⟩ xs xq xl = ask T xs xq xl) := hide (rel_ask (unhide REL) (unhide OKT) xs xq xl)
        clear hx hxi hAt hg hrg hX hW1 h1 HRR
        go_upto_region 15 with (refine wpList_load_on rfl 40 (.tmp 71) rfl g (o + k * 5) rfl [.bool xa, .int .i64 xs, .int .i64 xq, .int .i64 xl, .int .i64 xc] _ (unhide RG) Try.underlying40 rfl (by kernel_rfl) ?_)
        rw [← unhide HX]
        rw [← unhide HW1]
        go_wp2_with fail
        refine ((unhide H1).ask (List.mem_cons_of_mem _ (List.mem_cons_of_mem _ List.mem_cons_self)) xs xq xl).mono ?_
        rintro e w' ⟨rfl, hw'⟩
        rw [hw']
        clear hw'
        go_wp2_with (refine wpList_load_on rfl 34 (.tmp 9) rfl P 0 rfl (refC low al l.length cl) _ (unhide RG1) Try.underlying34 rfl (by kernel_rfl) ?_)
        refine ((unhide H1).rask (List.mem_cons_of_mem _ List.mem_cons_self) (by have := unhide HLN; have := unhide HN3; omega) xs xq xl (unhide HXI)).mono ?_
        rintro e w2 ⟨rfl, h2⟩
        rw [unhide AE]
        clear c0 c1 c2 c3 c4
        obtain ⟨c0, c1, c2, c3, c4⟩ := act_cells (h2.val List.mem_cons_self)
        have H2 := hide h2
        clear h2 H1 RG1 AE
        generalize (ask T xs xq xl).1 = n1
        generalize (ask T xs xq xl).2 = n2
        cases xa with
        | true =>
          have HN : Hid (HR w w2 (hRow RefK al cl l :: hTab s F' T :: hVal P (refC low al l.length cl) :: [])) := hide (unhide H2).drop1
          clear H2
          go_wp2_with fail
          exact ⟨⟨k + 1, F', T, low, al, cl, l, rfl, by omega, unhide HN, unhide OKT, unhide REL, by have := unhide HLN; omega⟩, by simp [intOf]; omega⟩
        | false =>
          have H2b : Hid (HR w w2 (hTab s F' T :: hVal X (actC ⟨false, xs, xq, xl, xc⟩) :: hRow RefK al cl l :: hVal P (refC low al l.length cl) :: [])) := hide ((unhide H2).front (r := hTab s F' T) [hVal X (actC ⟨false, xs, xq, xl, xc⟩), hRow RefK al cl l])
          clear H2
          go_wp2_with fail
          refine ((unhide H2b).note (unhide OKT) xs xq xl xc).mono ?_
          rintro e w3 ⟨rfl, F3, h3⟩
          have NE : Hid (rnoteE ⟨low, l⟩ xs xq xl xc = noteE T xs xq xl xc) := hide (rel_noteE (unhide REL) (unhide OKT) xs xq xl xc)
          have NR : Hid (Rel (note T xs xq xl xc) (rnote ⟨low, l⟩ xs xq xl xc)) := hide (rel_note (unhide REL) (unhide OKT) xs xq xl xc)
          have NO : Hid ((note T xs xq xl xc).Ok) := hide (note_ok (unhide OKT) xs xq xl xc)
          have NL : Hid ((rnote ⟨low, l⟩ xs xq xl xc).l.length ≤ 100 + (k + 1)) := hide (by have := rnote_len ⟨low, l⟩ xs xq xl xc; have := unhide HLN; simp only at *; omega)
          clear c0 c1 c2 c3 c4
          obtain ⟨c0, c1, c2, c3, c4⟩ := act_cells (h3.val (List.mem_cons_of_mem _ List.mem_cons_self))
          have RG3 := hide (h3.val (P := P) (vs := refC low al l.length cl) (List.mem_cons_of_mem _ (List.mem_cons_of_mem _ (List.mem_cons_of_mem _ List.mem_cons_self)))).range
          have H3 : Hid (HR w w3 (hRow RefK al cl l :: hTab s F3 (note T xs xq xl xc) :: hVal X (actC ⟨false, xs, xq, xl, xc⟩) :: hVal P (refC low al l.length cl) :: [])) := hide (h3.front (r := hRow RefK al cl l) [hTab s F3 (note T xs xq xl xc), hVal X (actC ⟨false, xs, xq, xl, xc⟩)])
          clear h3 H2b
          go_wp2_with (refine wpList_load_on rfl 34 (.tmp 9) rfl P 0 rfl (refC low al l.length cl) _ (unhide RG3) Try.underlying34 rfl (by kernel_rfl) ?_)
          refine ((unhide H3).rnote (by have := unhide HLN; have := unhide HN3; omega) xs xq xl xc (unhide HXI)).mono ?_
          rintro e w4 ⟨a5, c5, rfl, h4⟩
          rw [unhide NE]
          obtain ⟨W, hW⟩ : ∃ W, W = rnote ⟨low, l⟩ xs xq xl xc := ⟨_, rfl⟩
          rw [← hW] at h4 NR NL ⊢
          obtain ⟨low5, l5⟩ := W
          simp only at h4 NL ⊢
          obtain ⟨T5, hT5⟩ : ∃ T5, T5 = note T xs xq xl xc := ⟨_, rfl⟩
          rw [← hT5] at h4 NR NO
          have h4b := h4.front (r := hVal P (refC low al l.length cl)) [hRow RefK a5 c5 l5, hTab s F3 T5, hVal X (actC ⟨false, xs, xq, xl, xc⟩)]
          have HTH5 := hide (h4b.val List.mem_cons_self).there
          obtain ⟨wf, hwf, h5⟩ := h4b.put (refC low5 a5 l5.length c5) rfl
          have HWF := hide hwf
          have RG5 := hide (h5.val List.mem_cons_self).range
          have H5 : Hid (HR w wf (hVal P (refC low5 a5 l5.length c5) :: hRow RefK a5 c5 l5 :: hTab s F3 T5 :: hVal X (actC ⟨false, xs, xq, xl, xc⟩) :: [])) := hide h5
          clear h4 h4b hwf h5 H3 RG3 hW hT5 NE c0 c1 c2 c3 c4
          generalize noteE T xs xq xl xc = ne
          go_wp2_with (first | (refine wpList_store_mid rfl 34 (.tmp 9) (.tmp 127) rfl P 0 (refC low5 a5 l5.length c5).toArray rfl rfl (unhide HTH5) (by kernel_rfl) (by simp [Value.oneCell', refC]) ?_; change wpList _ _ _ _ _ (World.setCells _ P 0 (refC low5 a5 l5.length c5)); rw [unhide HWF]) | (refine wpList_load_on rfl 34 (.tmp 9) rfl P 0 rfl (refC low5 a5 l5.length c5) _ (unhide RG5) Try.underlying34 rfl (by kernel_rfl) ?_))
          refine ((unhide H5).alike (List.mem_cons_of_mem _ (List.mem_cons_of_mem _ List.mem_cons_self)) (List.mem_cons_of_mem _ List.mem_cons_self) (unhide NO) (unhide NR) (by have := unhide NL; have := unhide HN3; omega)).mono ?_
          rintro e w6' ⟨rfl, h6⟩
          have HN : Hid (HR w w6' (hRow RefK a5 c5 l5 :: hTab s F3 T5 :: hVal P (refC low5 a5 l5.length c5) :: [])) := hide ((h6.front (r := hVal X (actC ⟨false, xs, xq, xl, xc⟩)) [hVal P (refC low5 a5 l5.length c5), hRow RefK a5 c5 l5, hTab s F3 T5]).drop1.perm (perm_a _ _ _ _))
          clear h6 H5 RG5
          go_wp2_with fail
          exact ⟨⟨k + 1, F3, T5, low5, a5, c5, l5, rfl, by omega, unhide HN, unhide NO, unhide NR, unhide NL⟩, by simp [intOf]; omega⟩
      · have gk : ¬ (k : Int) < (z3.length : Int) := by omega
        have gkd : decide (k < z3.length) = false := decide_eq_false hlt
        go_wp2_with fail
        refine (wakes_any wr).mono ?_
        rintro e w' ⟨rfl, hb⟩
        have HB := hide ((unhide HRR).below hb).bel
        clear hb HRR
        go_wp2_with fail
        go_ret
        exact ⟨rfl, unhide HB⟩
set_option maxRecDepth 100000 in
theorem playsw_any (a1 : Option Addr) (cap1 : Nat) (z1 : List Int) (a2 : Option Addr) (cap2 : Nat) (z2 : List Ent) (a3 : Option Addr) (cap3 : Nat) (z3 : List ActV) (w : World) (_h1 : z1.length ≤ maxLen) (hA1 : IntK.At w a1 z1) (_i1 : ∀ b ∈ z1, i64 b) (_h2 : z2.length ≤ maxLen) (hA2 : RefK.At w a2 z2) (i2 : ∀ b ∈ z2, b.In) (_h3 : z3.length ≤ maxLen) (hA3 : ActK.At w a3 z3) (i3 : ∀ b ∈ z3, b.In) :
    Calls Try.prog 3 #[.slice a1 z1.length cap1, .slice a2 z2.length cap2, .slice a3 z3.length cap3] w fun e w' => e = .returned (.bool true) ∧ Below w.heap.size w w' := by
  by_cases hn1 : z1.length ≤ 20
  · by_cases hn2 : z2.length ≤ 100
    · by_cases hn3 : z3.length ≤ 300
      · exact playsw_small a1 cap1 z1 a2 cap2 z2 a3 cap3 z3 w hA1 hA2 hA3 hn1 hn2 hn3 i2 i3
      · have g1 : ¬ (20 : Int) < (z1.length : Int) := by omega
        have g2 : ¬ (100 : Int) < (z2.length : Int) := by omega
        have g3 : (300 : Int) < (z3.length : Int) := by omega
        clear hA1 hA2 hA3 i2 i3
        go_enter Try.func3, Try.ntmps3
        go_wp2_with fail
        refine (wakes_any w).mono ?_
        rintro e w' ⟨rfl, hb⟩
        have HB := hide hb
        clear hb
        go_wp2_with fail
        go_ret
        exact ⟨rfl, unhide HB⟩
    · have g1 : ¬ (20 : Int) < (z1.length : Int) := by omega
      have g2 : (100 : Int) < (z2.length : Int) := by omega
      clear hA1 hA2 hA3 i2 i3
      go_enter Try.func3, Try.ntmps3
      go_wp2_with fail
      refine (wakes_any w).mono ?_
      rintro e w' ⟨rfl, hb⟩
      have HB := hide hb
      clear hb
      go_wp2_with fail
      go_ret
      exact ⟨rfl, unhide HB⟩
  · have g1 : (20 : Int) < (z1.length : Int) := by omega
    clear hA1 hA2 hA3 i2 i3
    go_enter Try.func3, Try.ntmps3
    go_wp2_with fail
    refine (wakes_any w).mono ?_
    rintro e w' ⟨rfl, hb⟩
    have HB := hide hb
    clear hb
    go_wp2_with fail
    go_ret
    exact ⟨rfl, unhide HB⟩
end Go.Proofs.Ytoofaldblldncaa

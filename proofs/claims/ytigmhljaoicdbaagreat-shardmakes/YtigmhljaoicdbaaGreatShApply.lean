/- What Apply of a state does. Conditions: a state has at most 32 windows, whose numbers are 64 bits wide; an item's numbers are a machine's. -/
import Derived.Test.YtigmhljaoicdbaaGreatGShMath
import Derived.OwnWalk
namespace Go.Proofs.YtigmhljaoicdbaaGreat
open Go.RowKit
theorem chain_nil {P : Program} {md : Region.Mode} {ops : Array Oper} {S : World → Prop} {K : Act → World → Prop} {a : Act} {w : World} (h : K a w) : chainM P md ops S K [] a w := h
def itemC (x : ItemV) : List Value := [.int .i64 x.src, .int .i64 x.seq, .int .i64 x.low, .int .u8 (x.kind : Int), .string ⟨x.key.toArray⟩, .int .i64 x.part, .int .i64 x.at_, .int .i64 x.n]
def itemV (x : ItemV) : Value := .agg (itemC x).toArray
set_option maxRecDepth 100000 in
set_option maxHeartbeats 2000000 in
theorem sdo_any {v : World} {p : Nat} {F : Nat → Prop} {S : StV} (h : StateIs v p F S) (hm : Mild S.line.row) (x : ItemV) (hn : i64 x.n) (hk : x.kind < 256) :
    Calls Tryz.prog 31 #[.pointer (some ⟨p, 0, none⟩), itemV x] v fun e v' => ∃ a c, e = .returned (.tuple #[.int .i64 (doL S.line x).2.1, .slice a (doL S.line x).2.2.length c]) ∧ OutK.Row v' v.heap.size a c (doL S.line x).2.2 ∧ DidR v v' p F ⟨(doL S.line x).1, S.tab⟩ a (doL S.line x).2.2.length c := by
  obtain ⟨xs, xq, xl, xk, xy, xp, xa, xn⟩ := x
  obtain ⟨ki, hki⟩ : ∃ ki : Int, ki = (xk : Int) := ⟨_, rfl⟩
  obtain ⟨H, hH⟩ : ∃ H, H = v.heap.size := ⟨_, rfl⟩
  obtain ⟨V, hV⟩ : ∃ V, V = v.alloc (.cells #[.int .i64 xs, .int .i64 xq, .int .i64 xl, .int .u8 ki, .string ⟨xy.toArray⟩, .int .i64 xp, .int .i64 xa, .int .i64 xn] 42) := ⟨_, rfl⟩
  have bV0 : Below v.heap.size v V := by rw [hV]; exact (Below.refl _ _).alloc (Nat.le_refl _) _
  have bV : Below v.heap.size v V.drew := bV0.drew
  have hHV : H < V.heap.size := by rw [hV, hH]; simp
  have hc : ∀ n u, V.cell? ⟨H, n, none⟩ = u ↔ #[.int .i64 xs, .int .i64 xq, .int .i64 xl, .int .u8 ki, .string ⟨xy.toArray⟩, .int .i64 xp, .int .i64 xa, .int .i64 xn][n]? = u := fun n u => by rw [hV, hH, World.cell?_alloc_new]
  have c3 : V.cell? ⟨H, 3, none⟩ = some (.int .u8 ki) := (hc _ _).2 rfl
  have hFH : ¬ F H := fun f => by have := h.lt H f; omega
  obtain ⟨CL, hCL⟩ : ∃ CL : World → Prop, CL = fun u => u.cell? ⟨H, 4, none⟩ = some (.string ⟨xy.toArray⟩) ∧ u.cell? ⟨H, 6, none⟩ = some (.int .i64 xa) ∧ u.cell? ⟨H, 7, none⟩ = some (.int .i64 xn) := ⟨_, rfl⟩
  have un : ∀ u, CL u → u.cell? ⟨H, 4, none⟩ = some (.string ⟨xy.toArray⟩) ∧ u.cell? ⟨H, 6, none⟩ = some (.int .i64 xa) ∧ u.cell? ⟨H, 7, none⟩ = some (.int .i64 xn) := fun u k => by rw [hCL] at k; exact k
  have q4 : ∀ u : SW CL, u.w.cell? ⟨H, 4, none⟩ = some (.string ⟨xy.toArray⟩) := fun u => (un _ u.ok).1
  have q6 : ∀ u : SW CL, u.w.cell? ⟨H, 6, none⟩ = some (.int .i64 xa) := fun u => (un _ u.ok).2.1
  have q7 : ∀ u : SW CL, u.w.cell? ⟨H, 7, none⟩ = some (.int .i64 xn) := fun u => (un _ u.ok).2.2
  have base : CL V.drew := by rw [hCL]; exact ⟨(hc _ _).2 rfl, (hc _ _).2 rfl, (hc _ _).2 rfl⟩
  have BS := hide base
  have hS := h.below bV
  have SAME : Hid (DidR v V p F S none 0 0) := hide (((DidS.same (h.below bV0)).ahead bV0).row rfl)
  have STAY : ∀ v', Moved F V.drew v' → CL v' := fun v' m => by
    rw [hCL] at base ⊢
    exact ⟨(m.cell (p := ⟨H, 4, none⟩) hHV hFH).trans base.1, (m.cell (p := ⟨H, 6, none⟩) hHV hFH).trans base.2.1, (m.cell (p := ⟨H, 7, none⟩) hHV hFH).trans base.2.2⟩
  obtain ⟨q, G, M, hF, rfl⟩ := hS
  have PUT := hide ((cput_any hF.line hm.most hm.ins_ xy xa xn hn).mono (fun e v' (h : e = _ ∧ DidC V.drew v' p q G (putL S.line xy xa xn).1) => (⟨h.1, (by obtain ⟨_, _, _, m⟩ := hF.line_did h.2; exact STAY _ m), ((hF.line_did h.2).ahead bV).row rfl⟩ : e = .returned (.int .i64 ((putL S.line xy xa xn).2 : Int)) ∧ CL v' ∧ DidR v v' p (footS p G M) ⟨(putL S.line xy xa xn).1, S.tab⟩ none 0 0)))
  have MARK := hide ((cmark_any hF.line (Nat.le_trans hm.most (by omega)) xa).mono (fun e v' (hh : ∃ a1 c1, e = _ ∧ OutK.Row v' V.drew.heap.size a1 c1 _ ∧ LineC v' p q G (markL S.line xa).1 ∧ Moved (fun k => k = p ∨ G k) V.drew v' ∧ Behind V.drew v' p) => (by
    obtain ⟨a1, c1, h1, h2, h3, h4, h5⟩ := hh
    obtain ⟨g1, g2⟩ := hF.line_same h3 h4 h5
    exact ⟨a1, c1, h1, STAY _ g2, row_mono h2 bV.size, DidR.ahead ⟨_, g1, fun _ f => .inl f, g2, fun k e f => by
      have e1 : V.heap.size ≤ k := (row_lt h2 k e).1
      have e2 := h.lt k f
      have e3 := bV0.size
      omega⟩ bV⟩ : ∃ a1 c1, e = .returned (.tuple #[.int .i64 ((markL S.line xa).2.1 : Int), .slice a1 (markL S.line xa).2.2.length c1]) ∧ CL v' ∧ OutK.Row v' v.heap.size a1 c1 (markL S.line xa).2.2 ∧ DidR v v' p (footS p G M) ⟨(markL S.line xa).1, S.tab⟩ a1 (markL S.line xa).2.2.length c1)))
  have HV := hide hV
  have HH := hide hH
  unfold itemV itemC
  simp only
  rw [← hki]
  by_cases k1 : xk = 1
  · have e : doL S.line ⟨xs, xq, xl, xk, xy, xp, xa, xn⟩ = ((putL S.line xy xa xn).1, ((putL S.line xy xa xn).2 : Int), []) := if_pos k1
    rw [e]
    have hk1 : ki = 1 := by omega
    subst hk1
    clear e hV hH h bV bV0 hc hF STAY un base hCL k1 hHV hFH hki
    go_enter Tryz.func31, Tryz.ntmps31
    go_upto_region 1 with fail
    rw [← unhide HH, ← unhide HV]
    go_upto_region 3 with fail
    refine wp_region_chain (S := CL) [true, true, true, true, true, true, true, true, true, false, false, false] [false, false, false, false, false, false, false, false, false, true, true, true] (by kernel_rfl) (by kernel_rfl) (by kernel_rfl) (unhide BS) ?_
    apply Exists.intro
    apply And.intro
    · intro q0
      have n0 : Nonempty (SK CL q0.w) := ⟨⟨q0, rfl⟩⟩
      simp only [pickM]
      repeat (go_big_quiet_step (fail))
      exact wpQuiet_nil rfl
    · simp only [pickZ]
      refine chain_call 54 #[.pointer (some ⟨p, 0, none⟩), .string ⟨xy.toArray⟩, .int .i64 xa, .int .i64 xn] rfl (by simp [go_sem]) ?_
      refine (unhide PUT).mono ?_
      rintro e v1 ⟨rfl, hcl, hd⟩
      refine ⟨_, rfl, hcl, ?_⟩
      have HD := hide hd
      have HC := hide hcl
      clear hd hcl PUT MARK SAME c3 q4 q6 q7
      go_simp
      refine chain_step (.int .i64 ((putL S.line xy xa xn).2 : Int)) v1 rfl (by simp [go_sem]) (unhide HC) ?_
      go_simp
      refine chain_step (.slice none 0 0) v1 rfl (by simp [go_sem]) (unhide HC) ?_
      simp only [chainM]
      go_simp
      go_wp2_with fail
      go_ret2
      exact ⟨none, 0, rfl, row_none _ _, unhide HD⟩
  · by_cases k2 : xk = 2
    · have e : doL S.line ⟨xs, xq, xl, xk, xy, xp, xa, xn⟩ = ((markL S.line xa).1, ((markL S.line xa).2.1 : Int), (markL S.line xa).2.2) := (if_neg k1).trans (if_pos k2)
      rw [e]
      have hk2 : ki = 2 := by omega
      subst hk2
      clear e hV hH h bV bV0 hc hF STAY un base hCL k1 hHV hFH hki
      go_enter Tryz.func31, Tryz.ntmps31
      go_upto_region 1 with fail
      rw [← unhide HH, ← unhide HV]
      go_upto_region 5 with fail
      refine wp_region_seq (S := CL) [true, true, true, true, true, false, false, false, false, false] [false, false, false, false, false, true, false, false, false, false] [false, false, false, false, false, false, true, true, false, false] [false, false, false, false, false, false, false, false, true, true] (by kernel_rfl) (by kernel_rfl) (by kernel_rfl) (unhide BS) ?_
      apply Exists.intro
      apply And.intro
      · intro q0
        have n0 : Nonempty (SK CL q0.w) := ⟨⟨q0, rfl⟩⟩
        simp only [pickM]
        repeat (go_big_quiet_step (fail))
        exact wpQuiet_nil rfl
      · simp only [pickZ]
        refine chain_call 55 #[.pointer (some ⟨p, 0, none⟩), .int .i64 xa] rfl (by simp [go_sem]) ?_
        refine (unhide MARK).mono ?_
        rintro e v1 ⟨a1, cp1, rfl, hcl, hr, hd⟩
        refine ⟨_, rfl, hcl, ?_⟩
        have HD := hide hd
        have HR := hide hr
        have HC := hide hcl
        clear hd hr hcl PUT MARK SAME c3 q4 q6 q7
        refine chain_nil ?_
        go_simp
        refine ⟨unhide HC, by kernel_rfl, ?_⟩
        apply Exists.intro
        apply And.intro
        · intro q0
          have n0 : Nonempty (SK CL q0.w) := ⟨⟨q0, rfl⟩⟩
          simp only [pickM]
          repeat (go_big_quiet_step (fail))
          exact wpQuiet_nil rfl
        · try simp only [pickZ]
          refine chain_step (.int .i64 ((markL S.line xa).2.1 : Int)) v1 rfl (by simp [go_sem]) (unhide HC) ?_
          go_simp
          refine chain_step (.slice a1 (markL S.line xa).2.2.length cp1) v1 rfl (by simp [go_sem]) (unhide HC) ?_
          simp only [chainM]
          go_simp
          go_wp2_with fail
          go_ret2
          exact ⟨a1, cp1, rfl, unhide HR, unhide HD⟩
    · have e : doL S.line ⟨xs, xq, xl, xk, xy, xp, xa, xn⟩ = (S.line, 4, []) := (if_neg k1).trans (if_neg k2)
      rw [e]
      have g1 : ¬ ki = 1 := by omega
      have g2 : ¬ ki = 2 := by omega
      have d1 : decide (ki = 1) = false := decide_eq_false g1
      have d2 : decide (ki = 2) = false := decide_eq_false g2
      have f1 : (ki == 1) = false := Bool.eq_false_iff.2 fun h => g1 (eq_of_beq h)
      have f2 : (ki == 2) = false := Bool.eq_false_iff.2 fun h => g2 (eq_of_beq h)
      clear e hV hH h bV bV0 hc hF STAY un base hCL k1 k2 hHV hFH hki PUT MARK q4 q6 q7 hm hn hk BS
      go_enter Tryz.func31, Tryz.ntmps31
      go_upto_region 1 with fail
      rw [← unhide HH, ← unhide HV]
      go_wp2_with fail
      go_ret2
      exact ⟨none, 0, rfl, row_none _ _, unhide SAME⟩
theorem ask_same {S : StV} {x : ItemV} : Sn.ask S.tab x.src x.seq x.low = askS S x := rfl
set_option maxRecDepth 100000 in
set_option maxHeartbeats 2000000 in
theorem sapply_any {v : World} {p : Nat} {F : Nat → Prop} {S : StV} (h : StateIs v p F S) (hS : GoodS S) (x : ItemV) (hn : i64 x.n) (hk : x.kind < 256) :
    Calls Tryz.prog 12 #[.pointer (some ⟨p, 0, none⟩), itemV x] v fun e v' => ∃ a c, e = .returned (.tuple #[.int .i64 (codeS S x), .slice a (outsS S x).length c, .bool (freshS S x)]) ∧ OutK.Row v' v.heap.size a c (outsS S x) ∧ DidR v v' p F (appS S x) a (outsS S x).length c := by
  obtain ⟨H, hH⟩ : ∃ H, H = v.heap.size := ⟨_, rfl⟩
  obtain ⟨V, hV⟩ : ∃ V, V = v.alloc (.cells (itemC x).toArray 42) := ⟨_, rfl⟩
  have bV0 : Below v.heap.size v V := by rw [hV]; exact (Below.refl _ _).alloc (Nat.le_refl _) _
  have bV : Below v.heap.size v V.drew := bV0.drew
  have hc : ∀ n u, V.cell? ⟨H, n, none⟩ = u ↔ (itemC x).toArray[n]? = u := fun n u => by rw [hV, hH, World.cell?_alloc_new]
  have hHV : H < V.heap.size := by rw [hV, hH]; simp
  have hFH : ¬ F H := fun f => by have := h.lt H f; omega
  obtain ⟨CL, hCL⟩ : ∃ CL : World → Prop, CL = fun u => u.rangeAt H 0 (itemC x) := ⟨_, rfl⟩
  have un : ∀ u, CL u → u.rangeAt H 0 (itemC x) := fun u k => by rw [hCL] at k; exact k
  have q0 : ∀ u : SW CL, u.w.cell? ⟨H, 0, none⟩ = some (.int .i64 x.src) := fun u => un _ u.ok 0 _ rfl
  have q1 : ∀ u : SW CL, u.w.cell? ⟨H, 1, none⟩ = some (.int .i64 x.seq) := fun u => un _ u.ok 1 _ rfl
  have q2 : ∀ u : SW CL, u.w.cell? ⟨H, 2, none⟩ = some (.int .i64 x.low) := fun u => un _ u.ok 2 _ rfl
  have ri : V.drew.rangeAt H 0 (itemC x) := fun j u hu => by rw [Nat.zero_add]; exact (hc _ _).2 (by simpa using hu)
  have RI := hide ri
  have BS : Hid (CL V.drew) := hide (by rw [hCL]; exact ri)
  have hS1 := h.below bV
  have SAME : Hid (DidR v V.drew p F S none 0 0) := hide (((DidS.same hS1).ahead bV).row rfl)
  have ASK : Hid (Calls Tryz.prog 30 #[.pointer (some ⟨p, 2, none⟩), .int .i64 x.src, .int .i64 x.seq, .int .i64 x.low] V.drew fun e v' => e = .returned (.tuple #[.int .i64 (askS S x).1, .int .i64 (askS S x).2]) ∧ v' = V.drew) := hide (by
    obtain ⟨q, G, M, hF, rfl⟩ := hS1
    exact Sn.B.task_any ⟨M, hF.tab, rfl⟩ x.src x.seq x.low)
  have DO := hide (sdo_any hS1 hS.mild x hn hk)
  have BEH : Hid (∀ v1 a cp, OutK.Row v1 V.drew.heap.size a cp (doL S.line x).2.2 → DidR V.drew v1 p F ⟨(doL S.line x).1, S.tab⟩ a (doL S.line x).2.2.length cp → CL v1.drew ∧ Calls Tryz.prog 32 #[.pointer (some ⟨p, 2, none⟩), .int .i64 x.src, .int .i64 x.seq, .int .i64 x.low, .int .i64 (doL S.line x).2.1] v1.drew fun e v2 => ∃ n, e = .returned (.int .i64 n) ∧ CL v2 ∧ OutK.Row v2 v.heap.size a cp (doL S.line x).2.2 ∧ DidR v v2 p F ⟨(doL S.line x).1, Sn.note S.tab x.src x.seq x.low (doL S.line x).2.1⟩ a (doL S.line x).2.2.length cp) := hide fun v1 a cp hr hd => by
    obtain ⟨F1, h1, d2, d3, d5⟩ := hd
    have m0 : Moved (fun _ => False) v1 v1.drew := (Moved.refl _ _).drew
    have h1' := h1.keep m0 fun _ f => f.elim
    obtain ⟨q, G, M, hF, rfl⟩ := h1'
    have ri1 : v1.drew.rangeAt H 0 (itemC x) := fun j u hu => (d3.cell (p := ⟨H, 0 + j, none⟩) hHV hFH).trans (ri j u hu)
    refine ⟨by rw [hCL]; exact ri1, (Sn.B.tnote_any ⟨M, hF.tab, rfl⟩ hS.tab x.src x.seq x.low (doL S.line x).2.1).mono fun e v2 ⟨h1, h2, h3⟩ => ?_⟩
    have d4 := hF.tab_did h2 h3
    obtain ⟨F2, e1, e2, e3⟩ := id d4
    have hz : V.drew.heap.size ≤ v1.drew.heap.size := d3.size
    have hrl := fun k e => (row_lt hr k e).2
    refine ⟨_, h1, ?_, ?_, DidR.ahead ⟨F2, e1, fun k hk => (e2 k hk).elim (d2 k) fun e => .inr (Nat.le_trans hz e), (d3.drew).trans e3 d2, fun k e f => (e2 k f).elim (d5 k e) fun g => ?_⟩ bV⟩
    · rw [hCL]
      intro j u hu
      refine (e3.cell (p := ⟨H, 0 + j, none⟩) (Nat.lt_of_lt_of_le hHV hz) (fun f => ?_)).trans (ri1 j u hu)
      rcases d2 H f with f | f
      · exact hFH f
      · have : V.heap.size ≤ H := f; omega
    · exact row_mono (row_moved (row_moved hr m0 (fun _ f _ _ => f.elim)) e3 (fun i f k e he => d5 k e (he ▸ f))) bV.size
    · have g1 : v1.heap.size ≤ k := g
      have g2 := hrl k e
      omega
  have HV := hide hV
  have HH := hide hH
  have E : Hid (itemV x = .agg (itemC x).toArray) := hide rfl
  have CX := hide (ask_cases S x)
  have hcS : codeS S x = if (askS S x).1 = 0 then 4 else if (askS S x).1 = 3 then (doL S.line x).2.1 else (askS S x).2 := rfl
  have hoS : outsS S x = if (askS S x).1 = 3 then (doL S.line x).2.2 else [] := rfl
  have haS : appS S x = if (askS S x).1 = 3 then ⟨(doL S.line x).1, Sn.note S.tab x.src x.seq x.low (doL S.line x).2.1⟩ else S := rfl
  have hfS : freshS S x = decide ((askS S x).1 = 3) := rfl
  rw [hcS, hoS, haS, hfS]
  clear hcS hoS haS hfS hV hH bV bV0 hc h hS hS1 hFH hHV ri un hCL
  rw [unhide E]
  rcases unhide CX with ⟨hs, he⟩ | ⟨hs, he⟩ | hs | ⟨hs, he⟩
  · rw [he] at ASK
    rw [hs, if_pos rfl, if_neg (by decide), if_neg (by decide)]
    clear he hs CX BEH DO
    go_enter Tryz.func12, Tryz.ntmps12
    go_upto_region 1 with fail
    rw [← unhide HH, ← unhide HV]
    go_upto_region 3 with fail
    refine wp_region_seq (S := CL) [true, true, true, true, true, true, true, true, true, false, false, false, false, false, false] [false, false, false, false, false, false, false, false, false, true, false, false, false, false, false] [false, false, false, false, false, false, false, false, false, false, true, true, true, false, false] [false, false, false, false, false, false, false, false, false, false, false, false, false, true, true] (by kernel_rfl) (by kernel_rfl) (by kernel_rfl) (unhide BS) ?_
    apply Exists.intro
    apply And.intro
    · intro q0
      have n0 : Nonempty (SK CL q0.w) := ⟨⟨q0, rfl⟩⟩
      simp only [pickM]
      repeat (go_big_quiet_step (fail))
      exact wpQuiet_nil rfl
    · simp only [pickZ]
      refine chain_call 30 #[.pointer (some ⟨p, 2, none⟩), .int .i64 x.src, .int .i64 x.seq, .int .i64 x.low] rfl (by simp [go_sem]) ?_
      refine (unhide ASK).mono ?_
      rintro e v1 ⟨rfl, hw⟩
      rw [hw]
      clear hw v1
      refine ⟨_, rfl, unhide BS, ?_⟩
      refine chain_nil ?_
      go_simp
      refine ⟨unhide BS, by kernel_rfl, ?_⟩
      apply Exists.intro
      apply And.intro
      · intro q0
        have n0 : Nonempty (SK CL q0.w) := ⟨⟨q0, rfl⟩⟩
        simp only [pickM]
        repeat (go_big_quiet_step (fail))
        exact wpQuiet_nil rfl
      · try simp only [pickZ]
        refine chain_step (.int .i64 0) V.drew rfl (by simp [go_sem]) (unhide BS) ?_
        go_simp
        refine chain_step (.int .i64 0) V.drew rfl (by simp [go_sem]) (unhide BS) ?_
        simp only [chainM]
        go_simp
        clear q0 q1 q2 ASK
        go_wp2_with fail
        go_ret3
        exact ⟨none, 0, rfl, row_none _ _, unhide SAME⟩
  · rw [he] at ASK
    rw [hs, if_neg (by decide), if_neg (by decide), if_neg (by decide), if_neg (by decide), he]
    clear he hs CX BEH DO
    go_enter Tryz.func12, Tryz.ntmps12
    go_upto_region 1 with fail
    rw [← unhide HH, ← unhide HV]
    go_upto_region 3 with fail
    refine wp_region_seq (S := CL) [true, true, true, true, true, true, true, true, true, false, false, false, false, false, false] [false, false, false, false, false, false, false, false, false, true, false, false, false, false, false] [false, false, false, false, false, false, false, false, false, false, true, true, true, false, false] [false, false, false, false, false, false, false, false, false, false, false, false, false, true, true] (by kernel_rfl) (by kernel_rfl) (by kernel_rfl) (unhide BS) ?_
    apply Exists.intro
    apply And.intro
    · intro q0
      have n0 : Nonempty (SK CL q0.w) := ⟨⟨q0, rfl⟩⟩
      simp only [pickM]
      repeat (go_big_quiet_step (fail))
      exact wpQuiet_nil rfl
    · simp only [pickZ]
      refine chain_call 30 #[.pointer (some ⟨p, 2, none⟩), .int .i64 x.src, .int .i64 x.seq, .int .i64 x.low] rfl (by simp [go_sem]) ?_
      refine (unhide ASK).mono ?_
      rintro e v1 ⟨rfl, hw⟩
      rw [hw]
      clear hw v1
      refine ⟨_, rfl, unhide BS, ?_⟩
      refine chain_nil ?_
      go_simp
      refine ⟨unhide BS, by kernel_rfl, ?_⟩
      apply Exists.intro
      apply And.intro
      · intro q0
        have n0 : Nonempty (SK CL q0.w) := ⟨⟨q0, rfl⟩⟩
        simp only [pickM]
        repeat (go_big_quiet_step (fail))
        exact wpQuiet_nil rfl
      · try simp only [pickZ]
        refine chain_step (.int .i64 1) V.drew rfl (by simp [go_sem]) (unhide BS) ?_
        go_simp
        refine chain_step (.int .i64 0) V.drew rfl (by simp [go_sem]) (unhide BS) ?_
        simp only [chainM]
        go_simp
        clear q0 q1 q2 ASK
        go_wp2_with fail
        go_ret3
        exact ⟨none, 0, rfl, row_none _ _, unhide SAME⟩
  · rw [hs] at ASK
    rw [hs, if_neg (by decide), if_neg (by decide), if_neg (by decide), if_neg (by decide)]
    generalize (askS S x).2 = c at *
    clear hs CX BEH DO
    go_enter Tryz.func12, Tryz.ntmps12
    go_upto_region 1 with fail
    rw [← unhide HH, ← unhide HV]
    go_upto_region 3 with fail
    refine wp_region_seq (S := CL) [true, true, true, true, true, true, true, true, true, false, false, false, false, false, false] [false, false, false, false, false, false, false, false, false, true, false, false, false, false, false] [false, false, false, false, false, false, false, false, false, false, true, true, true, false, false] [false, false, false, false, false, false, false, false, false, false, false, false, false, true, true] (by kernel_rfl) (by kernel_rfl) (by kernel_rfl) (unhide BS) ?_
    apply Exists.intro
    apply And.intro
    · intro q0
      have n0 : Nonempty (SK CL q0.w) := ⟨⟨q0, rfl⟩⟩
      simp only [pickM]
      repeat (go_big_quiet_step (fail))
      exact wpQuiet_nil rfl
    · simp only [pickZ]
      refine chain_call 30 #[.pointer (some ⟨p, 2, none⟩), .int .i64 x.src, .int .i64 x.seq, .int .i64 x.low] rfl (by simp [go_sem]) ?_
      refine (unhide ASK).mono ?_
      rintro e v1 ⟨rfl, hw⟩
      rw [hw]
      clear hw v1
      refine ⟨_, rfl, unhide BS, ?_⟩
      refine chain_nil ?_
      go_simp
      refine ⟨unhide BS, by kernel_rfl, ?_⟩
      apply Exists.intro
      apply And.intro
      · intro q0
        have n0 : Nonempty (SK CL q0.w) := ⟨⟨q0, rfl⟩⟩
        simp only [pickM]
        repeat (go_big_quiet_step (fail))
        exact wpQuiet_nil rfl
      · try simp only [pickZ]
        refine chain_step (.int .i64 2) V.drew rfl (by simp [go_sem]) (unhide BS) ?_
        go_simp
        refine chain_step (.int .i64 c) V.drew rfl (by simp [go_sem]) (unhide BS) ?_
        simp only [chainM]
        go_simp
        clear q0 q1 q2 ASK
        go_wp2_with fail
        go_ret3
        exact ⟨none, 0, rfl, row_none _ _, unhide SAME⟩
  · rw [he] at ASK
    rw [hs, if_neg (by decide), if_pos rfl, if_pos rfl, if_pos rfl]
    clear he hs CX SAME
    go_enter Tryz.func12, Tryz.ntmps12
    go_upto_region 1 with fail
    rw [← unhide HH, ← unhide HV]
    go_upto_region 3 with fail
    refine wp_region_seq (S := CL) [true, true, true, true, true, true, true, true, true, false, false, false, false, false, false] [false, false, false, false, false, false, false, false, false, true, false, false, false, false, false] [false, false, false, false, false, false, false, false, false, false, true, true, true, false, false] [false, false, false, false, false, false, false, false, false, false, false, false, false, true, true] (by kernel_rfl) (by kernel_rfl) (by kernel_rfl) (unhide BS) ?_
    apply Exists.intro
    apply And.intro
    · intro q0
      have n0 : Nonempty (SK CL q0.w) := ⟨⟨q0, rfl⟩⟩
      simp only [pickM]
      repeat (go_big_quiet_step (fail))
      exact wpQuiet_nil rfl
    · simp only [pickZ]
      refine chain_call 30 #[.pointer (some ⟨p, 2, none⟩), .int .i64 x.src, .int .i64 x.seq, .int .i64 x.low] rfl (by simp [go_sem]) ?_
      refine (unhide ASK).mono ?_
      rintro e v1 ⟨rfl, hw⟩
      rw [hw]
      clear hw v1
      refine ⟨_, rfl, unhide BS, ?_⟩
      refine chain_nil ?_
      go_simp
      refine ⟨unhide BS, by kernel_rfl, ?_⟩
      apply Exists.intro
      apply And.intro
      · intro q0
        have n0 : Nonempty (SK CL q0.w) := ⟨⟨q0, rfl⟩⟩
        simp only [pickM]
        repeat (go_big_quiet_step (fail))
        exact wpQuiet_nil rfl
      · try simp only [pickZ]
        refine chain_step (.int .i64 3) V.drew rfl (by simp [go_sem]) (unhide BS) ?_
        go_simp
        refine chain_step (.int .i64 0) V.drew rfl (by simp [go_sem]) (unhide BS) ?_
        simp only [chainM]
        go_simp
        clear ASK
        go_wp2_with (refine Sn.wpList_load_on rfl 42 (.tmp 3) rfl H 0 rfl (itemC x) _ (unhide RI) Tryz.underlying42 rfl (by kernel_rfl) ?_)
        refine (unhide DO).mono ?_
        rintro e v1 ⟨a, cp, rfl, hr, hd⟩
        obtain ⟨hcl, hnote⟩ := unhide BEH v1 a cp hr hd
        have HN := hide hnote
        have BS := hide hcl
        clear hnote hcl hr hd RI DO BEH
        go_upto_region 11 with fail
        refine wp_region_chain (S := CL) [true, true, true, true, true, true, true, true, true, true, false] [false, false, false, false, false, false, false, false, false, false, true] (by kernel_rfl) (by kernel_rfl) (by kernel_rfl) (unhide BS) ?_
        apply Exists.intro
        apply And.intro
        · intro q0
          have n0 : Nonempty (SK CL q0.w) := ⟨⟨q0, rfl⟩⟩
          simp only [pickM]
          repeat (go_big_quiet_step (fail))
          exact wpQuiet_nil rfl
        · simp only [pickZ]
          refine chain_call 32 #[.pointer (some ⟨p, 2, none⟩), .int .i64 x.src, .int .i64 x.seq, .int .i64 x.low, .int .i64 (doL S.line x).2.1] rfl (by simp [go_sem]) ?_
          refine (unhide HN).mono ?_
          rintro e v2 ⟨n, rfl, hcl, hr, hd⟩
          refine ⟨_, rfl, hcl, ?_⟩
          have HD := hide hd
          have HR := hide hr
          clear hd hr hcl HN q0 q1 q2
          simp only [chainM]
          go_simp
          go_wp2_with fail
          go_ret3
          exact ⟨a, cp, rfl, unhide HR, unhide HD⟩
end Go.Proofs.YtigmhljaoicdbaaGreat

/- What StoreApart does: it answers true, and nothing that was there has turned. Conditions: the numbers are 64 bits wide. -/
import Derived.Test.YtmgmkdkdpeljmaaSHereX
import Derived.Test.YtmgmkdkdpeljmaaMoves
namespace Go.Proofs.Ytmgmkdkdpeljmaa
open Go.RowKit
attribute [go_sem] sameA_self
@[go_sem high] theorem neq24v (a b : AggV) (w : World) : (binOp .neq 34 (aggV a) (aggV b)).run Try.prog w = .ok (.bool (!sameA a b)) w := by
  have h := eq24 a b w
  unfold aggV at h ⊢
  rw [run_neq_struct, h]; rfl
theorem exec_store {P : Program} {op : Oper} {a : Act} {w : World} (ty : TypeId) (x y : Operand) (ho : op.op = .store ty x y) (b o : Nat) (cells : Array Value) (hx : a.eval x = .pointer (some ⟨b, o, none⟩)) (hy : a.eval y = .agg cells)
    (ht : w.there b o cells.size) (hi : (P.info? ty).map (·.size) = some cells.size) (h1 : cells.all (·.oneCell') = true) : (execOp a.eval op).run P w = .ok .skip (w.setCells b o cells.toList) := by
  unfold execOp
  simp only [ho, hx, hy, Instr.storeAt, Instr.sureAddr, Sem.run_bind, Sem.run_pure, Result.andThen_ok, run_storeVar_mid w b o ty cells ht hi h1]
theorem HereXF.aside {w0 z v v' : World} {X F G : Nat → Prop} {p : Nat} {l : List (Win AggV)} {R : List Held} (h : HereXF w0 z X v p F l R) (m : Moved G v v') (hG : ∀ k, G k → ¬ F k ∧ ¬ X k ∧ w0.heap.size ≤ k ∧ ∀ r ∈ R, ¬ Held.at r k) : HereXF w0 z X v' p F l R :=
  ⟨⟨h.here.st.keep m (fun i hi => (hG i hi).1), h.here.big, ((Moved.of_below (F := G) h.here.bel).trans m (fun _ hi => .inl hi)).below (fun i hi => (hG i hi).2.2.1) (Nat.le_refl _), fun r hr => ⟨row_moved (h.here.rows r hr).1 m (fun i hi _ hk e => (hG i hi).2.2.2 r hr (e ▸ hk)), (h.here.rows r hr).2⟩⟩, h.apart, h.stay.trans m (fun i hi => .inl (hG i hi).2.1)⟩
set_option maxRecDepth 100000 in
set_option maxHeartbeats 16000000 in
theorem apart_any (a : Option Addr) (len cap : Nat) (z : List ActZ) (s1 s2 : ByteArray) (at_ th vv ww : Int) (w : World) (hz : IsActs w a len cap z) (_hs1 : s1.size ≤ maxLen) (_hs2 : s2.size ≤ maxLen) (hv : i64 vv) (hww : i64 ww) :
    Calls Try.prog 3 #[.slice a len cap, .string s1, .string s2, .int .i64 at_, .int .i64 th, .int .i64 vv, .int .i64 ww] w fun e w' => e = .returned (.bool true) ∧ Below w.heap.size w w' := by
  obtain ⟨k1, rfl⟩ : ∃ k : List UInt8, s1 = ⟨k.toArray⟩ := ⟨s1.data.toList, by cases s1; simp⟩
  obtain ⟨k2, rfl⟩ : ∃ k : List UInt8, s2 = ⟨k.toArray⟩ := ⟨s2.data.toList, by cases s2; simp⟩
  have hz1 : (⟨k1.toArray⟩ : ByteArray).size = k1.length := by simp [ByteArray.size]
  have hz2 : (⟨k2.toArray⟩ : ByteArray).size = k2.length := by simp [ByteArray.size]
  have HZ := hide hz
  have GR := hide (great_any a len cap z w hz)
  have WK := hide wakes_any
  have BW := hide (Below.refl w.heap.size w)
  have hw0 := hide (Here.new (Below.refl w.heap.size w) (R := []) (fun _ h => by cases h))
  clear hz _hs1 _hs2
  by_cases hg : tooGreat z = true
  · rw [hg] at GR
    go_enter Try.func3, Try.ntmps3
    go_wp2_with fail
    refine (unhide GR).mono ?_
    rintro e v' ⟨rfl, hw⟩
    rw [hw]
    clear hw v'
    go_wp2_with fail
    refine (unhide WK _).mono ?_
    rintro e v' ⟨rfl, hb⟩
    go_wp2_with fail
    go_ret
    exact ⟨rfl, (unhide BW).trans (hb.mono (unhide BW).size)⟩
  · rw [Bool.eq_false_iff.2 hg] at GR
    by_cases h1 : (100 : Int) < (k1.length : Int)
    · go_enter Try.func3, Try.ntmps3
      go_wp2_with fail
      refine (unhide GR).mono ?_
      rintro e v' ⟨rfl, hw⟩
      rw [hw]
      clear hw v'
      go_wp2_with fail
      refine (unhide WK _).mono ?_
      rintro e v' ⟨rfl, hb⟩
      go_wp2_with fail
      go_ret
      exact ⟨rfl, (unhide BW).trans (hb.mono (unhide BW).size)⟩
    · have d1 : decide ((100 : Int) < (k1.length : Int)) = false := decide_eq_false h1
      by_cases h2 : (100 : Int) < (k2.length : Int)
      · go_enter Try.func3, Try.ntmps3
        go_wp2_with fail
        refine (unhide GR).mono ?_
        rintro e v' ⟨rfl, hw⟩
        rw [hw]
        clear hw v'
        go_wp2_with fail
        refine (unhide WK _).mono ?_
        rintro e v' ⟨rfl, hb⟩
        go_wp2_with fail
        go_ret
        exact ⟨rfl, (unhide BW).trans (hb.mono (unhide BW).size)⟩
      · have d2 : decide ((100 : Int) < (k2.length : Int)) = false := decide_eq_false h2
        go_enter Try.func3, Try.ntmps3
        go_upto_region 3 with fail
        refine (unhide GR).mono ?_
        rintro e v' ⟨rfl, hw⟩
        rw [hw]
        clear hw v'
        go_upto_region 3 with fail
        go_upto_region 4 with fail
        refine (unhide hw0).mono ?_
        rintro e u1 ⟨rfl, HE⟩
        have HS := hide HE
        clear HE hw0 GR hg BW d1 d2 h1 h2
        generalize w.heap.size = p0 at HS ⊢
        go_upto_region 5 with fail
        refine (plays_any (unhide HS) mild_nil a len cap z (unhide HZ)).mono ?_
        rintro e u2 ⟨rfl, HE, hm⟩
        have ML := hide hm
        have GL := hide (good_plays (unhide HZ))
        clear HS
        have HS := hide HE
        clear HE hm
        generalize playS SO [] z = L at *
        have FN := hide (unhide HS).fine
        go_upto_region 6 with fail
        refine ((unhide HS).twin).mono ?_
        rintro e u3 ⟨q, rfl, HE, hb⟩
        obtain ⟨FT, hT⟩ := HE
        obtain ⟨FS0, hS0⟩ := unhide HS
        have XS := hide (HereX.start (X := FT) (hS0.below hb) (fun k hk => ⟨hT.st.lt k hk, fun f => by have h1 := hS0.st.lt k f; have h2 := hT.big k hk; omega⟩))
        have HTs := hide hT.st
        have HTb : Hid (∀ k, FT k → w.heap.size ≤ k) := hide fun k hk => Nat.le_trans hS0.bel.size (hT.big k hk)
        clear hT hS0 hb HS
        go_upto_region 7 with fail
        refine ((unhide XS).all (Nat.le_trans (unhide ML).most (by omega))).mono ?_
        rintro e u4 ⟨a1, c1, rfl, HE, _⟩
        clear XS
        have HS := hide HE
        clear HE
        have CP := hide ((unhide HS).put (unhide ML) k1 at_ vv hv)
        go_upto_region 8 with fail
        refine (unhide CP).mono ?_
        rintro e u5 ⟨rfl, HE⟩
        clear HS CP
        have HS := hide HE
        clear HE
        have ML1 := hide (mild_put (unhide ML) (k := k1) (a := at_) (v := vv) hv)
        have AP := put_apart (unhide GL) (k := k1) (a := at_) (v := vv)
        have APART := hide AP.1
        have LLE := hide AP.2.1
        have LEQ := hide AP.2.2
        clear AP
        go_upto_region 9 with fail
        refine ((unhide HS).all (Nat.le_trans (unhide ML1).most (by omega))).mono ?_
        rintro e u6 ⟨a2, c2, rfl, HE, _⟩
        clear HS
        have HS := hide HE
        clear HE
        have hL := (unhide ML).most
        go_wp2_with fail
        go_loopw [20] (fun i wr => ∃ j : Nat, i = .int .i64 (j : Int) ∧ j ≤ L.length ∧ HereX w u3 FT wr p0 (putS SO L k1 at_ vv).1 [(a2, c2, (putS SO L k1 at_ vv).1), (a1, c1, L)]) (fun i _ => L.length - (intOf i).toNat)
        case atStart => exact ⟨0, rfl, Nat.zero_le _, unhide HS⟩
        case round =>
          obtain ⟨j, rfl, hj, hs⟩ := hrel
          clear HS
          have HS := hide hs
          clear hs
          by_cases hlt : j < L.length
          · have g1 : (j : Int) < (L.length : Int) := by omega
            have hj0 : (0 : Int) ≤ (j : Int) := by omega
            have hwj : IntKind.i64.wrap ((j : Int) + 1) = (j : Int) + 1 := Go.IntWalk.i64_in _ (by omega)
            obtain ⟨x, hx⟩ : ∃ x, L[j]? = some x := ⟨_, List.getElem?_eq_getElem hlt⟩
            have hmem : x ∈ L := List.mem_of_getElem? hx
            obtain ⟨y, hly, hyx⟩ := (unhide APART) x hmem
            have OKX := hide ((unhide FN).oks x hmem)
            have RXX : Hid (∀ u, HereX w u3 FT u p0 (putS SO L k1 at_ vv).1 [(a2, c2, (putS SO L k1 at_ vv).1), (a1, c1, L)] → ∃ g, a1 = some ⟨g, 0, none⟩ ∧ u.rangeAt g (j * 10) (outV x)) := hide fun u hu => by
              obtain ⟨g, hg, hr, _⟩ := held_at (hu.hl.row (r := (a1, c1, L)) (List.mem_cons_of_mem _ List.mem_cons_self)) hx
              exact ⟨g, hg, hr⟩
            obtain ⟨g, rfl, _⟩ := unhide RXX wr (unhide HS)
            have RX : Hid (∀ u, HereX w u3 FT u p0 (putS SO L k1 at_ vv).1 [(a2, c2, (putS SO L k1 at_ vv).1), (some ⟨g, 0, none⟩, c1, L)] → u.rangeAt g (j * 10) (outV x)) := hide fun u hu => by
              obtain ⟨g', hg, hr⟩ := unhide RXX u hu
              cases hg; exact hr
            have HYX := hide hyx
            have HLY := hide hly
            clear hx hmem hly hyx RXX
            obtain ⟨xk, xs, xa⟩ := x
            dsimp only at HYX HLY OKX
            obtain ⟨F0, hF0⟩ := unhide HS
            have FB : Hid (∀ k, F0 k → k < wr.heap.size) := hide fun k hk => hF0.here.st.lt k hk
            have XB : Hid (∀ k, FT k → k < wr.heap.size) := hide fun k hk => Nat.lt_of_lt_of_le (hF0.apart k hk).1 hF0.stay.size
            have RB : Hid (∀ r ∈ [(a2, c2, (putS SO L k1 at_ vv).1), (some ⟨g, 0, none⟩, c1, L)], ∀ k, Held.at r k → k < wr.heap.size) := hide fun r hr k hk => (row_lt (hF0.here.rows r hr).1 k hk).2
            have WB := hide hF0.here.bel.size
            have HF0 := hide hF0
            clear hF0
            obtain ⟨CL, hCL⟩ : ∃ CL : World → Prop, CL = fun v => HereXF w u3 FT v p0 F0 (putS SO L k1 at_ vv).1 [(a2, c2, (putS SO L k1 at_ vv).1), (some ⟨g, 0, none⟩, c1, L)] := ⟨_, rfl⟩
            have un : ∀ v, CL v → HereXF w u3 FT v p0 F0 (putS SO L k1 at_ vv).1 [(a2, c2, (putS SO L k1 at_ vv).1), (some ⟨g, 0, none⟩, c1, L)] := fun v k => by rw [hCL] at k; exact k
            have TO : Hid (∀ v, HereXF w u3 FT v p0 F0 (putS SO L k1 at_ vv).1 [(a2, c2, (putS SO L k1 at_ vv).1), (some ⟨g, 0, none⟩, c1, L)] → CL v) := hide fun v k => by rw [hCL]; exact k
            have UN := hide un
            have LOW : Hid (∀ v v', CL v → Below v.heap.size v v' → CL v') := hide fun v v' h hb => unhide TO _ ((un v h).step ((un v h).here.below hb).st (fun _ f => .inl f) (Moved.of_below hb))
            obtain ⟨KL, hKL⟩ : ∃ KL : Option (Nat × Bool) → World → Prop, KL = fun c v => CL v ∧ wr.heap.size ≤ v.heap.size ∧ ∀ B t, c = some (B, t) → wr.heap.size ≤ B ∧ RowAt v B (if t = true then cellsA y else cellsA zero) := ⟨_, rfl⟩
            have unK : ∀ c v, KL c v → CL v ∧ wr.heap.size ≤ v.heap.size ∧ ∀ B t, c = some (B, t) → wr.heap.size ≤ B ∧ RowAt v B (if t = true then cellsA y else cellsA zero) := fun c v k => by rw [hKL] at k; exact k
            have TOK : Hid (∀ c v, (CL v ∧ wr.heap.size ≤ v.heap.size ∧ ∀ B t, c = some (B, t) → wr.heap.size ≤ B ∧ RowAt v B (if t = true then cellsA y else cellsA zero)) → KL c v) := hide fun c v k => by rw [hKL]; exact k
            have UNK := hide unK
            have base : KL none wr.drew := unhide TOK _ _ ⟨unhide LOW wr _ (unhide TO _ (unhide HF0)) (Below.refl _ _).drew, Nat.le_refl _, fun _ _ h => by cases h⟩
            have GET : Hid (∀ c (p : SW (KL c)), Calls Try.prog 16 #[.pointer (some ⟨p0, 0, none⟩), .string ⟨xk.toArray⟩, .int .i64 xs] p.w fun e w' => e = .returned (.tuple #[aggV y, .bool true]) ∧ ∃ q : SW (KL c), w' = q.w) := hide fun c p => by
              obtain ⟨k1', ks, k2'⟩ := unK c p.w p.ok
              refine (get_any (un _ k1').here.st (unhide OKX)).mono fun e w' ⟨he, hb⟩ => ?_
              rw [show look (putS SO L k1 at_ vv).1 xk xs = some y from unhide HLY] at he
              exact ⟨he, ⟨w', unhide TOK _ _ ⟨unhide LOW _ _ k1' hb, Nat.le_trans ks hb.size, fun B t e => ⟨(k2' B t e).1, (k2' B t e).2.below hb⟩⟩⟩, rfl⟩
            clear hCL un hKL unK
            go_upto_region 12 with fail
            refine wp_region_moves (Cl := KL) none [true, true, true, true, true, true, true, true, true, true, true, true, true, true, true, false, false, false] [(false, 15), (false, 16), (true, 17)] (by kernel_rfl) (by kernel_rfl) (by kernel_rfl) base ?_
            apply Exists.intro
            apply And.intro
            · intro c n0
              have q0 : ∀ q : SW (KL c), q.w.cell? ⟨g, j * 10, none⟩ = some (.string ⟨xk.toArray⟩) := fun q => unhide RX _ ⟨F0, unhide UN _ (unhide UNK _ _ q.ok).1⟩ 0 _ rfl
              have q1 : ∀ q : SW (KL c), q.w.cell? ⟨g, j * 10 + 1, none⟩ = some (.int .i64 xs) := fun q => unhide RX _ ⟨F0, unhide UN _ (unhide UNK _ _ q.ok).1⟩ 1 _ rfl
              simp only [pickM]
              repeat (go_big_quiet_step (first | (go_at_call 16; exact unhide GET c _)))
              exact wpQuiet_nil rfl
            · simp only [List.map_cons, List.map_nil, List.getD_cons_succ, List.getD_cons_zero]
              refine seqG_mover rfl ?_
              rintro w' ⟨p1, rfl⟩
              obtain ⟨k1', ks, _⟩ := unhide UNK _ _ p1.ok
              refine ⟨some (p1.w.heap.size, false), p1.w.alloc (.cells #[.int .i64 0, .int .i64 0, .int .i64 0, .int .i64 0, .int .i64 0, .int .i64 0, .int .i64 0, .int .i64 0] 34), .pointer (some ⟨p1.w.heap.size, 0, none⟩), .inl (by simp [go_sem]), ⟨⟨_, unhide TOK _ _ ⟨unhide LOW _ _ k1' ((Below.refl _ _).alloc (Nat.le_refl _) _), Nat.le_trans ks (by simp), fun B t e => by cases e; exact ⟨ks, row_new p1.w (cellsA zero) 34⟩⟩⟩, rfl⟩, ?_⟩
              go_simp
              generalize p1.w.heap.size = hb5
              clear k1' ks
              refine seqG_mover rfl ?_
              rintro w' ⟨p2, rfl⟩
              obtain ⟨k3, ks, k4⟩ := unhide UNK _ _ p2.ok
              obtain ⟨hB, hr2⟩ := k4 _ _ rfl
              have hr2' : RowAt p2.w hb5 (cellsA zero) := hr2
              have mm := setCells_moved p2.w hb5 0 (cellsA y)
              refine ⟨some (hb5, true), p2.w.setCells hb5 0 (cellsA y), undef, .inr ⟨exec_store 34 (.tmp 21) (.tmp 73) rfl hb5 0 (cellsA y).toArray rfl rfl hr2'.there (by kernel_rfl) (by simp [Value.oneCell', cellsA, I]), rfl⟩, ⟨⟨_, unhide TOK _ _ ⟨unhide TO _ ((unhide UN _ k3).aside mm (fun k hk => by
                subst hk
                exact ⟨fun f => absurd (unhide FB _ f) (by omega), fun f => absurd (unhide XB _ f) (by omega), Nat.le_trans (unhide WB) hB, fun r hr e => absurd (unhide RB r hr _ e) (by omega)⟩)), Nat.le_trans ks mm.size, fun B t e => by cases e; exact ⟨hB, hr2'.put (cellsA y) rfl⟩⟩⟩, rfl⟩, ?_⟩
              go_simp
              clear k3 ks k4 hB hr2 hr2' mm
              refine seqG_yields (.bool true) rfl (fun w => by simp [go_sem]) ?_
              intro v6 h6
              obtain ⟨k5, _, k6⟩ := unhide UNK _ _ h6
              have H6 : Hid (HereX w u3 FT v6 p0 (putS SO L k1 at_ vv).1 [(a2, c2, (putS SO L k1 at_ vv).1), (some ⟨g, 0, none⟩, c1, L)]) := hide ⟨F0, unhide UN _ k5⟩
              have R6 : Hid (RowAt v6 hb5 (cellsA y)) := hide (k6 _ _ rfl).2
              have C6 := hide k5
              clear k5 k6 h6 base HS
              go_simp
              obtain ⟨CK, hCK⟩ : ∃ CK : World → Prop, CK = fun v => CL v ∧ RowAt v hb5 (cellsA y) := ⟨_, rfl⟩
              have un2 : ∀ v, CK v → CL v ∧ RowAt v hb5 (cellsA y) := fun v k => by rw [hCK] at k; exact k
              have base2 : CK v6.drew := by rw [hCK]; exact ⟨unhide LOW _ _ (unhide C6) (Below.refl _ _).drew, (unhide R6).keep ((Moved.refl (fun _ => False) v6).drew) id⟩
              have RY : Hid (∀ v, (∃ q : SW CK, v = q.w) → v.rangeAt hb5 0 (cellsA y)) := hide (by rintro v ⟨q, rfl⟩; exact (un2 _ q.ok).2.range)
              have RA : Hid (∀ v, (∃ q : SW CK, v = q.w) → v.rangeAt g (j * 10 + 2) (cellsA xa)) := hide (by
                rintro v ⟨q, rfl⟩ i u hu
                have := unhide RX _ ⟨F0, unhide UN _ (un2 _ q.ok).1⟩ (2 + i) u (by rw [← hu, Nat.add_comm 2 i]; rfl)
                rw [show j * 10 + 2 + i = j * 10 + (2 + i) by omega]; exact this)
              have q0 : ∀ q : SW CK, q.w.cell? ⟨g, j * 10, none⟩ = some (.string ⟨xk.toArray⟩) := fun q => unhide RX _ ⟨F0, unhide UN _ (un2 _ q.ok).1⟩ 0 _ rfl
              have q1 : ∀ q : SW CK, q.w.cell? ⟨g, j * 10 + 1, none⟩ = some (.int .i64 xs) := fun q => unhide RX _ ⟨F0, unhide UN _ (un2 _ q.ok).1⟩ 1 _ rfl
              have CST := hide (fun u => Sp.start_any at_ u)
              clear hCK un2 R6
              go_upto_region 13 with fail
              by_cases hsm : sameA y xa = true
              · refine wp_region_chain (S := CK) [true, true, true, true, true, true, true, true, true, true, true, true, true, true, true, true, true, true, true, true, true, true, true, true, true, true, true, true, true, true] [false, false, false, false, false, false, false, false, false, false, false, false, false, false, false, false, false, false, false, false, false, false, false, false, false, false, false, false, false, false] (by kernel_rfl) (by kernel_rfl) (by kernel_rfl) base2 ?_
                apply Exists.intro
                apply And.intro
                · intro q
                  have n0 : Nonempty (SK CK q.w) := ⟨⟨q, rfl⟩⟩
                  simp only [pickM]
                  repeat (go_big_quiet_step (fail))
                  refine wpQuiet_load_aggx rfl 34 (.tmp 21) rfl hb5 0 rfl y _ (fun v ⟨q1, hq⟩ => by rw [hq]; exact unhide RY _ ⟨q1.s, rfl⟩) Try.underlying34 rfl (by kernel_rfl) ?_
                  go_simp
                  repeat (go_big_quiet_step (fail))
                  refine wpQuiet_load_aggx rfl 34 (.tmp 82) rfl g (j * 10 + 2) rfl xa _ (fun v ⟨q1, hq⟩ => by rw [hq]; exact unhide RA _ ⟨q1.s, rfl⟩) Try.underlying34 rfl (by kernel_rfl) ?_
                  go_simp
                  repeat (go_big_quiet_step (fail))
                  exact wpQuiet_nil rfl
                · simp only [pickZ]
                  simp only [chainM]
                  clear q0 q1 base2 hsm
                  go_simp
                  go_wp2_with fail
                  go_roundw
                  case rel => exact ⟨j + 1, rfl, by omega, (unhide H6).below (Below.refl _ _).drew⟩
                  case measure => simp [intOf]; omega
              · have hne : ¬ y = xa := fun h => hsm (by rw [h]; exact sameA_self xa)
                obtain ⟨hxk, hxs⟩ := (unhide HYX).resolve_left hne
                have hsm' : sameA y xa = false := Bool.eq_false_iff.2 hsm
                subst hxk
                have CST : Hid (∀ u, Calls Try.prog 17 #[.int .i64 at_] u fun e w' => e = .returned (.int .i64 xs) ∧ w' = u) := hide (by rw [hxs]; exact unhide CST)
                clear hne hsm hxs
                refine wp_region_chain (S := CK) [true, true, true, true, true, true, true, true, true, true, true, true, true, true, true, true, true, true, true, true, true, true, true, true, true, true, true, true, true, true] [false, false, false, false, false, false, false, false, false, false, false, false, false, false, false, false, false, false, false, false, false, false, false, false, false, false, false, false, false, false] (by kernel_rfl) (by kernel_rfl) (by kernel_rfl) base2 ?_
                apply Exists.intro
                apply And.intro
                · intro q
                  have n0 : Nonempty (SK CK q.w) := ⟨⟨q, rfl⟩⟩
                  simp only [pickM]
                  repeat (go_big_quiet_step (fail))
                  refine wpQuiet_load_aggx rfl 34 (.tmp 21) rfl hb5 0 rfl y _ (fun v ⟨q1, hq⟩ => by rw [hq]; exact unhide RY _ ⟨q1.s, rfl⟩) Try.underlying34 rfl (by kernel_rfl) ?_
                  go_simp
                  repeat (go_big_quiet_step (fail))
                  refine wpQuiet_load_aggx rfl 34 (.tmp 82) rfl g (j * 10 + 2) rfl xa _ (fun v ⟨q1, hq⟩ => by rw [hq]; exact unhide RA _ ⟨q1.s, rfl⟩) Try.underlying34 rfl (by kernel_rfl) ?_
                  go_simp
                  repeat (go_big_quiet_step (first | (go_at_call 17; exact (unhide CST _).mono fun e w' ⟨he, hw⟩ => ⟨he, _, hw⟩)))
                  exact wpQuiet_nil rfl
                · simp only [pickZ]
                  simp only [chainM]
                  clear q0 q1 base2 hsm'
                  go_simp
                  go_wp2_with fail
                  go_roundw
                  case rel => exact ⟨j + 1, rfl, by omega, (unhide H6).below (Below.refl _ _).drew⟩
                  case measure => simp [intOf]; omega
          · have g1 : ¬ (j : Int) < (L.length : Int) := by omega
            have hwl : IntKind.i64.wrap ((L.length : Int) + 1) = (L.length : Int) + 1 := Go.IntWalk.i64_in _ (by have := (unhide ML).most; omega)
            have d1 : decide ((L.length : Int) + 1 < ((putS SO L k1 at_ vv).1.length : Int)) = false := decide_eq_false (by have := unhide LLE; omega)
            have HSX := hide ((unhide HS).drop (R' := []) (fun _ h => by cases h))
            clear HS
            have HS := HSX
            clear HSX
            by_cases h0 : (putS SO L k1 at_ vv).2 = 0
            · have h0i : ((putS SO L k1 at_ vv).2 : Int) = 0 := by omega
              have CPB := (unhide HS).put (unhide ML1) k2 th ww hww
              have HCPB := hide CPB
              have ML2 := hide (mild_put (unhide ML1) (k := k2) (a := th) (v := ww) hww)
              clear CPB
              go_upto_region 18 with fail
              refine (unhide HCPB).mono ?_
              rintro e wr2 ⟨rfl, HE⟩
              clear HS HCPB
              have HS := hide HE
              clear HE
              by_cases hke : k1 = k2
              · by_cases hst : Sp.startI at_ = Sp.startI th
                · have BEL := hide (unhide HS).bel
                  subst hke
                  have CS1 := hide (fun u => Sp.start_any at_ u)
                  have CS2 := hide (fun u => Sp.start_any th u)
                  rw [← hst] at CS2
                  generalize Sp.startI at_ = sa at *
                  go_wp2_with fail
                  refine (unhide CS1 _).mono ?_
                  rintro e v' ⟨rfl, hw⟩
                  rw [hw]
                  clear hw v'
                  go_wp2_with fail
                  refine (unhide CS2 _).mono ?_
                  rintro e v' ⟨rfl, hw⟩
                  rw [hw]
                  clear hw v'
                  go_wp2_with fail
                  refine (unhide WK _).mono ?_
                  rintro e v' ⟨rfl, hb⟩
                  go_wp2_with fail
                  go_ret
                  exact ⟨rfl, (unhide BEL).trans (hb.mono (unhide BEL).size)⟩
                · have hsb : (Sp.startI at_ == Sp.startI th) = false := by simpa using hst
                  subst hke
                  have HST := hide hst
                  have CS1 := hide (fun u => Sp.start_any at_ u)
                  have CS2 := hide (fun u => Sp.start_any th u)
                  by_cases h6 : (putS SO L k1 at_ vv).2 = 6
                  · exact absurd h6 (by omega)
                  · have h6i : ¬ ((putS SO L k1 at_ vv).2 : Int) = 6 := by omega
                    have h6b : (((putS SO L k1 at_ vv).2 : Int) == 6) = false := by simpa using h6i
                    have HA6 := hide h6
                    by_cases g6 : (putS SO (putS SO L k1 at_ vv).1 k1 th ww).2 = 6
                    · have g6i : ((putS SO (putS SO L k1 at_ vv).1 k1 th ww).2 : Int) = 6 := by omega
                      have BEL := hide (unhide HS).bel
                      go_upto_region 20 with fail
                      refine (unhide CS1 _).mono ?_
                      rintro e v' ⟨rfl, hw⟩
                      rw [hw]
                      clear hw v'
                      go_upto_region 20 with fail
                      refine (unhide CS2 _).mono ?_
                      rintro e v' ⟨rfl, hw⟩
                      rw [hw]
                      clear hw v'
                      go_upto_region 20 with fail
                      refine (unhide WK _).mono ?_
                      rintro e v' ⟨rfl, hb⟩
                      go_wp2_with fail
                      go_ret
                      exact ⟨rfl, (unhide BEL).trans (hb.mono (unhide BEL).size)⟩
                    · have g6i : ¬ ((putS SO (putS SO L k1 at_ vv).1 k1 th ww).2 : Int) = 6 := by omega
                      have g6b : (((putS SO (putS SO L k1 at_ vv).1 k1 th ww).2 : Int) == 6) = false := by simpa using g6i
                      have HB6 := hide g6
                      clear h6 g6
                      go_upto_region 20 with fail
                      refine (unhide CS1 _).mono ?_
                      rintro e v' ⟨rfl, hw⟩
                      rw [hw]
                      clear hw v'
                      go_upto_region 20 with fail
                      refine (unhide CS2 _).mono ?_
                      rintro e v' ⟨rfl, hw⟩
                      rw [hw]
                      clear hw v'
                      go_upto_region 20 with fail
                      clear h6i g6i h6b g6b
                      obtain ⟨FS, hS⟩ := unhide HS
                      have CM := put_comm so_law (unhide GL) (k := k1) (k' := k1) (a := at_) (a' := th) hv hww (fun h => unhide HST h.2) (unhide HA6) (unhide HB6)
                      obtain ⟨cm1, cm2, cm3⟩ := CM
                      have hTs := hide ((unhide HTs).keep hS.stay (fun i hi f => hi f))
                      have XT : HereX w wr2 FS wr2 q L [] := HereX.start ⟨unhide hTs, unhide HTb, hS.here.bel, fun r hr => by cases hr⟩ (fun i hi => ⟨hS.here.st.lt i hi, fun f => (hS.apart i f).2 hi⟩)
                      have HSs := hide hS.here.st
                      have HSb := hide hS.here.big
                      have CP := XT.put (unhide ML) k1 th ww hww
                      rw [cm2] at CP
                      have HCP := hide CP
                      have CM1 := hide cm1
                      have CM3 := hide cm3
                      have M2 := hide (mild_put (unhide ML) (k := k1) (a := th) (v := ww) hww)
                      clear CP XT hTs hS HS cm1 cm2 cm3
                      go_upto_region 21 with fail
                      refine (unhide HCP).mono ?_
                      rintro e y1 ⟨rfl, HE⟩
                      have CP := HE.put (unhide M2) k1 at_ vv hv
                      rw [unhide CM1, ← unhide CM3] at CP
                      clear HCP
                      have HCP := hide CP
                      clear CP HE
                      go_upto_region 22 with fail
                      refine (unhide HCP).mono ?_
                      rintro e y2 ⟨rfl, HE⟩
                      obtain ⟨FT4, h4⟩ := HE
                      have HSS : Hid (Here w y2 p0 (putS SO (putS SO L k1 at_ vv).1 k1 th ww).1 []) := hide ⟨FS, (unhide HSs).keep h4.stay (fun i hi f => hi f), unhide HSb, h4.here.bel, fun r hr => by cases hr⟩
                      have HTT : Hid (Here w y2 q (putS SO (putS SO L k1 at_ vv).1 k1 th ww).1 []) := hide ⟨FT4, h4.here⟩
                      clear h4 HCP HSs HSb CM1 CM3 M2
                      generalize (putS SO (putS SO L k1 at_ vv).1 k1 th ww).2 = eb at *
                      generalize (putS SO (putS SO L k1 at_ vv).1 k1 th ww).1 = L2 at *
                      generalize (putS SO L k1 at_ vv).2 = ea at *
                      go_wp2_with fail
                      refine ((unhide HSS).all2 (Nat.le_trans (unhide ML2).most (by omega))).mono ?_
                      rintro e y3 ⟨a3, c3, rfl, HE, hb⟩
                      have HS3 := hide HE
                      have HT3 := hide ((unhide HTT).below hb)
                      clear HE hb HSS HTT
                      go_wp2_with fail
                      refine ((unhide HT3).all2 (Nat.le_trans (unhide ML2).most (by omega))).mono ?_
                      rintro e y4 ⟨a4, c4, rfl, HE, hb⟩
                      have HT4 := hide HE
                      have HS4 := hide ((unhide HS3).below hb)
                      clear HE hb HS3 HT3
                      have SM := hide (same_self (c := c3) (d := c4) (Held.lay (r := (a3, c3, L2)) ((unhide HS4).row List.mem_cons_self) (Nat.le_trans (unhide ML2).most (by omega))) (Held.lay (r := (a4, c4, L2)) ((unhide HT4).row List.mem_cons_self) (Nat.le_trans (unhide ML2).most (by omega))))
                      go_wp2_with fail
                      refine (unhide SM).mono ?_
                      rintro e y5 ⟨rfl, hb⟩
                      have BEL := hide ((unhide HT4).below hb).bel
                      clear hb SM HT4 HS4
                      go_wp2_with fail
                      refine (unhide WK _).mono ?_
                      rintro e v' ⟨rfl, hb⟩
                      go_wp2_with fail
                      go_ret
                      exact ⟨rfl, (unhide BEL).trans (hb.mono (unhide BEL).size)⟩
              · have HNE : Hid (¬ (k1 = k2 ∧ SO.start at_ = SO.start th)) := hide fun h => hke h.1
                have hkb : ¬ (⟨k1.toArray⟩ : ByteArray) = ⟨k2.toArray⟩ := fun h => hke (by simpa using h)
                by_cases h6 : (putS SO L k1 at_ vv).2 = 6
                · exact absurd h6 (by omega)
                · have h6i : ¬ ((putS SO L k1 at_ vv).2 : Int) = 6 := by omega
                  have h6b : (((putS SO L k1 at_ vv).2 : Int) == 6) = false := by simpa using h6i
                  have HA6 := hide h6
                  by_cases g6 : (putS SO (putS SO L k1 at_ vv).1 k2 th ww).2 = 6
                  · have g6i : ((putS SO (putS SO L k1 at_ vv).1 k2 th ww).2 : Int) = 6 := by omega
                    have BEL := hide (unhide HS).bel
                    go_upto_region 20 with fail
                    refine (unhide WK _).mono ?_
                    rintro e v' ⟨rfl, hb⟩
                    go_wp2_with fail
                    go_ret
                    exact ⟨rfl, (unhide BEL).trans (hb.mono (unhide BEL).size)⟩
                  · have g6i : ¬ ((putS SO (putS SO L k1 at_ vv).1 k2 th ww).2 : Int) = 6 := by omega
                    have g6b : (((putS SO (putS SO L k1 at_ vv).1 k2 th ww).2 : Int) == 6) = false := by simpa using g6i
                    have HB6 := hide g6
                    clear h6 g6
                    go_upto_region 20 with fail
                    clear h6i g6i h6b g6b
                    obtain ⟨FS, hS⟩ := unhide HS
                    have CM := put_comm so_law (unhide GL) (k := k1) (k' := k2) (a := at_) (a' := th) hv hww (unhide HNE) (unhide HA6) (unhide HB6)
                    obtain ⟨cm1, cm2, cm3⟩ := CM
                    have hTs := hide ((unhide HTs).keep hS.stay (fun i hi f => hi f))
                    have XT : HereX w wr2 FS wr2 q L [] := HereX.start ⟨unhide hTs, unhide HTb, hS.here.bel, fun r hr => by cases hr⟩ (fun i hi => ⟨hS.here.st.lt i hi, fun f => (hS.apart i f).2 hi⟩)
                    have HSs := hide hS.here.st
                    have HSb := hide hS.here.big
                    have CP := XT.put (unhide ML) k2 th ww hww
                    rw [cm2] at CP
                    have HCP := hide CP
                    have CM1 := hide cm1
                    have CM3 := hide cm3
                    have M2 := hide (mild_put (unhide ML) (k := k2) (a := th) (v := ww) hww)
                    clear CP XT hTs hS HS cm1 cm2 cm3
                    go_upto_region 21 with fail
                    refine (unhide HCP).mono ?_
                    rintro e y1 ⟨rfl, HE⟩
                    have CP := HE.put (unhide M2) k1 at_ vv hv
                    rw [unhide CM1, ← unhide CM3] at CP
                    clear HCP
                    have HCP := hide CP
                    clear CP HE
                    go_upto_region 22 with fail
                    refine (unhide HCP).mono ?_
                    rintro e y2 ⟨rfl, HE⟩
                    obtain ⟨FT4, h4⟩ := HE
                    have HSS : Hid (Here w y2 p0 (putS SO (putS SO L k1 at_ vv).1 k2 th ww).1 []) := hide ⟨FS, (unhide HSs).keep h4.stay (fun i hi f => hi f), unhide HSb, h4.here.bel, fun r hr => by cases hr⟩
                    have HTT : Hid (Here w y2 q (putS SO (putS SO L k1 at_ vv).1 k2 th ww).1 []) := hide ⟨FT4, h4.here⟩
                    clear h4 HCP HSs HSb CM1 CM3 M2
                    generalize (putS SO (putS SO L k1 at_ vv).1 k2 th ww).2 = eb at *
                    generalize (putS SO (putS SO L k1 at_ vv).1 k2 th ww).1 = L2 at *
                    generalize (putS SO L k1 at_ vv).2 = ea at *
                    go_wp2_with fail
                    refine ((unhide HSS).all2 (Nat.le_trans (unhide ML2).most (by omega))).mono ?_
                    rintro e y3 ⟨a3, c3, rfl, HE, hb⟩
                    have HS3 := hide HE
                    have HT3 := hide ((unhide HTT).below hb)
                    clear HE hb HSS HTT
                    go_wp2_with fail
                    refine ((unhide HT3).all2 (Nat.le_trans (unhide ML2).most (by omega))).mono ?_
                    rintro e y4 ⟨a4, c4, rfl, HE, hb⟩
                    have HT4 := hide HE
                    have HS4 := hide ((unhide HS3).below hb)
                    clear HE hb HS3 HT3
                    have SM := hide (same_self (c := c3) (d := c4) (Held.lay (r := (a3, c3, L2)) ((unhide HS4).row List.mem_cons_self) (Nat.le_trans (unhide ML2).most (by omega))) (Held.lay (r := (a4, c4, L2)) ((unhide HT4).row List.mem_cons_self) (Nat.le_trans (unhide ML2).most (by omega))))
                    go_wp2_with fail
                    refine (unhide SM).mono ?_
                    rintro e y5 ⟨rfl, hb⟩
                    have BEL := hide ((unhide HT4).below hb).bel
                    clear hb SM HT4 HS4
                    go_wp2_with fail
                    refine (unhide WK _).mono ?_
                    rintro e v' ⟨rfl, hb⟩
                    go_wp2_with fail
                    go_ret
                    exact ⟨rfl, (unhide BEL).trans (hb.mono (unhide BEL).size)⟩
            · have h0i : ¬ ((putS SO L k1 at_ vv).2 : Int) = 0 := by omega
              have hll : ((putS SO L k1 at_ vv).1.length : Int) = (L.length : Int) := by have := unhide LEQ h0; omega
              have CPB := (unhide HS).put (unhide ML1) k2 th ww hww
              have HCPB := hide CPB
              have ML2 := hide (mild_put (unhide ML1) (k := k2) (a := th) (v := ww) hww)
              clear CPB
              go_upto_region 18 with fail
              refine (unhide HCPB).mono ?_
              rintro e wr2 ⟨rfl, HE⟩
              clear HS HCPB
              have HS := hide HE
              clear HE
              by_cases hke : k1 = k2
              · by_cases hst : Sp.startI at_ = Sp.startI th
                · have BEL := hide (unhide HS).bel
                  subst hke
                  have CS1 := hide (fun u => Sp.start_any at_ u)
                  have CS2 := hide (fun u => Sp.start_any th u)
                  rw [← hst] at CS2
                  generalize Sp.startI at_ = sa at *
                  go_wp2_with fail
                  refine (unhide CS1 _).mono ?_
                  rintro e v' ⟨rfl, hw⟩
                  rw [hw]
                  clear hw v'
                  go_wp2_with fail
                  refine (unhide CS2 _).mono ?_
                  rintro e v' ⟨rfl, hw⟩
                  rw [hw]
                  clear hw v'
                  go_wp2_with fail
                  refine (unhide WK _).mono ?_
                  rintro e v' ⟨rfl, hb⟩
                  go_wp2_with fail
                  go_ret
                  exact ⟨rfl, (unhide BEL).trans (hb.mono (unhide BEL).size)⟩
                · have hsb : (Sp.startI at_ == Sp.startI th) = false := by simpa using hst
                  subst hke
                  have HST := hide hst
                  have CS1 := hide (fun u => Sp.start_any at_ u)
                  have CS2 := hide (fun u => Sp.start_any th u)
                  by_cases h6 : (putS SO L k1 at_ vv).2 = 6
                  · have h6i : ((putS SO L k1 at_ vv).2 : Int) = 6 := by omega
                    have BEL := hide (unhide HS).bel
                    go_upto_region 20 with fail
                    refine (unhide CS1 _).mono ?_
                    rintro e v' ⟨rfl, hw⟩
                    rw [hw]
                    clear hw v'
                    go_upto_region 20 with fail
                    refine (unhide CS2 _).mono ?_
                    rintro e v' ⟨rfl, hw⟩
                    rw [hw]
                    clear hw v'
                    go_upto_region 20 with fail
                    refine (unhide WK _).mono ?_
                    rintro e v' ⟨rfl, hb⟩
                    go_wp2_with fail
                    go_ret
                    exact ⟨rfl, (unhide BEL).trans (hb.mono (unhide BEL).size)⟩
                  · have h6i : ¬ ((putS SO L k1 at_ vv).2 : Int) = 6 := by omega
                    have h6b : (((putS SO L k1 at_ vv).2 : Int) == 6) = false := by simpa using h6i
                    have HA6 := hide h6
                    by_cases g6 : (putS SO (putS SO L k1 at_ vv).1 k1 th ww).2 = 6
                    · have g6i : ((putS SO (putS SO L k1 at_ vv).1 k1 th ww).2 : Int) = 6 := by omega
                      have BEL := hide (unhide HS).bel
                      go_upto_region 20 with fail
                      refine (unhide CS1 _).mono ?_
                      rintro e v' ⟨rfl, hw⟩
                      rw [hw]
                      clear hw v'
                      go_upto_region 20 with fail
                      refine (unhide CS2 _).mono ?_
                      rintro e v' ⟨rfl, hw⟩
                      rw [hw]
                      clear hw v'
                      go_upto_region 20 with fail
                      refine (unhide WK _).mono ?_
                      rintro e v' ⟨rfl, hb⟩
                      go_wp2_with fail
                      go_ret
                      exact ⟨rfl, (unhide BEL).trans (hb.mono (unhide BEL).size)⟩
                    · have g6i : ¬ ((putS SO (putS SO L k1 at_ vv).1 k1 th ww).2 : Int) = 6 := by omega
                      have g6b : (((putS SO (putS SO L k1 at_ vv).1 k1 th ww).2 : Int) == 6) = false := by simpa using g6i
                      have HB6 := hide g6
                      clear h6 g6
                      go_upto_region 20 with fail
                      refine (unhide CS1 _).mono ?_
                      rintro e v' ⟨rfl, hw⟩
                      rw [hw]
                      clear hw v'
                      go_upto_region 20 with fail
                      refine (unhide CS2 _).mono ?_
                      rintro e v' ⟨rfl, hw⟩
                      rw [hw]
                      clear hw v'
                      go_upto_region 20 with fail
                      clear h6i g6i h6b g6b
                      obtain ⟨FS, hS⟩ := unhide HS
                      have CM := put_comm so_law (unhide GL) (k := k1) (k' := k1) (a := at_) (a' := th) hv hww (fun h => unhide HST h.2) (unhide HA6) (unhide HB6)
                      obtain ⟨cm1, cm2, cm3⟩ := CM
                      have hTs := hide ((unhide HTs).keep hS.stay (fun i hi f => hi f))
                      have XT : HereX w wr2 FS wr2 q L [] := HereX.start ⟨unhide hTs, unhide HTb, hS.here.bel, fun r hr => by cases hr⟩ (fun i hi => ⟨hS.here.st.lt i hi, fun f => (hS.apart i f).2 hi⟩)
                      have HSs := hide hS.here.st
                      have HSb := hide hS.here.big
                      have CP := XT.put (unhide ML) k1 th ww hww
                      rw [cm2] at CP
                      have HCP := hide CP
                      have CM1 := hide cm1
                      have CM3 := hide cm3
                      have M2 := hide (mild_put (unhide ML) (k := k1) (a := th) (v := ww) hww)
                      clear CP XT hTs hS HS cm1 cm2 cm3
                      go_upto_region 21 with fail
                      refine (unhide HCP).mono ?_
                      rintro e y1 ⟨rfl, HE⟩
                      have CP := HE.put (unhide M2) k1 at_ vv hv
                      rw [unhide CM1, ← unhide CM3] at CP
                      clear HCP
                      have HCP := hide CP
                      clear CP HE
                      go_upto_region 22 with fail
                      refine (unhide HCP).mono ?_
                      rintro e y2 ⟨rfl, HE⟩
                      obtain ⟨FT4, h4⟩ := HE
                      have HSS : Hid (Here w y2 p0 (putS SO (putS SO L k1 at_ vv).1 k1 th ww).1 []) := hide ⟨FS, (unhide HSs).keep h4.stay (fun i hi f => hi f), unhide HSb, h4.here.bel, fun r hr => by cases hr⟩
                      have HTT : Hid (Here w y2 q (putS SO (putS SO L k1 at_ vv).1 k1 th ww).1 []) := hide ⟨FT4, h4.here⟩
                      clear h4 HCP HSs HSb CM1 CM3 M2
                      generalize (putS SO (putS SO L k1 at_ vv).1 k1 th ww).2 = eb at *
                      generalize (putS SO (putS SO L k1 at_ vv).1 k1 th ww).1 = L2 at *
                      generalize (putS SO L k1 at_ vv).2 = ea at *
                      go_wp2_with fail
                      refine ((unhide HSS).all2 (Nat.le_trans (unhide ML2).most (by omega))).mono ?_
                      rintro e y3 ⟨a3, c3, rfl, HE, hb⟩
                      have HS3 := hide HE
                      have HT3 := hide ((unhide HTT).below hb)
                      clear HE hb HSS HTT
                      go_wp2_with fail
                      refine ((unhide HT3).all2 (Nat.le_trans (unhide ML2).most (by omega))).mono ?_
                      rintro e y4 ⟨a4, c4, rfl, HE, hb⟩
                      have HT4 := hide HE
                      have HS4 := hide ((unhide HS3).below hb)
                      clear HE hb HS3 HT3
                      have SM := hide (same_self (c := c3) (d := c4) (Held.lay (r := (a3, c3, L2)) ((unhide HS4).row List.mem_cons_self) (Nat.le_trans (unhide ML2).most (by omega))) (Held.lay (r := (a4, c4, L2)) ((unhide HT4).row List.mem_cons_self) (Nat.le_trans (unhide ML2).most (by omega))))
                      go_wp2_with fail
                      refine (unhide SM).mono ?_
                      rintro e y5 ⟨rfl, hb⟩
                      have BEL := hide ((unhide HT4).below hb).bel
                      clear hb SM HT4 HS4
                      go_wp2_with fail
                      refine (unhide WK _).mono ?_
                      rintro e v' ⟨rfl, hb⟩
                      go_wp2_with fail
                      go_ret
                      exact ⟨rfl, (unhide BEL).trans (hb.mono (unhide BEL).size)⟩
              · have HNE : Hid (¬ (k1 = k2 ∧ SO.start at_ = SO.start th)) := hide fun h => hke h.1
                have hkb : ¬ (⟨k1.toArray⟩ : ByteArray) = ⟨k2.toArray⟩ := fun h => hke (by simpa using h)
                by_cases h6 : (putS SO L k1 at_ vv).2 = 6
                · have h6i : ((putS SO L k1 at_ vv).2 : Int) = 6 := by omega
                  have BEL := hide (unhide HS).bel
                  go_upto_region 20 with fail
                  refine (unhide WK _).mono ?_
                  rintro e v' ⟨rfl, hb⟩
                  go_wp2_with fail
                  go_ret
                  exact ⟨rfl, (unhide BEL).trans (hb.mono (unhide BEL).size)⟩
                · have h6i : ¬ ((putS SO L k1 at_ vv).2 : Int) = 6 := by omega
                  have h6b : (((putS SO L k1 at_ vv).2 : Int) == 6) = false := by simpa using h6i
                  have HA6 := hide h6
                  by_cases g6 : (putS SO (putS SO L k1 at_ vv).1 k2 th ww).2 = 6
                  · have g6i : ((putS SO (putS SO L k1 at_ vv).1 k2 th ww).2 : Int) = 6 := by omega
                    have BEL := hide (unhide HS).bel
                    go_upto_region 20 with fail
                    refine (unhide WK _).mono ?_
                    rintro e v' ⟨rfl, hb⟩
                    go_wp2_with fail
                    go_ret
                    exact ⟨rfl, (unhide BEL).trans (hb.mono (unhide BEL).size)⟩
                  · have g6i : ¬ ((putS SO (putS SO L k1 at_ vv).1 k2 th ww).2 : Int) = 6 := by omega
                    have g6b : (((putS SO (putS SO L k1 at_ vv).1 k2 th ww).2 : Int) == 6) = false := by simpa using g6i
                    have HB6 := hide g6
                    clear h6 g6
                    go_upto_region 20 with fail
                    clear h6i g6i h6b g6b
                    obtain ⟨FS, hS⟩ := unhide HS
                    have CM := put_comm so_law (unhide GL) (k := k1) (k' := k2) (a := at_) (a' := th) hv hww (unhide HNE) (unhide HA6) (unhide HB6)
                    obtain ⟨cm1, cm2, cm3⟩ := CM
                    have hTs := hide ((unhide HTs).keep hS.stay (fun i hi f => hi f))
                    have XT : HereX w wr2 FS wr2 q L [] := HereX.start ⟨unhide hTs, unhide HTb, hS.here.bel, fun r hr => by cases hr⟩ (fun i hi => ⟨hS.here.st.lt i hi, fun f => (hS.apart i f).2 hi⟩)
                    have HSs := hide hS.here.st
                    have HSb := hide hS.here.big
                    have CP := XT.put (unhide ML) k2 th ww hww
                    rw [cm2] at CP
                    have HCP := hide CP
                    have CM1 := hide cm1
                    have CM3 := hide cm3
                    have M2 := hide (mild_put (unhide ML) (k := k2) (a := th) (v := ww) hww)
                    clear CP XT hTs hS HS cm1 cm2 cm3
                    go_upto_region 21 with fail
                    refine (unhide HCP).mono ?_
                    rintro e y1 ⟨rfl, HE⟩
                    have CP := HE.put (unhide M2) k1 at_ vv hv
                    rw [unhide CM1, ← unhide CM3] at CP
                    clear HCP
                    have HCP := hide CP
                    clear CP HE
                    go_upto_region 22 with fail
                    refine (unhide HCP).mono ?_
                    rintro e y2 ⟨rfl, HE⟩
                    obtain ⟨FT4, h4⟩ := HE
                    have HSS : Hid (Here w y2 p0 (putS SO (putS SO L k1 at_ vv).1 k2 th ww).1 []) := hide ⟨FS, (unhide HSs).keep h4.stay (fun i hi f => hi f), unhide HSb, h4.here.bel, fun r hr => by cases hr⟩
                    have HTT : Hid (Here w y2 q (putS SO (putS SO L k1 at_ vv).1 k2 th ww).1 []) := hide ⟨FT4, h4.here⟩
                    clear h4 HCP HSs HSb CM1 CM3 M2
                    generalize (putS SO (putS SO L k1 at_ vv).1 k2 th ww).2 = eb at *
                    generalize (putS SO (putS SO L k1 at_ vv).1 k2 th ww).1 = L2 at *
                    generalize (putS SO L k1 at_ vv).2 = ea at *
                    go_wp2_with fail
                    refine ((unhide HSS).all2 (Nat.le_trans (unhide ML2).most (by omega))).mono ?_
                    rintro e y3 ⟨a3, c3, rfl, HE, hb⟩
                    have HS3 := hide HE
                    have HT3 := hide ((unhide HTT).below hb)
                    clear HE hb HSS HTT
                    go_wp2_with fail
                    refine ((unhide HT3).all2 (Nat.le_trans (unhide ML2).most (by omega))).mono ?_
                    rintro e y4 ⟨a4, c4, rfl, HE, hb⟩
                    have HT4 := hide HE
                    have HS4 := hide ((unhide HS3).below hb)
                    clear HE hb HS3 HT3
                    have SM := hide (same_self (c := c3) (d := c4) (Held.lay (r := (a3, c3, L2)) ((unhide HS4).row List.mem_cons_self) (Nat.le_trans (unhide ML2).most (by omega))) (Held.lay (r := (a4, c4, L2)) ((unhide HT4).row List.mem_cons_self) (Nat.le_trans (unhide ML2).most (by omega))))
                    go_wp2_with fail
                    refine (unhide SM).mono ?_
                    rintro e y5 ⟨rfl, hb⟩
                    have BEL := hide ((unhide HT4).below hb).bel
                    clear hb SM HT4 HS4
                    go_wp2_with fail
                    refine (unhide WK _).mono ?_
                    rintro e v' ⟨rfl, hb⟩
                    go_wp2_with fail
                    go_ret
                    exact ⟨rfl, (unhide BEL).trans (hb.mono (unhide BEL).size)⟩
end Go.Proofs.Ytmgmkdkdpeljmaa

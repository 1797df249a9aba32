/- What the program's Of does. Condition: it is handed at most 100 entries. -/
import Derived.Test.YtigmhljaoicdbaaGreatSnRisesd
namespace Go.Proofs.YtigmhljaoicdbaaGreat.Sn
open Go.RowKit

/-- A slice at a holds l, wherever it lies. -/
def _root_.Go.Proofs.YtigmhljaoicdbaaGreat.RowK.At {β : Type} (K : RowK β) (w : World) (a : Option Addr) (l : List β) : Prop := l = [] ∨ ∃ g o, a = some ⟨g, o, none⟩ ∧ g < w.heap.size ∧ w.rangeAt g o (K.cells l)
theorem _root_.Go.Proofs.YtigmhljaoicdbaaGreat.RowK.At.below {β : Type} {K : RowK β} {w w' : World} {B : Nat} {a : Option Addr} {l : List β} (h : K.At w a l) (hB : w.heap.size ≤ B) (b : Below B w w') : K.At w' a l := by
  rcases h with h | ⟨g, o, e, hg, hr⟩
  · exact .inl h
  · exact .inr ⟨g, o, e, Nat.lt_of_lt_of_le hg b.size, fun j u hu => (b.cell (p := ⟨g, o + j, none⟩) (by show g < B; omega)).trans (hr j u hu)⟩
theorem _root_.Go.Proofs.YtigmhljaoicdbaaGreat.RowK.Row.at_ {β : Type} {K : RowK β} {w : World} {B : Nat} {a : Option Addr} {c : Nat} {l : List β} (h : K.Row w B a c l) : K.At w a l := by
  rcases row_shape h with ⟨g, rfl, _, hg⟩ | ⟨_, rfl⟩
  · refine .inr ⟨g, 0, rfl, hg, fun j u hu => ?_⟩
    have := (row_lies h).2 _ rfl j u hu
    rwa [Addr.add_mid] at this
  · exact .inl rfl
theorem _root_.Go.Proofs.YtigmhljaoicdbaaGreat.RowK.At.cell {β : Type} {K : RowK β} (hK : K.Law Tryz.prog) {w : World} {a : Option Addr} {l : List β} (h : K.At w a l) {i : Nat} {x : β} (hi : l[i]? = some x) : ∃ g o, a = some ⟨g, o, none⟩ ∧ g < w.heap.size ∧ w.rangeAt g (o + i * K.sz) (K.f x) := by
  rcases h with rfl | ⟨g, o, e, hg, hr⟩
  · cases hi
  · refine ⟨g, o, e, hg, fun j u hu => ?_⟩
    obtain ⟨hj, _⟩ := List.getElem?_eq_some_iff.1 hu
    rw [hK.len] at hj
    have := hr (i * K.sz + j) u (by rw [cells_at hK hi hj]; exact hu)
    rw [Nat.add_assoc]; exact this
set_option maxRecDepth 100000 in
set_option pp.deepTerms true in
set_option pp.maxSteps 1000000 in
set_option maxHeartbeats 4000000 in
theorem of_any {w : World} {a b : Option Addr} {c d : Nat} {lows : List Int} {l : List Ent} (ha : IntK.At w a lows) (hb : EntK.At w b l) (hl : l.length ≤ 100) :
    Calls Tryz.prog 39 #[.slice a lows.length c, .slice b l.length d] w fun e w' => Below w.heap.size w w' ∧
      ((good lows l = true ∧ ∃ q F, e = .returned (.tuple #[.pointer (some ⟨q, 0, none⟩), .int .i64 0]) ∧ TIs w' q F (keeps (tab0 lows) l) ∧ ∀ k, F k → w.heap.size ≤ k) ∨ (good lows l = false ∧ e = .returned (.tuple #[.pointer none, .int .i64 1]))) := by
  by_cases h4 : lows.length = 4
  · obtain ⟨B, hB⟩ : ∃ B, B = w.heap.size := ⟨_, rfl⟩
    have HB := hide hB
    have H4 := hide h4
    have HA := hide ha
    have HBB := hide hb
    have HL := hide hl
    rw [h4]
    clear ha hb h4 hl
    go_enter Tryz.func39, Tryz.ntmps39
    go_wp2_with fail
    refine (new_any w).mono ?_
    rintro e w1 ⟨rfl, hb1, ht1⟩
    rw [← hB] at hb1 ht1 ⊢
    have START : Hid (TIs w1 B (foot B fun _ => none) (tabTo lows 0) ∧ (∀ i, foot B (fun _ => none) i → B ≤ i) ∧ Below B w w1 ∧ ∀ i, i < 0 → lowOk (lowf lows i) = true) := hide ⟨by rw [tabTo_zero]; exact ht1, foot_none B, hb1, fun i hi => by omega⟩
    clear hb1 ht1 hB
    go_wp2_with fail
    go_loopw [17] (fun i wr => ∃ (k : Nat) (F' : Nat → Prop), i = .int .i64 (k : Int) ∧ k ≤ 4 ∧ TIs wr B F' (tabTo lows k) ∧ (∀ i, F' i → B ≤ i) ∧ Below B w wr ∧ ∀ i, i < k → lowOk (lowf lows i) = true) (fun i _ => 4 - (intOf i).toNat)
    case atStart => exact ⟨0, _, rfl, by decide, unhide START⟩
    case round =>
      obtain ⟨k, F', rfl, hk, hti, hF', hbl, hok⟩ := hrel
      clear START
      by_cases hlt : k < 4
      · have g0 : (0 : Int) ≤ (k : Int) := by omega
        have g1 : (k : Int) < 4 := by omega
        have hwk : IntKind.i64.wrap ((k : Int) + 1) = (k : Int) + 1 := Go.IntWalk.i64_in _ (by omega)
        obtain ⟨n, hn⟩ : ∃ n, lows[k]? = some n := ⟨_, List.getElem?_eq_getElem (by have := unhide H4; omega)⟩
        have hln : lowf lows k = n := by unfold lowf; rw [List.getD_eq_getElem?_getD, hn]; rfl
        obtain ⟨g, o, rfl, hg, hrg⟩ := ((unhide HA).below (by rw [unhide HB]; exact Nat.le_refl _) hbl).cell intK_law hn
        have hcn := hrg 0 (.int .i64 n) rfl
        simp only [IntK, Nat.mul_one, Nat.add_zero] at hcn
        clear hrg
        by_cases hlo : lowOk n = true
        · obtain ⟨h1, h2⟩ := lowOk_iff.1 hlo
          -- BODY
          have hA24 : Hid (∀ m, SrcAt wr B (k * 2) m (tabTo lows k k) → Calls Tryz.prog 58 #[.pointer (some ⟨B, k * 2, none⟩), .int .i64 n] wr fun e w' => e = .returned (.tuple #[]) ∧ SDid wr w' B (k * 2) m ((tabTo lows k k).rise_ n) m) := hide fun m hm => rise_any hm h2
          obtain ⟨M, hM, hMF⟩ := id hti
          have C24 := hide (unhide hA24 (M k) (hM.src k hlt))
          have c01 := (hM.src k hlt).c1
          have ST : Hid (∀ v, SDid wr v B (k * 2) (M k) ((tabTo lows k k).rise_ n) (M k) → ∃ F2, TIs v B F2 (tabTo lows (k + 1)) ∧ (∀ i, F2 i → B ≤ i) ∧ Below B w v ∧ ∀ i, i < k + 1 → lowOk (lowf lows i) = true) := hide fun v dv => by
            have e : upd (tabTo lows k) k ((tabTo lows k k).rise_ n) = tabTo lows (k + 1) := by rw [tabTo_succ, tabTo_at, rise_new h1, hln]
            have D := hti.step hlt (s' := (tabTo lows k k).rise_ n) fun m hm => ⟨M k, by
              have : m = M k := by have := hm.c1.symm.trans c01; simpa using this
              rw [this]; exact dv⟩
            rw [e] at D
            obtain ⟨F2, d1, d2, d3⟩ := D
            have hbw : B ≤ wr.heap.size := by rw [unhide HB]; exact hbl.size
            refine ⟨F2, d1, fun i hi => (d2 i hi).elim (hF' i) (fun h => Nat.le_trans hbw h), hbl.trans (d3.below hF' hbw), fun i hi => ?_⟩
            by_cases e : i = k
            · rw [e, hln]; exact hlo
            · exact hok i (by omega)
          have h3 : ¬ n < 1 := by omega
          have h4 : ¬ 1099511627776 < n := by omega
          clear hti hF' hbl hok hM hMF c01 hlo hn hA24
          go_wp2_with fail
          refine (unhide C24).mono ?_
          rintro e v ⟨rfl, dv⟩
          have DV := hide dv
          clear dv C24
          go_wp2_with fail
          exact ⟨⟨k + 1, by obtain ⟨F2, h⟩ := unhide ST v (unhide DV); exact ⟨F2, rfl, by omega, h⟩⟩, by simp [intOf]; omega⟩
        · have hgd : Hid (good lows l = false) := hide (by
            have hm : n ∈ lows := List.mem_of_getElem? hn
            cases hg : good lows l with
            | false => rfl
            | true =>
              unfold good at hg
              simp only [Bool.and_eq_true, List.all_eq_true] at hg
              exact absurd (hg.1.2 n hm) hlo)
          have hbw := hide hbl
          clear hti hF' hbl hok hn
          by_cases h1 : 1 ≤ n
          · have h2 : 1099511627776 < n := by
              have : ¬ (1 ≤ n ∧ n ≤ 1099511627776) := fun h => hlo (lowOk_iff.2 h)
              omega
            clear hlo
            go_wp2_with fail
            go_ret2
            exact ⟨by rw [← unhide HB]; exact unhide hbw, .inr ⟨unhide hgd, rfl⟩⟩
          · clear hlo
            go_wp2_with fail
            go_ret2
            exact ⟨by rw [← unhide HB]; exact unhide hbw, .inr ⟨unhide hgd, rfl⟩⟩
      · have hk4 : k = 4 := by omega
        rw [hk4] at hti hok
        have gk : ¬ (k : Int) < 4 := by omega
        clear hk4
        have hlen4 := unhide H4
        have hlo : ∀ n ∈ lows, lowOk n = true := fun n hn => by
          obtain ⟨i, hi, rfl⟩ := List.mem_iff_getElem.1 hn
          have := hok i (by omega)
          unfold lowf at this
          rwa [List.getD_eq_getElem?_getD, List.getElem?_eq_getElem hi] at this
        have T0 := hide (tab0_ok hlen4 hlo)
        have LW : Hid (∀ (m : List Ent) i, i < 4 → (keeps (tab0 lows) m i).low = lowf lows i) := hide fun m i hi => by rw [keeps_low, tab0_low lows hi]
        have HLO := hide hlo
        have START : Hid (TIs wr B F' (keeps (tab0 lows) (l.take 0)) ∧ (∀ i, F' i → B ≤ i) ∧ Below B w wr ∧ ∀ i, i < 0 → goodB (lowf lows) l i = true) := hide ⟨by rw [List.take_zero]; exact hti, hF', hbl, fun i hi => by omega⟩
        clear hti hF' hbl hok hlen4 hlo
        go_wp2_with fail
        go_loopw [38] (fun i wr => ∃ (j : Nat) (F' : Nat → Prop), i = .int .i64 (j : Int) ∧ j ≤ l.length ∧ TIs wr B F' (keeps (tab0 lows) (l.take j)) ∧ (∀ i, F' i → B ≤ i) ∧ Below B w wr ∧ ∀ i, i < j → goodB (lowf lows) l i = true) (fun i _ => l.length - (intOf i).toNat)
        case atStart => exact ⟨0, F', rfl, Nat.zero_le _, unhide START⟩
        case round =>
          obtain ⟨j, F2, rfl, hj, hti, hF2, hbl, hgo⟩ := hrel
          clear START
          have hbz : B ≤ wr.heap.size := by rw [unhide HB]; exact hbl.size
          by_cases hjl : j < l.length
          · have gj : (j : Int) < (l.length : Int) := by omega
            have gj0 : (0 : Int) ≤ (j : Int) := by omega
            have hwj : IntKind.i64.wrap ((j : Int) + 1) = (j : Int) + 1 := Go.IntWalk.i64_in _ (by have := unhide HL; omega)
            obtain ⟨x, hx⟩ : ∃ x, l[j]? = some x := ⟨_, List.getElem?_eq_getElem hjl⟩
            have hAt : EntK.At wr b l := (unhide HBB).below (by rw [unhide HB]; exact Nat.le_refl _) hbl
            obtain ⟨g, o, rfl, hg, hrg⟩ := hAt.cell entK_law hx
            have hxd : l.getD j e0 = x := by rw [List.getD_eq_getElem?_getD, hx]; rfl
            have TK : Hid ((keeps (tab0 lows) (l.take j)).Ok) := hide (keeps_ok (unhide T0) fun y hy => by
              obtain ⟨i, hi, rfl⟩ := List.mem_iff_getElem.1 hy
              have hi2 : i < j := by rw [List.length_take] at hi; omega
              have := hgo i hi2
              unfold goodB at this
              rw [Bool.and_eq_true] at this
              have e : l.getD i e0 = (l.take j)[i] := by rw [List.getD_eq_getElem?_getD, List.getElem?_eq_getElem (by omega), List.getElem_take]; rfl
              rw [e] at this
              rw [← this.1]
              exact goodB_low (fun i hi => tab0_low lows hi) _)
            have hR := right_any hti x
            have hRE : Hid (rightE (fun i => ((keeps (tab0 lows) (l.take j)) i).low) x = rightE (lowf lows) x) := hide (goodB_low (fun i hi => unhide LW _ i hi) _)
            obtain ⟨W1, hW1⟩ : ∃ W1, W1 = wr.alloc (.cells #[.int .i64 x.src, .int .i64 x.seq, .int .i64 x.code] 99) := ⟨_, rfl⟩
            obtain ⟨H, hH⟩ : ∃ H, H = wr.heap.size := ⟨_, rfl⟩
            have b1 : Below wr.heap.size wr W1 := by rw [hW1]; exact (Below.refl _ _).alloc (Nat.le_refl _) _
            have hs1 : W1.heap.size = H + 1 := by rw [hW1, hH]; simp
            have t1 : TIs W1 B F2 (keeps (tab0 lows) (l.take j)) := hti.keep (Moved.of_below (F := fun _ => False) b1) (fun _ f => f.elim)
            have R1 : RowAt W1 H (entV x) := by rw [hW1, hH]; exact row_new _ _ _
            obtain ⟨CL, hCL⟩ : ∃ CL : World → Prop, CL = fun v => Below W1.heap.size W1 v := ⟨_, rfl⟩
            have un : ∀ v, CL v → Below W1.heap.size W1 v := fun v k => by rw [hCL] at k; exact k
            have base : CL W1.drew := by rw [hCL]; exact (Below.refl _ _).drew
            have ne : Nonempty (SX CL) := ⟨⟨_, base⟩⟩
            have mk : ∀ v v', CL v → Below v.heap.size v v' → CL v' := fun v v' hv hb => by rw [hCL] at hv ⊢; exact hv.trans (hb.mono hv.size)
            have tq : ∀ v, CL v → TIs v B F2 (keeps (tab0 lows) (l.take j)) := fun v hv => t1.keep (Moved.of_below (F := fun _ => False) (un v hv)) (fun _ f => f.elim)
            have rq : ∀ v, CL v → RowAt v H (entV x) := fun v hv => R1.keep (Moved.of_below (F := fun _ => False) (un v hv)) id
            have QH : Hid (∀ v, (∃ p : SX CL, v = p.w) → v.rangeAt H 0 (entV x)) := hide (by rintro v ⟨q, rfl⟩; exact (rq _ q.ok).range)
            have sR : Hid (∀ q : SX CL, Calls Tryz.prog 67 #[.pointer (some ⟨B, 0, none⟩), .agg (entV x).toArray] q.w fun e w' => e = .returned (.bool (rightE (lowf lows) x)) ∧ ∃ q : SX CL, w' = q.w) := hide (fun q => (right_any (tq _ q.ok) x).mono fun e w' ⟨he, hb⟩ => ⟨by rw [he, unhide hRE], ⟨w', mk _ _ q.ok hb⟩, rfl⟩)
            have aq : ∀ v, CL v → EntK.At v (some ⟨g, o, none⟩) l := fun v hv => hAt.below (Nat.le_refl _) (b1.trans ((un v hv).mono (by omega)))
            have bw1 : Below B w W1 := hbl.trans (b1.mono hbz)
            have RG : Hid (wr.rangeAt g (o + j * 3) (entV x)) := hide hrg
            have HW1 := hide hW1
            have HH := hide hH
            have BS := hide base
            have HXD := hide hxd
            have HGO := hide hgo
            have HX := hide hx
            have TQ := hide tq
            have RQ := hide rq
            have BQ : Hid (∀ v, CL v → Below B w v) := hide fun v hv => bw1.trans ((un v hv).mono (by omega))
            have AQ := hide aq
            have HF2 := hide hF2
            have HL1 : Hid (∀ i, F2 i → i < H) := hide fun i hi => by rw [hH]; exact hti.lt i hi
            have MK := hide mk
            clear hti hF2 hbl hgo hAt hg hrg hxd hR hW1 hH b1 hs1 t1 R1 hCL un base mk tq rq aq bw1 hx
            by_cases hr : rightE (lowf lows) x = true
            · rw [hr] at sR
              by_cases hj0 : j = 0
              · have HGJ : goodB (lowf lows) l j = true := by
                  unfold goodB
                  rw [unhide HXD, hr, hj0]
                  rfl
                have hj1 : ¬ 0 < (j : Int) := by omega
                have hj2 : decide (0 < (j : Int)) = false := decide_eq_false hj1
                have hj3 : decide (0 < j) = false := decide_eq_false (by omega)
                clear hj0
                obtain ⟨xs, xq, xc⟩ := x
                simp only [entV] at QH RG sR
                go_upto_region 13 with fail
                go_wp2_with (refine wpList_load_on rfl 99 (.tmp 41) rfl g (o + j * 3) rfl [.int .i64 xs, .int .i64 xq, .int .i64 xc] _ (unhide RG) Tryz.underlying99 rfl (by kernel_rfl) ?_)
                rw [← unhide HH]
                rw [← unhide HW1]
                refine wp_region_sx (St := CL) (by kernel_rfl) (by kernel_rfl) (unhide BS) ?_
                go_big_quiet_step (fail)
                refine wpQuiet_load_on rfl 99 (.tmp 10) rfl H 0 rfl [.int .i64 xs, .int .i64 xq, .int .i64 xc] _ (unhide QH) Tryz.underlying99 rfl (by kernel_rfl) ?_
                go_simp
                repeat (go_big_quiet_step (first | (go_at_call 67; exact unhide sR _)))
                refine wpQuiet_nil ?_
                first | (rintro v1 ⟨⟨v1', OK1⟩, e1⟩; subst e1) | rintro ⟨v1, OK1⟩
                try dsimp only
                have KE : Hid (keepE (keeps (tab0 lows) (l.take j)) ⟨xs, xq, xc⟩ = keeps (tab0 lows) (l.take (j + 1))) := hide (by rw [take_snoc (unhide HX), keeps_snoc])
                have hre := rightE_iff.1 hr
                have hsr := hre.1
                simp only at hsr
                obtain ⟨n, rfl⟩ : ∃ n : Nat, xs = n := ⟨xs.toNat, by omega⟩
                have hn4 : n < 4 := by omega
                have m0 : (0 : Int) ≤ (n : Int) := by omega
                have m1 : (n : Int) < 4 := by omega
                obtain ⟨V, hV⟩ : ∃ V, V = v1 := ⟨_, rfl⟩
                obtain ⟨C2, hC2⟩ : ∃ C2 : World → Prop, C2 = fun v => RowAt v H [.int .i64 (n : Int), .int .i64 xq, .int .i64 xc] := ⟨_, rfl⟩
                have un2 : ∀ v, C2 v → RowAt v H [.int .i64 (n : Int), .int .i64 xq, .int .i64 xc] := fun v k => by rw [hC2] at k; exact k
                have base2 : C2 v1.drew := by rw [hC2]; exact (unhide RQ _ OK1).keep ((Moved.refl (fun _ => False) v1).drew) id
                have z0 : ∀ q : SW C2, q.w.cell? ⟨H, 0, none⟩ = some (.int .i64 (n : Int)) := fun q => (un2 _ q.ok).cell 0 (by simp)
                have z1 : ∀ q : SW C2, q.w.cell? ⟨H, 1, none⟩ = some (.int .i64 xq) := fun q => (un2 _ q.ok).cell 1 (by simp)
                have z2 : ∀ q : SW C2, q.w.cell? ⟨H, 2, none⟩ = some (.int .i64 xc) := fun q => (un2 _ q.ok).cell 2 (by simp)
                have TV : TIs v1.drew B F2 (keeps (tab0 lows) (l.take j)) := (unhide TQ _ OK1).drew
                have BV : Below B w v1.drew := (unhide BQ _ OK1).drew
                have hTo := unhide TK n
                have hlw := unhide LW (l.take j) n hn4
                have hHB : ∀ i, F2 i → i ≠ H := fun i hi e => by
                  have h1 := unhide HW1
                  have := (unhide TQ _ (by have := OK1; exact OK1)).lt i hi
                  have h2 := unhide HL1 i hi
                  omega
                have CK : Hid (Calls Tryz.prog 57 #[.pointer (some ⟨B, n * 2, none⟩), .int .i64 xq, .int .i64 xc] v1.drew fun e w' => e = .returned (.tuple #[]) ∧ ∃ F3, TIs w' B F3 (keeps (tab0 lows) (l.take (j + 1))) ∧ (∀ i, F3 i → B ≤ i) ∧ Below B w w' ∧ C2 w') := hide (by
                  obtain ⟨M, hM, hMF⟩ := id TV
                  have hq : lowf lows n ≤ xq ∧ xq < lowf lows n + 16 := hre.2.2
                  have h16 := hTo.len16
                  have hlo1 := hTo.lo
                  have hhi1 := hTo.hi
                  refine (keep_any (hM.src n hn4) (q := xq) (c := xc) ⟨by omega, by omega⟩ hre.2.1 (by omega)).mono ?_
                  rintro e w' ⟨he, m', dv⟩
                  have D := TV.step hn4 (s' := (keeps (tab0 lows) (l.take j) n).keep xq xc) fun m hm => ⟨m', by
                    have : m = M n := by have := hm.c1.symm.trans (hM.src n hn4).c1; simpa using this
                    rw [this]; exact dv⟩
                  have e2 : upd (keeps (tab0 lows) (l.take j)) n ((keeps (tab0 lows) (l.take j) n).keep xq xc) = keeps (tab0 lows) (l.take (j + 1)) := unhide KE
                  rw [e2] at D
                  obtain ⟨F3, d1, d2, d3⟩ := D
                  have hbv : B ≤ v1.drew.heap.size := by have := BV.size; have := unhide HB; omega
                  refine ⟨he, F3, d1, fun i hi => (d2 i hi).elim (unhide HF2 i) (fun h => Nat.le_trans hbv h), BV.trans (d3.below (unhide HF2) hbv), ?_⟩
                  rw [hC2] at base2 ⊢
                  exact base2.keep d3 (fun f => hHB H f rfl))
                have BS2 := hide base2
                have GN := hide (fun i (hi : i < j + 1) => if e : i = j then (by rw [e]; exact HGJ : goodB (lowf lows) l i = true) else unhide HGO i (by omega))
                clear hre hsr hV hC2 un2 base2 TV BV hTo hlw hHB OK1 QH sR
                go_upto_region 16 with fail
                refine wp_region_chain (S := C2) [true, true, true, true, true, true, true, true, true, true, false] [false, false, false, false, false, false, false, false, false, false, true] (by kernel_rfl) (by kernel_rfl) (by kernel_rfl) (unhide BS2) ?_
                apply Exists.intro
                apply And.intro
                · intro q
                  have n0 : Nonempty (SK C2 q.w) := ⟨⟨q, rfl⟩⟩
                  simp only [pickM]
                  repeat (go_big_quiet_step (fail))
                  exact wpQuiet_nil rfl
                · simp only [pickZ]
                  refine chain_call 57 #[.pointer (some ⟨B, n * 2, none⟩), .int .i64 xq, .int .i64 xc] rfl (by simp [go_sem]) ?_
                  refine (unhide CK).mono ?_
                  rintro e v2 ⟨rfl, F3, d1, d2, d3, d4⟩
                  refine ⟨_, rfl, d4, ?_⟩
                  have REL := hide (And.intro d1 (And.intro d2 d3))
                  clear d1 d2 d3 d4 z0 z1 z2
                  simp only [chainM]
                  go_simp
                  go_wp2_with fail
                  go_roundw
                  case rel => exact ⟨j + 1, F3, by go_num, by omega, (unhide REL).1, (unhide REL).2.1, (unhide REL).2.2, fun i hi => unhide GN i hi⟩
                  case measure => simp [intOf]; omega
              · obtain ⟨i, hi⟩ : ∃ i, j = i + 1 := ⟨j - 1, by omega⟩
                obtain ⟨y, hy⟩ : ∃ y, l[i]? = some y := ⟨_, List.getElem?_eq_getElem (by omega)⟩
                have hyd : l.getD (j - 1) e0 = y := by rw [List.getD_eq_getElem?_getD, show j - 1 = i by omega, hy]; rfl
                have QY : Hid (∀ v, (∃ p : SX CL, v = p.w) → v.rangeAt g (o + i * 3) (entV y)) := hide (by
                  rintro v ⟨q, rfl⟩
                  obtain ⟨g', o', e, _, h⟩ := (unhide AQ _ q.ok).cell entK_law hy
                  cases e
                  exact h)
                have sZ : Hid (∀ q : SX CL, Calls Tryz.prog 68 #[.agg (entV y).toArray, .agg (entV x).toArray] q.w fun e w' => e = .returned (.bool (ahead y x)) ∧ ∃ q : SX CL, w' = q.w) := hide (fun q => (rises_any y x q.w).mono fun e w' ⟨he, hb⟩ => ⟨he, ⟨w', unhide MK _ _ q.ok hb⟩, rfl⟩)
                have hwm : IntKind.i64.wrap ((j : Int) - 1) = (i : Int) := by rw [Go.IntWalk.i64_in _ (by have := unhide HL; omega)]; omega
                have gi0 : (0 : Int) ≤ (i : Int) := by omega
                have gi1 : (i : Int) < (l.length : Int) := by omega
                have hj1 : 0 < (j : Int) := by omega
                have hj2 : decide (0 < (j : Int)) = true := decide_eq_true hj1
                have hj3 : decide (0 < j) = true := decide_eq_true (by omega)
                have HY := hide hyd
                clear hj0 hi hy hyd
                obtain ⟨ys, yq, yc⟩ := y
                simp only [entV] at QY sZ
                by_cases ha : ahead ⟨ys, yq, yc⟩ x = true
                · rw [ha] at sZ
                  have HGJ : goodB (lowf lows) l j = true := by
                    unfold goodB
                    rw [unhide HXD, unhide HY, hr, ha]
                    simp
                  clear ha
                  obtain ⟨xs, xq, xc⟩ := x
                  simp only [entV] at QH RG sR
                  go_upto_region 13 with fail
                  go_wp2_with (refine wpList_load_on rfl 99 (.tmp 41) rfl g (o + j * 3) rfl [.int .i64 xs, .int .i64 xq, .int .i64 xc] _ (unhide RG) Tryz.underlying99 rfl (by kernel_rfl) ?_)
                  rw [← unhide HH]
                  rw [← unhide HW1]
                  refine wp_region_sx (St := CL) (by kernel_rfl) (by kernel_rfl) (unhide BS) ?_
                  go_big_quiet_step (fail)
                  refine wpQuiet_load_on rfl 99 (.tmp 10) rfl H 0 rfl [.int .i64 xs, .int .i64 xq, .int .i64 xc] _ (unhide QH) Tryz.underlying99 rfl (by kernel_rfl) ?_
                  go_simp
                  repeat (go_big_quiet_step (first | (go_at_call 67; exact unhide sR _)))
                  refine wpQuiet_load_on rfl 99 (.tmp 54) rfl g (o + i * 3) rfl [.int .i64 ys, .int .i64 yq, .int .i64 yc] _ (unhide QY) Tryz.underlying99 rfl (by kernel_rfl) ?_
                  go_simp
                  refine wpQuiet_load_on rfl 99 (.tmp 10) rfl H 0 rfl [.int .i64 xs, .int .i64 xq, .int .i64 xc] _ (unhide QH) Tryz.underlying99 rfl (by kernel_rfl) ?_
                  go_simp
                  repeat (go_big_quiet_step (first | (go_at_call 68; exact unhide sZ _)))
                  refine wpQuiet_nil ?_
                  first | (rintro v1 ⟨⟨v1', OK1⟩, e1⟩; subst e1) | rintro ⟨v1, OK1⟩
                  try dsimp only
                  have KE : Hid (keepE (keeps (tab0 lows) (l.take j)) ⟨xs, xq, xc⟩ = keeps (tab0 lows) (l.take (j + 1))) := hide (by rw [take_snoc (unhide HX), keeps_snoc])
                  have hre := rightE_iff.1 hr
                  have hsr := hre.1
                  simp only at hsr
                  obtain ⟨n, rfl⟩ : ∃ n : Nat, xs = n := ⟨xs.toNat, by omega⟩
                  have hn4 : n < 4 := by omega
                  have m0 : (0 : Int) ≤ (n : Int) := by omega
                  have m1 : (n : Int) < 4 := by omega
                  obtain ⟨V, hV⟩ : ∃ V, V = v1 := ⟨_, rfl⟩
                  obtain ⟨C2, hC2⟩ : ∃ C2 : World → Prop, C2 = fun v => RowAt v H [.int .i64 (n : Int), .int .i64 xq, .int .i64 xc] := ⟨_, rfl⟩
                  have un2 : ∀ v, C2 v → RowAt v H [.int .i64 (n : Int), .int .i64 xq, .int .i64 xc] := fun v k => by rw [hC2] at k; exact k
                  have base2 : C2 v1.drew := by rw [hC2]; exact (unhide RQ _ OK1).keep ((Moved.refl (fun _ => False) v1).drew) id
                  have z0 : ∀ q : SW C2, q.w.cell? ⟨H, 0, none⟩ = some (.int .i64 (n : Int)) := fun q => (un2 _ q.ok).cell 0 (by simp)
                  have z1 : ∀ q : SW C2, q.w.cell? ⟨H, 1, none⟩ = some (.int .i64 xq) := fun q => (un2 _ q.ok).cell 1 (by simp)
                  have z2 : ∀ q : SW C2, q.w.cell? ⟨H, 2, none⟩ = some (.int .i64 xc) := fun q => (un2 _ q.ok).cell 2 (by simp)
                  have TV : TIs v1.drew B F2 (keeps (tab0 lows) (l.take j)) := (unhide TQ _ OK1).drew
                  have BV : Below B w v1.drew := (unhide BQ _ OK1).drew
                  have hTo := unhide TK n
                  have hlw := unhide LW (l.take j) n hn4
                  have hHB : ∀ i, F2 i → i ≠ H := fun i hi e => by
                    have h1 := unhide HW1
                    have := (unhide TQ _ (by have := OK1; exact OK1)).lt i hi
                    have h2 := unhide HL1 i hi
                    omega
                  have CK : Hid (Calls Tryz.prog 57 #[.pointer (some ⟨B, n * 2, none⟩), .int .i64 xq, .int .i64 xc] v1.drew fun e w' => e = .returned (.tuple #[]) ∧ ∃ F3, TIs w' B F3 (keeps (tab0 lows) (l.take (j + 1))) ∧ (∀ i, F3 i → B ≤ i) ∧ Below B w w' ∧ C2 w') := hide (by
                    obtain ⟨M, hM, hMF⟩ := id TV
                    have hq : lowf lows n ≤ xq ∧ xq < lowf lows n + 16 := hre.2.2
                    have h16 := hTo.len16
                    have hlo1 := hTo.lo
                    have hhi1 := hTo.hi
                    refine (keep_any (hM.src n hn4) (q := xq) (c := xc) ⟨by omega, by omega⟩ hre.2.1 (by omega)).mono ?_
                    rintro e w' ⟨he, m', dv⟩
                    have D := TV.step hn4 (s' := (keeps (tab0 lows) (l.take j) n).keep xq xc) fun m hm => ⟨m', by
                      have : m = M n := by have := hm.c1.symm.trans (hM.src n hn4).c1; simpa using this
                      rw [this]; exact dv⟩
                    have e2 : upd (keeps (tab0 lows) (l.take j)) n ((keeps (tab0 lows) (l.take j) n).keep xq xc) = keeps (tab0 lows) (l.take (j + 1)) := unhide KE
                    rw [e2] at D
                    obtain ⟨F3, d1, d2, d3⟩ := D
                    have hbv : B ≤ v1.drew.heap.size := by have := BV.size; have := unhide HB; omega
                    refine ⟨he, F3, d1, fun i hi => (d2 i hi).elim (unhide HF2 i) (fun h => Nat.le_trans hbv h), BV.trans (d3.below (unhide HF2) hbv), ?_⟩
                    rw [hC2] at base2 ⊢
                    exact base2.keep d3 (fun f => hHB H f rfl))
                  have BS2 := hide base2
                  have GN := hide (fun i (hi : i < j + 1) => if e : i = j then (by rw [e]; exact HGJ : goodB (lowf lows) l i = true) else unhide HGO i (by omega))
                  clear hre hsr hV hC2 un2 base2 TV BV hTo hlw hHB OK1 QH sR
                  go_upto_region 16 with fail
                  refine wp_region_chain (S := C2) [true, true, true, true, true, true, true, true, true, true, false] [false, false, false, false, false, false, false, false, false, false, true] (by kernel_rfl) (by kernel_rfl) (by kernel_rfl) (unhide BS2) ?_
                  apply Exists.intro
                  apply And.intro
                  · intro q
                    have n0 : Nonempty (SK C2 q.w) := ⟨⟨q, rfl⟩⟩
                    simp only [pickM]
                    repeat (go_big_quiet_step (fail))
                    exact wpQuiet_nil rfl
                  · simp only [pickZ]
                    refine chain_call 57 #[.pointer (some ⟨B, n * 2, none⟩), .int .i64 xq, .int .i64 xc] rfl (by simp [go_sem]) ?_
                    refine (unhide CK).mono ?_
                    rintro e v2 ⟨rfl, F3, d1, d2, d3, d4⟩
                    refine ⟨_, rfl, d4, ?_⟩
                    have REL := hide (And.intro d1 (And.intro d2 d3))
                    clear d1 d2 d3 d4 z0 z1 z2
                    simp only [chainM]
                    go_simp
                    go_wp2_with fail
                    go_roundw
                    case rel => exact ⟨j + 1, F3, by go_num, by omega, (unhide REL).1, (unhide REL).2.1, (unhide REL).2.2, fun i hi => unhide GN i hi⟩
                    case measure => simp [intOf]; omega
                · have ha' : ahead ⟨ys, yq, yc⟩ x = false := Bool.eq_false_iff.2 ha
                  rw [ha'] at sZ
                  have hgd : Hid (good lows l = false) := hide (by
                    cases hg : good lows l with
                    | false => rfl
                    | true =>
                      unfold good at hg
                      simp only [Bool.and_eq_true, List.all_eq_true, List.mem_range] at hg
                      have := hg.2 j hjl
                      unfold goodB at this
                      rw [unhide HXD, unhide HY, ha', decide_eq_false (by omega : ¬ j = 0)] at this
                      simp at this)
                  clear ha ha'
                  obtain ⟨xs, xq, xc⟩ := x
                  simp only [entV] at QH RG sR
                  go_upto_region 13 with fail
                  go_wp2_with (refine wpList_load_on rfl 99 (.tmp 41) rfl g (o + j * 3) rfl [.int .i64 xs, .int .i64 xq, .int .i64 xc] _ (unhide RG) Tryz.underlying99 rfl (by kernel_rfl) ?_)
                  rw [← unhide HH]
                  rw [← unhide HW1]
                  refine wp_region_sx (St := CL) (by kernel_rfl) (by kernel_rfl) (unhide BS) ?_
                  go_big_quiet_step (fail)
                  refine wpQuiet_load_on rfl 99 (.tmp 10) rfl H 0 rfl [.int .i64 xs, .int .i64 xq, .int .i64 xc] _ (unhide QH) Tryz.underlying99 rfl (by kernel_rfl) ?_
                  go_simp
                  repeat (go_big_quiet_step (first | (go_at_call 67; exact unhide sR _)))
                  refine wpQuiet_load_on rfl 99 (.tmp 54) rfl g (o + i * 3) rfl [.int .i64 ys, .int .i64 yq, .int .i64 yc] _ (unhide QY) Tryz.underlying99 rfl (by kernel_rfl) ?_
                  go_simp
                  refine wpQuiet_load_on rfl 99 (.tmp 10) rfl H 0 rfl [.int .i64 xs, .int .i64 xq, .int .i64 xc] _ (unhide QH) Tryz.underlying99 rfl (by kernel_rfl) ?_
                  go_simp
                  repeat (go_big_quiet_step (first | (go_at_call 68; exact unhide sZ _)))
                  refine wpQuiet_nil ?_
                  first | (rintro v1 ⟨⟨v1', OK1⟩, e1⟩; subst e1) | rintro ⟨v1, OK1⟩
                  try dsimp only
                  have B1 := hide (unhide BQ _ OK1)
                  clear OK1 sR QH QY sZ
                  go_wp2_with fail
                  go_ret2
                  exact ⟨by rw [← unhide HB]; exact unhide B1, .inr ⟨unhide hgd, rfl⟩⟩
            · have hr' : rightE (lowf lows) x = false := Bool.eq_false_iff.2 hr
              rw [hr'] at sR
              have hgd : Hid (good lows l = false) := hide (by
                cases hg : good lows l with
                | false => rfl
                | true =>
                  unfold good at hg
                  simp only [Bool.and_eq_true, List.all_eq_true, List.mem_range] at hg
                  have := hg.2 j hjl
                  unfold goodB at this
                  rw [unhide HXD, hr'] at this
                  simp at this)
              obtain ⟨xs, xq, xc⟩ := x
              simp only [entV] at QH RG sR
              go_upto_region 13 with fail
              go_wp2_with (refine wpList_load_on rfl 99 (.tmp 41) rfl g (o + j * 3) rfl [.int .i64 xs, .int .i64 xq, .int .i64 xc] _ (unhide RG) Tryz.underlying99 rfl (by kernel_rfl) ?_)
              rw [← unhide HH]
              rw [← unhide HW1]
              refine wp_region_sx (St := CL) (by kernel_rfl) (by kernel_rfl) (unhide BS) ?_
              go_big_quiet_step (fail)
              refine wpQuiet_load_on rfl 99 (.tmp 10) rfl H 0 rfl [.int .i64 xs, .int .i64 xq, .int .i64 xc] _ (unhide QH) Tryz.underlying99 rfl (by kernel_rfl) ?_
              go_simp
              repeat (go_big_quiet_step (first | (go_at_call 67; exact unhide sR _)))
              refine wpQuiet_nil ?_
              first | (rintro v1 ⟨⟨v1', OK1⟩, e1⟩; subst e1) | rintro ⟨v1, OK1⟩
              try dsimp only
              have B1 := hide (unhide BQ _ OK1)
              clear OK1 sR QH
              go_wp2_with fail
              go_ret2
              exact ⟨by rw [← unhide HB]; exact unhide B1, .inr ⟨unhide hgd, rfl⟩⟩
          · have hje : j = l.length := by omega
            have REL : Hid (good lows l = true ∧ TIs wr B F2 (keeps (tab0 lows) l) ∧ (∀ i, F2 i → B ≤ i) ∧ Below B w wr) := hide (by
              refine ⟨?_, by rw [hje, List.take_length] at hti; exact hti, hF2, hbl⟩
              unfold good
              simp only [Bool.and_eq_true, List.all_eq_true, List.mem_range, decide_eq_true_eq]
              exact ⟨⟨unhide H4, unhide HLO⟩, fun i hi => hgo i (by omega)⟩)
            clear hti hF2 hbl hgo hbz hje
            go_wp2_with fail
            go_ret2
            refine ⟨by rw [← unhide HB]; exact (unhide REL).2.2.2, .inl ⟨(unhide REL).1, B, F2, rfl, (unhide REL).2.1, fun i hi => by rw [← unhide HB]; exact (unhide REL).2.2.1 i hi⟩⟩
  · have hg : Hid (good lows l = false) := hide (by unfold good; rw [decide_eq_false h4]; simp)
    have h4' : ¬ (lows.length : Int) = 4 := by omega
    clear ha hb
    go_enter Tryz.func39, Tryz.ntmps39
    go_wp2_with fail
    go_ret2
    exact ⟨Below.refl _ _, .inr ⟨unhide hg, rfl⟩⟩
end Go.Proofs.YtigmhljaoicdbaaGreat.Sn

/- The document's own Of. Condition: it is handed at most 100 entries, of numbers that there are. -/
import Derived.Test.YtigmhljaoicdbaaGreatSnRefE
namespace Go.Proofs.YtigmhljaoicdbaaGreat.Sn
open Go.RowKit

/-- Two blocks: the table's, and the result's before it. -/
structure OB (w : World) (H P : Nat) (s : List Value) (v : World) : Prop where
  r0 : RowAt v P s
  r1 : ∃ t, t.length = 5 ∧ RowAt v H t
  bel : Below w.heap.size w v
  hh : w.heap.size ≤ H
  hp : H < P
theorem OB.below {w v v' : World} {H P : Nat} {s : List Value} (h : OB w H P s v) (b : Below v.heap.size v v') : OB w H P s v' := by
  obtain ⟨t, h1, h2⟩ := h.r1
  exact ⟨h.r0.keep (Moved.of_below (F := fun _ => False) b) id, ⟨t, h1, h2.keep (Moved.of_below (F := fun _ => False) b) id⟩, h.bel.trans (b.mono h.bel.size), h.hh, h.hp⟩
theorem OB.there {w v : World} {H P : Nat} {s : List Value} (h : OB w H P s v) : v.there H 0 5 := by
  obtain ⟨t, h1, h2⟩ := h.r1
  rw [← h1]; exact h2.there
theorem OB.put {w v : World} {H P : Nat} {s : List Value} (h : OB w H P s v) (u : List Value) (hu : u.length = 5) : ∃ wf, v.setCells H 0 u = wf ∧ wf.rangeAt H 0 u ∧ Below w.heap.size w wf := by
  obtain ⟨t, h1, h2⟩ := h.r1
  refine ⟨_, rfl, (h2.put u (by omega)).range, h.bel.trans ((setCells_moved v H 0 u).below (fun i e => by rw [e]; exact h.hh) h.bel.size)⟩
theorem OB.set {w v : World} {H P : Nat} {s : List Value} (h : OB w H P s v) {k : Nat} (hk : k < s.length) (u : Value) : OB w H P (s.set k u) (v.setCell ⟨P, k, none⟩ u) := by
  obtain ⟨t, h1, h2⟩ := h.r1
  have mv : Moved (fun i => i = P) v (v.setCell ⟨P, k, none⟩ u) := (Moved.refl (fun i => i = P) v).setCell (p := ⟨P, k, none⟩) (.inl rfl) _
  have hp := h.hp
  have hh := h.hh
  exact ⟨h.r0.set k hk u, ⟨t, h1, h2.keep mv (by omega)⟩, h.bel.trans (mv.below (fun i e => by omega) h.bel.size), h.hh, h.hp⟩
def refZ : List Value := [.int .i64 0, .int .i64 0, .int .i64 0, .int .i64 0, .slice none 0 0]
theorem OB.start (w v : World) (b : Below (w.alloc (.cells refZ.toArray 35)).heap.size (w.alloc (.cells refZ.toArray 35)) v) (u : List Value) (hu : u.length = 5) :
    (v.alloc (.cells refZ.toArray 35)).there v.heap.size 0 5 ∧ ∃ wf, (v.alloc (.cells refZ.toArray 35)).setCells v.heap.size 0 u = wf ∧ OB w w.heap.size v.heap.size u wf := by
  have r0 : RowAt (v.alloc (.cells refZ.toArray 35)) v.heap.size refZ := row_new _ _ _
  have r1 : RowAt v w.heap.size refZ := (row_new w refZ 35).keep (Moved.of_below (F := fun _ => False) b) id
  have b0 : Below w.heap.size w v := ((Below.refl w.heap.size w).alloc (Nat.le_refl _) (.cells refZ.toArray 35)).trans (b.mono (by simp))
  have hlt : w.heap.size < v.heap.size := r1.lt
  have mv := setCells_moved (v.alloc (.cells refZ.toArray 35)) v.heap.size 0 u
  refine ⟨r0.there, _, rfl, r0.put u (by rw [hu]; rfl), ⟨refZ, rfl, (row_old r1 _).keep mv (by omega)⟩, (b0.alloc b0.size _).trans (mv.below (fun i e => by omega) (by simp; omega)), Nat.le_refl _, hlt⟩
/-- The low marks that were read so far. -/
def lowTo (lows : List Int) (k : Nat) : Nat → Int := fun i => if i < k then lowf lows i else 1
theorem lowTo_succ (lows : List Int) (k : Nat) : (fun i => if i = k then lowf lows k else lowTo lows k i) = lowTo lows (k + 1) := by
  funext i
  unfold lowTo
  by_cases e : i = k
  · subst e; rw [if_pos rfl, if_pos (by omega)]
  · rw [if_neg e]
    by_cases h : i < k
    · rw [if_pos h, if_pos (by omega)]
    · rw [if_neg h, if_neg (by omega)]
theorem refC_lowTo (lows : List Int) (a : Option Addr) (n c : Nat) : refC (lowTo lows 4) a n c = refC (lowf lows) a n c := rfl
theorem not_good {lows : List Int} {l : List Ent} {j : Nat} (hj : j < l.length) (h : goodB (lowf lows) l j = false) : good lows l = false := by
  cases hg : good lows l with
  | false => rfl
  | true =>
    unfold good at hg
    simp only [Bool.and_eq_true, List.all_eq_true, List.mem_range] at hg
    rw [hg.2 j hj] at h
    cases h
theorem not_right {low : Nat → Int} {x : Ent} (h : ¬ ((0 ≤ x.src ∧ x.src < 4) ∧ (1 ≤ x.code ∧ x.code ≤ 4) ∧ low x.src.toNat ≤ x.seq ∧ x.seq < low x.src.toNat + 16)) : rightE low x = false := Bool.eq_false_iff.2 fun e => h (rightE_iff.1 e)
set_option maxRecDepth 100000 in
set_option maxHeartbeats 8000000 in
theorem rof_any {w : World} {a b : Option Addr} {c d : Nat} {lows : List Int} {l : List Ent} (ha : IntK.At w a lows) (hb : RefK.At w b l) (hl : l.length ≤ 100) (hin : ∀ x ∈ l, x.In) :
    Calls Tryz.prog 41 #[.slice a lows.length c, .slice b l.length d] w fun e w' => Below w.heap.size w w' ∧
      ((good lows l = true ∧ ∃ a' c', e = .returned (.tuple #[.agg (refC (lowf lows) a' l.length c').toArray, .int .i64 0]) ∧ RefK.Row w' w.heap.size a' c' l) ∨ (good lows l = false ∧ e = .returned (.tuple #[.agg (refC (fun _ => 1) none 0 0).toArray, .int .i64 1]))) := by
  obtain ⟨H, hH⟩ : ∃ H, H = w.heap.size := ⟨_, rfl⟩
  have HH := hide hH
  have HA := hide ha
  have HB := hide hb
  have HL := hide hl
  have HIN := hide hin
  have CN := hide (rnew_any (w.alloc (.cells refZ.toArray 35)))
  clear ha hb hl hH hin
  by_cases h4 : lows.length = 4
  · have H4 := hide h4
    rw [h4]
    clear h4
    go_enter Tryz.func41, Tryz.ntmps41
    go_wp2_with fail
    refine (unhide CN).mono ?_
    rintro e v1 ⟨rfl, hb1⟩
    obtain ⟨hth0, W, hW, ob1⟩ := OB.start w v1 hb1 (refC (fun _ => 1) none 0 0) rfl
    obtain ⟨P, hP⟩ : ∃ P, P = v1.heap.size := ⟨_, rfl⟩
    rw [← unhide HH, ← hP] at ob1
    rw [← hP] at hW hth0
    have N1 := hide ob1
    have HW := hide hW
    have HP := hide hP
    clear hb1 CN hP hW ob1
    rw [← unhide HH]
    go_wp2_with (simp only [← unhide HP]; refine wpList_store_mid rfl 35 (.tmp 6) (.tmp 10) rfl P 0 (refC (fun _ => 1) none 0 0).toArray rfl rfl hth0 (by kernel_rfl) (by simp [Value.oneCell', refC]) ?_; change wpList _ _ _ _ _ (World.setCells (World.alloc v1 (.cells refZ.toArray 35)) P 0 (refC (fun _ => 1) none 0 0)); rw [unhide HW]; clear hth0)
    go_loopw [7] (fun i wr => ∃ k : Nat, i = .int .i64 (k : Int) ∧ k ≤ 4 ∧ OB w H P (refC (lowTo lows k) none 0 0) wr ∧ ∀ i, i < k → lowOk (lowf lows i) = true) (fun i _ => 4 - (intOf i).toNat)
    case atStart => exact ⟨0, rfl, by decide, unhide N1, fun i hi => by omega⟩
    case round =>
      obtain ⟨k, rfl, hk, ob, hok⟩ := hrel
      clear N1
      have OB0 := hide ob
      have HOK := hide hok
      have hbl := ob.bel
      clear ob hok
      by_cases hlt : k < 4
      · have g0 : (0 : Int) ≤ (k : Int) := by omega
        have g1 : (k : Int) < 4 := by omega
        have hwk : IntKind.i64.wrap ((k : Int) + 1) = (k : Int) + 1 := Go.IntWalk.i64_in _ (by omega)
        obtain ⟨n, hn⟩ : ∃ n, lows[k]? = some n := ⟨_, List.getElem?_eq_getElem (by have := unhide H4; omega)⟩
        have hln : lowf lows k = n := by unfold lowf; rw [List.getD_eq_getElem?_getD, hn]; rfl
        obtain ⟨g, o, rfl, hg, hrg⟩ := ((unhide HA).below (Nat.le_refl _) hbl).cell intK_law hn
        have hcn := hrg 0 (.int .i64 n) rfl
        simp only [IntK, Nat.mul_one, Nat.add_zero] at hcn
        clear hrg
        by_cases hlo : lowOk n = true
        · obtain ⟨h1, h2⟩ := lowOk_iff.1 hlo
          have h3 : ¬ n < 1 := by omega
          have h5 : ¬ 1099511627776 < n := by omega
          have cl := refC_low (unhide OB0).r0 hlt
          have f0 := (unhide OB0).r0.free k (by simp [refC]; omega)
          obtain ⟨X, hX⟩ : ∃ X, X = wr.setCell ⟨P, k, none⟩ (.int .i64 n) := ⟨_, rfl⟩
          have N2 : Hid (OB w H P (refC (lowTo lows (k + 1)) none 0 0) X) := hide (by
            rw [hX, ← lowTo_succ, hln, ← refC_set hlt n]
            exact (unhide OB0).set (k := k) (by simp [refC]; omega) (.int .i64 n))
          have GN : Hid (∀ i, i < k + 1 → lowOk (lowf lows i) = true) := hide fun i hi => by
            by_cases e : i = k
            · rw [e, hln]; exact hlo
            · exact unhide HOK i (by omega)
          have HX := hide hX
          clear hX hlo hn hbl hg
          go_wp2_with fail
          rw [← unhide HX]
          exact ⟨⟨k + 1, rfl, by omega, unhide N2, unhide GN⟩, by simp [intOf]; omega⟩
        · have hgd : Hid (good lows l = false) := hide (by
            have hm : n ∈ lows := List.mem_of_getElem? hn
            cases hg : good lows l with
            | false => rfl
            | true =>
              unfold good at hg
              simp only [Bool.and_eq_true, List.all_eq_true] at hg
              exact absurd (hg.1.2 n hm) hlo)
          have OBX := OB0
          clear hn hbl hg
          by_cases h1 : 1 ≤ n
          · have h2 : 1099511627776 < n := by
              have : ¬ (1 ≤ n ∧ n ≤ 1099511627776) := fun h => hlo (lowOk_iff.2 h)
              omega
            clear hlo
            go_wp2_with fail
            refine (rnew_any _).mono ?_
            rintro e v2 ⟨rfl, hb⟩
            have N2 := hide ((unhide OBX).below hb)
            clear hb
            have hth := (unhide N2).there
            obtain ⟨wf, hwf, hfr, hbf⟩ := (unhide N2).put (refC (fun _ => 1) none 0 0) rfl
            have HFR := hide hfr
            have HBF := hide hbf
            have HWF := hide hwf
            clear hfr hbf hwf
            go_wp2_with (refine wpList_store_mid rfl 35 (.tmp 4) (.tmp 31) rfl H 0 (refC (fun _ => 1) none 0 0).toArray rfl rfl hth (by kernel_rfl) (by simp [Value.oneCell', refC]) ?_; change wpList _ _ _ _ _ (World.setCells _ H 0 (refC (fun _ => 1) none 0 0)); rw [unhide HWF]; clear hth)
            refine bodyPost_ret (v := .tuple #[.agg (refC (fun _ => 1) none 0 0).toArray, .int .i64 1]) ?_ rfl ⟨unhide HBF, .inr ⟨unhide hgd, rfl⟩⟩
            exact results_cell_tmp Tryz.results41 _ wf H _ _ rfl (unhide HFR) Tryz.underlying35 rfl (by kernel_rfl)
          · clear hlo
            go_wp2_with fail
            refine (rnew_any _).mono ?_
            rintro e v2 ⟨rfl, hb⟩
            have N2 := hide ((unhide OBX).below hb)
            clear hb
            have hth := (unhide N2).there
            obtain ⟨wf, hwf, hfr, hbf⟩ := (unhide N2).put (refC (fun _ => 1) none 0 0) rfl
            have HFR := hide hfr
            have HBF := hide hbf
            have HWF := hide hwf
            clear hfr hbf hwf
            go_wp2_with (refine wpList_store_mid rfl 35 (.tmp 4) (.tmp 31) rfl H 0 (refC (fun _ => 1) none 0 0).toArray rfl rfl hth (by kernel_rfl) (by simp [Value.oneCell', refC]) ?_; change wpList _ _ _ _ _ (World.setCells _ H 0 (refC (fun _ => 1) none 0 0)); rw [unhide HWF]; clear hth)
            refine bodyPost_ret (v := .tuple #[.agg (refC (fun _ => 1) none 0 0).toArray, .int .i64 1]) ?_ rfl ⟨unhide HBF, .inr ⟨unhide hgd, rfl⟩⟩
            exact results_cell_tmp Tryz.results41 _ wf H _ _ rfl (unhide HFR) Tryz.underlying35 rfl (by kernel_rfl)
      · have hk4 : k = 4 := by omega
        rw [hk4] at OB0 HOK
        have gk : ¬ (k : Int) < 4 := by omega
        have HLO : Hid (∀ n ∈ lows, lowOk n = true) := hide fun n hn => by
          obtain ⟨i, hi, rfl⟩ := List.mem_iff_getElem.1 hn
          have := unhide HOK i (by have := unhide H4; omega)
          unfold lowf at this
          rwa [List.getD_eq_getElem?_getD, List.getElem?_eq_getElem hi] at this
        clear hk4 hbl
        go_wp2_with fail
        go_loopw [8] (fun i wr => ∃ j : Nat, i = .int .i64 (j : Int) ∧ j ≤ l.length ∧ OB w H P (refC (lowTo lows 4) none 0 0) wr ∧ ∀ i, i < j → goodB (lowf lows) l i = true) (fun i _ => l.length - (intOf i).toNat)
        case atStart => exact ⟨0, rfl, Nat.zero_le _, unhide OB0, fun i hi => by omega⟩
        case round =>
          obtain ⟨j, rfl, hj, ob, hgo⟩ := hrel
          clear OB0
          have OB1 := hide ob
          have HGO := hide hgo
          have hbl := ob.bel
          clear ob hgo
          by_cases hjl : j < l.length
          · have gj : (j : Int) < (l.length : Int) := by omega
            have gj0 : (0 : Int) ≤ (j : Int) := by omega
            have hwj : IntKind.i64.wrap ((j : Int) + 1) = (j : Int) + 1 := Go.IntWalk.i64_in _ (by have := unhide HL; omega)
            obtain ⟨x, hx⟩ : ∃ x, l[j]? = some x := ⟨_, List.getElem?_eq_getElem hjl⟩
            have hxi := unhide HIN x (List.mem_of_getElem? hx)
            have hAt : RefK.At wr b l := (unhide HB).below (Nat.le_refl _) hbl
            obtain ⟨g, o, rfl, hg, hrg⟩ := hAt.cell refK_law hx
            have hxd : l.getD j e0 = x := by rw [List.getD_eq_getElem?_getD, hx]; rfl
            have HXD := hide hxd
            obtain ⟨xs, xq, xc⟩ := x
            obtain ⟨W1, hW1⟩ : ∃ W1, W1 = wr.alloc (.cells #[.int .i64 xs, .int .i64 xq, .int .i64 xc] 100) := ⟨_, rfl⟩
            obtain ⟨X, hX⟩ : ∃ X, X = wr.heap.size := ⟨_, rfl⟩
            have b1 : Below wr.heap.size wr W1 := by rw [hW1]; exact (Below.refl _ _).alloc (Nat.le_refl _) _
            have R1 : RowAt W1 X [.int .i64 xs, .int .i64 xq, .int .i64 xc] := by rw [hW1, hX]; exact row_new _ _ _
            have OBX := hide ((unhide OB1).below b1)
            have z0 := R1.cell 0 (by simp)
            have z1 := R1.cell 1 (by simp)
            have z2 := R1.cell 2 (by simp)
            simp only [List.getD_cons_zero, List.getD_cons_succ] at z0 z1 z2
            have AQ := hide (hAt.below (Nat.le_refl _) b1)
            have RG : Hid (wr.rangeAt g (o + j * 3) [.int .i64 xs, .int .i64 xq, .int .i64 xc]) := hide hrg
            have HW1 := hide hW1
            have HX := hide hX
            have NR : Hid (rightE (lowf lows) ⟨xs, xq, xc⟩ = false → good lows l = false) := hide fun h => not_good hjl (by unfold goodB; rw [hxd, h]; rfl)
            clear hx hAt hg hrg hxd hW1 hX b1 R1 hbl
            by_cases s0 : xs < 0
            · have hgd : Hid (good lows l = false) := hide (unhide NR (not_right (by simp only; omega)))
              go_upto_region 14 with (refine wpList_load_on rfl 100 (.tmp 47) rfl g (o + j * 3) rfl [.int .i64 xs, .int .i64 xq, .int .i64 xc] _ (unhide RG) Tryz.underlying100 rfl (by kernel_rfl) ?_)
              rw [← unhide HX]
              rw [← unhide HW1]
              go_wp2_with fail
              refine (rnew_any _).mono ?_
              rintro e v2 ⟨rfl, hb⟩
              have N2 := hide ((unhide OBX).below hb)
              clear hb
              have hth := (unhide N2).there
              obtain ⟨wf, hwf, hfr, hbf⟩ := (unhide N2).put (refC (fun _ => 1) none 0 0) rfl
              have HFR := hide hfr
              have HBF := hide hbf
              have HWF := hide hwf
              clear hfr hbf hwf
              go_wp2_with (refine wpList_store_mid rfl 35 (.tmp 4) (.tmp 67) rfl H 0 (refC (fun _ => 1) none 0 0).toArray rfl rfl hth (by kernel_rfl) (by simp [Value.oneCell', refC]) ?_; change wpList _ _ _ _ _ (World.setCells _ H 0 (refC (fun _ => 1) none 0 0)); rw [unhide HWF]; clear hth)
              refine bodyPost_ret (v := .tuple #[.agg (refC (fun _ => 1) none 0 0).toArray, .int .i64 1]) ?_ rfl ⟨unhide HBF, .inr ⟨unhide hgd, rfl⟩⟩
              exact results_cell_tmp Tryz.results41 _ wf H _ _ rfl (unhide HFR) Tryz.underlying35 rfl (by kernel_rfl)
            · have s0' : decide (xs < 0) = false := decide_eq_false s0
              by_cases s1 : 3 < xs
              · have hgd : Hid (good lows l = false) := hide (unhide NR (not_right (by simp only; omega)))
                go_upto_region 14 with (refine wpList_load_on rfl 100 (.tmp 47) rfl g (o + j * 3) rfl [.int .i64 xs, .int .i64 xq, .int .i64 xc] _ (unhide RG) Tryz.underlying100 rfl (by kernel_rfl) ?_)
                rw [← unhide HX]
                rw [← unhide HW1]
                go_wp2_with fail
                refine (rnew_any _).mono ?_
                rintro e v2 ⟨rfl, hb⟩
                have N2 := hide ((unhide OBX).below hb)
                clear hb
                have hth := (unhide N2).there
                obtain ⟨wf, hwf, hfr, hbf⟩ := (unhide N2).put (refC (fun _ => 1) none 0 0) rfl
                have HFR := hide hfr
                have HBF := hide hbf
                have HWF := hide hwf
                clear hfr hbf hwf
                go_wp2_with (refine wpList_store_mid rfl 35 (.tmp 4) (.tmp 67) rfl H 0 (refC (fun _ => 1) none 0 0).toArray rfl rfl hth (by kernel_rfl) (by simp [Value.oneCell', refC]) ?_; change wpList _ _ _ _ _ (World.setCells _ H 0 (refC (fun _ => 1) none 0 0)); rw [unhide HWF]; clear hth)
                refine bodyPost_ret (v := .tuple #[.agg (refC (fun _ => 1) none 0 0).toArray, .int .i64 1]) ?_ rfl ⟨unhide HBF, .inr ⟨unhide hgd, rfl⟩⟩
                exact results_cell_tmp Tryz.results41 _ wf H _ _ rfl (unhide HFR) Tryz.underlying35 rfl (by kernel_rfl)
              · by_cases c0 : xc < 1
                · have hgd : Hid (good lows l = false) := hide (unhide NR (not_right (by simp only; omega)))
                  go_upto_region 14 with (refine wpList_load_on rfl 100 (.tmp 47) rfl g (o + j * 3) rfl [.int .i64 xs, .int .i64 xq, .int .i64 xc] _ (unhide RG) Tryz.underlying100 rfl (by kernel_rfl) ?_)
                  rw [← unhide HX]
                  rw [← unhide HW1]
                  go_wp2_with fail
                  refine (rnew_any _).mono ?_
                  rintro e v2 ⟨rfl, hb⟩
                  have N2 := hide ((unhide OBX).below hb)
                  clear hb
                  have hth := (unhide N2).there
                  obtain ⟨wf, hwf, hfr, hbf⟩ := (unhide N2).put (refC (fun _ => 1) none 0 0) rfl
                  have HFR := hide hfr
                  have HBF := hide hbf
                  have HWF := hide hwf
                  clear hfr hbf hwf
                  go_wp2_with (refine wpList_store_mid rfl 35 (.tmp 4) (.tmp 67) rfl H 0 (refC (fun _ => 1) none 0 0).toArray rfl rfl hth (by kernel_rfl) (by simp [Value.oneCell', refC]) ?_; change wpList _ _ _ _ _ (World.setCells _ H 0 (refC (fun _ => 1) none 0 0)); rw [unhide HWF]; clear hth)
                  refine bodyPost_ret (v := .tuple #[.agg (refC (fun _ => 1) none 0 0).toArray, .int .i64 1]) ?_ rfl ⟨unhide HBF, .inr ⟨unhide hgd, rfl⟩⟩
                  exact results_cell_tmp Tryz.results41 _ wf H _ _ rfl (unhide HFR) Tryz.underlying35 rfl (by kernel_rfl)
                · by_cases c1 : 4 < xc
                  · have hgd : Hid (good lows l = false) := hide (unhide NR (not_right (by simp only; omega)))
                    go_upto_region 14 with (refine wpList_load_on rfl 100 (.tmp 47) rfl g (o + j * 3) rfl [.int .i64 xs, .int .i64 xq, .int .i64 xc] _ (unhide RG) Tryz.underlying100 rfl (by kernel_rfl) ?_)
                    rw [← unhide HX]
                    rw [← unhide HW1]
                    go_wp2_with fail
                    refine (rnew_any _).mono ?_
                    rintro e v2 ⟨rfl, hb⟩
                    have N2 := hide ((unhide OBX).below hb)
                    clear hb
                    have hth := (unhide N2).there
                    obtain ⟨wf, hwf, hfr, hbf⟩ := (unhide N2).put (refC (fun _ => 1) none 0 0) rfl
                    have HFR := hide hfr
                    have HBF := hide hbf
                    have HWF := hide hwf
                    clear hfr hbf hwf
                    go_wp2_with (refine wpList_store_mid rfl 35 (.tmp 4) (.tmp 67) rfl H 0 (refC (fun _ => 1) none 0 0).toArray rfl rfl hth (by kernel_rfl) (by simp [Value.oneCell', refC]) ?_; change wpList _ _ _ _ _ (World.setCells _ H 0 (refC (fun _ => 1) none 0 0)); rw [unhide HWF]; clear hth)
                    refine bodyPost_ret (v := .tuple #[.agg (refC (fun _ => 1) none 0 0).toArray, .int .i64 1]) ?_ rfl ⟨unhide HBF, .inr ⟨unhide hgd, rfl⟩⟩
                    exact results_cell_tmp Tryz.results41 _ wf H _ _ rfl (unhide HFR) Tryz.underlying35 rfl (by kernel_rfl)
                  · obtain ⟨k, rfl⟩ : ∃ k : Nat, xs = k := ⟨xs.toNat, by omega⟩
                    have hk : k < 4 := by omega
                    have m0 : (0 : Int) ≤ (k : Int) := by omega
                    have m1 : (k : Int) < 4 := by omega
                    have hlw : lowTo lows 4 k = lowf lows k := if_pos hk
                    have lowk : lowOk (lowf lows k) = true := unhide HOK k hk
                    obtain ⟨lk, hlk⟩ : ∃ lk, lk = lowf lows k := ⟨_, rfl⟩
                    rw [← hlk] at lowk
                    have lki := lowOk_iff.1 lowk
                    have cl : W1.cell? ⟨P, k, none⟩ = some (.int .i64 lk) := by rw [hlk, ← hlw]; exact refC_low (unhide OBX).r0 hk
                    have hxr : xq ≤ 9223372036854775807 := hxi.seq.2
                    have KB : Hid (¬ (lk ≤ xq ∧ xq < lk + 16) → good lows l = false) := hide fun h => unhide NR (not_right (by simp only [Int.toNat_natCast]; rw [← hlk]; omega))
                    have KG : Hid (lk ≤ xq ∧ xq < lk + 16 → rightE (lowf lows) ⟨(k : Int), xq, xc⟩ = true) := hide fun h => rightE_iff.2 (by simp only [Int.toNat_natCast]; rw [← hlk]; omega)
                    obtain ⟨CL, hCL⟩ : ∃ CL : World → Prop, CL = fun v => Below W1.heap.size W1 v := ⟨_, rfl⟩
                    have un : ∀ v, CL v → Below W1.heap.size W1 v := fun v k => by rw [hCL] at k; exact k
                    have base : CL W1 := by rw [hCL]; exact Below.refl _ _
                    have drw : ∀ v, CL v → CL v.drew := fun v k => by rw [hCL] at k ⊢; exact k.drew
                    have ne : Nonempty (SX CL) := ⟨⟨W1, base⟩⟩
                    have kc : ∀ (q : SX CL) (b i : Nat) (v : Value), W1.cell? ⟨b, i, none⟩ = some v → q.w.cell? ⟨b, i, none⟩ = some v := fun q b i v hv => ((un _ q.ok).cell (p := ⟨b, i, none⟩) (World.block_lt_of_cell? _ _ hv)).trans hv
                    have x0 : ∀ q : SX CL, q.w.cell? ⟨X, 0, none⟩ = some (.int .i64 (k : Int)) := fun q => kc q _ _ _ z0
                    have x1 : ∀ q : SX CL, q.w.cell? ⟨X, 1, none⟩ = some (.int .i64 xq) := fun q => kc q _ _ _ z1
                    have xl : ∀ q : SX CL, q.w.cell? ⟨P, k, none⟩ = some (.int .i64 lk) := fun q => kc q _ _ _ cl
                    have KC := hide kc
                    have DR := hide drw
                    have BS := hide base
                    have OBQ := hide (fun v hv => (unhide OBX).below (un v hv))
                    clear hlk lowk hlw hCL un drw base kc cl hxi NR OBX
                    by_cases q1 : xq < lk
                    · have hgd : Hid (good lows l = false) := hide (unhide KB (by omega))
                      have q1' : decide (xq < lk) = true := decide_eq_true q1
                      go_upto_region 14 with (refine wpList_load_on rfl 100 (.tmp 47) rfl g (o + j * 3) rfl [.int .i64 (k : Int), .int .i64 xq, .int .i64 xc] _ (unhide RG) Tryz.underlying100 rfl (by kernel_rfl) ?_)
                      rw [← unhide HX]
                      rw [← unhide HW1]
                      go_upto_region 16 with fail
                      refine wp_region_sx (St := CL) (by kernel_rfl) (by kernel_rfl) (unhide DR _ (unhide BS)) ?_
                      repeat (go_big_quiet_step (fail))
                      refine wpQuiet_nil ?_
                      first | (rintro v3 ⟨⟨v3', OK3⟩, e3x⟩; subst e3x) | rintro ⟨v3, OK3⟩
                      try dsimp only
                      have OBX := hide (unhide OBQ _ OK3)
                      have OKA := hide OK3
                      clear OK3
                      go_wp2_with fail
                      refine (rnew_any _).mono ?_
                      rintro e v2 ⟨rfl, hb⟩
                      have N2 := hide ((unhide OBX).below hb)
                      clear hb
                      have hth := (unhide N2).there
                      obtain ⟨wf, hwf, hfr, hbf⟩ := (unhide N2).put (refC (fun _ => 1) none 0 0) rfl
                      have HFR := hide hfr
                      have HBF := hide hbf
                      have HWF := hide hwf
                      clear hfr hbf hwf
                      go_wp2_with (refine wpList_store_mid rfl 35 (.tmp 4) (.tmp 87) rfl H 0 (refC (fun _ => 1) none 0 0).toArray rfl rfl hth (by kernel_rfl) (by simp [Value.oneCell', refC]) ?_; change wpList _ _ _ _ _ (World.setCells _ H 0 (refC (fun _ => 1) none 0 0)); rw [unhide HWF]; clear hth)
                      refine bodyPost_ret (v := .tuple #[.agg (refC (fun _ => 1) none 0 0).toArray, .int .i64 1]) ?_ rfl ⟨unhide HBF, .inr ⟨unhide hgd, rfl⟩⟩
                      exact results_cell_tmp Tryz.results41 _ wf H _ _ rfl (unhide HFR) Tryz.underlying35 rfl (by kernel_rfl)
                    · have q1' : decide (xq < lk) = false := decide_eq_false q1
                      have hws : IntKind.i64.wrap (xq - lk) = xq - lk := Go.IntWalk.i64_in _ (by omega)
                      by_cases q2 : 15 < xq - lk
                      · have hgd : Hid (good lows l = false) := hide (unhide KB (by omega))
                        have q2' : decide (15 < xq - lk) = true := decide_eq_true q2
                        go_upto_region 14 with (refine wpList_load_on rfl 100 (.tmp 47) rfl g (o + j * 3) rfl [.int .i64 (k : Int), .int .i64 xq, .int .i64 xc] _ (unhide RG) Tryz.underlying100 rfl (by kernel_rfl) ?_)
                        rw [← unhide HX]
                        rw [← unhide HW1]
                        go_upto_region 16 with fail
                        refine wp_region_sx (St := CL) (by kernel_rfl) (by kernel_rfl) (unhide DR _ (unhide BS)) ?_
                        repeat (go_big_quiet_step (fail))
                        refine wpQuiet_nil ?_
                        first | (rintro v3 ⟨⟨v3', OK3⟩, e3x⟩; subst e3x) | rintro ⟨v3, OK3⟩
                        try dsimp only
                        have OBX := hide (unhide OBQ _ OK3)
                        have OKA := hide OK3
                        clear OK3
                        go_wp2_with fail
                        refine (rnew_any _).mono ?_
                        rintro e v2 ⟨rfl, hb⟩
                        have N2 := hide ((unhide OBX).below hb)
                        clear hb
                        have hth := (unhide N2).there
                        obtain ⟨wf, hwf, hfr, hbf⟩ := (unhide N2).put (refC (fun _ => 1) none 0 0) rfl
                        have HFR := hide hfr
                        have HBF := hide hbf
                        have HWF := hide hwf
                        clear hfr hbf hwf
                        go_wp2_with (refine wpList_store_mid rfl 35 (.tmp 4) (.tmp 87) rfl H 0 (refC (fun _ => 1) none 0 0).toArray rfl rfl hth (by kernel_rfl) (by simp [Value.oneCell', refC]) ?_; change wpList _ _ _ _ _ (World.setCells _ H 0 (refC (fun _ => 1) none 0 0)); rw [unhide HWF]; clear hth)
                        refine bodyPost_ret (v := .tuple #[.agg (refC (fun _ => 1) none 0 0).toArray, .int .i64 1]) ?_ rfl ⟨unhide HBF, .inr ⟨unhide hgd, rfl⟩⟩
                        exact results_cell_tmp Tryz.results41 _ wf H _ _ rfl (unhide HFR) Tryz.underlying35 rfl (by kernel_rfl)
                      · have q2' : decide (15 < xq - lk) = false := decide_eq_false q2
                        have RT := hide (unhide KG (by omega))
                        clear KB KG
                        by_cases hj0 : j = 0
                        · have GN : Hid (∀ i, i < j + 1 → goodB (lowf lows) l i = true) := hide fun i hi => by
                            by_cases e : i = j
                            · rw [e]; unfold goodB; rw [unhide HXD, unhide RT, hj0]; rfl
                            · exact unhide HGO i (by omega)
                          have hj1 : ¬ 0 < (j : Int) := by omega
                          have hj2 : decide (0 < (j : Int)) = false := decide_eq_false hj1
                          have hj3 : decide (0 < j) = false := decide_eq_false (by omega)
                          clear hj0
                          go_upto_region 14 with (refine wpList_load_on rfl 100 (.tmp 47) rfl g (o + j * 3) rfl [.int .i64 (k : Int), .int .i64 xq, .int .i64 xc] _ (unhide RG) Tryz.underlying100 rfl (by kernel_rfl) ?_)
                          rw [← unhide HX]
                          rw [← unhide HW1]
                          go_upto_region 16 with fail
                          refine wp_region_sx (St := CL) (by kernel_rfl) (by kernel_rfl) (unhide DR _ (unhide BS)) ?_
                          repeat (go_big_quiet_step (fail))
                          refine wpQuiet_nil ?_
                          first | (rintro v3 ⟨⟨v3', OK3⟩, e3x⟩; subst e3x) | rintro ⟨v3, OK3⟩
                          try dsimp only
                          have OBX := hide (unhide OBQ _ OK3)
                          have OKA := hide OK3
                          clear OK3
                          go_upto_region 18 with fail
                          refine wp_region_sx (St := CL) (by kernel_rfl) (by kernel_rfl) (unhide DR _ (unhide OKA)) ?_
                          repeat (go_big_quiet_step (fail))
                          refine wpQuiet_nil ?_
                          clear OBX
                          first | (rintro v4 ⟨⟨v4', OK4⟩, e4x⟩; subst e4x) | rintro ⟨v4, OK4⟩
                          try dsimp only
                          have OBX := hide (unhide OBQ _ OK4)
                          clear OK4
                          go_wp2_with fail
                          exact ⟨⟨j + 1, rfl, by omega, unhide OBX, unhide GN⟩, by simp [intOf]; omega⟩
                        · obtain ⟨i, hi⟩ : ∃ i, j = i + 1 := ⟨j - 1, by omega⟩
                          obtain ⟨y, hy⟩ : ∃ y, l[i]? = some y := ⟨_, List.getElem?_eq_getElem (by omega)⟩
                          have hyd : l.getD (j - 1) e0 = y := by rw [List.getD_eq_getElem?_getD, show j - 1 = i by omega, hy]; rfl
                          obtain ⟨g', o', ee, _, yr⟩ := (unhide AQ).cell refK_law hy
                          cases ee
                          have yr0 := yr 0 _ rfl
                          have yr1 := yr 1 _ rfl
                          obtain ⟨ys, yq, yc⟩ := y
                          have y0 : ∀ q : SX CL, q.w.cell? ⟨g, o + i * 3, none⟩ = some (.int .i64 ys) := fun q => unhide KC q _ _ _ yr0
                          have y1 : ∀ q : SX CL, q.w.cell? ⟨g, o + i * 3 + 1, none⟩ = some (.int .i64 yq) := fun q => unhide KC q _ _ _ yr1
                          have hwm : IntKind.i64.wrap ((j : Int) - 1) = (i : Int) := by rw [Go.IntWalk.i64_in _ (by have := unhide HL; omega)]; omega
                          have gi0 : (0 : Int) ≤ (i : Int) := by omega
                          have gi1 : (i : Int) < (l.length : Int) := by omega
                          have hj1 : 0 < (j : Int) := by omega
                          have hj2 : decide (0 < (j : Int)) = true := decide_eq_true hj1
                          have hj3 : decide (0 < j) = true := decide_eq_true (by omega)
                          have HY := hide hyd
                          have BAD : Hid (ahead ⟨ys, yq, yc⟩ ⟨(k : Int), xq, xc⟩ = false → good lows l = false) := hide fun h => not_good hjl (by unfold goodB; rw [unhide HXD, hyd, h, decide_eq_false hj0, Bool.or_false, Bool.and_false])
                          have GOOD : Hid (ahead ⟨ys, yq, yc⟩ ⟨(k : Int), xq, xc⟩ = true → ∀ i, i < j + 1 → goodB (lowf lows) l i = true) := hide fun h i hi => by
                            by_cases e : i = j
                            · rw [e]; unfold goodB; rw [unhide HXD, unhide RT, unhide HY, h, Bool.or_true]; rfl
                            · exact unhide HGO i (by omega)
                          clear hj0 hi hy hyd yr yr0 yr1
                          by_cases e1 : (k : Int) < ys
                          · have hgd : Hid (good lows l = false) := hide (unhide BAD (Bool.eq_false_iff.2 fun h => by have := ahead_iff.1 h; simp only at this; omega))
                            have e1' : decide ((k : Int) < ys) = true := decide_eq_true e1
                            go_upto_region 14 with (refine wpList_load_on rfl 100 (.tmp 47) rfl g (o + j * 3) rfl [.int .i64 (k : Int), .int .i64 xq, .int .i64 xc] _ (unhide RG) Tryz.underlying100 rfl (by kernel_rfl) ?_)
                            rw [← unhide HX]
                            rw [← unhide HW1]
                            go_upto_region 16 with fail
                            refine wp_region_sx (St := CL) (by kernel_rfl) (by kernel_rfl) (unhide DR _ (unhide BS)) ?_
                            repeat (go_big_quiet_step (fail))
                            refine wpQuiet_nil ?_
                            first | (rintro v3 ⟨⟨v3', OK3⟩, e3x⟩; subst e3x) | rintro ⟨v3, OK3⟩
                            try dsimp only
                            have OBX := hide (unhide OBQ _ OK3)
                            have OKA := hide OK3
                            clear OK3
                            go_upto_region 18 with fail
                            refine wp_region_sx (St := CL) (by kernel_rfl) (by kernel_rfl) (unhide DR _ (unhide OKA)) ?_
                            repeat (go_big_quiet_step (fail))
                            refine wpQuiet_nil ?_
                            clear OBX
                            first | (rintro v4 ⟨⟨v4', OK4⟩, e4x⟩; subst e4x) | rintro ⟨v4, OK4⟩
                            try dsimp only
                            have OBX := hide (unhide OBQ _ OK4)
                            clear OK4
                            go_wp2_with fail
                            refine (rnew_any _).mono ?_
                            rintro e v2 ⟨rfl, hb⟩
                            have N2 := hide ((unhide OBX).below hb)
                            clear hb
                            have hth := (unhide N2).there
                            obtain ⟨wf, hwf, hfr, hbf⟩ := (unhide N2).put (refC (fun _ => 1) none 0 0) rfl
                            have HFR := hide hfr
                            have HBF := hide hbf
                            have HWF := hide hwf
                            clear hfr hbf hwf
                            go_wp2_with (refine wpList_store_mid rfl 35 (.tmp 4) (.tmp 123) rfl H 0 (refC (fun _ => 1) none 0 0).toArray rfl rfl hth (by kernel_rfl) (by simp [Value.oneCell', refC]) ?_; change wpList _ _ _ _ _ (World.setCells _ H 0 (refC (fun _ => 1) none 0 0)); rw [unhide HWF]; clear hth)
                            refine bodyPost_ret (v := .tuple #[.agg (refC (fun _ => 1) none 0 0).toArray, .int .i64 1]) ?_ rfl ⟨unhide HBF, .inr ⟨unhide hgd, rfl⟩⟩
                            exact results_cell_tmp Tryz.results41 _ wf H _ _ rfl (unhide HFR) Tryz.underlying35 rfl (by kernel_rfl)
                          · have e1' : decide ((k : Int) < ys) = false := decide_eq_false e1
                            by_cases e2 : (k : Int) = ys
                            · have e2' : ((k : Int) == ys) = true := beq_iff_eq.2 e2
                              by_cases e3 : xq ≤ yq
                              · have hgd : Hid (good lows l = false) := hide (unhide BAD (Bool.eq_false_iff.2 fun h => by have := ahead_iff.1 h; simp only at this; omega))
                                have e3' : decide (xq ≤ yq) = true := decide_eq_true e3
                                clear e1 e2 e3
                                go_upto_region 14 with (refine wpList_load_on rfl 100 (.tmp 47) rfl g (o + j * 3) rfl [.int .i64 (k : Int), .int .i64 xq, .int .i64 xc] _ (unhide RG) Tryz.underlying100 rfl (by kernel_rfl) ?_)
                                rw [← unhide HX]
                                rw [← unhide HW1]
                                go_upto_region 16 with fail
                                refine wp_region_sx (St := CL) (by kernel_rfl) (by kernel_rfl) (unhide DR _ (unhide BS)) ?_
                                repeat (go_big_quiet_step (fail))
                                refine wpQuiet_nil ?_
                                first | (rintro v3 ⟨⟨v3', OK3⟩, e3x⟩; subst e3x) | rintro ⟨v3, OK3⟩
                                try dsimp only
                                have OBX := hide (unhide OBQ _ OK3)
                                have OKA := hide OK3
                                clear OK3
                                go_upto_region 18 with fail
                                refine wp_region_sx (St := CL) (by kernel_rfl) (by kernel_rfl) (unhide DR _ (unhide OKA)) ?_
                                repeat (go_big_quiet_step (fail))
                                refine wpQuiet_nil ?_
                                clear OBX
                                first | (rintro v4 ⟨⟨v4', OK4⟩, e4x⟩; subst e4x) | rintro ⟨v4, OK4⟩
                                try dsimp only
                                have OBX := hide (unhide OBQ _ OK4)
                                clear OK4
                                go_wp2_with fail
                                refine (rnew_any _).mono ?_
                                rintro e v2 ⟨rfl, hb⟩
                                have N2 := hide ((unhide OBX).below hb)
                                clear hb
                                have hth := (unhide N2).there
                                obtain ⟨wf, hwf, hfr, hbf⟩ := (unhide N2).put (refC (fun _ => 1) none 0 0) rfl
                                have HFR := hide hfr
                                have HBF := hide hbf
                                have HWF := hide hwf
                                clear hfr hbf hwf
                                go_wp2_with (refine wpList_store_mid rfl 35 (.tmp 4) (.tmp 123) rfl H 0 (refC (fun _ => 1) none 0 0).toArray rfl rfl hth (by kernel_rfl) (by simp [Value.oneCell', refC]) ?_; change wpList _ _ _ _ _ (World.setCells _ H 0 (refC (fun _ => 1) none 0 0)); rw [unhide HWF]; clear hth)
                                refine bodyPost_ret (v := .tuple #[.agg (refC (fun _ => 1) none 0 0).toArray, .int .i64 1]) ?_ rfl ⟨unhide HBF, .inr ⟨unhide hgd, rfl⟩⟩
                                exact results_cell_tmp Tryz.results41 _ wf H _ _ rfl (unhide HFR) Tryz.underlying35 rfl (by kernel_rfl)
                              · have GN : Hid (∀ i, i < j + 1 → goodB (lowf lows) l i = true) := hide (unhide GOOD (ahead_iff.2 (by simp only; omega)))
                                have e3' : decide (xq ≤ yq) = false := decide_eq_false e3
                                clear e1 e2 e3
                                go_upto_region 14 with (refine wpList_load_on rfl 100 (.tmp 47) rfl g (o + j * 3) rfl [.int .i64 (k : Int), .int .i64 xq, .int .i64 xc] _ (unhide RG) Tryz.underlying100 rfl (by kernel_rfl) ?_)
                                rw [← unhide HX]
                                rw [← unhide HW1]
                                go_upto_region 16 with fail
                                refine wp_region_sx (St := CL) (by kernel_rfl) (by kernel_rfl) (unhide DR _ (unhide BS)) ?_
                                repeat (go_big_quiet_step (fail))
                                refine wpQuiet_nil ?_
                                first | (rintro v3 ⟨⟨v3', OK3⟩, e3x⟩; subst e3x) | rintro ⟨v3, OK3⟩
                                try dsimp only
                                have OBX := hide (unhide OBQ _ OK3)
                                have OKA := hide OK3
                                clear OK3
                                go_upto_region 18 with fail
                                refine wp_region_sx (St := CL) (by kernel_rfl) (by kernel_rfl) (unhide DR _ (unhide OKA)) ?_
                                repeat (go_big_quiet_step (fail))
                                refine wpQuiet_nil ?_
                                clear OBX
                                first | (rintro v4 ⟨⟨v4', OK4⟩, e4x⟩; subst e4x) | rintro ⟨v4, OK4⟩
                                try dsimp only
                                have OBX := hide (unhide OBQ _ OK4)
                                clear OK4
                                go_wp2_with fail
                                exact ⟨⟨j + 1, rfl, by omega, unhide OBX, unhide GN⟩, by simp [intOf]; omega⟩
                            · have GN : Hid (∀ i, i < j + 1 → goodB (lowf lows) l i = true) := hide (unhide GOOD (ahead_iff.2 (by simp only; omega)))
                              have e2' : ((k : Int) == ys) = false := beq_eq_false_iff_ne.2 e2
                              go_upto_region 14 with (refine wpList_load_on rfl 100 (.tmp 47) rfl g (o + j * 3) rfl [.int .i64 (k : Int), .int .i64 xq, .int .i64 xc] _ (unhide RG) Tryz.underlying100 rfl (by kernel_rfl) ?_)
                              rw [← unhide HX]
                              rw [← unhide HW1]
                              go_upto_region 16 with fail
                              refine wp_region_sx (St := CL) (by kernel_rfl) (by kernel_rfl) (unhide DR _ (unhide BS)) ?_
                              repeat (go_big_quiet_step (fail))
                              refine wpQuiet_nil ?_
                              first | (rintro v3 ⟨⟨v3', OK3⟩, e3x⟩; subst e3x) | rintro ⟨v3, OK3⟩
                              try dsimp only
                              have OBX := hide (unhide OBQ _ OK3)
                              have OKA := hide OK3
                              clear OK3
                              go_upto_region 18 with fail
                              refine wp_region_sx (St := CL) (by kernel_rfl) (by kernel_rfl) (unhide DR _ (unhide OKA)) ?_
                              repeat (go_big_quiet_step (fail))
                              refine wpQuiet_nil ?_
                              clear OBX
                              first | (rintro v4 ⟨⟨v4', OK4⟩, e4x⟩; subst e4x) | rintro ⟨v4, OK4⟩
                              try dsimp only
                              have OBX := hide (unhide OBQ _ OK4)
                              clear OK4
                              go_wp2_with fail
                              exact ⟨⟨j + 1, rfl, by omega, unhide OBX, unhide GN⟩, by simp [intOf]; omega⟩
          · have hje : j = l.length := by omega
            have HG : Hid (good lows l = true) := hide (by
              unfold good
              simp only [Bool.and_eq_true, List.all_eq_true, List.mem_range, decide_eq_true_eq]
              exact ⟨⟨unhide H4, unhide HLO⟩, fun i hi => unhide HGO i (by omega)⟩)
            have gjn : ¬ (j : Int) < (l.length : Int) := by omega
            have hbz := hbl.size
            have bl := (unhide HB).below (Nat.le_refl _) hbl
            obtain ⟨a', c', X2, happ1, row5, gr5⟩ := grow_app refK_law (row_none (K := RefK) wr wr.heap.size) b d l (at_lies bl) (by have := unhide HL; simp; omega) (Nat.le_refl _) 33
            have b2 : Below wr.heap.size wr X2 := (Below.refl _ wr).grown gr5 (Nat.le_refl _) (fun i e => by cases e)
            rw [List.nil_append] at happ1 row5
            have N2 := (unhide OB1).below b2
            have t4 := refC_list (unhide OB1).r0
            have t9 := refC_list N2.r0
            have f9 := N2.r0.free 4 (by simp [refC])
            have hPX : P < wr.heap.size := (unhide OB1).r0.lt
            obtain ⟨wA, hwA⟩ : ∃ wA, wA = X2.setCell ⟨P, 4, none⟩ (.slice a' l.length c') := ⟨_, rfl⟩
            have NA : OB w H P (refC (lowf lows) a' l.length c') wA := by rw [hwA, ← refC_lowTo]; exact N2.set (k := 4) (by simp [refC]) (.slice a' l.length c')
            have rowA : RefK.Row wA wr.heap.size a' c' l := by
              rw [hwA]
              exact row_keep row5 ((Moved.refl (fun i => i = P) X2).setCell (p := ⟨P, 4, none⟩) (.inl rfl) _) (fun i e f => by omega)
            have RF0 : RefK.Row (wA.setCells H 0 (refC (lowf lows) a' l.length c')) w.heap.size a' c' l := row_base (row_keep rowA (setCells_moved wA H 0 _) (fun i e f => by have := NA.hp; omega)) hbz
            obtain ⟨wf, hwf, hfr, hbf⟩ := NA.put (refC (lowf lows) a' l.length c') rfl
            rw [hwf] at RF0
            have RF := hide RF0
            have HFR := hide hfr
            have HBF := hide hbf
            have HWF := hide hwf
            have HWA := hide hwA
            have HRG := hide NA.r0.range
            have HTH := hide NA.there
            have HAP1 : Hid ((Builtin.append_ #[33, 33] 33 #[.slice none 0 0, .slice b l.length d]).run Tryz.prog wr = .ok (.slice a' l.length c') X2) := hide happ1
            clear hje hbl hbz bl happ1 row5 gr5 b2 N2 hPX hwA NA rowA RF0 hwf hfr hbf OB1
            go_upto_region 21 with (at_builtin; refine wpList_app rfl _ _ 33 33 33 rfl rfl rfl rfl (unhide HAP1) ?_)
            rw [← unhide HWA]
            go_step
            refine wpList_load_mid rfl 35 (.tmp 6) rfl P 0 rfl (refC (lowf lows) a' l.length c') _ (unhide HRG) Tryz.underlying35 rfl (by kernel_rfl) ?_
            refine wpList_store_mid rfl 35 (.tmp 4) (.tmp 129) rfl H 0 (refC (lowf lows) a' l.length c').toArray rfl rfl (unhide HTH) (by kernel_rfl) (by simp [Value.oneCell', refC]) ?_
            change wpList _ _ _ _ _ (World.setCells _ H 0 (refC (lowf lows) a' l.length c'))
            rw [unhide HWF]
            go_wp2_with fail
            refine bodyPost_ret (v := .tuple #[.agg (refC (lowf lows) a' l.length c').toArray, .int .i64 0]) ?_ rfl ⟨unhide HBF, .inl ⟨unhide HG, a', c', rfl, unhide RF⟩⟩
            exact results_cell_tmp Tryz.results41 _ wf H _ _ rfl (unhide HFR) Tryz.underlying35 rfl (by kernel_rfl)
  · have hgd : Hid (good lows l = false) := hide (by unfold good; rw [decide_eq_false h4]; rfl)
    have h4' : ¬ (lows.length : Int) = 4 := by omega
    have h4b : ((lows.length : Int) == 4) = false := beq_eq_false_iff_ne.2 h4'
    go_enter Tryz.func41, Tryz.ntmps41
    go_wp2_with fail
    refine (unhide CN).mono ?_
    rintro e v1 ⟨rfl, hb1⟩
    obtain ⟨hth0, W, hW, ob1⟩ := OB.start w v1 hb1 (refC (fun _ => 1) none 0 0) rfl
    obtain ⟨P, hP⟩ : ∃ P, P = v1.heap.size := ⟨_, rfl⟩
    rw [← unhide HH, ← hP] at ob1
    rw [← hP] at hW hth0
    have N1 := hide ob1
    have HW := hide hW
    have HP := hide hP
    clear hb1 CN hP hW ob1
    rw [← unhide HH]
    have hrg := (unhide N1).r0.range
    have hth := (unhide N1).there
    obtain ⟨wf, hwf, hfr, hbf⟩ := (unhide N1).put (refC (fun _ => 1) none 0 0) rfl
    have HWF := hide hwf
    have HRG := hide hrg
    have HTH := hide hth
    clear hrg hth
    go_wp2_with (first | (simp only [← unhide HP]; refine wpList_store_mid rfl 35 (.tmp 6) (.tmp 10) rfl P 0 (refC (fun _ => 1) none 0 0).toArray rfl rfl hth0 (by kernel_rfl) (by simp [Value.oneCell', refC]) ?_; change wpList _ _ _ _ _ (World.setCells (World.alloc v1 (.cells refZ.toArray 35)) P 0 (refC (fun _ => 1) none 0 0)); rw [unhide HW]; clear hth0) | (refine wpList_load_on rfl 35 (.tmp 6) rfl P 0 rfl (refC (fun _ => 1) none 0 0) _ (unhide HRG) Tryz.underlying35 rfl (by kernel_rfl) ?_) | (refine wpList_store_mid rfl 35 (.tmp 4) (.tmp 14) rfl H 0 (refC (fun _ => 1) none 0 0).toArray rfl rfl (unhide HTH) (by kernel_rfl) (by simp [Value.oneCell', refC]) ?_; change wpList _ _ _ _ _ (World.setCells _ H 0 (refC (fun _ => 1) none 0 0)); rw [unhide HWF]))
    have HFR := hide hfr
    have HBF := hide hbf
    clear hfr hbf hwf
    refine bodyPost_ret (v := .tuple #[.agg (refC (fun _ => 1) none 0 0).toArray, .int .i64 1]) ?_ rfl ⟨unhide HBF, .inr ⟨unhide hgd, rfl⟩⟩
    exact results_cell_tmp Tryz.results41 _ wf H _ _ rfl (unhide HFR) Tryz.underlying35 rfl (by kernel_rfl)
end Go.Proofs.YtigmhljaoicdbaaGreat.Sn

/- The document's own Late, Put and Mark of a line. Conditions: the windows are a line's, whose numbers are 64 bits wide; the value is 64 bits wide. -/
import Derived.Test.YtigmhljaoicdbaaGreatGRPut
import Derived.Test.YtigmhljaoicdbaaGreatGEqW
import Derived.Test.YtigmhljaoicdbaaGreatGShIns
import Derived.Test.YtigmhljaoicdbaaGreatGWith
import Derived.Test.YtigmhljaoicdbaaGreatGSnTwind
import Derived.Deep.Fields
import Derived.Test.YtigmhljaoicdbaaGreatGSnIns
import Derived.Test.YtigmhljaoicdbaaGreatGShMath
namespace Go.Proofs.YtigmhljaoicdbaaGreat
open Go.RowKit
theorem late_wrong {a m : Int} (h : Sp.rightI a = false) : Sp.lateI a m = false := by
  unfold Sp.lateI
  have h' : ¬ (0 ≤ a ∧ a ≤ 1099511627776) := fun k => by rw [Sp.rightI_iff.2 k] at h; cases h
  rw [Sp.startI_wrong h']
  refine Bool.eq_false_iff.2 fun k => ?_
  have := Sp.overI_iff.1 k
  unfold Sp.isOver at this
  omega
theorem late_wrong2 {a m : Int} (h : Sp.rightI m = false) : Sp.lateI a m = false := by
  unfold Sp.lateI
  have h' : ¬ (0 ≤ m ∧ m ≤ 1099511627776) := fun k => by rw [Sp.rightI_iff.2 k] at h; cases h
  refine Bool.eq_false_iff.2 fun k => ?_
  have := Sp.overI_iff.1 k
  unfold Sp.isOver at this
  omega
theorem late_right {a m : Int} (ha : Sp.rightI a = true) (hm : Sp.rightI m = true) : Sp.lateI a m = decide ((15 : Int) ≤ m - Sp.startI a) := by
  have h1 := Sp.rightI_iff.1 ha
  have h2 := Sp.rightI_iff.1 hm
  unfold Sp.lateI Sp.overI
  rw [decide_eq_decide, Sp.startI_right h1]
  unfold Sp.isOver
  omega
set_option maxRecDepth 100000 in
theorem rlate_any (a m : Int) (w : World) : Calls Tryz.prog 61 #[.int .i64 a, .int .i64 m] w fun e w' => e = .returned (.bool (Sp.lateI a m)) ∧ w' = w := by
  have C1 := hide (fun v => Sp.rright_any a v)
  have C2 := hide (fun v => Sp.rright_any m v)
  have C3 := hide (fun v => Sp.rstart_any a v)
  cases ha : Sp.rightI a with
  | false =>
    rw [late_wrong ha]
    rw [ha] at C1
    clear ha
    go_enter Tryz.func61, Tryz.ntmps61
    go_wp2_with fail
    refine (unhide C1 _).mono ?_
    rintro e v' ⟨rfl, hw⟩
    rw [hw]
    clear hw v'
    go_wp2_with fail
    go_ret
    exact ⟨rfl, rfl⟩
  | true =>
    rw [ha] at C1
    cases hm : Sp.rightI m with
    | false =>
      rw [late_wrong2 hm]
      rw [hm] at C2
      clear ha hm
      go_enter Tryz.func61, Tryz.ntmps61
      go_wp2_with fail
      refine (unhide C1 _).mono ?_
      rintro e v' ⟨rfl, hw⟩
      rw [hw]
      clear hw v'
      go_wp2_with fail
      refine (unhide C2 _).mono ?_
      rintro e v' ⟨rfl, hw⟩
      rw [hw]
      clear hw v'
      go_wp2_with fail
      go_ret
      exact ⟨rfl, rfl⟩
    | true =>
      rw [late_right ha hm]
      rw [hm] at C2
      have hwr : IntKind.i64.wrap (m - Sp.startI a) = m - Sp.startI a := Go.IntWalk.i64_in _ (by
        have h1 := startI_i64 ha
        have h2 := Sp.rightI_iff.1 hm
        omega)
      clear ha hm
      generalize Sp.startI a = s at *
      go_enter Tryz.func61, Tryz.ntmps61
      go_wp2_with fail
      refine (unhide C1 _).mono ?_
      rintro e v' ⟨rfl, hw⟩
      rw [hw]
      clear hw v'
      go_wp2_with fail
      refine (unhide C2 _).mono ?_
      rintro e v' ⟨rfl, hw⟩
      rw [hw]
      clear hw v'
      go_wp2_with fail
      refine (unhide C3 _).mono ?_
      rintro e v' ⟨rfl, hw⟩
      rw [hw]
      clear hw v'
      go_wp2_with fail
      go_ret
      exact ⟨rfl, rfl⟩
theorem results_cell_tmp2 {P : Program} {fn : Func} {p t t2 : Tmp} {ty : TypeId} (h : fn.results = #[.cell p ty, .tmp t, .tmp t2]) (tmps : Array Value) (w : World) (g : Nat) (cs : List Value) (d : TypeDesc)
    (hp : tmps.getD p undef = .pointer (some ⟨g, 0, none⟩)) (hc : w.rangeAt g 0 cs) (hu : P.underlying ty = some d) (hd : d.isRow = true) (hi : (P.info? ty).map (·.size) = some cs.length) :
    (results fn tmps).run P w = .ok (.tuple #[.agg cs.toArray, tmps.getD t undef, tmps.getD t2 undef]) w := by
  have hp' : tmps[p]?.getD undef = .pointer (some ⟨g, 0, none⟩) := by simpa using hp
  simp [results, h, hp', asAddr, run_loadVar_mid w g 0 ty cs d hc hu hd hi]
/-- What Put's and Mark's boxes hold: the line, and the answer's room. -/
structure LB (w : World) (H : Nat) (x y : List Value) (v : World) : Prop where
  r0 : RowAt v H x
  r1 : RowAt v (H + 1) y
  bel : Below w.heap.size w v
theorem LB.below {w v v' : World} {H : Nat} {x y : List Value} (h : LB w H x y v) (hb : Below v.heap.size v v') : LB w H x y v' := ⟨h.r0.below hb, h.r1.below hb, h.bel.trans (hb.mono h.bel.size)⟩
theorem LB.put1 {w v : World} {H : Nat} {x y : List Value} (h : LB w H x y v) (hH : H = w.heap.size) (z : List Value) (hz : y.length = z.length) : ∃ wf, v.setCells (H + 1) 0 z = wf ∧ LB w H x z wf ∧ Moved (fun j => j = H + 1) v wf := by
  have m := setCells_moved v (H + 1) 0 z
  exact ⟨_, rfl, ⟨h.r0.keep m (by omega), h.r1.put z hz, ((Moved.of_below (F := fun j => j = H + 1) h.bel).trans m (fun _ hi => .inl hi)).below (fun i hi => by omega) (Nat.le_refl _)⟩, m⟩
theorem there_one {w : World} {B : Nat} {p q : Value} (h : RowAt w B [p, q]) : w.there B 1 1 := fun i hi => by
  have h0 : i = 0 := by omega
  subst h0
  have h1 : 1 < [p, q].length := by simp
  exact ⟨by rw [h.cell 1 h1]; rfl, h.free 1 h1⟩
theorem LB.put0 {w v : World} {H : Nat} {m s : Value} {y : List Value} (h : LB w H [m, s] y v) (hH : H = w.heap.size) (z : Value) : ∃ wf, v.setCells H 1 [z] = wf ∧ LB w H [m, z] y wf ∧ Moved (fun j => j = H) v wf := by
  have mv := setCells_moved v H 1 [z]
  exact ⟨_, rfl, ⟨h.r0.set 1 (by simp) z, h.r1.keep mv (by omega), ((Moved.of_below (F := fun j => j = H) h.bel).trans mv (fun _ hi => .inl hi)).below (fun i hi => by omega) (Nat.le_refl _)⟩, mv⟩
set_option maxRecDepth 100000 in
set_option maxHeartbeats 4000000 in
theorem rtput_any {w : World} {B : Nat} {a : Option Addr} {c : Nat} {L : LineV} (hR : OutK.Row w B a c L.row) (hB : B ≤ w.heap.size) (hg : Good SO L.row) (hm : Mild L.row) (k : List UInt8) (at_ n : Int) (hn : i64 n) :
    Calls Tryz.prog 34 #[.agg #[.int .i64 L.mark, .slice a L.row.length c], .string ⟨k.toArray⟩, .int .i64 at_, .int .i64 n] w fun e w' => ∃ a' c', e = .returned (.tuple #[.agg #[.int .i64 (putL L k at_ n).1.mark, .slice a' (putL L k at_ n).1.row.length c'], .int .i64 ((putL L k at_ n).2 : Int)]) ∧ OutK.Row w' B a' c' (putL L k at_ n).1.row ∧ (∀ j, (Value.slice a' (putL L k at_ n).1.row.length c').ownBlock = some j → (Value.slice a L.row.length c).ownBlock = some j ∨ w.heap.size ≤ j) ∧ Below w.heap.size w w' := by
  obtain ⟨W, hW⟩ : ∃ W, W = (w.alloc (.cells #[.int .i64 L.mark, .slice a L.row.length c] 31)).alloc (.cells #[.int .i64 0, .slice none 0 0] 31) := ⟨_, rfl⟩
  obtain ⟨H, hH⟩ : ∃ H, H = w.heap.size := ⟨_, rfl⟩
  have T0 : RowAt W H [.int .i64 L.mark, .slice a L.row.length c] := by rw [hW, hH]; exact row_old (row_new _ _ _) _
  have T1 : RowAt W (H + 1) [.int .i64 0, .slice none 0 0] := by rw [hW, hH]; exact row_new2 _ _ _ _ _
  have bW : Below w.heap.size w W := by rw [hW]; exact ((Below.refl _ _).alloc (Nat.le_refl _) _).alloc (by simp) _
  have BL := hide (⟨T0, T1, bW⟩ : LB w H [.int .i64 L.mark, .slice a L.row.length c] [.int .i64 0, .slice none 0 0] W)
  have HSZ : Hid (W.heap.size = H + 2) := hide (by rw [hW, hH]; simp)
  have HW := hide hW
  have HH := hide hH
  have HRW := hide hR
  have HBB := hide hB
  have HG := hide hg
  have HM := hide hm
  clear hW hH hR hB hg hm bW T0 T1
  have CK := hide (fun v => rkey_any k v)
  have CR := hide (fun v => Sp.rright_any at_ v)
  have CL := hide (fun v => rlate_any at_ L.mark v)
  have c0 : W.cell? ⟨H, 0, none⟩ = some (.int .i64 L.mark) := (unhide BL).r0.cell 0 (by simp)
  have c1 : W.cell? ⟨H, 1, none⟩ = some (.slice a L.row.length c) := (unhide BL).r0.cell 1 (by simp)
  rcases putL_ways L k at_ n with ⟨hk, e⟩ | ⟨hk, ⟨hlt, e⟩ | ⟨hlt, hz⟩⟩
  · have RS := hide e
    clear e
    by_cases hko : keyOk k = true
    · have hro : Sp.rightI at_ = false := Bool.eq_false_iff.2 (fun h => hk ⟨hko, h⟩)
      rw [hko] at CK
      rw [hro] at CR
      clear hk hko hro
      go_enter Tryz.func34, Tryz.ntmps34
      go_upto_region 1 with fail
      rw [← unhide HH]
      try change Code.wp _ _ _ _ ((w.alloc (.cells #[.int .i64 L.mark, .slice a L.row.length c] 31)).alloc (.cells #[.int .i64 0, .slice none 0 0] 31))
      rw [← unhide HW]
      go_upto_region 2 with fail
      refine (unhide CK _).mono ?_
      rintro e v' ⟨rfl, hw⟩
      rw [hw]
      clear hw v'
      go_upto_region 2 with fail
      refine (unhide CR _).mono ?_
      rintro e v' ⟨rfl, hw⟩
      rw [hw]
      clear hw v'
      go_upto_region 2 with fail
      have hrg := (unhide BL).r0.range
      have hth := (unhide BL).r1.there
      go_step
      refine wpList_load_mid rfl 31 (.tmp 4) rfl H 0 rfl [.int .i64 L.mark, .slice a L.row.length c] _ hrg Tryz.underlying31 rfl (by kernel_rfl) ?_
      refine wpList_store_mid rfl 31 (.tmp 8) (.tmp 20) rfl (H + 1) 0 #[.int .i64 L.mark, .slice a L.row.length c] rfl rfl hth (by kernel_rfl) (by simp [Value.oneCell']) ?_
      clear hrg hth
      obtain ⟨wf, hwf, hfr, hmv⟩ := (unhide BL).put1 (unhide HH) [.int .i64 L.mark, .slice a L.row.length c] rfl
      change wpList _ _ _ _ _ (World.setCells _ (H + 1) 0 [.int .i64 L.mark, .slice a L.row.length c])
      rw [hwf]
      have HFR := hide hfr
      have HMV := hide hmv
      clear hfr hmv hwf
      go_wp2_with fail
      refine bodyPost_ret (v := .tuple #[.agg #[.int .i64 L.mark, .slice a L.row.length c], .int .i64 4]) ?_ rfl ?_
      · exact results_cell_tmp Tryz.results34 _ wf (H + 1) [.int .i64 L.mark, .slice a L.row.length c] _ rfl (unhide HFR).r1.range Tryz.underlying31 rfl (by kernel_rfl)
      · exact ⟨a, c, by rw [unhide RS]; rfl, by rw [unhide RS]; exact row_below (unhide HRW) (unhide HFR).bel, by rw [unhide RS]; exact fun _ h => .inl h, (unhide HFR).bel⟩
    · rw [Bool.eq_false_iff.2 hko] at CK
      clear hk hko
      go_enter Tryz.func34, Tryz.ntmps34
      go_upto_region 1 with fail
      rw [← unhide HH]
      try change Code.wp _ _ _ _ ((w.alloc (.cells #[.int .i64 L.mark, .slice a L.row.length c] 31)).alloc (.cells #[.int .i64 0, .slice none 0 0] 31))
      rw [← unhide HW]
      go_upto_region 2 with fail
      refine (unhide CK _).mono ?_
      rintro e v' ⟨rfl, hw⟩
      rw [hw]
      clear hw v'
      go_upto_region 2 with fail
      have hrg := (unhide BL).r0.range
      have hth := (unhide BL).r1.there
      go_step
      refine wpList_load_mid rfl 31 (.tmp 4) rfl H 0 rfl [.int .i64 L.mark, .slice a L.row.length c] _ hrg Tryz.underlying31 rfl (by kernel_rfl) ?_
      refine wpList_store_mid rfl 31 (.tmp 8) (.tmp 20) rfl (H + 1) 0 #[.int .i64 L.mark, .slice a L.row.length c] rfl rfl hth (by kernel_rfl) (by simp [Value.oneCell']) ?_
      clear hrg hth
      obtain ⟨wf, hwf, hfr, hmv⟩ := (unhide BL).put1 (unhide HH) [.int .i64 L.mark, .slice a L.row.length c] rfl
      change wpList _ _ _ _ _ (World.setCells _ (H + 1) 0 [.int .i64 L.mark, .slice a L.row.length c])
      rw [hwf]
      have HFR := hide hfr
      have HMV := hide hmv
      clear hfr hmv hwf
      go_wp2_with fail
      refine bodyPost_ret (v := .tuple #[.agg #[.int .i64 L.mark, .slice a L.row.length c], .int .i64 4]) ?_ rfl ?_
      · exact results_cell_tmp Tryz.results34 _ wf (H + 1) [.int .i64 L.mark, .slice a L.row.length c] _ rfl (unhide HFR).r1.range Tryz.underlying31 rfl (by kernel_rfl)
      · exact ⟨a, c, by rw [unhide RS]; rfl, by rw [unhide RS]; exact row_below (unhide HRW) (unhide HFR).bel, by rw [unhide RS]; exact fun _ h => .inl h, (unhide HFR).bel⟩
  · have RS := hide e
    rw [hk.1] at CK
    rw [hk.2] at CR
    rw [hlt] at CL
    clear hk hlt e
    go_enter Tryz.func34, Tryz.ntmps34
    go_upto_region 1 with fail
    rw [← unhide HH]
    try change Code.wp _ _ _ _ ((w.alloc (.cells #[.int .i64 L.mark, .slice a L.row.length c] 31)).alloc (.cells #[.int .i64 0, .slice none 0 0] 31))
    rw [← unhide HW]
    go_upto_region 2 with fail
    refine (unhide CK _).mono ?_
    rintro e v' ⟨rfl, hw⟩
    rw [hw]
    clear hw v'
    go_upto_region 3 with fail
    refine (unhide CR _).mono ?_
    rintro e v' ⟨rfl, hw⟩
    rw [hw]
    clear hw v'
    go_upto_region 4 with fail
    refine (unhide CL _).mono ?_
    rintro e v' ⟨rfl, hw⟩
    rw [hw]
    clear hw v'
    go_upto_region 4 with fail
    have hrg := (unhide BL).r0.range
    have hth := (unhide BL).r1.there
    go_step
    refine wpList_load_mid rfl 31 (.tmp 4) rfl H 0 rfl [.int .i64 L.mark, .slice a L.row.length c] _ hrg Tryz.underlying31 rfl (by kernel_rfl) ?_
    refine wpList_store_mid rfl 31 (.tmp 8) (.tmp 25) rfl (H + 1) 0 #[.int .i64 L.mark, .slice a L.row.length c] rfl rfl hth (by kernel_rfl) (by simp [Value.oneCell']) ?_
    clear hrg hth
    obtain ⟨wf, hwf, hfr, hmv⟩ := (unhide BL).put1 (unhide HH) [.int .i64 L.mark, .slice a L.row.length c] rfl
    change wpList _ _ _ _ _ (World.setCells _ (H + 1) 0 [.int .i64 L.mark, .slice a L.row.length c])
    rw [hwf]
    have HFR := hide hfr
    have HMV := hide hmv
    clear hfr hmv hwf
    go_wp2_with fail
    refine bodyPost_ret (v := .tuple #[.agg #[.int .i64 L.mark, .slice a L.row.length c], .int .i64 2]) ?_ rfl ?_
    · exact results_cell_tmp Tryz.results34 _ wf (H + 1) [.int .i64 L.mark, .slice a L.row.length c] _ rfl (unhide HFR).r1.range Tryz.underlying31 rfl (by kernel_rfl)
    · exact ⟨a, c, by rw [unhide RS]; rfl, by rw [unhide RS]; exact row_below (unhide HRW) (unhide HFR).bel, by rw [unhide RS]; exact fun _ h => .inl h, (unhide HFR).bel⟩
  · rw [hk.1] at CK
    rw [hk.2] at CR
    rw [hlt] at CL
    have HRP := hide (rput_any (row_below (unhide HRW) (unhide BL).bel) (Nat.le_trans (unhide HBB) (unhide BL).bel.size) (unhide HG) (unhide HM).ins_ k at_ n hn)
    have HC := hide (put_code (l := L.row) (v := n) hk)
    have HZ := hide hz
    have RG := hide (show W.rangeAt H 1 [.slice a L.row.length c] from fun j u hu => by
      have := (unhide BL).r0.range (1 + j) u (by rw [← hu, Nat.add_comm 1 j]; rfl)
      rwa [Nat.zero_add] at this)
    clear hk hlt hz
    go_enter Tryz.func34, Tryz.ntmps34
    go_upto_region 1 with fail
    rw [← unhide HH]
    try change Code.wp _ _ _ _ ((w.alloc (.cells #[.int .i64 L.mark, .slice a L.row.length c] 31)).alloc (.cells #[.int .i64 0, .slice none 0 0] 31))
    rw [← unhide HW]
    go_upto_region 2 with fail
    refine (unhide CK _).mono ?_
    rintro e v' ⟨rfl, hw⟩
    rw [hw]
    clear hw v'
    go_upto_region 3 with fail
    refine (unhide CR _).mono ?_
    rintro e v' ⟨rfl, hw⟩
    rw [hw]
    clear hw v'
    go_upto_region 5 with fail
    refine (unhide CL _).mono ?_
    rintro e v' ⟨rfl, hw⟩
    rw [hw]
    clear hw v'
    go_upto_region 6 with (refine wpList_load_on rfl 29 (.tmp 27) rfl H 1 rfl [.slice a L.row.length c] _ (unhide RG) Tryz.underlying29 rfl (by kernel_rfl) ?_)
    rcases unhide HZ with ⟨h0, e⟩ | ⟨h0, e⟩
    · rw [h0, show ((0 : Nat) : Int) = 0 from rfl] at HRP
      have RS := hide e
      clear e h0 HZ HC
      refine (unhide HRP).mono ?_
      rintro e w2 ⟨a', c', rfl, hrow, hown, hb⟩
      have hbel3 : Below w2.heap.size w2 (w2.alloc (.cells #[.slice a' (putS SO L.row k at_ n).1.length c'] 29)) := (Below.refl _ _).alloc (Nat.le_refl _) _
      obtain ⟨w3, hw3⟩ : ∃ w3, w3 = w2.alloc (.cells #[.slice a' (putS SO L.row k at_ n).1.length c'] 29) := ⟨_, rfl⟩
      have RN : RowAt w3 w2.heap.size [.slice a' (putS SO L.row k at_ n).1.length c'] := by rw [hw3]; exact row_new _ _ _
      rw [← hw3] at hbel3
      have B3 := hide (((unhide BL).below hb).below hbel3)
      have HROW := hide (row_below hrow hbel3)
      have HOWN := hide hown
      have HW3 := hide hw3
      have HRN := hide RN
      clear hrow hown hb HRP RG c0 c1 hbel3 hw3 RN
      go_upto_region 6 with fail
      rw [← unhide HW3]
      clear HW3
      generalize w2.heap.size = h2 at HRN ⊢
      go_upto_region 8 with fail
      have hrg := (unhide HRN).range
      have hth := there_one (unhide B3).r0
      obtain ⟨w4, hw4, hb4, hm4⟩ := (unhide B3).put0 (unhide HH) (.slice a' (putS SO L.row k at_ n).1.length c')
      go_upto_region 9 with (first | refine wpList_load_on rfl 29 (.tmp 10) rfl h2 0 rfl [.slice a' (putS SO L.row k at_ n).1.length c'] _ hrg Tryz.underlying29 rfl (by kernel_rfl) ?_ | (refine wpList_store_mid rfl 29 (.tmp 39) (.tmp 38) (by simp [go_sem]) H 1 #[.slice a' (putS SO L.row k at_ n).1.length c'] rfl rfl hth (by kernel_rfl) (by simp [Value.oneCell']) ?_; change wpList _ _ _ _ _ (World.setCells _ H 1 [.slice a' (putS SO L.row k at_ n).1.length c']); rw [hw4]))
      have B4 := hide hb4
      have HM4 := hide hm4
      clear hrg hth HRN hb4 hm4 hw4 B3
      go_upto_region 9 with fail
      have hrg := (unhide B4).r0.range
      have hth := (unhide B4).r1.there
      go_step
      refine wpList_load_mid rfl 31 (.tmp 4) rfl H 0 rfl [.int .i64 L.mark, .slice a' (putS SO L.row k at_ n).1.length c'] _ hrg Tryz.underlying31 rfl (by kernel_rfl) ?_
      refine wpList_store_mid rfl 31 (.tmp 8) (.tmp 40) rfl (H + 1) 0 #[.int .i64 L.mark, .slice a' (putS SO L.row k at_ n).1.length c'] rfl rfl hth (by kernel_rfl) (by simp [Value.oneCell']) ?_
      clear hrg hth
      obtain ⟨wf, hwf, hfr, hmv⟩ := (unhide B4).put1 (unhide HH) [.int .i64 L.mark, .slice a' (putS SO L.row k at_ n).1.length c'] rfl
      change wpList _ _ _ _ _ (World.setCells _ (H + 1) 0 [.int .i64 L.mark, .slice a' (putS SO L.row k at_ n).1.length c'])
      rw [hwf]
      have HFR := hide hfr
      have HMV := hide hmv
      clear hfr hmv hwf
      go_wp2_with fail
      refine bodyPost_ret (v := .tuple #[.agg #[.int .i64 L.mark, .slice a' (putS SO L.row k at_ n).1.length c'], .int .i64 1]) ?_ rfl ?_
      · exact results_cell_tmp Tryz.results34 _ wf (H + 1) [.int .i64 L.mark, .slice a' (putS SO L.row k at_ n).1.length c'] _ rfl (unhide HFR).r1.range Tryz.underlying31 rfl (by kernel_rfl)
      · exact ⟨a', c', by rw [unhide RS]; rfl, by rw [unhide RS]; exact row_moved (row_moved (unhide HROW) (unhide HM4) (fun i hi k hk => by have := row_lt (unhide HRW) k; have := unhide HOWN k hk; have := unhide HH; have := unhide HSZ; subst hi; rcases unhide HOWN k hk with h | h; (have := (row_lt (unhide HRW) k h).2; omega); omega)) (unhide HMV) (fun i hi k hk => by have := unhide HH; have := unhide HSZ; subst hi; rcases unhide HOWN k hk with h | h; (have := (row_lt (unhide HRW) k h).2; omega); omega), by rw [unhide RS]; exact fun j h => (unhide HOWN j h).imp id (fun h => by have := unhide HH; have := unhide HSZ; omega), (unhide HFR).bel⟩
    · have h6 := (unhide HC).resolve_left h0
      rw [h6.1, show ((6 : Nat) : Int) = 6 from rfl] at HRP
      have RS := hide e
      clear e h0 h6 HZ HC
      refine (unhide HRP).mono ?_
      rintro e w2 ⟨a', c', rfl, hrow, hown, hb⟩
      have hbel3 : Below w2.heap.size w2 (w2.alloc (.cells #[.slice a' (putS SO L.row k at_ n).1.length c'] 29)) := (Below.refl _ _).alloc (Nat.le_refl _) _
      obtain ⟨w3, hw3⟩ : ∃ w3, w3 = w2.alloc (.cells #[.slice a' (putS SO L.row k at_ n).1.length c'] 29) := ⟨_, rfl⟩
      have RN : RowAt w3 w2.heap.size [.slice a' (putS SO L.row k at_ n).1.length c'] := by rw [hw3]; exact row_new _ _ _
      rw [← hw3] at hbel3
      have B3 := hide (((unhide BL).below hb).below hbel3)
      have HROW := hide (row_below hrow hbel3)
      have HOWN := hide hown
      have HW3 := hide hw3
      have HRN := hide RN
      clear hrow hown hb HRP RG c0 c1 hbel3 hw3 RN
      go_upto_region 6 with fail
      rw [← unhide HW3]
      clear HW3
      generalize w2.heap.size = h2 at HRN ⊢
      go_upto_region 7 with fail
      have hrg := (unhide B3).r0.range
      have hth := (unhide B3).r1.there
      go_step
      refine wpList_load_mid rfl 31 (.tmp 4) rfl H 0 rfl [.int .i64 L.mark, .slice a L.row.length c] _ hrg Tryz.underlying31 rfl (by kernel_rfl) ?_
      refine wpList_store_mid rfl 31 (.tmp 8) (.tmp 37) rfl (H + 1) 0 #[.int .i64 L.mark, .slice a L.row.length c] rfl rfl hth (by kernel_rfl) (by simp [Value.oneCell']) ?_
      clear hrg hth
      obtain ⟨wf, hwf, hfr, hmv⟩ := (unhide B3).put1 (unhide HH) [.int .i64 L.mark, .slice a L.row.length c] rfl
      change wpList _ _ _ _ _ (World.setCells _ (H + 1) 0 [.int .i64 L.mark, .slice a L.row.length c])
      rw [hwf]
      have HFR := hide hfr
      have HMV := hide hmv
      clear hfr hmv hwf
      go_wp2_with fail
      refine bodyPost_ret (v := .tuple #[.agg #[.int .i64 L.mark, .slice a L.row.length c], .int .i64 3]) ?_ rfl ?_
      · exact results_cell_tmp Tryz.results34 _ wf (H + 1) [.int .i64 L.mark, .slice a L.row.length c] _ rfl (unhide HFR).r1.range Tryz.underlying31 rfl (by kernel_rfl)
      · exact ⟨a, c, by rw [unhide RS]; rfl, by rw [unhide RS]; exact row_below (unhide HRW) (unhide HFR).bel, by rw [unhide RS]; exact fun _ h => .inl h, (unhide HFR).bel⟩
set_option maxRecDepth 100000 in
set_option maxHeartbeats 4000000 in
theorem rtmark_any {w : World} {B : Nat} {a : Option Addr} {c : Nat} {L : LineV} (hR : OutK.Row w B a c L.row) (hB : B ≤ w.heap.size) (hg : Good SO L.row) (hm : Mild L.row) (at_ : Int) :
    Calls Tryz.prog 35 #[.agg #[.int .i64 L.mark, .slice a L.row.length c], .int .i64 at_] w fun e w' => ∃ a' c' a2 c2, e = .returned (.tuple #[.agg #[.int .i64 (markL L at_).1.mark, .slice a' (markL L at_).1.row.length c'], .int .i64 ((markL L at_).2.1 : Int), .slice a2 (markL L at_).2.2.length c2]) ∧ OutK.Row w' B a' c' (markL L at_).1.row ∧ OutK.Row w' w.heap.size a2 c2 (markL L at_).2.2 ∧ (∀ j, (Value.slice a' (markL L at_).1.row.length c').ownBlock = some j → (Value.slice a L.row.length c).ownBlock = some j ∨ w.heap.size ≤ j) ∧ Below w.heap.size w w' := by
  obtain ⟨W, hW⟩ : ∃ W, W = (w.alloc (.cells #[.int .i64 L.mark, .slice a L.row.length c] 31)).alloc (.cells #[.int .i64 0, .slice none 0 0] 31) := ⟨_, rfl⟩
  obtain ⟨H, hH⟩ : ∃ H, H = w.heap.size := ⟨_, rfl⟩
  have T0 : RowAt W H [.int .i64 L.mark, .slice a L.row.length c] := by rw [hW, hH]; exact row_old (row_new _ _ _) _
  have T1 : RowAt W (H + 1) [.int .i64 0, .slice none 0 0] := by rw [hW, hH]; exact row_new2 _ _ _ _ _
  have bW : Below w.heap.size w W := by rw [hW]; exact ((Below.refl _ _).alloc (Nat.le_refl _) _).alloc (by simp) _
  have BL := hide (⟨T0, T1, bW⟩ : LB w H [.int .i64 L.mark, .slice a L.row.length c] [.int .i64 0, .slice none 0 0] W)
  have HSZ : Hid (W.heap.size = H + 2) := hide (by rw [hW, hH]; simp)
  have HW := hide hW
  have HH := hide hH
  have HRW := hide hR
  have HBB := hide hB
  have HG := hide hg
  have HM := hide hm
  clear hW hH hR hB hg hm bW T0 T1
  have CR := hide (fun v => Sp.rright_any at_ v)
  have c0 : W.cell? ⟨H, 0, none⟩ = some (.int .i64 L.mark) := (unhide BL).r0.cell 0 (by simp)
  rcases markL_ways L at_ with ⟨hro, e⟩ | ⟨hro, ⟨hle, e⟩ | ⟨hle, e⟩⟩
  · have RS := hide e
    clear e
    rw [hro] at CR
    clear hro
    go_enter Tryz.func35, Tryz.ntmps35
    go_upto_region 1 with fail
    rw [← unhide HH]
    try change Code.wp _ _ _ _ ((w.alloc (.cells #[.int .i64 L.mark, .slice a L.row.length c] 31)).alloc (.cells #[.int .i64 0, .slice none 0 0] 31))
    rw [← unhide HW]
    go_upto_region 2 with fail
    refine (unhide CR _).mono ?_
    rintro e v' ⟨rfl, hw⟩
    rw [hw]
    clear hw v'
    go_upto_region 2 with fail
    have hrg := (unhide BL).r0.range
    have hth := (unhide BL).r1.there
    go_step
    refine wpList_load_mid rfl 31 (.tmp 2) rfl H 0 rfl [.int .i64 L.mark, .slice a L.row.length c] _ hrg Tryz.underlying31 rfl (by kernel_rfl) ?_
    refine wpList_store_mid rfl 31 (.tmp 4) (.tmp 12) rfl (H + 1) 0 #[.int .i64 L.mark, .slice a L.row.length c] rfl rfl hth (by kernel_rfl) (by simp [Value.oneCell']) ?_
    clear hrg hth
    obtain ⟨wf, hwf, hfr, hmv⟩ := (unhide BL).put1 (unhide HH) [.int .i64 L.mark, .slice a L.row.length c] rfl
    change wpList _ _ _ _ _ (World.setCells _ (H + 1) 0 [.int .i64 L.mark, .slice a L.row.length c])
    rw [hwf]
    have HFR := hide hfr
    have HMV := hide hmv
    clear hfr hmv hwf
    go_wp2_with fail
    refine bodyPost_ret (v := .tuple #[.agg #[.int .i64 L.mark, .slice a L.row.length c], .int .i64 4, .slice none 0 0]) ?_ rfl ?_
    · exact results_cell_tmp2 Tryz.results35 _ wf (H + 1) [.int .i64 L.mark, .slice a L.row.length c] _ rfl (unhide HFR).r1.range Tryz.underlying31 rfl (by kernel_rfl)
    · exact ⟨a, c, none, 0, by rw [unhide RS]; rfl, by rw [unhide RS]; exact row_below (unhide HRW) (unhide HFR).bel, by rw [unhide RS]; exact row_none _ _, by rw [unhide RS]; exact fun _ h => .inl h, (unhide HFR).bel⟩
  · have RS := hide e
    clear e
    rw [hro] at CR
    clear hro
    go_enter Tryz.func35, Tryz.ntmps35
    go_upto_region 1 with fail
    rw [← unhide HH]
    try change Code.wp _ _ _ _ ((w.alloc (.cells #[.int .i64 L.mark, .slice a L.row.length c] 31)).alloc (.cells #[.int .i64 0, .slice none 0 0] 31))
    rw [← unhide HW]
    go_upto_region 3 with fail
    refine (unhide CR _).mono ?_
    rintro e v' ⟨rfl, hw⟩
    rw [hw]
    clear hw v'
    go_upto_region 4 with fail
    have hrg := (unhide BL).r0.range
    have hth := (unhide BL).r1.there
    go_step
    refine wpList_load_mid rfl 31 (.tmp 2) rfl H 0 rfl [.int .i64 L.mark, .slice a L.row.length c] _ hrg Tryz.underlying31 rfl (by kernel_rfl) ?_
    refine wpList_store_mid rfl 31 (.tmp 4) (.tmp 17) rfl (H + 1) 0 #[.int .i64 L.mark, .slice a L.row.length c] rfl rfl hth (by kernel_rfl) (by simp [Value.oneCell']) ?_
    clear hrg hth
    obtain ⟨wf, hwf, hfr, hmv⟩ := (unhide BL).put1 (unhide HH) [.int .i64 L.mark, .slice a L.row.length c] rfl
    change wpList _ _ _ _ _ (World.setCells _ (H + 1) 0 [.int .i64 L.mark, .slice a L.row.length c])
    rw [hwf]
    have HFR := hide hfr
    have HMV := hide hmv
    clear hfr hmv hwf
    go_wp2_with fail
    refine bodyPost_ret (v := .tuple #[.agg #[.int .i64 L.mark, .slice a L.row.length c], .int .i64 1, .slice none 0 0]) ?_ rfl ?_
    · exact results_cell_tmp2 Tryz.results35 _ wf (H + 1) [.int .i64 L.mark, .slice a L.row.length c] _ rfl (unhide HFR).r1.range Tryz.underlying31 rfl (by kernel_rfl)
    · exact ⟨a, c, none, 0, by rw [unhide RS]; rfl, by rw [unhide RS]; exact row_below (unhide HRW) (unhide HFR).bel, by rw [unhide RS]; exact row_none _ _, by rw [unhide RS]; exact fun _ h => .inl h, (unhide HFR).bel⟩
  · have RS := hide e
    clear e
    rw [hro] at CR
    clear hro
    obtain ⟨W5, hW5⟩ : ∃ W5, W5 = W.setCell ⟨H, 0, none⟩ (.int .i64 at_) := ⟨_, rfl⟩
    have m5 : Moved (fun j => j = H) W W5 := by rw [hW5]; exact Moved.setCell (F := fun j => j = H) (Moved.refl _ _) (.inl rfl) _
    have B5 := hide (⟨by rw [hW5]; exact (unhide BL).r0.set 0 (by simp) _, (unhide BL).r1.keep m5 (by omega), ((Moved.of_below (F := fun j => j = H) (unhide BL).bel).trans m5 (fun _ hi => .inl hi)).below (fun i hi => by have := unhide HH; omega) (Nat.le_refl _)⟩ : LB w H [.int .i64 at_, .slice a L.row.length c] [.int .i64 0, .slice none 0 0] W5)
    have HSZ5 : Hid (W5.heap.size = H + 2) := hide (by rw [hW5, World.size_setCell]; exact unhide HSZ)
    have HW5 := hide hW5
    have HLE := hide hle
    have RG := hide (show W5.rangeAt H 1 [.slice a L.row.length c] from fun j u hu => by
      have := (unhide B5).r0.range (1 + j) u (by rw [← hu, Nat.add_comm 1 j]; rfl)
      rwa [Nat.zero_add] at this)
    have HRP := hide (rtake_any (row_below (unhide HRW) (unhide B5).bel) (by have := (unhide HG).most; omega) at_)
    clear m5 hW5
    have f0 : W.frozen? ⟨H, 0, none⟩ = false := (unhide BL).r0.free 0 (by simp)
    go_enter Tryz.func35, Tryz.ntmps35
    go_upto_region 1 with fail
    rw [← unhide HH]
    try change Code.wp _ _ _ _ ((w.alloc (.cells #[.int .i64 L.mark, .slice a L.row.length c] 31)).alloc (.cells #[.int .i64 0, .slice none 0 0] 31))
    rw [← unhide HW]
    go_upto_region 3 with fail
    refine (unhide CR _).mono ?_
    rintro e v' ⟨rfl, hw⟩
    rw [hw]
    clear hw v'
    go_upto_region 5 with fail
    go_upto_region 6 with fail
    rw [← unhide HW5]
    clear f0 hle
    go_upto_region 7 with (refine wpList_load_on rfl 29 (.tmp 21) rfl H 1 rfl [.slice a L.row.length c] _ (unhide RG) Tryz.underlying29 rfl (by kernel_rfl) ?_)
    refine (unhide HRP).mono ?_
    rintro e w2 ⟨a', c', a2, c2, rfl, hrow, hrow2, hb⟩
    have hbel3 : Below w2.heap.size w2 (w2.alloc (.cells #[.slice a' (takeS SO L.row at_).1.length c'] 29)) := (Below.refl _ _).alloc (Nat.le_refl _) _
    obtain ⟨w3, hw3⟩ : ∃ w3, w3 = w2.alloc (.cells #[.slice a' (takeS SO L.row at_).1.length c'] 29) := ⟨_, rfl⟩
    have RN : RowAt w3 w2.heap.size [.slice a' (takeS SO L.row at_).1.length c'] := by rw [hw3]; exact row_new _ _ _
    rw [← hw3] at hbel3
    have B3 := hide (((unhide B5).below hb).below hbel3)
    have HROW := hide (row_below hrow hbel3)
    have HROW2 := hide (row_below hrow2 hbel3)
    have HW3 := hide hw3
    have HRN := hide RN
    clear hrow hrow2 hb HRP RG c0 hbel3 hw3 RN
    go_upto_region 7 with fail
    rw [← unhide HW3]
    clear HW3 HW5
    generalize w2.heap.size = h2 at HRN ⊢
    have hrg := (unhide HRN).range
    have hth := there_one (unhide B3).r0
    obtain ⟨w4, hw4, hb4, hm4⟩ := (unhide B3).put0 (unhide HH) (.slice a' (takeS SO L.row at_).1.length c')
    go_upto_region 8 with (first | refine wpList_load_on rfl 29 (.tmp 7) rfl h2 0 rfl [.slice a' (takeS SO L.row at_).1.length c'] _ hrg Tryz.underlying29 rfl (by kernel_rfl) ?_ | (refine wpList_store_mid rfl 29 (.tmp 28) (.tmp 27) (by simp [go_sem]) H 1 #[.slice a' (takeS SO L.row at_).1.length c'] rfl rfl hth (by kernel_rfl) (by simp [Value.oneCell']) ?_; change wpList _ _ _ _ _ (World.setCells _ H 1 [.slice a' (takeS SO L.row at_).1.length c']); rw [hw4]))
    have B4 := hide hb4
    have HM4 := hide hm4
    clear hrg hth HRN hb4 hm4 hw4 B3
    have hrg := (unhide B4).r0.range
    have hth := (unhide B4).r1.there
    obtain ⟨wf, hwf, hfr, hmv⟩ := (unhide B4).put1 (unhide HH) [.int .i64 at_, .slice a' (takeS SO L.row at_).1.length c'] rfl
    go_wp2_with (first | refine wpList_load_on rfl 31 (.tmp 2) rfl H 0 rfl [.int .i64 at_, .slice a' (takeS SO L.row at_).1.length c'] _ hrg Tryz.underlying31 rfl (by kernel_rfl) ?_ | (refine wpList_store_mid rfl 31 (.tmp 4) (.tmp 29) (by simp [go_sem]) (H + 1) 0 #[.int .i64 at_, .slice a' (takeS SO L.row at_).1.length c'] rfl rfl hth (by kernel_rfl) (by simp [Value.oneCell']) ?_; change wpList _ _ _ _ _ (World.setCells _ (H + 1) 0 [.int .i64 at_, .slice a' (takeS SO L.row at_).1.length c']); rw [hwf]))
    have HFR := hide hfr
    have HMV := hide hmv
    clear hfr hmv hwf hrg hth
    refine bodyPost_ret (v := .tuple #[.agg #[.int .i64 at_, .slice a' (takeS SO L.row at_).1.length c'], .int .i64 1, .slice a2 (takeS SO L.row at_).2.length c2]) ?_ rfl ?_
    · exact results_cell_tmp2 Tryz.results35 _ wf (H + 1) [.int .i64 at_, .slice a' (takeS SO L.row at_).1.length c'] _ rfl (unhide HFR).r1.range Tryz.underlying31 rfl (by kernel_rfl)
    · exact ⟨a', c', a2, c2, by rw [unhide RS]; rfl, by rw [unhide RS]; exact row_mono (row_moved (row_moved (unhide HROW) (unhide HM4) (fun i hi k hk => by have := (row_lt (unhide HROW) k hk).1; have := unhide HSZ5; omega)) (unhide HMV) (fun i hi k hk => by have := (row_lt (unhide HROW) k hk).1; have := unhide HSZ5; omega)) (by have := unhide HBB; have := unhide HSZ5; have := unhide HH; omega), by rw [unhide RS]; exact row_mono (row_moved (row_moved (unhide HROW2) (unhide HM4) (fun i hi k hk => by have := (row_lt (unhide HROW2) k hk).1; have := unhide HSZ5; omega)) (unhide HMV) (fun i hi k hk => by have := (row_lt (unhide HROW2) k hk).1; have := unhide HSZ5; omega)) (by have := unhide HSZ5; have := unhide HH; omega), by rw [unhide RS]; exact fun j h => .inr (by have := (row_lt (unhide HROW) j h).1; have := unhide HSZ5; have := unhide HH; omega), (unhide HFR).bel⟩
end Go.Proofs.YtigmhljaoicdbaaGreat

namespace Go.Proofs.YtigmhljaoicdbaaGreat
open Go.RowKit Go.ChangeShapes Go.WideShapes
def winNone : Win AggV := ⟨[], 0, zero⟩
def OkW (x : Win AggV) : Prop := x.agg.In ∧ okk x.key x.start
structure IsOuts (w : World) (a : Option Addr) (len cap : Nat) (z : List (Win AggV)) : Prop where
  size_ : z.length = len
  max : len ≤ maxLen
  at_ : ∀ k, k < len → ∃ b o, a = some ⟨b, o, none⟩ ∧ w.rangeAt b (o + k * 10) (outV (z.getD k winNone)) ∧ OkW (z.getD k winNone) ∧ b < w.heap.size
set_option maxRecDepth 100000 in
theorem outs_of {H : Type} {enc : TypeId × Value → H} {w : World} {base : Nat} {spare : Nat → Bool} {held : Bool} {a : Option Addr} {len cap : Nat} {d : DataW H} {pl : List MemPlace}
    (h : DataW.Trod enc Tryz.prog w base spare held 27 (.slice a len cap) d pl) : ∃ z : List (Win AggV), IsOuts w a len cap z := by
  obtain ⟨fuel, hf⟩ := h
  rcases Go.Deep.open_slice Tryz.underlying27 hf with ⟨hcs, _⟩ | ⟨x, l, c, m, n, D, Pl, hcs, hb, hl, hm, hmm, _, hel⟩
  · simp [Value.cells] at hcs
    obtain ⟨rfl, rfl, rfl⟩ := hcs
    exact ⟨[], rfl, by unfold maxLen; omega, fun k hk => absurd hk (Nat.not_lt_zero _)⟩
  · simp [Value.cells] at hcs
    obtain ⟨rfl, rfl, rfl⟩ := hcs
    rw [mcells38] at hel
    have hlm : len ≤ m := by rw [hmm]; split <;> omega
    have len10 : ∀ p : Win AggV, (outV p).length = 10 := fun p => rfl
    have hp : ∀ k, k < len → ∃ p : Win AggV, OkW p ∧ (∃ b o, x = ⟨b, o, none⟩ ∧ w.rangeAt b (o + k * 10) (outV p) ∧ b < w.heap.size) := fun k hk => by
      obtain ⟨cs', h1, h2⟩ := hel k (by omega)
      obtain ⟨p, hin, hst, hkl, rfl⟩ := out_in h2
      obtain ⟨_, _, hc⟩ := World.cells?_some h1
      obtain ⟨b, o, spot⟩ := x
      have hspot : spot = none := by
        obtain ⟨cs0, i1, i2⟩ := hel 0 (by omega)
        obtain ⟨p0, _, _, _, rfl⟩ := out_in i2
        obtain ⟨_, _, hc'⟩ := World.cells?_some i1
        have := World.cell?_spot (w := w) (hc' 0 (by omega))
        simpa [Addr.add] using this
      subst hspot
      have cell : ∀ j, j < 10 → w.cell? ⟨b, o + k * 10 + j, none⟩ = (outV p)[j]? := fun j hj => by
        have := hc j hj
        rwa [Go.Deep.add_add, Addr.add_lit, ← Nat.add_assoc] at this
      have k0 : w.cell? ⟨b, o + k * 10 + 0, none⟩ = some (.string ⟨p.key.toArray⟩) := cell 0 (by omega)
      refine ⟨p, ⟨hin, hkl, hst⟩, b, o, rfl, fun j u hu => ?_, World.block_lt_of_cell? _ _ k0⟩
      have hj : j < 10 := by rw [← len10 p]; exact (List.getElem?_eq_some_iff.1 hu).1
      rw [cell j hj, hu]
    have ih : Inhabited (Win AggV) := ⟨winNone⟩
    obtain ⟨f, hf⟩ := Go.Deep.choose_lt (p := fun k p => OkW p ∧ (∃ b o, x = ⟨b, o, none⟩ ∧ w.rangeAt b (o + k * 10) (outV p) ∧ b < w.heap.size)) hp
    refine ⟨(List.range len).map f, by simp, by omega, fun k hk => ?_⟩
    have e : ((List.range len).map f).getD k winNone = f k := by simp [List.getD_eq_getElem?_getD, hk]
    rw [e]
    obtain ⟨ok, b, o, rfl, hat, hlt⟩ := hf k hk
    exact ⟨b, o, rfl, hat, ok, hlt⟩
theorem range_below {w w' : World} {b o : Nat} {cs : List Value} (h : w.rangeAt b o cs) (hlt : b < w.heap.size) (hb : Below w.heap.size w w') : w'.rangeAt b o cs := fun j u hu =>
  ((Moved.of_below (F := fun _ => False) hb).cell (p := ⟨b, o + j, none⟩) hlt id).trans (h j u hu)
theorem IsOuts.below {w w' : World} {a : Option Addr} {len cap : Nat} {z : List (Win AggV)} (h : IsOuts w a len cap z) (hb : Below w.heap.size w w') : IsOuts w' a len cap z :=
  ⟨h.size_, h.max, fun k hk => by
    obtain ⟨b, o, e, hp, ok, hlt⟩ := h.at_ k hk
    exact ⟨b, o, e, range_below hp hlt hb, ok, Nat.lt_of_lt_of_le hlt hb.size⟩⟩
theorem IsOuts.ok {w : World} {a : Option Addr} {len cap : Nat} {z : List (Win AggV)} (h : IsOuts w a len cap z) : ∀ x ∈ z, OkW x := fun p hp => by
  obtain ⟨k, hk, rfl⟩ := List.mem_iff_getElem.1 hp
  obtain ⟨_, _, _, _, ok, _⟩ := h.at_ k (by rw [← h.size_]; exact hk)
  rw [List.getD_eq_getElem?_getD, List.getElem?_eq_getElem hk] at ok
  exact ok
theorem IsOuts.at {w : World} {a : Option Addr} {len cap : Nat} {z : List (Win AggV)} (h : IsOuts w a len cap z) {k : Nat} {x : Win AggV} (hx : z[k]? = some x) : ∃ b o, a = some ⟨b, o, none⟩ ∧ w.rangeAt b (o + k * 10) (outV x) ∧ b < w.heap.size := by
  obtain ⟨b, o, e, hp, _, hlt⟩ := h.at_ k (by rw [← h.size_]; exact (List.getElem?_eq_some_iff.1 hx).1)
  rw [List.getD_eq_getElem?_getD, hx] at hp
  exact ⟨b, o, e, hp, hlt⟩
/-- Too long a key. -/
def longW (p : Win AggV) : Bool := decide (100 < p.key.length)
/-- More than 60 windows, or a key of more than 100 bytes. -/
def tooGreatW (z : List (Win AggV)) : Bool := decide (60 < z.length) || z.any longW
theorem anyW_at {z : List (Win AggV)} {k : Nat} (hk : k < z.length) (h : longW (z.getD k winNone) = true) : z.any longW = true := by
  rw [List.getD_eq_getElem?_getD, List.getElem?_eq_getElem hk] at h
  exact List.any_eq_true.2 ⟨_, List.getElem_mem hk, h⟩
theorem anyW_none {z : List (Win AggV)} (h : ∀ k, k < z.length → longW (z.getD k winNone) = false) : z.any longW = false := by
  rw [List.any_eq_false]
  intro p hp
  obtain ⟨k, hk, rfl⟩ := List.mem_iff_getElem.1 hp
  have := h k hk
  rw [List.getD_eq_getElem?_getD, List.getElem?_eq_getElem hk] at this
  simpa using this
end Go.Proofs.YtigmhljaoicdbaaGreat

namespace Go.Proofs.YtigmhljaoicdbaaGreat
open Go.RowKit
set_option maxRecDepth 100000 in
set_option maxHeartbeats 8000000 in
theorem tofx_any {v : World} {a : Option Addr} {c : Nat} {o : List (Win AggV)} (m : Int) (hlay : IsOuts v a o.length c o) (hmost : o.length ≤ 1000) (hx : ∀ x ∈ o, x.agg.In ∧ okk x.key x.start) :
    Calls Tryz.prog 38 #[.int .i64 m, .slice a o.length c] v fun e v' => ∃ pt, e = .returned (.tuple #[.pointer pt, .int .i64 ((ofL m o).2 : Int)]) ∧ Below v.heap.size v v' ∧
      ((ofL m o).2 = 0 → ∃ p, pt = some ⟨p, 0, none⟩ ∧ HL v v' p (ofL m o).1 [] ∧ Mild (ofL m o).1.row) ∧ (¬ (ofL m o).2 = 0 → pt = none) := by
  have CR := hide (fun u => Sp.right_any m u)
  have LAY := hide hlay
  have HX := hide hx
  clear hlay hx
  cases hr : Sp.rightI m with
  | false =>
    have HO : Hid (ofL m o = (newL, 1)) := hide (by unfold ofL; rw [hr]; rfl)
    rw [hr] at CR
    clear hr
    go_enter Tryz.func38, Tryz.ntmps38
    go_wp2_with fail
    refine (unhide CR _).mono ?_
    rintro e v' ⟨rfl, hw⟩
    rw [hw]
    clear hw v'
    go_wp2_with fail
    go_ret2
    exact ⟨none, by rw [unhide HO]; rfl, Below.refl _ _, fun h => (by rw [unhide HO] at h; cases h), fun _ => rfl⟩
  | true =>
    have HO : Hid (ofL m o = (⟨m, (setAll m [] o).1⟩, (setAll m [] o).2)) := hide (by unfold ofL; rw [hr]; rfl)
    rw [unhide HO]
    rw [hr] at CR
    have CN := hide (tnew_any v)
    clear hr HO
    go_enter Tryz.func38, Tryz.ntmps38
    go_upto_region 3 with fail
    refine (unhide CR _).mono ?_
    rintro e v' ⟨rfl, hw⟩
    rw [hw]
    clear hw v' CR
    go_upto_region 4 with fail
    refine (unhide CN).mono ?_
    rintro e u1 ⟨p, F, rfl, hl, hbig, hb⟩
    obtain ⟨q, G, hf, rfl⟩ := hl
    have k1 : u1.cell? ⟨p, 1, none⟩ = some (.int .i64 0) := hf.row.cell 1 (Nat.lt_of_sub_pos (Nat.succ_pos _))
    have f1 : u1.frozen? ⟨p, 1, none⟩ = false := hf.row.free 1 (Nat.lt_of_sub_pos (Nat.succ_pos _))
    obtain ⟨u2, hu2⟩ : ∃ u2, u2 = u1.setCell ⟨p, 1, none⟩ (.int .i64 m) := ⟨_, rfl⟩
    have m2 : Moved (fun k => k = p) u1 u2 := by rw [hu2]; exact moved_set u1 p 1 _
    have START : Hid (OfS v u2 p q G ⟨m, []⟩) := hide ⟨⟨by rw [hu2]; exact hf.row.set 1 (Nat.lt_of_sub_pos (Nat.succ_pos _)) _, hf.st.keep m2 (fun i hi g => hf.off (hi ▸ g)), hf.off⟩, hbig, ((Moved.of_below (F := fun k => k = p) hb).trans m2 (fun _ hi => .inl hi)).below (fun i hi => hbig i (.inl hi)) (Nat.le_refl _)⟩
    have HU2 := hide hu2
    clear hf hbig hb m2 hu2 CN
    go_upto_region 5 with fail
    rw [← unhide HU2]
    clear HU2 k1 f1
    have ho0 : (0 : Int) ≤ (o.length : Int) := by omega
    go_wp2_with fail
    go_loopw [20] (fun i wr => ∃ (k : Nat) (r : List (Win AggV)), i = .int .i64 (k : Int) ∧ k ≤ o.length ∧ (∃ G, OfS v wr p q G ⟨m, r⟩) ∧ Mild r ∧ Hid (setAll m [] o = setAll m r (o.drop k))) (fun i _ => o.length - (intOf i).toNat)
    case atStart => exact ⟨0, [], rfl, Nat.zero_le _, ⟨G, unhide START⟩, mild_nil, hide (by rw [List.drop_zero])⟩
    case round =>
      obtain ⟨k, r, rfl, hk, hs, hmm, HA⟩ := hrel
      have HS := hide hs
      have HMM := hide hmm
      clear hs hmm START
      by_cases hlt : k < o.length
      · have g1 : (k : Int) < (o.length : Int) := by omega
        have hk0 : (0 : Int) ≤ (k : Int) := by omega
        have hwk : IntKind.i64.wrap ((k : Int) + 1) = (k : Int) + 1 := Go.IntWalk.i64_in _ (by omega)
        obtain ⟨x, hx⟩ : ∃ x, o[k]? = some x := ⟨_, List.getElem?_eq_getElem hlt⟩
        have HXX := hide (unhide HX x (List.mem_of_getElem? hx))
        have hdrop : o.drop k = x :: o.drop (k + 1) := by rw [List.drop_eq_getElem_cons hlt, (List.getElem?_eq_some_iff.1 hx).2]
        rw [hdrop] at HA
        obtain ⟨G1, hs⟩ := unhide HS
        obtain ⟨g, og, rfl, hra, _⟩ := ((unhide LAY).below hs.bel).at hx
        have HRA := hide hra
        clear hx hdrop hra HS
        obtain ⟨xk, xs, ⟨g0, g1', g2, g3, g4, g5, g6, g7⟩⟩ := x
        simp only [outV_eq] at HRA
        obtain ⟨w1, hw1⟩ : ∃ w1, w1 = wr.alloc (.cells #[.string ⟨xk.toArray⟩, .int .i64 xs, .int .i64 g0, .int .i64 g1', .int .i64 g2, .int .i64 g3, .int .i64 g4, .int .i64 g5, .int .i64 g6, .int .i64 g7] 52) := ⟨_, rfl⟩
        obtain ⟨b, hb⟩ : ∃ b, b = wr.heap.size := ⟨_, rfl⟩
        have S1 := hide (hs.below (by rw [hw1]; exact (Below.refl _ _).alloc (Nat.le_refl _) _) : OfS v w1 p q G1 ⟨m, r⟩)
        have R1 : Hid (RowAt w1 b [.string ⟨xk.toArray⟩, .int .i64 xs, .int .i64 g0, .int .i64 g1', .int .i64 g2, .int .i64 g3, .int .i64 g4, .int .i64 g5, .int .i64 g6, .int .i64 g7]) := hide (by rw [hw1, hb]; exact row_new _ _ _)
        have hnb : ¬ (b = p ∨ G1 b) := fun h => by
          rw [hb] at h
          rcases h with h | h
          · have := hs.line.row.lt; omega
          · have := hs.line.st.lt _ h; omega
        have HNB := hide hnb
        have HW1 := hide hw1
        have HBB := hide hb
        clear hs hw1 hb hnb
        have CO := hide (fun u => Sp.over_any xs m u)
        go_upto_region 8 with (refine wpList_load_on rfl 52 (.tmp 22) rfl g (og + k * 10) rfl [.string ⟨xk.toArray⟩, .int .i64 xs, .int .i64 g0, .int .i64 g1', .int .i64 g2, .int .i64 g3, .int .i64 g4, .int .i64 g5, .int .i64 g6, .int .i64 g7] _ (unhide HRA) Tryz.underlying52 rfl (by kernel_rfl) ?_)
        rw [← unhide HBB]
        try change Code.wp _ _ _ _ (wr.alloc (.cells #[.string ⟨xk.toArray⟩, .int .i64 xs, .int .i64 g0, .int .i64 g1', .int .i64 g2, .int .i64 g3, .int .i64 g4, .int .i64 g5, .int .i64 g6, .int .i64 g7] 52))
        rw [← unhide HW1]
        clear HRA
        have k1 : w1.cell? ⟨b, 1, none⟩ = some (.int .i64 xs) := (unhide R1).cell 1 (by simp)
        go_upto_region 9 with fail
        refine (unhide CO _).mono ?_
        rintro e v' ⟨rfl, hw⟩
        rw [hw]
        clear hw v' CO k1
        cases hov : Sp.overI xs m with
        | true =>
          have HE := hide ((unhide HA).trans (setAll_over hov))
          have BB := hide (unhide S1).bel
          clear HA hov S1
          go_wp2_with fail
          go_ret2
          exact ⟨none, by rw [unhide HE]; rfl, unhide BB, fun h => (by rw [unhide HE] at h; cases h), fun _ => rfl⟩
        | false =>
          have CS := hide (set_any ((unhide S1).line.st.keep ((Moved.refl (fun _ => False) w1).drew) (fun _ f => f.elim)) (unhide HMM).most ⟨xk, xs, ⟨g0, g1', g2, g3, g4, g5, g6, g7⟩⟩ (unhide HXX).1 (unhide HXX).2)
          simp only [outV_eq] at CS
          obtain ⟨CL, hCL⟩ : ∃ CL : World → Prop, CL = fun u => Moved G1 w1 u := ⟨_, rfl⟩
          have un : ∀ u, CL u → Moved G1 w1 u := fun u k => by rw [hCL] at k; exact k
          have TO : Hid (∀ u, Moved G1 w1 u → CL u) := hide fun u k => by rw [hCL]; exact k
          have base : CL w1.drew := unhide TO _ ((Moved.refl _ _).drew)
          have q0 : ∀ u : SW CL, u.w.cell? ⟨p, 0, none⟩ = some (.pointer (some ⟨q, 0, none⟩)) := fun u => ((unhide S1).line.row.keep (un _ u.ok) (unhide S1).line.off).cell 0 (Nat.succ_pos _)
          have RB : Hid (∀ u, (∃ y : SW CL, u = y.w) → u.rangeAt b 0 [.string ⟨xk.toArray⟩, .int .i64 xs, .int .i64 g0, .int .i64 g1', .int .i64 g2, .int .i64 g3, .int .i64 g4, .int .i64 g5, .int .i64 g6, .int .i64 g7]) := hide (by rintro u ⟨y, rfl⟩; exact ((unhide R1).keep (un _ y.ok) (fun g => unhide HNB (.inr g))).range)
          have HOV := hide hov
          clear hCL un hov
          go_upto_region 10 with fail
          refine wp_region_chain (S := CL) [true, true, true, true, true, false, false] [false, false, false, false, false, true, true] (by kernel_rfl) (by kernel_rfl) (by kernel_rfl) base ?_
          apply Exists.intro
          apply And.intro
          · intro u
            have n0 : Nonempty (SK CL u.w) := ⟨⟨u, rfl⟩⟩
            simp only [pickM]
            repeat (go_big_quiet_step (fail))
            refine wpQuiet_load_onx rfl 52 (.tmp 8) rfl b 0 rfl [.string ⟨xk.toArray⟩, .int .i64 xs, .int .i64 g0, .int .i64 g1', .int .i64 g2, .int .i64 g3, .int .i64 g4, .int .i64 g5, .int .i64 g6, .int .i64 g7] _ (fun y ⟨q1, hq⟩ => by rw [hq]; exact unhide RB _ ⟨q1.s, rfl⟩) Tryz.underlying52 rfl (by kernel_rfl) ?_
            go_simp
            exact wpQuiet_nil rfl
          · simp only [pickZ]
            refine chain_call 66 #[.pointer (some ⟨q, 0, none⟩), .agg #[.string ⟨xk.toArray⟩, .int .i64 xs, .int .i64 g0, .int .i64 g1', .int .i64 g2, .int .i64 g3, .int .i64 g4, .int .i64 g5, .int .i64 g6, .int .i64 g7]] rfl (by simp [go_sem]) ?_
            refine (unhide CS).mono ?_
            rintro e w2 ⟨rfl, hd⟩
            have hd' : Did w1 w2 q G1 (setS SO r ⟨xk, xs, ⟨g0, g1', g2, g3, g4, g5, g6, g7⟩⟩).1 := Did.trans (fun _ f => .inl f) ((Moved.refl _ w1).drew) hd
            refine ⟨_, rfl, unhide TO _ (by obtain ⟨_, _, _, mm⟩ := hd'; exact mm), ?_⟩
            have S2 := hide ((unhide S1).did hd')
            have CL2 := hide (unhide TO w2 (by obtain ⟨_, _, _, mm⟩ := hd'; exact mm))
            have HM2 := hide (mild_set (unhide HMM) (x := ⟨xk, xs, ⟨g0, g1', g2, g3, g4, g5, g6, g7⟩⟩) (unhide HXX).1)
            clear hd hd' CS q0 base
            by_cases h0 : (setS SO r ⟨xk, xs, ⟨g0, g1', g2, g3, g4, g5, g6, g7⟩⟩).2 = 0
            · have HA2 := hide ((unhide HA).trans (setAll_set (unhide HOV) h0))
              rw [h0]
              clear HA h0
              go_simp
              refine chain_step (.int .i64 0) w2 rfl (by simp [go_sem]) (unhide CL2) ?_
              simp only [chainM]
              go_simp
              go_wp2_with fail
              exact ⟨⟨k + 1, _, rfl, by omega, unhide S2, unhide HM2, HA2⟩, by simp [intOf]; omega⟩
            · have HE := hide ((unhide HA).trans (setAll_no (unhide HOV) h0))
              have hz : ¬ (((setS SO r ⟨xk, xs, ⟨g0, g1', g2, g3, g4, g5, g6, g7⟩⟩).2 : Nat) : Int) = 0 := by omega
              have HZ := hide h0
              obtain ⟨ec, hec⟩ : ∃ ec : Int, ec = (((setS SO r ⟨xk, xs, ⟨g0, g1', g2, g3, g4, g5, g6, g7⟩⟩).2 : Nat) : Int) := ⟨_, rfl⟩
              rw [← hec] at hz ⊢
              have HEC := hide hec
              clear HA h0 hec
              go_simp
              refine chain_step (.int .i64 ec) w2 rfl (by simp [go_sem]) (unhide CL2) ?_
              simp only [chainM]
              go_simp
              go_wp2_with fail
              go_ret2
              obtain ⟨_, s2⟩ := unhide S2
              exact ⟨none, by rw [unhide HE, unhide HEC]; rfl, s2.bel, fun h => (by rw [unhide HE] at h; exact absurd h (unhide HZ)), fun _ => rfl⟩
      · have g1 : ¬ (k : Int) < (o.length : Int) := by omega
        have hke : k = o.length := by omega
        subst hke
        obtain ⟨G1, hs⟩ := unhide HS
        have HE : Hid (setAll m [] o = (r, 0)) := hide (by rw [unhide HA, List.drop_length]; rfl)
        have S1 := hide hs
        clear hs HS HA
        go_wp2_with fail
        go_ret2
        exact ⟨_, by rw [unhide HE]; rfl, (unhide S1).bel, fun _ => ⟨p, rfl, by rw [unhide HE]; exact (unhide S1).hl, by rw [unhide HE]; exact unhide HMM⟩, fun h => (by rw [unhide HE] at h; exact absurd rfl h)⟩
end Go.Proofs.YtigmhljaoicdbaaGreat

namespace Go.Proofs.YtigmhljaoicdbaaGreat
section
variable {P : Program} {ops : Array Oper} {md : Region.Mode}
/-- Does number j wait for number i, by n steps or fewer? -/
def depB (md : Region.Mode) (ops : Array Oper) : Nat → Nat → Nat → Bool
  | 0, _, _ => false
  | n + 1, j, i => match ops[j]? with
    | some o => o.after.any fun e => Region.binds md e && (e.on == i || depB md ops n e.on i)
    | none => false
/-- What came up came up behind all for which it waits. -/
def Shut (md : Region.Mode) (ops : Array Oper) (listed : Array Bool) : Prop := ∀ k o, ops[k]? = some o → listed.getD k false = true → ∀ e ∈ o.after, Region.binds md e = true → listed.getD e.on false = true
theorem shut_dep {listed : Array Bool} {i : Nat} (hs : Shut md ops listed) (hi : listed.getD i false = false) : ∀ (n j : Nat), (∀ o, ops[j]? = some o → ∀ e ∈ o.after, Region.binds md e = true → listed.getD e.on false = true) → depB md ops n j i = false
  | 0, _, _ => rfl
  | n + 1, j, hj => by
    unfold depB
    cases ho : ops[j]? with
    | none => rfl
    | some o =>
      simp only
      refine Bool.eq_false_iff.2 fun h => ?_
      obtain ⟨k, hk, he⟩ := Array.any_eq_true.1 h
      have hm : o.after[k] ∈ o.after := Array.getElem_mem hk
      generalize o.after[k] = e at he hm
      simp only [Bool.and_eq_true, Bool.or_eq_true, beq_iff_eq] at he
      obtain ⟨hb, hh⟩ := he
      have hl := hj o ho e hm hb
      rcases hh with rfl | hd
      · rw [hi] at hl; cases hl
      · rw [shut_dep hs hi n e.on (fun o' ho' => hs e.on o' ho' hl)] at hd; cases hd
theorem shut_set {listed : Array Bool} {j : Nat} (hs : Shut md ops listed) (hj : j ∈ Region.ready md ops listed) : Shut md ops (listed.setIfInBounds j true) := fun k o hk hl e he hb => by
  obtain ⟨_, oj, hoj, hall⟩ := mem_ready.1 hj
  by_cases e1 : j = k
  · subst e1
    obtain rfl : o = oj := Option.some.inj (hk.symm.trans hoj)
    exact getD_set_true (hall e he hb)
  · rw [getD_set_ne false e1] at hl
    exact getD_set_true (hs k o hk hl e he hb)
/-- Whatever order is picked from here on; behind those that nb names S holds. -/
def wpT (P : Program) (md : Region.Mode) (ops : Array Oper) (S : World → Prop) (nb : Nat → Bool) (K : Act → World → Prop) : Nat → Array Bool → Act → World → Prop
  | 0, listed, a, w => Region.ready md ops listed = [] ∧ K a w
  | fuel + 1, listed, a, w => (Region.ready md ops listed = [] → K a w) ∧ ∀ i ∈ Region.ready md ops listed, sOp P ops (fun w' => nb i = true → S w') i (wpT P md ops S nb K fuel (listed.setIfInBounds i true)) a w
theorem wpAny_of_T {S : World → Prop} {nb : Nat → Bool} {K : Act → World → Prop} {Q : Exit → Act → World → Prop} (hQ : ∀ a w, K a w → Q .normal a w) : ∀ (fuel : Nat) (listed : Array Bool) (a : Act) (w : World), wpT P md ops S nb K fuel listed a w → wpAny P md ops Q fuel listed a w
  | 0, _, _, _, h => ⟨h.1, hQ _ _ h.2⟩
  | fuel + 1, listed, a, w, h => ⟨fun h0 => hQ _ _ (h.1 h0), fun i hi => by
      have hh := h.2 i hi
      unfold sOp at hh
      unfold wpOp
      split
      · next ho => simp only [ho] at hh; exact wpAny_of_T hQ fuel _ _ _ hh
      · next o ho =>
        simp only [ho] at hh
        split
        · next hw => simp only [hw, if_true] at hh; exact .inl (goes_wp (goes_mono (fun a' w' h' => wpAny_of_T hQ fuel _ a' w' h'.2) hh))
        · next hw => simp only [hw] at hh; exact wpAny_of_T hQ fuel _ _ _ hh⟩
/-- An operation that may come up now, and yields its value in every world of T, may be taken first: if T is kept by all that don't wait for it. -/
theorem wpT_first {S T : World → Prop} {nb : Nat → Bool} {K : Act → World → Prop} {i n : Nat} {oi : Oper} {v : Value} (hi : ops[i]? = some oi) (hsel : ∀ (j : Nat) (o : Oper) cs b, ops[j]? = some o → o.op ≠ .select cs b) (hTS : ∀ w, T w → nb i = true → S w) :
    ∀ (fuel : Nat) (listed : Array Bool) (a : Act) (w : World), Shut md ops listed →
      (∀ j oj, ops[j]? = some oj → j ≠ i → listed.getD j true = false → depB md ops n j i = false → oi.apart ops oj = true ∧ ∀ w, (nb j = true → S w) → T w) →
      i ∈ Region.ready md ops listed → YieldsS P ops T oi v a → T w →
      wpT P md ops S nb K fuel (listed.setIfInBounds i true) (a.put oi.dst v) w → wpT P md ops S nb K (fuel + 1) listed a w := by
  intro fuel
  induction fuel with
  | zero =>
    intro listed a w _ _ hr hy hT H
    refine ⟨fun h => (by rw [h] at hr; cases hr), fun j hj => ?_⟩
    by_cases hji : j = i
    · subst hji; exact hy.sOp hi hT (hTS w hT) H
    · have := ready_mono hj hji
      rw [H.1] at this
      cases this
  | succ fuel ih =>
    intro listed a w hsh hfree hr hy hT H
    refine ⟨fun h => (by rw [h] at hr; cases hr), fun j hj => ?_⟩
    by_cases hji : j = i
    · subst hji; exact hy.sOp hi hT (hTS w hT) H
    · have h1 := H.2 j (ready_mono hj hji)
      obtain ⟨hjun, oj, hoj, hall⟩ := mem_ready.1 hj
      have hiun : listed.getD i false = false := by
        have h0 := (mem_ready.1 hr).1
        rcases Nat.lt_or_ge i listed.size with h' | h'
        · simp [h'] at h0 ⊢; exact h0
        · simp [Array.getElem?_eq_none h']
      have hdep : depB md ops n j i = false := shut_dep hsh hiun n j (fun o ho e he hb => by
        obtain rfl : o = oj := Option.some.inj (ho.symm.trans hoj)
        exact hall e he hb)
      obtain ⟨hap, hTj⟩ := hfree j oj hoj hji hjun hdep
      have h2 := sOp_put hoj hap (fun cs b => hsel i oi cs b hi) (fun cs b => hsel j oj cs b hoj) hy h1
      have hfree' : ∀ k ok, ops[k]? = some ok → k ≠ i → (listed.setIfInBounds j true).getD k true = false → depB md ops n k i = false → oi.apart ops ok = true ∧ ∀ w, (nb k = true → S w) → T w := fun k ok hk hki hun hno => by
        refine hfree k ok hk hki ?_ hno
        by_cases hjk : j = k
        · subst hjk; exact hjun
        · rw [getD_set_ne true hjk] at hun; exact hun
      have step : ∀ a' w', (nb j = true → S w') → (YieldsS P ops T oi v a' ∧ wpT P md ops S nb K fuel ((listed.setIfInBounds i true).setIfInBounds j true) (a'.put oi.dst v) w') → wpT P md ops S nb K (fuel + 1) (listed.setIfInBounds j true) a' w' := fun a' w' hS' h3 =>
        ih (listed.setIfInBounds j true) a' w' (shut_set hsh hj) hfree' (ready_mono hr (Ne.symm hji)) h3.1 (hTj w' hS') (by rw [Array.setIfInBounds_comm _ _ hji]; exact h3.2)
      have stay : ∀ a', (YieldsS P ops T oi v a' ∧ wpT P md ops S nb K fuel ((listed.setIfInBounds i true).setIfInBounds j true) (a'.put oi.dst v) w) → wpT P md ops S nb K (fuel + 1) (listed.setIfInBounds j true) a' w := fun a' h3 =>
        ih (listed.setIfInBounds j true) a' w (shut_set hsh hj) hfree' (ready_mono hr (Ne.symm hji)) h3.1 hT (by rw [Array.setIfInBounds_comm _ _ hji]; exact h3.2)
      unfold sOp at h2 ⊢
      simp only [hoj] at h2 ⊢
      split
      · next hw => simp only [hw, if_true] at h2; exact goes_mono (fun a' w' ⟨hS', h3⟩ => ⟨hS', step a' w' hS' h3⟩) h2
      · next hw => simp only [hw] at h2; exact stay _ h2
/-- .. told by a look. -/
def freeT (md : Region.Mode) (ops : Array Oper) (nb : Nat → Bool) (all : Bool) (n : Nat) (listed : Array Bool) (i : Nat) (oi : Oper) : Bool :=
  (List.range ops.size).all fun j => j == i || listed.getD j true || depB md ops n j i || (match ops[j]? with
    | some oj => oi.apart ops oj && (all || nb j)
    | none => true)
theorem freeT_of {nb : Nat → Bool} {all : Bool} {n : Nat} {listed : Array Bool} {i : Nat} {oi : Oper} (h : freeT md ops nb all n listed i oi = true) :
    ∀ j oj, ops[j]? = some oj → j ≠ i → listed.getD j true = false → depB md ops n j i = false → oi.apart ops oj = true ∧ (all = true ∨ nb j = true) := by
  intro j oj hj hne hun hno
  have hlt : j < ops.size := (Array.getElem?_eq_some_iff.1 hj).1
  have hb := List.all_eq_true.1 h j (List.mem_range.2 hlt)
  rw [hj, hun, hno] at hb
  simpa [hne] using hb
/-- The steps: those ahead (2), those that yield whatever the world is (1), movers (0). -/
def preZ (md : Region.Mode) (ops : Array Oper) (nb : Nat → Bool) (n : Nat) : List (Nat × Nat × Oper) → Array Bool → Bool
  | [], listed => Region.ready md ops listed == []
  | (2, z) :: Z, listed => (Region.ready md ops listed).contains z.1 && freeT md ops nb false n listed z.1 z.2 && preZ md ops nb n Z (listed.setIfInBounds z.1 true)
  | (1, z) :: Z, listed => (Region.ready md ops listed).contains z.1 && freeT md ops nb true n listed z.1 z.2 && !nb z.1 && preZ md ops nb n Z (listed.setIfInBounds z.1 true)
  | (_, z) :: Z, listed => (Region.ready md ops listed == [z.1]) && !nb z.1 && preZ md ops nb n Z (listed.setIfInBounds z.1 true)
def preM (P : Program) (ops : Array Oper) (S : World → Prop) (K : Act → World → Prop) : List (Nat × Nat × Oper) → Act → World → Prop
  | [], a, w => K a w
  | (2, z) :: l, a, w => S w ∧ ∃ v, YieldsS P ops S z.2 v a ∧ preM P ops S K l (a.put z.2.dst v) w
  | (1, z) :: l, a, w => ∃ v, YieldsS P ops (fun _ => True) z.2 v a ∧ preM P ops S K l (a.put z.2.dst v) w
  | (_, z) :: l, a, w => Region.wanted z.2 (yielded ops a.tmps) = true ∧ goes P z.2 a w (fun a' w' => preM P ops S K l a' w')
theorem mover_T {S : World → Prop} {nb : Nat → Bool} {K : Act → World → Prop} {z : Nat × Oper} {fuel : Nat} {listed : Array Bool} {a : Act} {w : World} {R : Act → World → Prop} (hz : ops[z.1]? = some z.2) (hr : Region.ready md ops listed = [z.1]) (hn : nb z.1 = false)
    (h : Region.wanted z.2 (yielded ops a.tmps) = true ∧ goes P z.2 a w R) (hR : ∀ a' w', R a' w' → wpT P md ops S nb K fuel (listed.setIfInBounds z.1 true) a' w') : wpT P md ops S nb K (fuel + 1) listed a w := by
  refine ⟨fun h0 => (by rw [hr] at h0; cases h0), fun i hi => ?_⟩
  rw [hr, List.mem_singleton] at hi
  subst hi
  unfold sOp
  simp only [hz]
  rw [if_pos h.1]
  exact goes_mono (fun a' w' h1 => ⟨fun hb => (by rw [hn] at hb; cases hb), hR a' w' h1⟩) h.2
theorem wpT_pre {S : World → Prop} {nb : Nat → Bool} {n : Nat} {K : Act → World → Prop} (hs : Region.noSelect ops = true) : ∀ (Z : List (Nat × Nat × Oper)) (listed : Array Bool) (a : Act) (w : World), Shut md ops listed → (∀ z ∈ Z, ops[z.2.1]? = some z.2.2) → preZ md ops nb n Z listed = true → preM P ops S K Z a w → wpT P md ops S nb K Z.length listed a w
  | [], _, _, _, _, _, hB, h => ⟨by simpa [preZ] using hB, h⟩
  | (2, z) :: Z, listed, a, w, hsh, hz, hB, h => by
    simp only [preZ, Bool.and_eq_true] at hB
    obtain ⟨⟨hr, hf⟩, hB'⟩ := hB
    obtain ⟨hS, v, hy, hK⟩ := h
    have hr' : z.1 ∈ Region.ready md ops listed := by simpa using hr
    exact wpT_first (T := S) (n := n) (hz (2, z) List.mem_cons_self) (Region.noSelect_spec hs) (fun _ h _ => h) _ listed a w hsh (fun j oj h1 h2 h3 h4 => ⟨(freeT_of hf j oj h1 h2 h3 h4).1, fun w hw => hw ((freeT_of hf j oj h1 h2 h3 h4).2.resolve_left (by simp))⟩) hr' hy hS
      (wpT_pre hs Z _ _ _ (shut_set hsh hr') (fun y hy => hz y (List.mem_cons_of_mem _ hy)) hB' hK)
  | (1, z) :: Z, listed, a, w, hsh, hz, hB, h => by
    simp only [preZ, Bool.and_eq_true, Bool.not_eq_true'] at hB
    obtain ⟨⟨⟨hr, hf⟩, hn⟩, hB'⟩ := hB
    obtain ⟨v, hy, hK⟩ := h
    have hr' : z.1 ∈ Region.ready md ops listed := by simpa using hr
    exact wpT_first (T := fun _ => True) (n := n) (hz (1, z) List.mem_cons_self) (Region.noSelect_spec hs) (fun _ _ hb => (by rw [hn] at hb; cases hb)) _ listed a w hsh (fun j oj h1 h2 h3 h4 => ⟨(freeT_of hf j oj h1 h2 h3 h4).1, fun _ _ => trivial⟩) hr' hy trivial
      (wpT_pre hs Z _ _ _ (shut_set hsh hr') (fun y hy => hz y (List.mem_cons_of_mem _ hy)) hB' hK)
  | (0, z) :: Z, listed, a, w, hsh, hz, hB, h => by
    simp only [preZ, Bool.and_eq_true, beq_iff_eq, Bool.not_eq_true'] at hB
    exact mover_T (hz (0, z) List.mem_cons_self) hB.1.1 hB.1.2 h (fun a' w' h1 => wpT_pre hs Z _ a' w' (shut_set hsh (by rw [hB.1.1]; exact List.mem_singleton.2 rfl)) (fun y hy => hz y (List.mem_cons_of_mem _ hy)) hB.2 h1)
  | (k + 3, z) :: Z, listed, a, w, hsh, hz, hB, h => by
    simp only [preZ, Bool.and_eq_true, beq_iff_eq, Bool.not_eq_true'] at hB
    exact mover_T (hz (k + 3, z) List.mem_cons_self) hB.1.1 hB.1.2 h (fun a' w' h1 => wpT_pre hs Z _ a' w' (shut_set hsh (by rw [hB.1.1]; exact List.mem_singleton.2 rfl)) (fun y hy => hz y (List.mem_cons_of_mem _ hy)) hB.2 h1)
theorem preM_quiet {S : World → Prop} {K : Act → World → Prop} {Q : Act → Prop} {rest : List (Nat × Nat × Oper)} {w : World} (hS : S w) (hQ : ∀ a, Q a → preM P ops S K rest a w) :
    ∀ (Z : List (Nat × Oper)) (a : Act), allS P ops S Q (Z.map Prod.snd) a → preM P ops S K (Z.map (fun z => (2, z)) ++ rest) a w
  | [], a, h => hQ a h
  | _ :: Z, _, h => by
    obtain ⟨v, hy, hK⟩ := h
    exact ⟨hS, v, hy, preM_quiet hS hQ Z _ hK⟩
theorem preM_yields {S : World → Prop} {K : Act → World → Prop} {j : Nat} {o : Oper} {l : List (Nat × Nat × Oper)} {a : Act} {w : World} (v : Value) (hw : Region.wanted o (yielded ops a.tmps) = true) (hr : ∀ w, (execOp a.eval o).run P w = .ok (.value v) w)
    (h : preM P ops S K l (a.put o.dst v) w) : preM P ops S K ((1, j, o) :: l) a w :=
  ⟨v, .inl ⟨hw, fun w _ => by unfold Oper.quietAt; rw [hr w]; exact ⟨rfl, rfl⟩⟩, h⟩
theorem preM_call {S : World → Prop} {K : Act → World → Prop} {j : Nat} {o : Oper} {l : List (Nat × Nat × Oper)} {a : Act} {w : World} (f : FuncId) (args : Array Value) (hw : Region.wanted o (yielded ops a.tmps) = true) (hr : (execOp a.eval o).run P w = .ok (.enter f args) w)
    (h : Calls P f args w fun e w' => ∃ v, e = .returned v ∧ preM P ops S K l (a.put o.dst v) w') : preM P ops S K ((0, j, o) :: l) a w := by
  refine ⟨hw, ?_⟩
  unfold goes
  rw [hr]
  exact h
theorem preM_skip {S : World → Prop} {K : Act → World → Prop} {j : Nat} {o : Oper} {l : List (Nat × Nat × Oper)} {a : Act} {w : World} (w' : World) (hw : Region.wanted o (yielded ops a.tmps) = true) (hr : (execOp a.eval o).run P w = .ok .skip w')
    (h : preM P ops S K l (a.put o.dst undef) w') : preM P ops S K ((0, j, o) :: l) a w := by
  refine ⟨hw, ?_⟩
  unfold goes
  rw [hr]
  exact h
theorem preM_value {S : World → Prop} {K : Act → World → Prop} {j : Nat} {o : Oper} {l : List (Nat × Nat × Oper)} {a : Act} {w : World} (v : Value) (w' : World) (hw : Region.wanted o (yielded ops a.tmps) = true) (hr : (execOp a.eval o).run P w = .ok (.value v) w')
    (h : preM P ops S K l (a.put o.dst v) w') : preM P ops S K ((0, j, o) :: l) a w := by
  refine ⟨hw, ?_⟩
  unfold goes
  rw [hr]
  exact h
/-- May it be walked so? m1: those ahead; t: the rest in its order, 1: yields, 0: a mover. -/
def preB (os : List Oper) (m1 : List Bool) (t : List (Nat × Nat)) (n : Nat) : Bool :=
  Region.noSelect os.toArray && decide ((pickZ m1 os 0).length + t.length = os.length) && t.all (fun x => (os[x.2]?).isSome) &&
    preZ .any os.toArray (fun j => m1.getD j false) n ((pickZ m1 os 0).map (fun z => (2, z)) ++ t.map (fun x => (x.1, x.2, os.getD x.2 default))) (Array.replicate os.length false)
theorem wp_region_pre {S : World → Prop} {os : List Oper} {id : Nat} {Q : Exit → Act → World → Prop} {a : Act} {w : World} (m1 : List Bool) (t : List (Nat × Nat)) (n : Nat) (hm : P.follows .mixedOrders = true) (hB : preB os m1 t n = true) (hA : apartB (pickM m1 os) a.tmps.size = true) (hS : S w.drew)
    (h : ∃ A, (∀ p : SW S, wpQuiet P os.toArray (fun w' => ∃ q : SK S p.w, w' = q.s.w) (fun a' => a' = A) (pickM m1 os) a) ∧
      preM P os.toArray S (fun a' w' => Q .normal a' w') (t.map (fun x => (x.1, x.2, os.getD x.2 default))) A w.drew) : (Code.region id os.toArray true).wp P Q a w := by
  obtain ⟨A, hq, hc⟩ := h
  simp only [preB, Bool.and_eq_true, decide_eq_true_eq, List.all_eq_true] at hB
  obtain ⟨⟨⟨hs, hlen⟩, hin⟩, hZ⟩ := hB
  refine wp_region_any hm (wpAny_of_T (S := S) (nb := fun j => m1.getD j false) (K := fun a' w' => Q .normal a' w') (fun _ _ h => h) _ _ _ _ ?_)
  have hall : ∀ z ∈ (pickZ m1 os 0).map (fun z => ((2 : Nat), z)) ++ t.map (fun x => (x.1, x.2, os.getD x.2 default)), os.toArray[z.2.1]? = some z.2.2 := by
    intro z hzm
    rcases List.mem_append.1 hzm with h1 | h1
    · obtain ⟨y, hy, rfl⟩ := List.mem_map.1 h1
      rw [List.getElem?_toArray]; simpa using (pickZ_mem m1 os 0 y hy).2
    · obtain ⟨x, hx, rfl⟩ := List.mem_map.1 h1
      have := hin x hx
      rw [List.getElem?_toArray]
      obtain ⟨o, ho⟩ := Option.isSome_iff_exists.1 this
      simp [ho]
  have hsh : Shut .any os.toArray (Array.replicate os.length false) := fun k o _ hl => by
    simp [Array.getElem?_replicate] at hl
    split at hl <;> simp at hl
  have key := wpT_pre (md := .any) (S := S) (P := P) (nb := fun j => m1.getD j false) (n := n) (K := fun a' w' => Q .normal a' w') hs _ (Array.replicate os.length false) a w.drew hsh hall hZ (by
    refine preM_quiet (Q := fun a' => a' = A) hS (fun a' ha => ?_) _ a (by rw [pickZ_snd]; exact allS_of ⟨_, hS⟩ _ _ hA hq)
    rw [show a' = A from ha]
    exact hc)
  have hl : ((pickZ m1 os 0).map (fun z => ((2 : Nat), z)) ++ t.map (fun x => (x.1, x.2, os.getD x.2 default))).length = os.length := by
    simp only [List.length_append, List.length_map]; exact hlen
  rw [hl] at key
  simpa using key
end
end Go.Proofs.YtigmhljaoicdbaaGreat

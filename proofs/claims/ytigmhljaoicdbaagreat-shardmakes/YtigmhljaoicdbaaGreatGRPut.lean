/- The document's own Put. Conditions: the windows are a store's; the value is 64 bits wide. -/
import Derived.Test.YtigmhljaoicdbaaGreatGShIns
import Derived.Test.YtigmhljaoicdbaaGreatRefPut
import Derived.Test.YtigmhljaoicdbaaGreatGEqW
namespace Go.Proofs.YtigmhljaoicdbaaGreat
open Go.RowKit
theorem RowAt.part {w : World} {B : Nat} {p q : Value} {old vs : List Value} (h : RowAt w B (p :: q :: old)) (hl : old.length = vs.length) : RowAt (w.setCells B 2 vs) B (p :: q :: vs) := by
  refine ⟨Nat.lt_of_lt_of_le h.lt (setCells_moved w B 2 vs).size, fun i hi => ?_, fun i hi => ?_⟩
  · match i with
    | 0 => exact (World.cell?_setCells_out B vs 2 w ⟨B, 0, none⟩ (fun _ _ => .inl (by show 0 < 2; omega))).trans (h.cell 0 (Nat.succ_pos _))
    | 1 => exact (World.cell?_setCells_out B vs 2 w ⟨B, 1, none⟩ (fun _ _ => .inl (by show 1 < 2; omega))).trans (h.cell 1 (Nat.succ_lt_succ (Nat.succ_pos _)))
    | j + 2 =>
      have hj : j < vs.length := by simpa using hi
      have ht : w.there B 2 vs.length := fun i hi => by
        have h1 : i + 2 < (p :: q :: old).length := by simp; omega
        have := h.cell (i + 2) h1
        rw [Nat.add_comm 2 i]
        exact ⟨by rw [this]; rfl, h.free (i + 2) h1⟩
      have := World.rangeAt_setCells_same w B 2 vs ht j _ (List.getElem?_eq_getElem hj)
      rw [Nat.add_comm 2 j] at this
      rw [this]
      simp [List.getD_eq_getElem?_getD, hj]
  · rw [World.frozen?_setCells]
    exact h.free i (by simp at hi ⊢; omega)
theorem ahead_key {x y z : Win AggV} (h1 : y.key = x.key) (h2 : y.start = x.start) : ahead z y = ahead z x ∧ ahead y z = ahead x z := by unfold ahead; rw [h1, h2]; exact ⟨rfl, rfl⟩
theorem pos_key {x y : Win AggV} (h1 : y.key = x.key) (h2 : y.start = x.start) : ∀ {l : List (Win AggV)}, pos y l = pos x l
  | [] => rfl
  | z :: l => by rw [pos, pos, (ahead_key h1 h2).1, pos_key h1 h2]
theorem opens_key {x y : Win AggV} (h1 : y.key = x.key) (h2 : y.start = x.start) : ∀ {l : List (Win AggV)}, opens y l = opens x l
  | [] => rfl
  | z :: l => by rw [opens, opens, (ahead_key h1 h2).1, (ahead_key h1 h2).2, opens_key h1 h2]
/-- What Put's variables hold. -/
structure S4 (w : World) (H : Nat) (s : Value) (cs : List Value) (v : World) : Prop where
  r0 : RowAt v H [s]
  r1 : RowAt v (H + 1) [.slice none 0 0]
  r2 : RowAt v (H + 1 + 1) cs
  bel : Below w.heap.size w v
theorem S4.below {w v v' : World} {H : Nat} {s : Value} {cs : List Value} (h : S4 w H s cs v) (hb : Below v.heap.size v v') : S4 w H s cs v' :=
  ⟨h.r0.below hb, h.r1.below hb, h.r2.below hb, h.bel.trans (hb.mono h.bel.size)⟩
structure S20 (w : World) (H : Nat) (s : Value) (v : World) : Prop where
  r0 : RowAt v H [s]
  r1 : RowAt v (H + 1) [.slice none 0 0]
  bel : Below w.heap.size w v
theorem S20.put {w v : World} {H : Nat} {s : Value} (h : S20 w H s v) (hH : H = w.heap.size) (o : Value) : ∃ wf, v.setCells (H + 1) 0 [o] = wf ∧ RowAt wf (H + 1) [o] ∧ Below w.heap.size w wf := by
  refine ⟨_, rfl, h.r1.put [o] rfl, ?_⟩
  have m := setCells_moved v (H + 1) 0 [o]
  exact ((Moved.of_below (F := fun j => j = H + 1) h.bel).trans m (fun _ hi => .inl hi)).below (fun i hi => by omega) (Nat.le_refl _)
theorem there_part {w : World} {B : Nat} {p q : Value} {old : List Value} (h : RowAt w B (p :: q :: old)) : w.there B 2 old.length := fun i hi => by
  have h1 : i + 2 < (p :: q :: old).length := by simp; omega
  have := h.cell (i + 2) h1
  rw [Nat.add_comm 2 i]
  exact ⟨by rw [this]; rfl, h.free (i + 2) h1⟩
theorem S4.part {w v : World} {H : Nat} {s p q : Value} {old : List Value} (h : S4 w H s (p :: q :: old) v) (hH : H = w.heap.size) (vs : List Value) (hl : old.length = vs.length) : ∃ wf, v.setCells (H + 1 + 1) 2 vs = wf ∧ S4 w H s (p :: q :: vs) wf := by
  have m := setCells_moved v (H + 1 + 1) 2 vs
  exact ⟨_, rfl, h.r0.keep m (by omega), h.r1.keep m (by omega), h.r2.part hl, ((Moved.of_below (F := fun j => j = H + 1 + 1) h.bel).trans m (fun _ hi => .inl hi)).below (fun i hi => by omega) (Nat.le_refl _)⟩
theorem S4.low {w v : World} {H : Nat} {s : Value} {cs : List Value} (h : S4 w H s cs v) : S20 w H s v := ⟨h.r0, h.r1, h.bel⟩
set_option maxRecDepth 100000 in
set_option maxHeartbeats 4000000 in
theorem rput_any {w : World} {B : Nat} {a : Option Addr} {c : Nat} {l : List (Win AggV)} (hR : OutK.Row w B a c l) (hB : B ≤ w.heap.size) (hg : Good SO l) (hm : ∀ x ∈ l, x.agg.In) (k : List UInt8) (at_ n : Int) (hn : i64 n) :
    Calls Tryz.prog 62 #[.agg #[.slice a l.length c], .string ⟨k.toArray⟩, .int .i64 at_, .int .i64 n] w fun e w' => ∃ a' c', e = .returned (.tuple #[.agg #[.slice a' (putS SO l k at_ n).1.length c'], .int .i64 ((putS SO l k at_ n).2 : Int)]) ∧ OutK.Row w' B a' c' (putS SO l k at_ n).1 ∧ (∀ j, (Value.slice a' (putS SO l k at_ n).1.length c').ownBlock = some j → (Value.slice a l.length c).ownBlock = some j ∨ w.heap.size ≤ j) ∧ Below w.heap.size w w' := by
  obtain ⟨W, hW⟩ : ∃ W, W = (w.alloc (.cells #[.slice a l.length c] 29)).alloc (.cells #[.slice none 0 0] 29) := ⟨_, rfl⟩
  obtain ⟨H, hH⟩ : ∃ H, H = w.heap.size := ⟨_, rfl⟩
  have T0 : RowAt W H [.slice a l.length c] := by rw [hW, hH]; exact row_old (row_new _ _ _) _
  have T1 : RowAt W (H + 1) [.slice none 0 0] := by rw [hW, hH]; exact row_new2 _ _ _ _ _
  have bW : Below w.heap.size w W := by rw [hW]; exact ((Below.refl _ _).alloc (Nat.le_refl _) _).alloc (by simp) _
  have BL := hide (⟨T0, T1, bW⟩ : S20 w H (.slice a l.length c) W)
  have HSZ : Hid (W.heap.size = H + 1 + 1) := hide (by rw [hW, hH]; simp)
  have HW := hide hW
  have HH := hide hH
  have HRW := hide hR
  have HBB := hide hB
  have HG := hide hg
  have HIN := hide hm
  have CK := hide (fun v => rkey_any k v)
  have CR := hide (fun v => Sp.rright_any at_ v)
  have CS := hide (fun v => Sp.rstart_any at_ v)
  clear hW hH hR hB hg hm bW T0 T1
  by_cases hk : keyOk k = true
  rotate_left
  · have RS := hide (put_no (O := SO) (l := l) (k := k) (a := at_) (v := n) (fun h => hk h.1))
    rw [Bool.eq_false_iff.2 hk] at CK
    go_enter Tryz.func62, Tryz.ntmps62
    go_upto_region 1 with fail
    rw [← unhide HH]
    try change Code.wp _ _ _ _ ((w.alloc (.cells #[.slice a l.length c] 29)).alloc (.cells #[.slice none 0 0] 29))
    rw [← unhide HW]
    go_upto_region 2 with fail
    refine (unhide CK _).mono ?_
    rintro e v' ⟨rfl, hw⟩
    rw [hw]
    clear hw v'
    go_upto_region 2 with fail
    have hrg := (unhide BL).r0.range
    have hth := (unhide BL).r1.there
    go_step
    refine wpList_load_mid rfl 29 (.tmp 4) rfl H 0 rfl [.slice a l.length c] _ hrg Tryz.underlying29 rfl (by kernel_rfl) ?_
    refine wpList_store_mid rfl 29 (.tmp 8) (.tmp 21) rfl (H + 1) 0 #[.slice a l.length c] rfl rfl hth (by kernel_rfl) (by simp [Value.oneCell']) ?_
    clear hrg hth
    obtain ⟨wf, hwf, hfr, hbf⟩ := (unhide BL).put (unhide HH) (.slice a l.length c)
    change wpList _ _ _ _ _ (World.setCells _ (H + 1) 0 [.slice a l.length c])
    rw [hwf]
    have HFR := hide hfr
    have HBF := hide hbf
    clear hfr hbf hwf
    go_wp2_with fail
    refine bodyPost_ret (v := .tuple #[.agg #[.slice a l.length c], .int .i64 1]) ?_ rfl ?_
    · exact results_cell_tmp Tryz.results62 _ wf (H + 1) [.slice a l.length c] _ rfl (unhide HFR).range Tryz.underlying29 rfl (by kernel_rfl)
    · exact ⟨a, c, by rw [unhide RS]; rfl, by rw [unhide RS]; exact row_below (unhide HRW) (unhide HBF), by rw [unhide RS]; exact fun _ h => .inl h, unhide HBF⟩
  · by_cases hr : Sp.rightI at_ = true
    rotate_left
    · have RS := hide (put_no (O := SO) (l := l) (k := k) (a := at_) (v := n) (fun h => hr h.2))
      rw [hk] at CK
      rw [Bool.eq_false_iff.2 hr] at CR
      go_enter Tryz.func62, Tryz.ntmps62
      go_upto_region 1 with fail
      rw [← unhide HH]
      try change Code.wp _ _ _ _ ((w.alloc (.cells #[.slice a l.length c] 29)).alloc (.cells #[.slice none 0 0] 29))
      rw [← unhide HW]
      go_upto_region 2 with fail
      refine (unhide CK _).mono ?_
      rintro e v' ⟨rfl, hw⟩
      rw [hw]
      clear hw v'
      go_upto_region 2 with fail
      refine (unhide CR _).mono ?_
      rintro e v' ⟨rfl, hw⟩
      rw [hw]
      clear hw v'
      go_upto_region 2 with fail
      have hrg := (unhide BL).r0.range
      have hth := (unhide BL).r1.there
      go_step
      refine wpList_load_mid rfl 29 (.tmp 4) rfl H 0 rfl [.slice a l.length c] _ hrg Tryz.underlying29 rfl (by kernel_rfl) ?_
      refine wpList_store_mid rfl 29 (.tmp 8) (.tmp 21) rfl (H + 1) 0 #[.slice a l.length c] rfl rfl hth (by kernel_rfl) (by simp [Value.oneCell']) ?_
      clear hrg hth
      obtain ⟨wf, hwf, hfr, hbf⟩ := (unhide BL).put (unhide HH) (.slice a l.length c)
      change wpList _ _ _ _ _ (World.setCells _ (H + 1) 0 [.slice a l.length c])
      rw [hwf]
      have HFR := hide hfr
      have HBF := hide hbf
      clear hfr hbf hwf
      go_wp2_with fail
      refine bodyPost_ret (v := .tuple #[.agg #[.slice a l.length c], .int .i64 1]) ?_ rfl ?_
      · exact results_cell_tmp Tryz.results62 _ wf (H + 1) [.slice a l.length c] _ rfl (unhide HFR).range Tryz.underlying29 rfl (by kernel_rfl)
      · exact ⟨a, c, by rw [unhide RS]; rfl, by rw [unhide RS]; exact row_below (unhide HRW) (unhide HBF), by rw [unhide RS]; exact fun _ h => .inl h, unhide HBF⟩
    · rw [hk] at CK
      rw [hr] at CR
      go_enter Tryz.func62, Tryz.ntmps62
      go_upto_region 1 with fail
      rw [← unhide HH]
      try change Code.wp _ _ _ _ ((w.alloc (.cells #[.slice a l.length c] 29)).alloc (.cells #[.slice none 0 0] 29))
      rw [← unhide HW]
      go_upto_region 2 with fail
      refine (unhide CK _).mono ?_
      rintro e v' ⟨rfl, hw⟩
      rw [hw]
      clear hw v'
      go_upto_region 2 with fail
      refine (unhide CR _).mono ?_
      rintro e v' ⟨rfl, hw⟩
      rw [hw]
      clear hw v'
      go_upto_region 3 with fail
      go_upto_region 4 with fail
      refine (unhide CS _).mono ?_
      rintro e v' ⟨rfl, hw⟩
      rw [hw]
      clear hw v'
      obtain ⟨W1, hu, hrow, hmf, hth⟩ := keep_row W 52 [.string ⟨#[]⟩, .int .i64 0, .int .i64 0, .int .i64 0, .int .i64 0, .int .i64 0, .int .i64 0, .int .i64 0, .int .i64 0, .int .i64 0] [.string ⟨k.toArray⟩, .int .i64 (Sp.startI at_), .int .i64 0, .int .i64 0, .int .i64 0, .int .i64 0, .int .i64 0, .int .i64 0, .int .i64 0, .int .i64 0] rfl
      have hH2 : W.heap.size = H + 1 + 1 := unhide HSZ
      rw [hH2] at hu hrow hth
      have U := hide hu
      have T := hide hth
      have SB := hide (⟨(unhide BL).r0.keep hmf id, (unhide BL).r1.keep hmf id, hrow, (unhide BL).bel.trans ((hmf.below (fun _ f => f.elim) (Nat.le_refl _)).mono (unhide BL).bel.size)⟩ : S4 w H (.slice a l.length c) [.string ⟨k.toArray⟩, .int .i64 (Sp.startI at_), .int .i64 0, .int .i64 0, .int .i64 0, .int .i64 0, .int .i64 0, .int .i64 0, .int .i64 0, .int .i64 0] W1)
      clear hu hrow hmf hth
      go_upto_region 4 with (refine wpList_store_mid rfl 52 (.tmp 10) (.tmp 25) (by simp [go_sem]) (H + 1 + 1) 0 #[.string ⟨k.toArray⟩, .int .i64 (Sp.startI at_), .int .i64 0, .int .i64 0, .int .i64 0, .int .i64 0, .int .i64 0, .int .i64 0, .int .i64 0, .int .i64 0] rfl rfl (unhide T) (by kernel_rfl) (by simp [Value.oneCell']) ?_; change wpList _ _ _ _ _ (World.setCells _ (H + 1 + 1) 0 [.string ⟨k.toArray⟩, .int .i64 (Sp.startI at_), .int .i64 0, .int .i64 0, .int .i64 0, .int .i64 0, .int .i64 0, .int .i64 0, .int .i64 0, .int .i64 0]); rw [unhide U])
      clear hH2 T U
      have FD := find_any l (⟨k, Sp.startI at_, zero⟩ : Win AggV) a c W1 (row_lies (row_below (unhide HRW) (unhide SB).bel)) (row_cap (unhide HRW)) (row_max (unhide HRW)) (fun y hy => by have := (unhide HG).all y hy; simp [keyOk] at this; omega) (by have := hk; simp [keyOk] at this; show k.length ≤ _; omega) (gof a) 0 (row_flat (unhide HRW))
      simp only [outV_eq] at FD
      have HFD := hide FD
      have RG := hide (unhide SB).r0.range
      have RX := hide (unhide SB).r2.range
      have HLO := hide (look_pos (w := (⟨k, Sp.startI at_, zero⟩ : Win AggV)) (unhide HG).rise)
      have HOP := hide (look_open (w := (⟨k, Sp.startI at_, zero⟩ : Win AggV)) (unhide HG).rise)
      have HINS := hide (fun z : AggV => (by rw [ins_pos, pos_key (x := (⟨k, Sp.startI at_, zero⟩ : Win AggV)) (y := ⟨k, Sp.startI at_, z⟩) rfl rfl, opens_key (x := (⟨k, Sp.startI at_, zero⟩ : Win AggV)) (y := ⟨k, Sp.startI at_, z⟩) rfl rfl]; rfl : putAt l (pos (⟨k, Sp.startI at_, zero⟩ : Win AggV) l) ⟨k, Sp.startI at_, z⟩ (opens (⟨k, Sp.startI at_, zero⟩ : Win AggV) l) = ins ⟨k, Sp.startI at_, z⟩ l))
      have HPOS := hide (pos_le (⟨k, Sp.startI at_, zero⟩ : Win AggV) l)
      clear FD
      generalize pos (⟨k, Sp.startI at_, zero⟩ : Win AggV) l = i at *
      obtain ⟨op, hop⟩ : ∃ op, op = opens (⟨k, Sp.startI at_, zero⟩ : Win AggV) l := ⟨_, rfl⟩
      rw [← hop] at HFD HLO HOP HINS
      clear hop
      go_upto_region 5 with (first | (refine wpList_load_on rfl 29 (.tmp 4) rfl H 0 rfl [.slice a l.length c] _ (unhide RG) Tryz.underlying29 rfl (by kernel_rfl) ?_) | (refine wpList_load_on rfl 52 (.tmp 10) rfl (H + 1 + 1) 0 rfl [.string ⟨k.toArray⟩, .int .i64 (Sp.startI at_), .int .i64 0, .int .i64 0, .int .i64 0, .int .i64 0, .int .i64 0, .int .i64 0, .int .i64 0, .int .i64 0] _ (unhide RX) Tryz.underlying52 rfl (by kernel_rfl) ?_))
      refine (unhide HFD).mono ?_
      rintro e W2 ⟨rfl, hb⟩
      have SC := hide ((unhide SB).below hb)
      have k0 : W2.cell? ⟨H, 0, none⟩ = some (.slice a l.length c) := (unhide SC).r0.cell 0 (Nat.succ_pos _)
      clear hb RG RX HFD SB
      have hml := (unhide HG).most
      cases op with
      | false =>
        have hlk : look l k (Sp.startI at_) = none := by have := unhide HLO; simpa using this
        by_cases h32 : (32 : Int) ≤ (l.length : Int)
        · have SL := hide (unhide SC).low
          have RS := hide (put_full (O := SO) (v := n) ⟨hk, hr⟩ (show look l k (SO.start at_) = none from hlk) (by omega))
          go_upto_region 6 with fail
          have hrg := (unhide SL).r0.range
          have hth := (unhide SL).r1.there
          go_step
          refine wpList_load_mid rfl 29 (.tmp 4) rfl H 0 rfl [.slice a l.length c] _ hrg Tryz.underlying29 rfl (by kernel_rfl) ?_
          refine wpList_store_mid rfl 29 (.tmp 8) (.tmp 40) rfl (H + 1) 0 #[.slice a l.length c] rfl rfl hth (by kernel_rfl) (by simp [Value.oneCell']) ?_
          clear hrg hth
          obtain ⟨wf, hwf, hfr, hbf⟩ := (unhide SL).put (unhide HH) (.slice a l.length c)
          change wpList _ _ _ _ _ (World.setCells _ (H + 1) 0 [.slice a l.length c])
          rw [hwf]
          have HFR := hide hfr
          have HBF := hide hbf
          clear hfr hbf hwf
          go_wp2_with fail
          refine bodyPost_ret (v := .tuple #[.agg #[.slice a l.length c], .int .i64 6]) ?_ rfl ?_
          · exact results_cell_tmp Tryz.results62 _ wf (H + 1) [.slice a l.length c] _ rfl (unhide HFR).range Tryz.underlying29 rfl (by kernel_rfl)
          · exact ⟨a, c, by rw [unhide RS]; rfl, by rw [unhide RS]; exact row_below (unhide HRW) (unhide HBF), by rw [unhide RS]; exact fun _ h => .inl h, unhide HBF⟩
        · have RS := hide (put_new (O := SO) (v := n) ⟨hk, hr⟩ (show look l k (SO.start at_) = none from hlk) (by omega))
          go_upto_region 9 with fail
          have RZ := hide (fun j u hu => by
            have := (unhide SC).r2.range (2 + j) u (by rw [← hu, Nat.add_comm 2 j]; rfl)
            rwa [Nat.zero_add] at this : W2.rangeAt (H + 1 + 1) 2 (cellsA zero))
          go_upto_region 10 with (refine wpList_load_on rfl 50 (.tmp 49) rfl (H + 1 + 1) 2 rfl (cellsA zero) _ (unhide RZ) Tryz.underlying50 rfl (by kernel_rfl) ?_)
          refine (ref_put_any zero n W2 zero_in hn).mono ?_
          rintro e W4 ⟨rfl, hb⟩
          have SW := hide ((unhide SC).below hb)
          clear hb RZ
          obtain ⟨W5, hw5, s5⟩ := (unhide SW).part (unhide HH) (cellsA (put zero n)) rfl
          have H5 := hide hw5
          have S5 := hide s5
          have T5 := hide (there_part (unhide SW).r2)
          clear hw5 s5
          go_upto_region 10 with (refine wpList_store_mid rfl 50 (.tmp 53) (.tmp 52) rfl (H + 1 + 1) 2 (cellsA (put zero n)).toArray rfl rfl (unhide T5) (by kernel_rfl) (by simp [Value.oneCell', cellsA, I]) ?_; change wpList _ _ _ _ _ (World.setCells _ (H + 1 + 1) 2 (cellsA (put zero n))); rw [unhide H5])
          have WT := with_any (row_mono (row_below (unhide HRW) (unhide S5).bel) (Nat.zero_le _)) (Nat.le_trans (unhide HG).most (by omega)) i (unhide HPOS) (⟨k, Sp.startI at_, (put zero n)⟩ : Win AggV) false (fun h => by cases h)
          rw [unhide HINS (put zero n)] at WT
          have HWT := hide WT
          clear WT
          have RG := hide (unhide S5).r0.range
          have RX := hide (unhide S5).r2.range
          go_wp2_with (first | (refine wpList_load_on rfl 29 (.tmp 4) rfl H 0 rfl [.slice a l.length c] _ (unhide RG) Tryz.underlying29 rfl (by kernel_rfl) ?_) | (refine wpList_load_on rfl 52 (.tmp 10) rfl (H + 1 + 1) 0 rfl (.string ⟨k.toArray⟩ :: .int .i64 (Sp.startI at_) :: cellsA (put zero n)) _ (unhide RX) Tryz.underlying52 rfl (by kernel_rfl) ?_))
          refine (unhide HWT).mono ?_
          rintro e W6 ⟨a', c', rfl, hrow, hb⟩
          have SD := ((unhide S5).below hb).low
          obtain ⟨wf, hwf, hfr, hbf⟩ := SD.put (unhide HH) (.slice a' (ins (⟨k, Sp.startI at_, (put zero n)⟩ : Win AggV) l).length c')
          have hmv : Moved (fun j => j = H + 1) W6 wf := by rw [← hwf]; exact setCells_moved W6 (H + 1) 0 _
          have HNEW : Hid (∀ j, _ = some j → (Value.slice a l.length c).ownBlock = some j ∨ w.heap.size ≤ j) := hide (fun j hj => .inr (Nat.le_trans (unhide S5).bel.size (row_lt hrow j hj).1))
          have HROW := hide (row_mono (row_moved hrow hmv (fun i hi k hk => by have := (row_lt hrow k hk).1; have := (unhide S5).r1.lt; omega)) (Nat.le_trans (unhide HBB) (unhide S5).bel.size))
          have TH := hide SD.r1.there
          have HFR := hide hfr
          have HBF := hide hbf
          have HWF := hide hwf
          clear hfr hbf hmv hwf hrow hb SD HWT RG RX
          go_wp2_with (first | (refine wpList_store_mid rfl 29 (.tmp 8) (.tmp 58) rfl (H + 1) 0 #[.slice a' (ins (⟨k, Sp.startI at_, (put zero n)⟩ : Win AggV) l).length c'] rfl rfl (unhide TH) (by kernel_rfl) (by simp [Value.oneCell']) ?_; change wpList _ _ _ _ _ (World.setCells _ (H + 1) 0 [.slice a' (ins (⟨k, Sp.startI at_, (put zero n)⟩ : Win AggV) l).length c']); rw [unhide HWF]))
          refine bodyPost_ret (v := .tuple #[.agg #[.slice a' (ins (⟨k, Sp.startI at_, (put zero n)⟩ : Win AggV) l).length c'], .int .i64 0]) ?_ rfl ?_
          · exact results_cell_tmp Tryz.results62 _ wf (H + 1) [.slice a' (ins (⟨k, Sp.startI at_, (put zero n)⟩ : Win AggV) l).length c'] _ rfl (unhide HFR).range Tryz.underlying29 rfl (by kernel_rfl)
          · exact ⟨a', c', by rw [unhide RS]; rfl, by rw [unhide RS]; exact unhide HROW, by rw [unhide RS]; exact unhide HNEW, unhide HBF⟩
      | true =>
        obtain ⟨y, hy⟩ : ∃ y, l[i]? = some y := by
          cases h : l[i]? with
          | some y => exact ⟨y, rfl⟩
          | none => have h1 := unhide HLO; have h2 := unhide HOP; rw [h] at h1; rw [h1] at h2; cases h2
        have hlk : look l k (Sp.startI at_) = some y.agg := by have h1 := unhide HLO; rw [hy] at h1; exact h1
        have hil : i < l.length := (List.getElem?_eq_some_iff.1 hy).1
        have HZI := hide ((unhide HIN) y (List.mem_of_getElem? hy))
        have RS := hide (put_open (O := SO) (v := n) ⟨hk, hr⟩ (show look l k (SO.start at_) = some y.agg from hlk))
        obtain ⟨g, rfl⟩ : ∃ g, a = some ⟨g, 0, none⟩ := by
          rcases row_flat (unhide HRW) with h | h
          · exact ⟨_, h⟩
          · rw [h] at hil; cases hil
        have RA : Hid (W2.rangeAt g (i * 10 + 2) (cellsA y.agg)) := hide fun j u hu => by
          have h1 := lies_at outK_law (row_lies (row_below (unhide HRW) (unhide SC).bel)) hy
          have := h1 (2 + j) u (by rw [← hu, Nat.add_comm 2 j]; rfl)
          rw [Nat.zero_add] at this
          rw [show i * 10 + 2 + j = i * 10 + (2 + j) by omega]; exact this
        have g1 : (i : Int) < (l.length : Int) := by omega
        have hi0 : (0 : Int) ≤ (i : Int) := by omega
        clear hlk hy
        generalize y.agg = ya at *
        obtain ⟨W3, hw3, s3⟩ := (unhide SC).part (unhide HH) (cellsA ya) rfl
        have H3 := hide hw3
        have S3' := hide s3
        have T3 := hide (there_part (unhide SC).r2)
        clear hw3 s3
        go_upto_region 8 with fail
        go_upto_region 9 with (first | (refine wpList_load_on rfl 50 (.tmp 46) rfl g (i * 10 + 2) rfl (cellsA ya) _ (unhide RA) Tryz.underlying50 rfl (by kernel_rfl) ?_) | (refine wpList_store_mid rfl 50 (.tmp 48) (.tmp 47) rfl (H + 1 + 1) 2 (cellsA ya).toArray rfl rfl (unhide T3) (by kernel_rfl) (by simp [Value.oneCell', cellsA, I]) ?_; change wpList _ _ _ _ _ (World.setCells _ (H + 1 + 1) 2 (cellsA ya)); rw [unhide H3]))
        have RZ := hide (fun j u hu => by
          have := (unhide S3').r2.range (2 + j) u (by rw [← hu, Nat.add_comm 2 j]; rfl)
          rwa [Nat.zero_add] at this : W3.rangeAt (H + 1 + 1) 2 (cellsA ya))
        go_upto_region 10 with (refine wpList_load_on rfl 50 (.tmp 49) rfl (H + 1 + 1) 2 rfl (cellsA ya) _ (unhide RZ) Tryz.underlying50 rfl (by kernel_rfl) ?_)
        refine (ref_put_any ya n W3 (unhide HZI) hn).mono ?_
        rintro e W4 ⟨rfl, hb⟩
        have SW := hide ((unhide S3').below hb)
        clear hb RZ
        obtain ⟨W5, hw5, s5⟩ := (unhide SW).part (unhide HH) (cellsA (put ya n)) rfl
        have H5 := hide hw5
        have S5 := hide s5
        have T5 := hide (there_part (unhide SW).r2)
        clear hw5 s5
        go_upto_region 10 with (refine wpList_store_mid rfl 50 (.tmp 53) (.tmp 52) rfl (H + 1 + 1) 2 (cellsA (put ya n)).toArray rfl rfl (unhide T5) (by kernel_rfl) (by simp [Value.oneCell', cellsA, I]) ?_; change wpList _ _ _ _ _ (World.setCells _ (H + 1 + 1) 2 (cellsA (put ya n))); rw [unhide H5])
        have WT := with_any (row_mono (row_below (unhide HRW) (unhide S5).bel) (Nat.zero_le _)) (Nat.le_trans (unhide HG).most (by omega)) i (unhide HPOS) (⟨k, Sp.startI at_, (put ya n)⟩ : Win AggV) true (fun _ => hil)
        rw [unhide HINS (put ya n)] at WT
        have HWT := hide WT
        clear WT
        have RG := hide (unhide S5).r0.range
        have RX := hide (unhide S5).r2.range
        go_wp2_with (first | (refine wpList_load_on rfl 29 (.tmp 4) rfl H 0 rfl [.slice (some ⟨g, 0, none⟩) l.length c] _ (unhide RG) Tryz.underlying29 rfl (by kernel_rfl) ?_) | (refine wpList_load_on rfl 52 (.tmp 10) rfl (H + 1 + 1) 0 rfl (.string ⟨k.toArray⟩ :: .int .i64 (Sp.startI at_) :: cellsA (put ya n)) _ (unhide RX) Tryz.underlying52 rfl (by kernel_rfl) ?_))
        refine (unhide HWT).mono ?_
        rintro e W6 ⟨a', c', rfl, hrow, hb⟩
        have SD := ((unhide S5).below hb).low
        obtain ⟨wf, hwf, hfr, hbf⟩ := SD.put (unhide HH) (.slice a' (ins (⟨k, Sp.startI at_, (put ya n)⟩ : Win AggV) l).length c')
        have hmv : Moved (fun j => j = H + 1) W6 wf := by rw [← hwf]; exact setCells_moved W6 (H + 1) 0 _
        have HNEW : Hid (∀ j, _ = some j → (Value.slice (some ⟨g, 0, none⟩) l.length c).ownBlock = some j ∨ w.heap.size ≤ j) := hide (fun j hj => .inr (Nat.le_trans (unhide S5).bel.size (row_lt hrow j hj).1))
        have HROW := hide (row_mono (row_moved hrow hmv (fun i hi k hk => by have := (row_lt hrow k hk).1; have := (unhide S5).r1.lt; omega)) (Nat.le_trans (unhide HBB) (unhide S5).bel.size))
        have TH := hide SD.r1.there
        have HFR := hide hfr
        have HBF := hide hbf
        have HWF := hide hwf
        clear hfr hbf hmv hwf hrow hb SD HWT RG RX
        go_wp2_with (first | (refine wpList_store_mid rfl 29 (.tmp 8) (.tmp 58) rfl (H + 1) 0 #[.slice a' (ins (⟨k, Sp.startI at_, (put ya n)⟩ : Win AggV) l).length c'] rfl rfl (unhide TH) (by kernel_rfl) (by simp [Value.oneCell']) ?_; change wpList _ _ _ _ _ (World.setCells _ (H + 1) 0 [.slice a' (ins (⟨k, Sp.startI at_, (put ya n)⟩ : Win AggV) l).length c']); rw [unhide HWF]))
        refine bodyPost_ret (v := .tuple #[.agg #[.slice a' (ins (⟨k, Sp.startI at_, (put ya n)⟩ : Win AggV) l).length c'], .int .i64 0]) ?_ rfl ?_
        · exact results_cell_tmp Tryz.results62 _ wf (H + 1) [.slice a' (ins (⟨k, Sp.startI at_, (put ya n)⟩ : Win AggV) l).length c'] _ rfl (unhide HFR).range Tryz.underlying29 rfl (by kernel_rfl)
        · exact ⟨a', c', by rw [unhide RS]; rfl, by rw [unhide RS]; exact unhide HROW, by rw [unhide RS]; exact unhide HNEW, unhide HBF⟩
end Go.Proofs.YtigmhljaoicdbaaGreat

namespace Go.Proofs.YtigmhljaoicdbaaGreat
open Go.RowKit
/-- What is left behind the first j of a row. -/
def restT (m : Int) (l : List (Win AggV)) (j : Nat) : List (Win AggV) := (l.take j).filter (fun a => !Sp.overI a.start m)
theorem restT_end (m : Int) (l : List (Win AggV)) : restT m l l.length = (takeS SO l m).1 := by simp [restT, takeS, SO]
theorem restT_len (m : Int) (l : List (Win AggV)) (j : Nat) : (restT m l j).length ≤ l.length := by
  unfold restT
  have h1 := List.length_filter_le (fun a : Win AggV => !Sp.overI a.start m) (l.take j)
  have h2 : (l.take j).length ≤ l.length := by rw [List.length_take]; omega
  omega
theorem restT_no {m : Int} {l : List (Win AggV)} {j : Nat} {x : Win AggV} (hx : l[j]? = some x) (h : Sp.overI x.start m = false) : restT m l (j + 1) = restT m l j ++ [x] := by
  obtain ⟨hj, rfl⟩ := List.getElem?_eq_some_iff.1 hx
  unfold restT
  rw [List.take_succ_eq_append_getElem hj, List.filter_append]
  simp [h]
theorem restT_yes {m : Int} {l : List (Win AggV)} {j : Nat} {x : Win AggV} (hx : l[j]? = some x) (h : Sp.overI x.start m = true) : restT m l (j + 1) = restT m l j := by
  obtain ⟨hj, rfl⟩ := List.getElem?_eq_some_iff.1 hx
  unfold restT
  rw [List.take_succ_eq_append_getElem hj, List.filter_append]
  simp [h]
/-- What Take's variables hold: the store, the answer's room, the rest; the rows of both, of unlike blocks. -/
structure TkS (w : World) (H : Nat) (s : Value) (ao : Option Addr) (co : Nat) (ov : List (Win AggV)) (ar : Option Addr) (cr : Nat) (re : List (Win AggV)) (v : World) : Prop where
  r0 : RowAt v H [s]
  r1 : RowAt v (H + 1) [.slice none 0 0]
  r2 : RowAt v (H + 2) [.slice ar re.length cr]
  rov : OutK.Row v (H + 3) ao co ov
  rre : OutK.Row v (H + 3) ar cr re
  ap : ∀ k, (Value.slice ao ov.length co).ownBlock = some k → (Value.slice ar re.length cr).ownBlock = some k → False
  bel : Below w.heap.size w v
theorem TkS.over {w v : World} {H : Nat} {s : Value} {ao ar : Option Addr} {co cr : Nat} {ov re : List (Win AggV)} (h : TkS w H s ao co ov ar cr re v) (hH : H = w.heap.size) (hl : ov.length ≤ 1000) (x : Win AggV) :
    ∃ a' c' v', (Builtin.append_ #[27, 27] 27 #[.slice ao ov.length co, .slice (some ⟨v.heap.size, 0, none⟩) 1 1]).run Tryz.prog (v.alloc (.cells (outV x).toArray 52)) = .ok (.slice a' (ov ++ [x]).length c') v' ∧ TkS w H s a' c' (ov ++ [x]) ar cr re v' := by
  have hsz : H + 3 ≤ v.heap.size := h.r2.lt
  have rV := h.rov.alloc (.cells (outV x).toArray 52)
  have rR := h.rre.alloc (.cells (outV x).toArray 52)
  obtain ⟨a', c', v', h1, h2, h3, h4⟩ := grow_at outK_law rV ⟨v.heap.size, 0, none⟩ 1 [x] (lies_new v x) (by simp; omega) (by simp; omega) 27
  have mm : Moved (fun i => (Value.slice ao ov.length co).ownBlock = some i) (v.alloc (.cells (outV x).toArray 52)) v' := (Moved.refl _ _).grown h3 (fun k e => .inl e)
  have hlow : ∀ i, (Value.slice ao ov.length co).ownBlock = some i → H + 3 ≤ i := fun i e => (row_lt h.rov i e).1
  refine ⟨a', c', v', h1, (row_old h.r0 _).keep mm (fun e => by have := hlow _ e; omega), (row_old h.r1 _).keep mm (fun e => by have := hlow _ e; omega), (row_old h.r2 _).keep mm (fun e => by have := hlow _ e; omega), h2, row_moved rR mm (fun i hi k hk e => h.ap k (e ▸ hi) hk), fun k e1 e2 => ?_, ?_⟩
  · rcases h4 with h4 | h4
    · exact h.ap k (h4 ▸ e1) e2
    · rw [h4] at e1
      cases e1
      exact absurd (row_lt h.rre _ e2).2 (by simp)
  · exact (((Moved.of_below (F := fun i => H + 3 ≤ i) h.bel).alloc _).trans mm (fun i hi => .inl (hlow i hi))).below (fun i hi => by omega) (Nat.le_refl _)
theorem TkS.rest {w v : World} {H : Nat} {s : Value} {ao ar : Option Addr} {co cr : Nat} {ov re : List (Win AggV)} (h : TkS w H s ao co ov ar cr re v) (hH : H = w.heap.size) (hl : re.length ≤ 1000) (x : Win AggV) :
    ∃ a' c' v', (Builtin.append_ #[27, 27] 27 #[.slice ar re.length cr, .slice (some ⟨v.heap.size, 0, none⟩) 1 1]).run Tryz.prog (v.drew.alloc (.cells (outV x).toArray 52)) = .ok (.slice a' (re ++ [x]).length c') v' ∧ Moved (fun i => H + 3 ≤ i) v v' ∧ TkS w H s ao co ov a' c' (re ++ [x]) (v'.setCell ⟨H + 2, 0, none⟩ (.slice a' (re ++ [x]).length c')) := by
  have hsz : H + 3 ≤ v.heap.size := h.r2.lt
  have hO : OutK.Row v.drew (H + 3) ao co ov := h.rov
  have hE : OutK.Row v.drew (H + 3) ar cr re := h.rre
  have rV := hE.alloc (.cells (outV x).toArray 52)
  have rR := hO.alloc (.cells (outV x).toArray 52)
  obtain ⟨a', c', v', h1, h2, h3, h4⟩ := grow_at outK_law rV ⟨v.heap.size, 0, none⟩ 1 [x] (lies_new v.drew x) (by simp; omega) (by show H + 3 ≤ (v.drew.alloc _).heap.size; simp; omega) 27
  have mm : Moved (fun i => (Value.slice ar re.length cr).ownBlock = some i) (v.drew.alloc (.cells (outV x).toArray 52)) v' := (Moved.refl _ _).grown h3 (fun k e => .inl e)
  have hlow : ∀ i, (Value.slice ar re.length cr).ownBlock = some i → H + 3 ≤ i := fun i e => (row_lt h.rre i e).1
  have m1 : Moved (fun i => H + 3 ≤ i) v v' := (((Moved.refl (fun i => H + 3 ≤ i) v).drew).alloc _).trans mm (fun i hi => .inl (hlow i hi))
  have m2 := moved_set v' (H + 2) 0 (.slice a' (re ++ [x]).length c')
  have row2 := (h.r2.keep m1 (by omega)).set 0 (Nat.succ_pos _) (.slice a' (re ++ [x]).length c')
  have rO := row_moved rR mm (fun i hi k hk e => h.ap k hk (e ▸ hi))
  refine ⟨a', c', v', h1, m1, (h.r0.keep m1 (by omega)).keep m2 (by omega), (h.r1.keep m1 (by omega)).keep m2 (by omega), row2, row_moved rO m2 (fun i hi k hk => by have := (row_lt rO k hk).1; omega), row_moved h2 m2 (fun i hi k hk => by have := (row_lt h2 k hk).1; omega), fun k e1 e2 => ?_, ?_⟩
  · rcases h4 with h4 | h4
    · exact h.ap k e1 (h4 ▸ e2)
    · rw [h4] at e2
      cases e2
      exact absurd (row_lt h.rov _ e1).2 (by simp)
  · exact (((Moved.of_below (F := fun i => H + 2 ≤ i) h.bel).trans m1 (fun i hi => .inl (by omega))).trans m2 (fun i hi => .inl (by omega))).below (fun i hi => by omega) (Nat.le_refl _)
set_option maxRecDepth 100000 in
set_option maxHeartbeats 4000000 in
theorem rtake_any {w : World} {a : Option Addr} {c : Nat} {l : List (Win AggV)} {B : Nat} (hR : OutK.Row w B a c l) (hl : l.length ≤ 1000) (m : Int) :
    Calls Tryz.prog 63 #[.agg #[.slice a l.length c], .int .i64 m] w fun e w' => ∃ a1 c1 a2 c2, e = .returned (.tuple #[.agg #[.slice a1 (takeS SO l m).1.length c1], .slice a2 (takeS SO l m).2.length c2]) ∧ OutK.Row w' w.heap.size a1 c1 (takeS SO l m).1 ∧ OutK.Row w' w.heap.size a2 c2 (takeS SO l m).2 ∧ Below w.heap.size w w' := by
  obtain ⟨W, hW⟩ : ∃ W, W = ((w.alloc (.cells #[.slice a l.length c] 29)).alloc (.cells #[.slice none 0 0] 29)).alloc (.cells #[.slice none 0 0] 29) := ⟨_, rfl⟩
  obtain ⟨H, hH⟩ : ∃ H, H = w.heap.size := ⟨_, rfl⟩
  have T0 : RowAt W H [.slice a l.length c] := by rw [hW, hH]; exact row_old (row_old (row_new _ _ _) _) _
  have T1 : RowAt W (H + 1) [.slice none 0 0] := by rw [hW, hH]; exact row_old (row_new2 _ _ _ _ _) _
  have T2 : RowAt W (H + 2) [.slice none 0 0] := by
    rw [hW, hH]
    have := row_new ((w.alloc (.cells #[.slice a l.length c] 29)).alloc (.cells #[.slice none 0 0] 29)) [.slice none 0 0] 29
    rw [show ((w.alloc (.cells #[.slice a l.length c] 29)).alloc (.cells #[.slice none 0 0] 29)).heap.size = w.heap.size + 2 by simp] at this
    exact this
  have bW : Below w.heap.size w W := by rw [hW]; exact (((Below.refl _ _).alloc (Nat.le_refl _) _).alloc (by simp) _).alloc (by simp; omega) _
  have START := hide (⟨T0, T1, T2, row_none _ _, row_none _ _, fun k e => (by cases e), bW⟩ : TkS w H (.slice a l.length c) none 0 (overT m l 0) none 0 (restT m l 0) W)
  have HW := hide hW
  have HH := hide hH
  have HR := hide hR
  clear T0 T1 T2 bW hW hH hR
  go_enter Tryz.func63, Tryz.ntmps63
  go_upto_region 2 with fail
  rw [← unhide HH]
  try change Code.wp _ _ _ _ (((w.alloc (.cells #[.slice a l.length c] 29)).alloc (.cells #[.slice none 0 0] 29)).alloc (.cells #[.slice none 0 0] 29))
  rw [← unhide HW]
  go_wp2_with fail
  go_loopw [7, 8] (fun ov i wr => ∃ (j : Nat) (ao : Option Addr) (co : Nat) (ar : Option Addr) (cr : Nat), i = .int .i64 (j : Int) ∧ j ≤ l.length ∧ ov = .slice ao (overT m l j).length co ∧ TkS w H (.slice a l.length c) ao co (overT m l j) ar cr (restT m l j) wr) (fun _ i _ => l.length - (intOf i).toNat)
  case atStart => exact ⟨0, none, 0, none, 0, rfl, Nat.zero_le _, rfl, unhide START⟩
  case round =>
    obtain ⟨j, ao, co, ar, cr, rfl, hj, rfl, hs⟩ := hrel
    have HS := hide hs
    clear hs START
    by_cases h1 : j < l.length
    · have g1 : (j : Int) < (l.length : Int) := by omega
      have hj0 : (0 : Int) ≤ (j : Int) := by omega
      have hwj : IntKind.i64.wrap ((j : Int) + 1) = (j : Int) + 1 := Go.IntWalk.i64_in _ (by omega)
      obtain ⟨x, hx⟩ : ∃ x, l[j]? = some x := ⟨_, List.getElem?_eq_getElem h1⟩
      obtain ⟨g, rfl⟩ : ∃ g, a = some ⟨g, 0, none⟩ := by
        rcases row_flat (unhide HR) with h | h
        · exact ⟨_, h⟩
        · rw [h] at h1; simp at h1
      have hgw : g < w.heap.size := (row_lt (unhide HR) g rfl).2
      have LIE : Hid (∀ u, Below w.heap.size w u → u.rangeAt g (j * 10) (outV x)) := hide fun u hu => by
        have := lies_at outK_law (row_lies (row_below (unhide HR) hu)) hx
        rw [Nat.zero_add] at this; exact this
      have HX := hide hx
      have HGW := hide hgw
      have HOV := hide (fun v => Sp.rover_any x.start m v)
      clear hx hgw
      obtain ⟨xk, xs, ⟨g0, g1', g2, g3, g4, g5, g6, g7⟩⟩ := x
      have RX : Hid (wr.rangeAt g (j * 10) [.string ⟨xk.toArray⟩, .int .i64 xs, .int .i64 g0, .int .i64 g1', .int .i64 g2, .int .i64 g3, .int .i64 g4, .int .i64 g5, .int .i64 g6, .int .i64 g7]) := hide (unhide LIE wr (unhide HS).bel)
      have c1 : wr.cell? ⟨g, j * 10 + 1, none⟩ = some (.int .i64 xs) := unhide RX 1 _ rfl
      have c0 : wr.cell? ⟨H, 0, none⟩ = some (.slice (some ⟨g, 0, none⟩) l.length c) := (unhide HS).r0.cell 0 (Nat.succ_pos _)
      dsimp only at HOV
      go_upto_region 7 with fail
      refine (unhide HOV _).mono ?_
      rintro e v' ⟨rfl, hw⟩
      rw [hw]
      clear hw v' HOV
      by_cases ho : Sp.overI xs m = true
      · rw [ho]
        have e1 := overT_yes (unhide HX) ho
        have HE2 := hide (restT_yes (unhide HX) ho)
        obtain ⟨a', c', v', hap, hn⟩ := (unhide HS).over (unhide HH) (Nat.le_trans (overT_len m l j) hl) (⟨xk, xs, ⟨g0, g1', g2, g3, g4, g5, g6, g7⟩⟩ : Win AggV)
        rw [← e1] at hap hn
        rw [← unhide HE2] at hn
        have HAP : Hid ((Builtin.append_ #[27, 27] 27 #[.slice ao (overT m l j).length co, .slice (some ⟨wr.heap.size, 0, none⟩) 1 1]).run Tryz.prog (wr.alloc (.cells #[.string ⟨xk.toArray⟩, .int .i64 xs, .int .i64 g0, .int .i64 g1', .int .i64 g2, .int .i64 g3, .int .i64 g4, .int .i64 g5, .int .i64 g6, .int .i64 g7] 52)) = .ok (.slice a' (overT m l (j + 1)).length c') v') := hide hap
        have HN := hide hn
        clear hap hn e1 HE2 c1
        go_wp2_with (first | (refine wpList_load_on rfl 52 (.tmp 28) rfl g (j * 10) rfl [.string ⟨xk.toArray⟩, .int .i64 xs, .int .i64 g0, .int .i64 g1', .int .i64 g2, .int .i64 g3, .int .i64 g4, .int .i64 g5, .int .i64 g6, .int .i64 g7] _ (unhide RX) Tryz.underlying52 rfl (by kernel_rfl) ?_) | (at_builtin; refine wpList_app rfl _ _ 27 27 27 rfl rfl rfl rfl (unhide HAP) ?_))
        exact ⟨⟨j + 1, a', c', ar, cr, rfl, by omega, rfl, unhide HN⟩, by simp [intOf]; omega⟩
      · replace ho := Bool.eq_false_iff.2 ho
        rw [ho]
        have e1 := restT_no (unhide HX) ho
        have HE2 := hide (overT_no (unhide HX) ho)
        obtain ⟨a', c', v', hap, hmv, hn⟩ := (unhide HS).rest (unhide HH) (Nat.le_trans (restT_len m l j) hl) (⟨xk, xs, ⟨g0, g1', g2, g3, g4, g5, g6, g7⟩⟩ : Win AggV)
        rw [← e1] at hap hn
        obtain ⟨n', hn'⟩ : ∃ n', n' = (restT m l (j + 1)).length := ⟨_, rfl⟩
        rw [← hn'] at hap hn
        have HAP : (Builtin.append_ #[27, 27] 27 #[.slice ar (restT m l j).length cr, .slice (some ⟨wr.heap.size, 0, none⟩) 1 1]).run Tryz.prog (wr.drew.alloc (.cells #[.string ⟨xk.toArray⟩, .int .i64 xs, .int .i64 g0, .int .i64 g1', .int .i64 g2, .int .i64 g3, .int .i64 g4, .int .i64 g5, .int .i64 g6, .int .i64 g7] 52)) = .ok (.slice a' n' c') v' := hap
        have HN : Hid (TkS w H (.slice (some ⟨g, 0, none⟩) l.length c) ao co (overT m l (j + 1)) a' c' (restT m l (j + 1)) (v'.setCell ⟨H + 1 + 1, 0, none⟩ (.slice a' n' c')) ∧ (overT m l (j + 1)).length = (overT m l j).length) := hide ⟨by rw [unhide HE2]; exact hn, by rw [unhide HE2]⟩
        obtain ⟨CL, hCL⟩ : ∃ CL : World → Prop, CL = fun v => Moved (fun i => H + 3 ≤ i) wr v := ⟨_, rfl⟩
        have un : ∀ v, CL v → Moved (fun i => H + 3 ≤ i) wr v := fun v k => by rw [hCL] at k; exact k
        have base : CL wr.drew := by rw [hCL]; exact (Moved.refl _ _).drew
        have CL0 : CL (wr.drew.alloc (.cells #[.string ⟨xk.toArray⟩, .int .i64 xs, .int .i64 g0, .int .i64 g1', .int .i64 g2, .int .i64 g3, .int .i64 g4, .int .i64 g5, .int .i64 g6, .int .i64 g7] 52)) := by rw [hCL]; exact (Moved.refl _ _).drew.alloc _
        have CL1 : CL v' := by rw [hCL]; exact hmv
        have hgH : g < H := by rw [unhide HH]; exact unhide HGW
        have q0 : ∀ q : SW CL, q.w.cell? ⟨H, 0, none⟩ = some (.slice (some ⟨g, 0, none⟩) l.length c) := fun q => ((unhide HS).r0.keep (un _ q.ok) (by omega)).cell 0 (Nat.succ_pos _)
        have q2 : ∀ q : SW CL, q.w.cell? ⟨H + 1 + 1, 0, none⟩ = some (.slice ar (restT m l j).length cr) := fun q => ((unhide HS).r2.keep (un _ q.ok) (by omega)).cell 0 (Nat.succ_pos _)
        have RQ : Hid (∀ q : SW CL, q.w.rangeAt g (j * 10) [.string ⟨xk.toArray⟩, .int .i64 xs, .int .i64 g0, .int .i64 g1', .int .i64 g2, .int .i64 g3, .int .i64 g4, .int .i64 g5, .int .i64 g6, .int .i64 g7]) := hide fun q k u hu => ((un _ q.ok).cell (p := ⟨g, j * 10 + k, none⟩) (World.block_lt_of_cell? _ _ (unhide RX k u hu)) (by show ¬ H + 3 ≤ g; omega)).trans (unhide RX k u hu)
        have wsn := (unhide HS).r2.keep (un _ CL1) (by omega)
        have f1 : v'.frozen? ⟨H + 1 + 1, 0, none⟩ = false := wsn.free 0 (Nat.succ_pos _)
        have k1 : v'.cell? ⟨H + 1 + 1, 0, none⟩ = some (.slice ar (restT m l j).length cr) := wsn.cell 0 (Nat.succ_pos _)
        clear hap hn hn' e1 HE2 c1 c0 hCL un hmv wsn hgH
        go_upto_region 8 with fail
        refine wp_region_chain (S := CL) [true, true, true, true, true, true, true, false, false, false, false] [false, false, false, false, false, false, false, true, true, true, true] (by kernel_rfl) (by kernel_rfl) (by kernel_rfl) base ?_
        apply Exists.intro
        apply And.intro
        · intro q
          have n0 : Nonempty (SK CL q.w) := ⟨⟨q, rfl⟩⟩
          simp only [pickM]
          repeat (go_big_quiet_step (fail))
          refine wpQuiet_load_onx rfl 52 (.tmp 37) rfl g (j * 10) rfl [.string ⟨xk.toArray⟩, .int .i64 xs, .int .i64 g0, .int .i64 g1', .int .i64 g2, .int .i64 g3, .int .i64 g4, .int .i64 g5, .int .i64 g6, .int .i64 g7] _ (by rintro u ⟨q1, rfl⟩; exact unhide RQ q1.s) Tryz.underlying52 rfl (by kernel_rfl) ?_
          go_simp
          exact wpQuiet_nil rfl
        · simp only [pickZ]
          refine chain_step (.slice (some ⟨wr.heap.size, 0, none⟩) 1 1) (wr.drew.alloc (.cells #[.string ⟨xk.toArray⟩, .int .i64 xs, .int .i64 g0, .int .i64 g1', .int .i64 g2, .int .i64 g3, .int .i64 g4, .int .i64 g5, .int .i64 g6, .int .i64 g7] 52)) rfl (by simp [go_sem]) CL0 ?_
          go_simp
          refine chain_step (.slice a' n' c') v' rfl (exec_append (.tmp 33) (.tmp 39) 27 27 27 rfl rfl rfl rfl HAP) CL1 ?_
          go_simp
          refine chain_step (.pointer (some ⟨H + 1 + 1, 0, none⟩)) v' rfl (by simp [go_sem]) CL1 ?_
          go_simp
          refine chain_last (v'.setCell ⟨H + 1 + 1, 0, none⟩ (.slice a' n' c')) (by kernel_rfl) rfl (by simp [go_sem, f1, k1, Result.andThen]) ?_
          clear q0 q2 f1 k1 CL0 CL1 base HAP
          go_simp
          go_wp2_with fail
          exact ⟨⟨j + 1, ao, co, a', c', rfl, by omega, by rw [(unhide HN).2], (unhide HN).1⟩, by simp [intOf]; omega⟩
    · have g1 : ¬ (j : Int) < (l.length : Int) := by omega
      have hje : j = l.length := by omega
      have E1 := hide (overT_end m l)
      have E2 := hide (restT_end m l)
      subst hje
      rw [unhide E1, unhide E2] at HS
      have HLE : Hid ((overT m l l.length).length = (takeS SO l m).2.length) := hide (by rw [unhide E1])
      clear E1 E2
      generalize (overT m l l.length).length = no at HLE ⊢
      obtain ⟨wf, hwf, hro, hmo⟩ : ∃ wf, wr.setCells (H + 1) 0 [.slice ar (takeS SO l m).1.length cr] = wf ∧ RowAt wf (H + 1) [.slice ar (takeS SO l m).1.length cr] ∧ Moved (fun i => i = H + 1) wr wf := ⟨_, rfl, (unhide HS).r1.put _ rfl, setCells_moved _ _ _ _⟩
      have HWF := hide hwf
      have HRO := hide hro.range
      have HMO := hide hmo
      have c0 : wr.cell? ⟨H, 0, none⟩ = some (.slice a l.length c) := (unhide HS).r0.cell 0 (Nat.succ_pos _)
      have RG := hide (unhide HS).r2.range
      have TH := hide (unhide HS).r1.there
      clear hwf hro hmo
      go_wp2_with (first | (refine wpList_load_on rfl 29 (.tmp 6) rfl (H + 1 + 1) 0 rfl [.slice ar (takeS SO l m).1.length cr] _ (unhide RG) Tryz.underlying29 rfl (by kernel_rfl) ?_) | (refine wpList_store_mid rfl 29 (.tmp 4) (.tmp 42) rfl (H + 1) 0 #[.slice ar (takeS SO l m).1.length cr] rfl rfl (unhide TH) (by kernel_rfl) (by simp [Value.oneCell']) ?_; change wpList _ _ _ _ _ (World.setCells _ (H + 1) 0 [.slice ar (takeS SO l m).1.length cr]); rw [unhide HWF]))
      refine bodyPost_ret (v := .tuple #[.agg #[.slice ar (takeS SO l m).1.length cr], .slice ao no co]) ?_ rfl ?_
      · exact results_cell_tmp Tryz.results63 _ wf (H + 1) [.slice ar (takeS SO l m).1.length cr] _ rfl (unhide HRO) Tryz.underlying29 rfl (by kernel_rfl)
      · have hH := unhide HH
        exact ⟨ar, cr, ao, co, by rw [unhide HLE], row_mono (row_moved (unhide HS).rre (unhide HMO) (fun i hi k hk => by have := (row_lt (unhide HS).rre k hk).1; omega)) (by omega), row_mono (row_moved (unhide HS).rov (unhide HMO) (fun i hi k hk => by have := (row_lt (unhide HS).rov k hk).1; omega)) (by omega), ((Moved.of_below (F := fun i => i = H + 1) (unhide HS).bel).trans (unhide HMO) (fun i hi => .inl hi)).below (fun i hi => by omega) (Nat.le_refl _)⟩
end Go.Proofs.YtigmhljaoicdbaaGreat

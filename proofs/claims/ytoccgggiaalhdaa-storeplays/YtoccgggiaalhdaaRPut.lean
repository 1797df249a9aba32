/- The document's own Put. Conditions: the windows are a store's; the value is 64 bits wide. -/
import Derived.Test.YtoccgggiaalhdaaRSet
import Derived.Test.YtoccgggiaalhdaaRefPut
namespace Go.Proofs.Ytoccgggiaalhdaa
open Go.RowKit
theorem RowAt.part {w : World} {B : Nat} {p q : Value} {old vs : List Value} (h : RowAt w B (p :: q :: old)) (hl : old.length = vs.length) : RowAt (w.setCells B 2 vs) B (p :: q :: vs) := by
  refine ⟨Nat.lt_of_lt_of_le h.lt (setCells_moved w B 2 vs).size, fun i hi => ?_, fun i hi => ?_⟩
  · match i with
    | 0 => exact (World.cell?_setCells_out B vs 2 w ⟨B, 0, none⟩ (fun _ _ => .inl (by show 0 < 2; omega))).trans (h.cell 0 (Nat.succ_pos _))
    | 1 => exact (World.cell?_setCells_out B vs 2 w ⟨B, 1, none⟩ (fun _ _ => .inl (by show 1 < 2; omega))).trans (h.cell 1 (Nat.succ_lt_succ (Nat.succ_pos _)))
    | j + 2 =>
      have hj : j < vs.length := by simpa using hi
      have ht : w.there B 2 vs.length := fun i hi => by
        have h1 : i + 2 < (p :: q :: old).length := by simp; omega
        have := h.cell (i + 2) h1
        rw [Nat.add_comm 2 i]
        exact ⟨by rw [this]; rfl, h.free (i + 2) h1⟩
      have := World.rangeAt_setCells_same w B 2 vs ht j _ (List.getElem?_eq_getElem hj)
      rw [Nat.add_comm 2 j] at this
      rw [this]
      simp [List.getD_eq_getElem?_getD, hj]
  · rw [World.frozen?_setCells]
    exact h.free i (by simp at hi ⊢; omega)
theorem ahead_key {x y z : Win AggV} (h1 : y.key = x.key) (h2 : y.start = x.start) : ahead z y = ahead z x ∧ ahead y z = ahead x z := by unfold ahead; rw [h1, h2]; exact ⟨rfl, rfl⟩
theorem pos_key {x y : Win AggV} (h1 : y.key = x.key) (h2 : y.start = x.start) : ∀ {l : List (Win AggV)}, pos y l = pos x l
  | [] => rfl
  | z :: l => by rw [pos, pos, (ahead_key h1 h2).1, pos_key h1 h2]
theorem opens_key {x y : Win AggV} (h1 : y.key = x.key) (h2 : y.start = x.start) : ∀ {l : List (Win AggV)}, opens y l = opens x l
  | [] => rfl
  | z :: l => by rw [opens, opens, (ahead_key h1 h2).1, (ahead_key h1 h2).2, opens_key h1 h2]
/-- What Put's variables hold. -/
structure S4 (w : World) (H : Nat) (s : Value) (cs : List Value) (v : World) : Prop where
  r0 : RowAt v H [s]
  r1 : RowAt v (H + 1) [.slice none 0 0]
  r2 : RowAt v (H + 1 + 1) cs
  bel : Below w.heap.size w v
theorem S4.below {w v v' : World} {H : Nat} {s : Value} {cs : List Value} (h : S4 w H s cs v) (hb : Below v.heap.size v v') : S4 w H s cs v' :=
  ⟨h.r0.below hb, h.r1.below hb, h.r2.below hb, h.bel.trans (hb.mono h.bel.size)⟩
structure S20 (w : World) (H : Nat) (s : Value) (v : World) : Prop where
  r0 : RowAt v H [s]
  r1 : RowAt v (H + 1) [.slice none 0 0]
  bel : Below w.heap.size w v
theorem S20.put {w v : World} {H : Nat} {s : Value} (h : S20 w H s v) (hH : H = w.heap.size) (o : Value) : ∃ wf, v.setCells (H + 1) 0 [o] = wf ∧ RowAt wf (H + 1) [o] ∧ Below w.heap.size w wf := by
  refine ⟨_, rfl, h.r1.put [o] rfl, ?_⟩
  have m := setCells_moved v (H + 1) 0 [o]
  exact ((Moved.of_below (F := fun j => j = H + 1) h.bel).trans m (fun _ hi => .inl hi)).below (fun i hi => by omega) (Nat.le_refl _)
theorem there_part {w : World} {B : Nat} {p q : Value} {old : List Value} (h : RowAt w B (p :: q :: old)) : w.there B 2 old.length := fun i hi => by
  have h1 : i + 2 < (p :: q :: old).length := by simp; omega
  have := h.cell (i + 2) h1
  rw [Nat.add_comm 2 i]
  exact ⟨by rw [this]; rfl, h.free (i + 2) h1⟩
theorem S4.part {w v : World} {H : Nat} {s p q : Value} {old : List Value} (h : S4 w H s (p :: q :: old) v) (hH : H = w.heap.size) (vs : List Value) (hl : old.length = vs.length) : ∃ wf, v.setCells (H + 1 + 1) 2 vs = wf ∧ S4 w H s (p :: q :: vs) wf := by
  have m := setCells_moved v (H + 1 + 1) 2 vs
  exact ⟨_, rfl, h.r0.keep m (by omega), h.r1.keep m (by omega), h.r2.part hl, ((Moved.of_below (F := fun j => j = H + 1 + 1) h.bel).trans m (fun _ hi => .inl hi)).below (fun i hi => by omega) (Nat.le_refl _)⟩
theorem S4.low {w v : World} {H : Nat} {s : Value} {cs : List Value} (h : S4 w H s cs v) : S20 w H s v := ⟨h.r0, h.r1, h.bel⟩
set_option maxRecDepth 100000 in
set_option maxHeartbeats 4000000 in
theorem rput_any {w : World} {B : Nat} {a : Option Addr} {c : Nat} {l : List (Win AggV)} (hR : OutK.Row w B a c l) (hB : B ≤ w.heap.size) (hg : Good SO l) (hm : ∀ x ∈ l, x.agg.In) (k : List UInt8) (at_ n : Int) (hn : i64 n) :
    Calls Try.prog 13 #[.agg #[.slice a l.length c], .string ⟨k.toArray⟩, .int .i64 at_, .int .i64 n] w fun e w' => ∃ a' c', e = .returned (.tuple #[.agg #[.slice a' (putS SO l k at_ n).1.length c'], .int .i64 ((putS SO l k at_ n).2 : Int)]) ∧ OutK.Row w' B a' c' (putS SO l k at_ n).1 ∧ (∀ j, (Value.slice a' (putS SO l k at_ n).1.length c').ownBlock = some j → (Value.slice a l.length c).ownBlock = some j ∨ w.heap.size ≤ j) ∧ Below w.heap.size w w' := by
  obtain ⟨W, hW⟩ : ∃ W, W = (w.alloc (.cells #[.slice a l.length c] 29)).alloc (.cells #[.slice none 0 0] 29) := ⟨_, rfl⟩
  obtain ⟨H, hH⟩ : ∃ H, H = w.heap.size := ⟨_, rfl⟩
  have T0 : RowAt W H [.slice a l.length c] := by rw [hW, hH]; exact row_old (row_new _ _ _) _
  have T1 : RowAt W (H + 1) [.slice none 0 0] := by rw [hW, hH]; exact row_new2 _ _ _ _ _
  have bW : Below w.heap.size w W := by rw [hW]; exact ((Below.refl _ _).alloc (Nat.le_refl _) _).alloc (by simp) _
  have BL := hide (⟨T0, T1, bW⟩ : S20 w H (.slice a l.length c) W)
  have HSZ : Hid (W.heap.size = H + 1 + 1) := hide (by rw [hW, hH]; simp)
  have HW := hide hW
  have HH := hide hH
  have HRW := hide hR
  have HBB := hide hB
  have HG := hide hg
  have HIN := hide hm
  have CK := hide (fun v => rkey_any k v)
  have CR := hide (fun v => Sp.rright_any at_ v)
  have CS := hide (fun v => Sp.rstart_any at_ v)
  clear hW hH hR hB hg hm bW T0 T1
  by_cases hk : keyOk k = true
  rotate_left
  · have RS := hide (put_no (O := SO) (l := l) (k := k) (a := at_) (v := n) (fun h => hk h.1))
    rw [Bool.eq_false_iff.2 hk] at CK
    go_enter Try.func13, Try.ntmps13
    go_upto_region 1 with fail
    rw [← unhide HH]
    try change Code.wp _ _ _ _ ((w.alloc (.cells #[.slice a l.length c] 29)).alloc (.cells #[.slice none 0 0] 29))
    rw [← unhide HW]
    go_upto_region 2 with fail
    refine (unhide CK _).mono ?_
    rintro e v' ⟨rfl, hw⟩
    rw [hw]
    clear hw v'
    go_upto_region 2 with fail
    have hrg := (unhide BL).r0.range
    have hth := (unhide BL).r1.there
    go_step
    refine wpList_load_mid rfl 29 (.tmp 4) rfl H 0 rfl [.slice a l.length c] _ hrg Try.underlying29 rfl (by kernel_rfl) ?_
    refine wpList_store_mid rfl 29 (.tmp 8) (.tmp 21) rfl (H + 1) 0 #[.slice a l.length c] rfl rfl hth (by kernel_rfl) (by simp [Value.oneCell']) ?_
    clear hrg hth
    obtain ⟨wf, hwf, hfr, hbf⟩ := (unhide BL).put (unhide HH) (.slice a l.length c)
    change wpList _ _ _ _ _ (World.setCells _ (H + 1) 0 [.slice a l.length c])
    rw [hwf]
    have HFR := hide hfr
    have HBF := hide hbf
    clear hfr hbf hwf
    go_wp2_with fail
    refine bodyPost_ret (v := .tuple #[.agg #[.slice a l.length c], .int .i64 1]) ?_ rfl ?_
    · exact results_cell_tmp Try.results13 _ wf (H + 1) [.slice a l.length c] _ rfl (unhide HFR).range Try.underlying29 rfl (by kernel_rfl)
    · exact ⟨a, c, by rw [unhide RS]; rfl, by rw [unhide RS]; exact row_below (unhide HRW) (unhide HBF), by rw [unhide RS]; exact fun _ h => .inl h, unhide HBF⟩
  · by_cases hr : Sp.rightI at_ = true
    rotate_left
    · have RS := hide (put_no (O := SO) (l := l) (k := k) (a := at_) (v := n) (fun h => hr h.2))
      rw [hk] at CK
      rw [Bool.eq_false_iff.2 hr] at CR
      go_enter Try.func13, Try.ntmps13
      go_upto_region 1 with fail
      rw [← unhide HH]
      try change Code.wp _ _ _ _ ((w.alloc (.cells #[.slice a l.length c] 29)).alloc (.cells #[.slice none 0 0] 29))
      rw [← unhide HW]
      go_upto_region 2 with fail
      refine (unhide CK _).mono ?_
      rintro e v' ⟨rfl, hw⟩
      rw [hw]
      clear hw v'
      go_upto_region 2 with fail
      refine (unhide CR _).mono ?_
      rintro e v' ⟨rfl, hw⟩
      rw [hw]
      clear hw v'
      go_upto_region 2 with fail
      have hrg := (unhide BL).r0.range
      have hth := (unhide BL).r1.there
      go_step
      refine wpList_load_mid rfl 29 (.tmp 4) rfl H 0 rfl [.slice a l.length c] _ hrg Try.underlying29 rfl (by kernel_rfl) ?_
      refine wpList_store_mid rfl 29 (.tmp 8) (.tmp 21) rfl (H + 1) 0 #[.slice a l.length c] rfl rfl hth (by kernel_rfl) (by simp [Value.oneCell']) ?_
      clear hrg hth
      obtain ⟨wf, hwf, hfr, hbf⟩ := (unhide BL).put (unhide HH) (.slice a l.length c)
      change wpList _ _ _ _ _ (World.setCells _ (H + 1) 0 [.slice a l.length c])
      rw [hwf]
      have HFR := hide hfr
      have HBF := hide hbf
      clear hfr hbf hwf
      go_wp2_with fail
      refine bodyPost_ret (v := .tuple #[.agg #[.slice a l.length c], .int .i64 1]) ?_ rfl ?_
      · exact results_cell_tmp Try.results13 _ wf (H + 1) [.slice a l.length c] _ rfl (unhide HFR).range Try.underlying29 rfl (by kernel_rfl)
      · exact ⟨a, c, by rw [unhide RS]; rfl, by rw [unhide RS]; exact row_below (unhide HRW) (unhide HBF), by rw [unhide RS]; exact fun _ h => .inl h, unhide HBF⟩
    · rw [hk] at CK
      rw [hr] at CR
      go_enter Try.func13, Try.ntmps13
      go_upto_region 1 with fail
      rw [← unhide HH]
      try change Code.wp _ _ _ _ ((w.alloc (.cells #[.slice a l.length c] 29)).alloc (.cells #[.slice none 0 0] 29))
      rw [← unhide HW]
      go_upto_region 2 with fail
      refine (unhide CK _).mono ?_
      rintro e v' ⟨rfl, hw⟩
      rw [hw]
      clear hw v'
      go_upto_region 2 with fail
      refine (unhide CR _).mono ?_
      rintro e v' ⟨rfl, hw⟩
      rw [hw]
      clear hw v'
      go_upto_region 3 with fail
      go_upto_region 4 with fail
      refine (unhide CS _).mono ?_
      rintro e v' ⟨rfl, hw⟩
      rw [hw]
      clear hw v'
      obtain ⟨W1, hu, hrow, hmf, hth⟩ := keep_row W 34 [.string ⟨#[]⟩, .int .i64 0, .int .i64 0, .int .i64 0, .int .i64 0, .int .i64 0, .int .i64 0, .int .i64 0, .int .i64 0, .int .i64 0] [.string ⟨k.toArray⟩, .int .i64 (Sp.startI at_), .int .i64 0, .int .i64 0, .int .i64 0, .int .i64 0, .int .i64 0, .int .i64 0, .int .i64 0, .int .i64 0] rfl
      have hH2 : W.heap.size = H + 1 + 1 := unhide HSZ
      rw [hH2] at hu hrow hth
      have U := hide hu
      have T := hide hth
      have SB := hide (⟨(unhide BL).r0.keep hmf id, (unhide BL).r1.keep hmf id, hrow, (unhide BL).bel.trans ((hmf.below (fun _ f => f.elim) (Nat.le_refl _)).mono (unhide BL).bel.size)⟩ : S4 w H (.slice a l.length c) [.string ⟨k.toArray⟩, .int .i64 (Sp.startI at_), .int .i64 0, .int .i64 0, .int .i64 0, .int .i64 0, .int .i64 0, .int .i64 0, .int .i64 0, .int .i64 0] W1)
      clear hu hrow hmf hth
      go_upto_region 4 with (refine wpList_store_mid rfl 34 (.tmp 10) (.tmp 25) (by simp [go_sem]) (H + 1 + 1) 0 #[.string ⟨k.toArray⟩, .int .i64 (Sp.startI at_), .int .i64 0, .int .i64 0, .int .i64 0, .int .i64 0, .int .i64 0, .int .i64 0, .int .i64 0, .int .i64 0] rfl rfl (unhide T) (by kernel_rfl) (by simp [Value.oneCell']) ?_; change wpList _ _ _ _ _ (World.setCells _ (H + 1 + 1) 0 [.string ⟨k.toArray⟩, .int .i64 (Sp.startI at_), .int .i64 0, .int .i64 0, .int .i64 0, .int .i64 0, .int .i64 0, .int .i64 0, .int .i64 0, .int .i64 0]); rw [unhide U])
      clear hH2 T U
      have FD := find_any l (⟨k, Sp.startI at_, zero⟩ : Win AggV) a c W1 (row_lies (row_below (unhide HRW) (unhide SB).bel)) (row_cap (unhide HRW)) (row_max (unhide HRW)) (fun y hy => by have := (unhide HG).all y hy; simp [keyOk] at this; omega) (by have := hk; simp [keyOk] at this; show k.length ≤ _; omega) (gof a) 0 (row_flat (unhide HRW))
      simp only [outV_eq] at FD
      have HFD := hide FD
      have RG := hide (unhide SB).r0.range
      have RX := hide (unhide SB).r2.range
      have HLO := hide (look_pos (w := (⟨k, Sp.startI at_, zero⟩ : Win AggV)) (unhide HG).rise)
      have HOP := hide (look_open (w := (⟨k, Sp.startI at_, zero⟩ : Win AggV)) (unhide HG).rise)
      have HINS := hide (fun z : AggV => (by rw [ins_pos, pos_key (x := (⟨k, Sp.startI at_, zero⟩ : Win AggV)) (y := ⟨k, Sp.startI at_, z⟩) rfl rfl, opens_key (x := (⟨k, Sp.startI at_, zero⟩ : Win AggV)) (y := ⟨k, Sp.startI at_, z⟩) rfl rfl]; rfl : putAt l (pos (⟨k, Sp.startI at_, zero⟩ : Win AggV) l) ⟨k, Sp.startI at_, z⟩ (opens (⟨k, Sp.startI at_, zero⟩ : Win AggV) l) = ins ⟨k, Sp.startI at_, z⟩ l))
      have HPOS := hide (pos_le (⟨k, Sp.startI at_, zero⟩ : Win AggV) l)
      clear FD
      generalize pos (⟨k, Sp.startI at_, zero⟩ : Win AggV) l = i at *
      obtain ⟨op, hop⟩ : ∃ op, op = opens (⟨k, Sp.startI at_, zero⟩ : Win AggV) l := ⟨_, rfl⟩
      rw [← hop] at HFD HLO HOP HINS
      clear hop
      go_upto_region 5 with (first | (refine wpList_load_on rfl 29 (.tmp 4) rfl H 0 rfl [.slice a l.length c] _ (unhide RG) Try.underlying29 rfl (by kernel_rfl) ?_) | (refine wpList_load_on rfl 34 (.tmp 10) rfl (H + 1 + 1) 0 rfl [.string ⟨k.toArray⟩, .int .i64 (Sp.startI at_), .int .i64 0, .int .i64 0, .int .i64 0, .int .i64 0, .int .i64 0, .int .i64 0, .int .i64 0, .int .i64 0] _ (unhide RX) Try.underlying34 rfl (by kernel_rfl) ?_))
      refine (unhide HFD).mono ?_
      rintro e W2 ⟨rfl, hb⟩
      have SC := hide ((unhide SB).below hb)
      have k0 : W2.cell? ⟨H, 0, none⟩ = some (.slice a l.length c) := (unhide SC).r0.cell 0 (Nat.succ_pos _)
      clear hb RG RX HFD SB
      have hml := (unhide HG).most
      cases op with
      | false =>
        have hlk : look l k (Sp.startI at_) = none := by have := unhide HLO; simpa using this
        by_cases h32 : (32 : Int) ≤ (l.length : Int)
        · have SL := hide (unhide SC).low
          have RS := hide (put_full (O := SO) (v := n) ⟨hk, hr⟩ (show look l k (SO.start at_) = none from hlk) (by omega))
          go_upto_region 6 with fail
          have hrg := (unhide SL).r0.range
          have hth := (unhide SL).r1.there
          go_step
          refine wpList_load_mid rfl 29 (.tmp 4) rfl H 0 rfl [.slice a l.length c] _ hrg Try.underlying29 rfl (by kernel_rfl) ?_
          refine wpList_store_mid rfl 29 (.tmp 8) (.tmp 40) rfl (H + 1) 0 #[.slice a l.length c] rfl rfl hth (by kernel_rfl) (by simp [Value.oneCell']) ?_
          clear hrg hth
          obtain ⟨wf, hwf, hfr, hbf⟩ := (unhide SL).put (unhide HH) (.slice a l.length c)
          change wpList _ _ _ _ _ (World.setCells _ (H + 1) 0 [.slice a l.length c])
          rw [hwf]
          have HFR := hide hfr
          have HBF := hide hbf
          clear hfr hbf hwf
          go_wp2_with fail
          refine bodyPost_ret (v := .tuple #[.agg #[.slice a l.length c], .int .i64 6]) ?_ rfl ?_
          · exact results_cell_tmp Try.results13 _ wf (H + 1) [.slice a l.length c] _ rfl (unhide HFR).range Try.underlying29 rfl (by kernel_rfl)
          · exact ⟨a, c, by rw [unhide RS]; rfl, by rw [unhide RS]; exact row_below (unhide HRW) (unhide HBF), by rw [unhide RS]; exact fun _ h => .inl h, unhide HBF⟩
        · have RS := hide (put_new (O := SO) (v := n) ⟨hk, hr⟩ (show look l k (SO.start at_) = none from hlk) (by omega))
          go_upto_region 9 with fail
          have RZ := hide (fun j u hu => by
            have := (unhide SC).r2.range (2 + j) u (by rw [← hu, Nat.add_comm 2 j]; rfl)
            rwa [Nat.zero_add] at this : W2.rangeAt (H + 1 + 1) 2 (cellsA zero))
          go_upto_region 10 with (refine wpList_load_on rfl 32 (.tmp 49) rfl (H + 1 + 1) 2 rfl (cellsA zero) _ (unhide RZ) Try.underlying32 rfl (by kernel_rfl) ?_)
          refine (ref_put_any zero n W2 zero_in hn).mono ?_
          rintro e W4 ⟨rfl, hb⟩
          have SW := hide ((unhide SC).below hb)
          clear hb RZ
          obtain ⟨W5, hw5, s5⟩ := (unhide SW).part (unhide HH) (cellsA (put zero n)) rfl
          have H5 := hide hw5
          have S5 := hide s5
          have T5 := hide (there_part (unhide SW).r2)
          clear hw5 s5
          go_upto_region 10 with (refine wpList_store_mid rfl 32 (.tmp 53) (.tmp 52) rfl (H + 1 + 1) 2 (cellsA (put zero n)).toArray rfl rfl (unhide T5) (by kernel_rfl) (by simp [Value.oneCell', cellsA, I]) ?_; change wpList _ _ _ _ _ (World.setCells _ (H + 1 + 1) 2 (cellsA (put zero n))); rw [unhide H5])
          have WT := with_any (row_mono (row_below (unhide HRW) (unhide S5).bel) (Nat.zero_le _)) (Nat.le_trans (unhide HG).most (by omega)) i (unhide HPOS) (⟨k, Sp.startI at_, (put zero n)⟩ : Win AggV) false (fun h => by cases h)
          rw [unhide HINS (put zero n)] at WT
          have HWT := hide WT
          clear WT
          have RG := hide (unhide S5).r0.range
          have RX := hide (unhide S5).r2.range
          go_wp2_with (first | (refine wpList_load_on rfl 29 (.tmp 4) rfl H 0 rfl [.slice a l.length c] _ (unhide RG) Try.underlying29 rfl (by kernel_rfl) ?_) | (refine wpList_load_on rfl 34 (.tmp 10) rfl (H + 1 + 1) 0 rfl (.string ⟨k.toArray⟩ :: .int .i64 (Sp.startI at_) :: cellsA (put zero n)) _ (unhide RX) Try.underlying34 rfl (by kernel_rfl) ?_))
          refine (unhide HWT).mono ?_
          rintro e W6 ⟨a', c', rfl, hrow, hb⟩
          have SD := ((unhide S5).below hb).low
          obtain ⟨wf, hwf, hfr, hbf⟩ := SD.put (unhide HH) (.slice a' (ins (⟨k, Sp.startI at_, (put zero n)⟩ : Win AggV) l).length c')
          have hmv : Moved (fun j => j = H + 1) W6 wf := by rw [← hwf]; exact setCells_moved W6 (H + 1) 0 _
          have HNEW : Hid (∀ j, _ = some j → (Value.slice a l.length c).ownBlock = some j ∨ w.heap.size ≤ j) := hide (fun j hj => .inr (Nat.le_trans (unhide S5).bel.size (row_lt hrow j hj).1))
          have HROW := hide (row_mono (row_moved hrow hmv (fun i hi k hk => by have := (row_lt hrow k hk).1; have := (unhide S5).r1.lt; omega)) (Nat.le_trans (unhide HBB) (unhide S5).bel.size))
          have TH := hide SD.r1.there
          have HFR := hide hfr
          have HBF := hide hbf
          have HWF := hide hwf
          clear hfr hbf hmv hwf hrow hb SD HWT RG RX
          go_wp2_with (first | (refine wpList_store_mid rfl 29 (.tmp 8) (.tmp 58) rfl (H + 1) 0 #[.slice a' (ins (⟨k, Sp.startI at_, (put zero n)⟩ : Win AggV) l).length c'] rfl rfl (unhide TH) (by kernel_rfl) (by simp [Value.oneCell']) ?_; change wpList _ _ _ _ _ (World.setCells _ (H + 1) 0 [.slice a' (ins (⟨k, Sp.startI at_, (put zero n)⟩ : Win AggV) l).length c']); rw [unhide HWF]))
          refine bodyPost_ret (v := .tuple #[.agg #[.slice a' (ins (⟨k, Sp.startI at_, (put zero n)⟩ : Win AggV) l).length c'], .int .i64 0]) ?_ rfl ?_
          · exact results_cell_tmp Try.results13 _ wf (H + 1) [.slice a' (ins (⟨k, Sp.startI at_, (put zero n)⟩ : Win AggV) l).length c'] _ rfl (unhide HFR).range Try.underlying29 rfl (by kernel_rfl)
          · exact ⟨a', c', by rw [unhide RS]; rfl, by rw [unhide RS]; exact unhide HROW, by rw [unhide RS]; exact unhide HNEW, unhide HBF⟩
      | true =>
        obtain ⟨y, hy⟩ : ∃ y, l[i]? = some y := by
          cases h : l[i]? with
          | some y => exact ⟨y, rfl⟩
          | none => have h1 := unhide HLO; have h2 := unhide HOP; rw [h] at h1; rw [h1] at h2; cases h2
        have hlk : look l k (Sp.startI at_) = some y.agg := by have h1 := unhide HLO; rw [hy] at h1; exact h1
        have hil : i < l.length := (List.getElem?_eq_some_iff.1 hy).1
        have HZI := hide ((unhide HIN) y (List.mem_of_getElem? hy))
        have RS := hide (put_open (O := SO) (v := n) ⟨hk, hr⟩ (show look l k (SO.start at_) = some y.agg from hlk))
        obtain ⟨g, rfl⟩ : ∃ g, a = some ⟨g, 0, none⟩ := by
          rcases row_flat (unhide HRW) with h | h
          · exact ⟨_, h⟩
          · rw [h] at hil; cases hil
        have RA : Hid (W2.rangeAt g (i * 10 + 2) (cellsA y.agg)) := hide fun j u hu => by
          have h1 := lies_at outK_law (row_lies (row_below (unhide HRW) (unhide SC).bel)) hy
          have := h1 (2 + j) u (by rw [← hu, Nat.add_comm 2 j]; rfl)
          rw [Nat.zero_add] at this
          rw [show i * 10 + 2 + j = i * 10 + (2 + j) by omega]; exact this
        have g1 : (i : Int) < (l.length : Int) := by omega
        have hi0 : (0 : Int) ≤ (i : Int) := by omega
        clear hlk hy
        generalize y.agg = ya at *
        obtain ⟨W3, hw3, s3⟩ := (unhide SC).part (unhide HH) (cellsA ya) rfl
        have H3 := hide hw3
        have S3' := hide s3
        have T3 := hide (there_part (unhide SC).r2)
        clear hw3 s3
        go_upto_region 8 with fail
        go_upto_region 9 with (first | (refine wpList_load_on rfl 32 (.tmp 46) rfl g (i * 10 + 2) rfl (cellsA ya) _ (unhide RA) Try.underlying32 rfl (by kernel_rfl) ?_) | (refine wpList_store_mid rfl 32 (.tmp 48) (.tmp 47) rfl (H + 1 + 1) 2 (cellsA ya).toArray rfl rfl (unhide T3) (by kernel_rfl) (by simp [Value.oneCell', cellsA, I]) ?_; change wpList _ _ _ _ _ (World.setCells _ (H + 1 + 1) 2 (cellsA ya)); rw [unhide H3]))
        have RZ := hide (fun j u hu => by
          have := (unhide S3').r2.range (2 + j) u (by rw [← hu, Nat.add_comm 2 j]; rfl)
          rwa [Nat.zero_add] at this : W3.rangeAt (H + 1 + 1) 2 (cellsA ya))
        go_upto_region 10 with (refine wpList_load_on rfl 32 (.tmp 49) rfl (H + 1 + 1) 2 rfl (cellsA ya) _ (unhide RZ) Try.underlying32 rfl (by kernel_rfl) ?_)
        refine (ref_put_any ya n W3 (unhide HZI) hn).mono ?_
        rintro e W4 ⟨rfl, hb⟩
        have SW := hide ((unhide S3').below hb)
        clear hb RZ
        obtain ⟨W5, hw5, s5⟩ := (unhide SW).part (unhide HH) (cellsA (put ya n)) rfl
        have H5 := hide hw5
        have S5 := hide s5
        have T5 := hide (there_part (unhide SW).r2)
        clear hw5 s5
        go_upto_region 10 with (refine wpList_store_mid rfl 32 (.tmp 53) (.tmp 52) rfl (H + 1 + 1) 2 (cellsA (put ya n)).toArray rfl rfl (unhide T5) (by kernel_rfl) (by simp [Value.oneCell', cellsA, I]) ?_; change wpList _ _ _ _ _ (World.setCells _ (H + 1 + 1) 2 (cellsA (put ya n))); rw [unhide H5])
        have WT := with_any (row_mono (row_below (unhide HRW) (unhide S5).bel) (Nat.zero_le _)) (Nat.le_trans (unhide HG).most (by omega)) i (unhide HPOS) (⟨k, Sp.startI at_, (put ya n)⟩ : Win AggV) true (fun _ => hil)
        rw [unhide HINS (put ya n)] at WT
        have HWT := hide WT
        clear WT
        have RG := hide (unhide S5).r0.range
        have RX := hide (unhide S5).r2.range
        go_wp2_with (first | (refine wpList_load_on rfl 29 (.tmp 4) rfl H 0 rfl [.slice (some ⟨g, 0, none⟩) l.length c] _ (unhide RG) Try.underlying29 rfl (by kernel_rfl) ?_) | (refine wpList_load_on rfl 34 (.tmp 10) rfl (H + 1 + 1) 0 rfl (.string ⟨k.toArray⟩ :: .int .i64 (Sp.startI at_) :: cellsA (put ya n)) _ (unhide RX) Try.underlying34 rfl (by kernel_rfl) ?_))
        refine (unhide HWT).mono ?_
        rintro e W6 ⟨a', c', rfl, hrow, hb⟩
        have SD := ((unhide S5).below hb).low
        obtain ⟨wf, hwf, hfr, hbf⟩ := SD.put (unhide HH) (.slice a' (ins (⟨k, Sp.startI at_, (put ya n)⟩ : Win AggV) l).length c')
        have hmv : Moved (fun j => j = H + 1) W6 wf := by rw [← hwf]; exact setCells_moved W6 (H + 1) 0 _
        have HNEW : Hid (∀ j, _ = some j → (Value.slice (some ⟨g, 0, none⟩) l.length c).ownBlock = some j ∨ w.heap.size ≤ j) := hide (fun j hj => .inr (Nat.le_trans (unhide S5).bel.size (row_lt hrow j hj).1))
        have HROW := hide (row_mono (row_moved hrow hmv (fun i hi k hk => by have := (row_lt hrow k hk).1; have := (unhide S5).r1.lt; omega)) (Nat.le_trans (unhide HBB) (unhide S5).bel.size))
        have TH := hide SD.r1.there
        have HFR := hide hfr
        have HBF := hide hbf
        have HWF := hide hwf
        clear hfr hbf hmv hwf hrow hb SD HWT RG RX
        go_wp2_with (first | (refine wpList_store_mid rfl 29 (.tmp 8) (.tmp 58) rfl (H + 1) 0 #[.slice a' (ins (⟨k, Sp.startI at_, (put ya n)⟩ : Win AggV) l).length c'] rfl rfl (unhide TH) (by kernel_rfl) (by simp [Value.oneCell']) ?_; change wpList _ _ _ _ _ (World.setCells _ (H + 1) 0 [.slice a' (ins (⟨k, Sp.startI at_, (put ya n)⟩ : Win AggV) l).length c']); rw [unhide HWF]))
        refine bodyPost_ret (v := .tuple #[.agg #[.slice a' (ins (⟨k, Sp.startI at_, (put ya n)⟩ : Win AggV) l).length c'], .int .i64 0]) ?_ rfl ?_
        · exact results_cell_tmp Try.results13 _ wf (H + 1) [.slice a' (ins (⟨k, Sp.startI at_, (put ya n)⟩ : Win AggV) l).length c'] _ rfl (unhide HFR).range Try.underlying29 rfl (by kernel_rfl)
        · exact ⟨a', c', by rw [unhide RS]; rfl, by rw [unhide RS]; exact unhide HROW, by rw [unhide RS]; exact unhide HNEW, unhide HBF⟩
end Go.Proofs.Ytoccgggiaalhdaa

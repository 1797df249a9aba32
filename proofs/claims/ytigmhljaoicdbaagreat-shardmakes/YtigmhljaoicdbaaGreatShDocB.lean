/- The document's own Apply. Conditions: at most 9000 answers were given; an item's numbers are a machine's. -/
import Derived.Test.YtigmhljaoicdbaaGreatShDocA
namespace Go.Proofs.YtigmhljaoicdbaaGreat
open Go.RowKit
/-- The document's state: its row of windows, its list of answers. -/
structure DocR (v : World) (S : StV) (W : Sn.RefS) (a : Option Addr) (c : Nat) (a2 : Option Addr) (c2 : Nat) : Prop where
  row : OutK.Row v 0 a c S.line.row
  list : Sn.RefK.Row v 0 a2 c2 W.l
  rel : Sn.Rel S.tab W
/-- What an item leaves. -/
structure DocD (w w' : World) (S T : StV) (W V : Sn.RefS) (a : Option Addr) (c : Nat) (a2 : Option Addr) (c2 : Nat) (o : List (Win AggV)) (b : Option Addr) (d : Nat) (b2 : Option Addr) (d2 : Nat) (b3 : Option Addr) (d3 : Nat) : Prop where
  bel : Below w.heap.size w w'
  doc : DocR w' T V b d b2 d2
  told : OutK.Row w' 0 b3 d3 o
  len : V.l.length ≤ W.l.length + 1
  own1 : ∀ j, (Value.slice b T.line.row.length d).ownBlock = some j → (Value.slice a S.line.row.length c).ownBlock = some j ∨ w.heap.size ≤ j
  own2 : ∀ j, (Value.slice b2 V.l.length d2).ownBlock = some j → (Value.slice a2 W.l.length c2).ownBlock = some j ∨ w.heap.size ≤ j
  own3 : ∀ j, (Value.slice b3 o.length d3).ownBlock = some j → w.heap.size ≤ j
theorem row_off {v v' : World} {H : Nat} {a : Option Addr} {c : Nat} {l : List (Win AggV)} (h : OutK.Row v 0 a c l) (m : Moved (fun j => j = H) v v') (hn : ∀ j, (Value.slice a l.length c).ownBlock = some j → j ≠ H) : OutK.Row v' 0 a c l :=
  row_moved h m (fun i hi k hk e => hn k hk (by rw [← e]; exact hi))
theorem ref_off {v v' : World} {H : Nat} {a : Option Addr} {c : Nat} {l : List Sn.Ent} (h : Sn.RefK.Row v 0 a c l) (m : Moved (fun j => j = H) v v') (hn : ∀ j, (Value.slice a l.length c).ownBlock = some j → j ≠ H) : Sn.RefK.Row v' 0 a c l :=
  Sn.row_keep h m (fun i hi hk => hn i hk.2 hi)
theorem ref_below {v v' : World} {a : Option Addr} {c : Nat} {l : List Sn.Ent} (h : Sn.RefK.Row v 0 a c l) (b : Below v.heap.size v v') : Sn.RefK.Row v' 0 a c l :=
  Sn.row_keep h (Moved.of_below (F := fun _ => False) b) (fun _ f => f.elim)
set_option maxRecDepth 100000 in
set_option maxHeartbeats 20000000 in
theorem rapply_any {w : World} {S : StV} {R : Sn.RefS} {a a2 : Option Addr} {c c2 : Nat} (hS : GoodS S) (h : DocR w S R a c a2 c2) (hl : R.l.length ≤ 9000) (x : ItemV) (hx : x.In) :
    Calls Tryz.prog 13 #[.agg (docC S.line.mark a S.line.row.length c R.low a2 R.l.length c2).toArray, .agg (itemC x).toArray] w fun e w' => ∃ V b d b2 d2 b3 d3,
      e = .returned (.tuple #[.agg (docC (appS S x).line.mark b (appS S x).line.row.length d V.low b2 V.l.length d2).toArray, .int .i64 (codeS S x), .slice b3 (outsS S x).length d3, .bool (freshS S x)]) ∧ DocD w w' S (appS S x) R V a c a2 c2 (outsS S x) b d b2 d2 b3 d3 := by
  obtain ⟨lo, l⟩ := R
  obtain ⟨D, hD⟩ : ∃ D, D = docC S.line.mark a S.line.row.length c lo a2 l.length c2 := ⟨_, rfl⟩
  obtain ⟨W, hW⟩ : ∃ W, W = ((w.alloc (.cells D.toArray 37)).alloc (.cells (itemC x).toArray 42)).alloc (.cells #[.int .i64 0, .slice none 0 0, .int .i64 0, .int .i64 0, .int .i64 0, .int .i64 0, .slice none 0 0] 37) := ⟨_, rfl⟩
  obtain ⟨H, hH⟩ : ∃ H, H = w.heap.size := ⟨_, rfl⟩
  have b1 : Below w.heap.size w (w.alloc (.cells D.toArray 37)) := (Below.refl _ _).alloc (Nat.le_refl _) _
  have b2 : Below w.heap.size w ((w.alloc (.cells D.toArray 37)).alloc (.cells (itemC x).toArray 42)) := b1.alloc (by simp) _
  have bW : Below w.heap.size w W := by rw [hW]; exact b2.alloc (by simp; omega) _
  have BL : DB w H D (itemC x) zeroD W := by
    rw [hW, hH]
    refine ⟨row_old (row_old (row_new _ _ _) _) _, row_old (row_new2 _ _ _ _ _) _, ?_, by rw [← hW]; exact bW⟩
    have h3 := row_new ((w.alloc (.cells D.toArray 37)).alloc (.cells (itemC x).toArray 42)) zeroD 37
    have e3 : ((w.alloc (.cells D.toArray 37)).alloc (.cells (itemC x).toArray 42)).heap.size = w.heap.size + 1 + 1 := by simp
    rw [e3] at h3
    exact h3
  have hWs : W.heap.size = H + 3 := by rw [hW, hH]; simp
  have hrow := row_below h.row bW
  have hlist := ref_below h.list bW
  have hoa : ∀ j, (Value.slice a S.line.row.length c).ownBlock = some j → j < H := fun j e => by rw [hH]; exact (row_lt h.row j e).2
  have hob : ∀ j, (Value.slice a2 l.length c2).ownBlock = some j → j < H := fun j e => by rw [hH]; exact (Sn.row_lt h.list j e).2
  have hask : Sn.rask ⟨lo, l⟩ x.src x.seq x.low = askS S x := Sn.rel_ask h.rel hS.tab x.src x.seq x.low
  have hsq : x.seq ≤ 9223372036854775807 := hx.seq.2
  have CA := hide (Sn.rask_any (low := lo) (c := c2) hlist.at_ (Nat.le_trans hl (by show 9000 ≤ 100000; omega)) x.src x.seq x.low hsq)
  rw [hask] at CA
  have c0 : W.cell? ⟨H + 1, 0, none⟩ = some (.int .i64 x.src) := BL.r1.cell 0 (by simp [itemC])
  have c1 : W.cell? ⟨H + 1, 1, none⟩ = some (.int .i64 x.seq) := BL.r1.cell 1 (by simp [itemC])
  have c2' : W.cell? ⟨H + 1, 2, none⟩ = some (.int .i64 x.low) := BL.r1.cell 2 (by simp [itemC])
  rw [hD] at BL
  have RS := hide (range_part BL.r0)
  have B0 := hide BL
  have HW := hide hW
  have HH := hide hH
  have HD := hide hD
  have HWS := hide hWs
  have HROW := hide hrow
  have HLIST := hide hlist
  have HOA := hide hoa
  have HOB := hide hob
  have HREL := hide h.rel
  have HGS := hide hS
  have HX := hide hx
  have HL_ := hide hl
  have CX := hide (ask_cases S x)
  have DS : Hid (docC S.line.mark a S.line.row.length c lo a2 l.length c2 = D) := hide hD.symm
  show Calls Tryz.prog 13 #[.agg (docC S.line.mark a S.line.row.length c lo a2 l.length c2).toArray, _] w _
  rw [unhide DS]
  clear hD hW hH b1 b2 bW BL hWs hrow hlist hoa hob h hS hx hl hsq hask
  rcases unhide CX with ⟨hs, he⟩ | ⟨hs, he⟩ | hs | ⟨hs, he⟩
  · have hf : freshS S x = false := stale_iff.2 (by rw [hs]; decide)
    have hcs : codeS S x = 4 := by unfold codeS; rw [if_pos hs]
    have hap := app_stale hf
    rw [hf, hcs, hap.1, hap.2]
    clear hcs hap hf CX
    go_enter Tryz.func13, Tryz.ntmps13
    go_upto_region 1 with fail
    rw [← unhide HH]
    try change Code.wp _ _ _ _ (((w.alloc (.cells D.toArray 37)).alloc (.cells (itemC x).toArray 42)).alloc (.cells #[.int .i64 0, .slice none 0 0, .int .i64 0, .int .i64 0, .int .i64 0, .int .i64 0, .slice none 0 0] 37))
    rw [← unhide HW]
    go_wp2_with (refine Sn.wpList_load_on rfl 35 (.tmp 12) rfl H 2 rfl (Sn.refC lo a2 l.length c2) _ (unhide RS) Tryz.underlying35 rfl (by kernel_rfl) ?_)
    refine (unhide CA).mono ?_
    rintro e v1 ⟨rfl, hb1⟩
    rw [he]
    have B1 := hide ((unhide B0).below hb1)
    have ROW1 := hide (row_below (unhide HROW) hb1)
    have LIST1 := hide (ref_below (unhide HLIST) hb1)
    have Z1 : Hid (H + 3 ≤ v1.heap.size) := hide (by have := hb1.size; have := unhide HWS; omega)
    clear hb1 CA RS c0 c1 c2'
    have DR := hide (unhide B1).r0.range
    have DT := hide (unhide B1).r2.there
    obtain ⟨wf, hwf, hdb, hmv⟩ := (unhide B1).out (unhide HH) (docC S.line.mark a S.line.row.length c lo a2 l.length c2) rfl
    have EQ := hide hwf
    have HF := hide hdb
    have MV := hide hmv
    clear hwf hdb hmv
    go_wp2_with (first | refine Sn.wpList_load_on rfl 37 (.tmp 2) rfl H 0 rfl (docC S.line.mark a S.line.row.length c lo a2 l.length c2) _ (unhide DR) Tryz.underlying37 rfl (by kernel_rfl) ?_ | (refine wpList_store_mid rfl 37 (.tmp 4) (.tmp 25) rfl (H + 1 + 1) 0 (docC S.line.mark a S.line.row.length c lo a2 l.length c2).toArray rfl rfl (unhide DT) (by kernel_rfl) (by simp [docC, Sn.refC, Value.oneCell']) ?_; change wpList _ _ _ _ _ (World.setCells _ (H + 1 + 1) 0 (docC S.line.mark a S.line.row.length c lo a2 l.length c2)); rw [unhide EQ]))
    refine bodyPost_ret (v := .tuple #[.agg (docC S.line.mark a S.line.row.length c lo a2 l.length c2).toArray, .int .i64 4, .slice none 0 0, .bool false]) ?_ rfl ?_
    · exact results_cell_tmp3 Tryz.results13 _ wf (H + 1 + 1) (docC S.line.mark a S.line.row.length c lo a2 l.length c2) _ rfl (unhide HF).r2.range Tryz.underlying37 rfl (by kernel_rfl)
    · refine ⟨⟨lo, l⟩, a, c, a2, c2, none, 0, rfl, (unhide HF).bel, ⟨row_off (unhide ROW1) (unhide MV) fun j e => by have := unhide HOA j e; omega, ref_off (unhide LIST1) (unhide MV) fun j e => by have := unhide HOB j e; omega, unhide HREL⟩, row_none _ _, Nat.le_succ _, fun _ e => .inl e, fun _ e => .inl e, fun _ e => by cases e⟩
  · have hf : freshS S x = false := stale_iff.2 (by rw [hs]; decide)
    have hcs : codeS S x = 0 := by unfold codeS; rw [if_neg (by rw [hs]; decide), if_neg (by rw [hs]; decide), he]
    have hap := app_stale hf
    rw [hf, hcs, hap.1, hap.2]
    clear hcs hap hf CX
    go_enter Tryz.func13, Tryz.ntmps13
    go_upto_region 1 with fail
    rw [← unhide HH]
    try change Code.wp _ _ _ _ (((w.alloc (.cells D.toArray 37)).alloc (.cells (itemC x).toArray 42)).alloc (.cells #[.int .i64 0, .slice none 0 0, .int .i64 0, .int .i64 0, .int .i64 0, .int .i64 0, .slice none 0 0] 37))
    rw [← unhide HW]
    go_wp2_with (refine Sn.wpList_load_on rfl 35 (.tmp 12) rfl H 2 rfl (Sn.refC lo a2 l.length c2) _ (unhide RS) Tryz.underlying35 rfl (by kernel_rfl) ?_)
    refine (unhide CA).mono ?_
    rintro e v1 ⟨rfl, hb1⟩
    rw [he]
    have B1 := hide ((unhide B0).below hb1)
    have ROW1 := hide (row_below (unhide HROW) hb1)
    have LIST1 := hide (ref_below (unhide HLIST) hb1)
    have Z1 : Hid (H + 3 ≤ v1.heap.size) := hide (by have := hb1.size; have := unhide HWS; omega)
    clear hb1 CA RS c0 c1 c2'
    have DR := hide (unhide B1).r0.range
    have DT := hide (unhide B1).r2.there
    obtain ⟨wf, hwf, hdb, hmv⟩ := (unhide B1).out (unhide HH) (docC S.line.mark a S.line.row.length c lo a2 l.length c2) rfl
    have EQ := hide hwf
    have HF := hide hdb
    have MV := hide hmv
    clear hwf hdb hmv
    go_wp2_with (first | refine Sn.wpList_load_on rfl 37 (.tmp 2) rfl H 0 rfl (docC S.line.mark a S.line.row.length c lo a2 l.length c2) _ (unhide DR) Tryz.underlying37 rfl (by kernel_rfl) ?_ | (refine wpList_store_mid rfl 37 (.tmp 4) (.tmp 28) rfl (H + 1 + 1) 0 (docC S.line.mark a S.line.row.length c lo a2 l.length c2).toArray rfl rfl (unhide DT) (by kernel_rfl) (by simp [docC, Sn.refC, Value.oneCell']) ?_; change wpList _ _ _ _ _ (World.setCells _ (H + 1 + 1) 0 (docC S.line.mark a S.line.row.length c lo a2 l.length c2)); rw [unhide EQ]))
    refine bodyPost_ret (v := .tuple #[.agg (docC S.line.mark a S.line.row.length c lo a2 l.length c2).toArray, .int .i64 0, .slice none 0 0, .bool false]) ?_ rfl ?_
    · exact results_cell_tmp3 Tryz.results13 _ wf (H + 1 + 1) (docC S.line.mark a S.line.row.length c lo a2 l.length c2) _ rfl (unhide HF).r2.range Tryz.underlying37 rfl (by kernel_rfl)
    · refine ⟨⟨lo, l⟩, a, c, a2, c2, none, 0, rfl, (unhide HF).bel, ⟨row_off (unhide ROW1) (unhide MV) fun j e => by have := unhide HOA j e; omega, ref_off (unhide LIST1) (unhide MV) fun j e => by have := unhide HOB j e; omega, unhide HREL⟩, row_none _ _, Nat.le_succ _, fun _ e => .inl e, fun _ e => .inl e, fun _ e => by cases e⟩
  · obtain ⟨cc, hcc⟩ : ∃ cc, cc = (askS S x).2 := ⟨_, rfl⟩
    have he : askS S x = (2, cc) := by rw [hcc]; exact Prod.ext hs rfl
    have hf : freshS S x = false := stale_iff.2 (by rw [hs]; decide)
    have hcs : codeS S x = cc := by unfold codeS; rw [if_neg (by rw [hs]; decide), if_neg (by rw [hs]; decide)]; exact hcc.symm
    have hap := app_stale hf
    rw [hf, hcs, hap.1, hap.2]
    clear hcs hap hf CX hcc hs
    go_enter Tryz.func13, Tryz.ntmps13
    go_upto_region 1 with fail
    rw [← unhide HH]
    try change Code.wp _ _ _ _ (((w.alloc (.cells D.toArray 37)).alloc (.cells (itemC x).toArray 42)).alloc (.cells #[.int .i64 0, .slice none 0 0, .int .i64 0, .int .i64 0, .int .i64 0, .int .i64 0, .slice none 0 0] 37))
    rw [← unhide HW]
    go_wp2_with (refine Sn.wpList_load_on rfl 35 (.tmp 12) rfl H 2 rfl (Sn.refC lo a2 l.length c2) _ (unhide RS) Tryz.underlying35 rfl (by kernel_rfl) ?_)
    refine (unhide CA).mono ?_
    rintro e v1 ⟨rfl, hb1⟩
    rw [he]
    have B1 := hide ((unhide B0).below hb1)
    have ROW1 := hide (row_below (unhide HROW) hb1)
    have LIST1 := hide (ref_below (unhide HLIST) hb1)
    have Z1 : Hid (H + 3 ≤ v1.heap.size) := hide (by have := hb1.size; have := unhide HWS; omega)
    clear hb1 CA RS c0 c1 c2'
    have DR := hide (unhide B1).r0.range
    have DT := hide (unhide B1).r2.there
    obtain ⟨wf, hwf, hdb, hmv⟩ := (unhide B1).out (unhide HH) (docC S.line.mark a S.line.row.length c lo a2 l.length c2) rfl
    have EQ := hide hwf
    have HF := hide hdb
    have MV := hide hmv
    clear hwf hdb hmv
    go_wp2_with (first | refine Sn.wpList_load_on rfl 37 (.tmp 2) rfl H 0 rfl (docC S.line.mark a S.line.row.length c lo a2 l.length c2) _ (unhide DR) Tryz.underlying37 rfl (by kernel_rfl) ?_ | (refine wpList_store_mid rfl 37 (.tmp 4) (.tmp 28) rfl (H + 1 + 1) 0 (docC S.line.mark a S.line.row.length c lo a2 l.length c2).toArray rfl rfl (unhide DT) (by kernel_rfl) (by simp [docC, Sn.refC, Value.oneCell']) ?_; change wpList _ _ _ _ _ (World.setCells _ (H + 1 + 1) 0 (docC S.line.mark a S.line.row.length c lo a2 l.length c2)); rw [unhide EQ]))
    refine bodyPost_ret (v := .tuple #[.agg (docC S.line.mark a S.line.row.length c lo a2 l.length c2).toArray, .int .i64 cc, .slice none 0 0, .bool false]) ?_ rfl ?_
    · exact results_cell_tmp3 Tryz.results13 _ wf (H + 1 + 1) (docC S.line.mark a S.line.row.length c lo a2 l.length c2) _ rfl (unhide HF).r2.range Tryz.underlying37 rfl (by kernel_rfl)
    · refine ⟨⟨lo, l⟩, a, c, a2, c2, none, 0, rfl, (unhide HF).bel, ⟨row_off (unhide ROW1) (unhide MV) fun j e => by have := unhide HOA j e; omega, ref_off (unhide LIST1) (unhide MV) fun j e => by have := unhide HOB j e; omega, unhide HREL⟩, row_none _ _, Nat.le_succ _, fun _ e => .inl e, fun _ e => .inl e, fun _ e => by cases e⟩
  · have hf : freshS S x = true := fresh_iff.2 hs
    obtain ⟨p1, p2, p3⟩ := app_fresh hf
    have hcode := doL_code S.line x
    obtain ⟨f1, f2, f3⟩ := fresh_facts.1 hf
    have hnz : Sn.noteE S.tab x.src x.seq x.low (doL S.line x).2.1 = 0 := Sn.noteE_zero.2 ⟨f1, hcode, f2, f3⟩
    have hrn : Sn.rnoteE ⟨lo, l⟩ x.src x.seq x.low (doL S.line x).2.1 = 0 := (Sn.rel_noteE (unhide HREL) (unhide HGS).tab _ _ _ _).trans hnz
    have REL2 : Hid (Sn.Rel (Sn.note S.tab x.src x.seq x.low (doL S.line x).2.1) ⟨Sn.rlow ⟨lo, l⟩ x.src x.low, l ++ [⟨x.src, x.seq, (doL S.line x).2.1⟩]⟩) := hide (by
      have := Sn.rel_note (unhide HREL) (unhide HGS).tab x.src x.seq x.low (doL S.line x).2.1
      unfold Sn.rnote at this
      rw [if_pos hrn] at this
      exact this)
    have CN : Hid (∀ v, Sn.RefK.Row v 0 a2 c2 l → Calls Tryz.prog 36 #[.agg (Sn.refC lo a2 l.length c2).toArray, .int .i64 x.src, .int .i64 x.seq, .int .i64 x.low, .int .i64 (doL S.line x).2.1] v fun e w' => ∃ a' c', e = .returned (.tuple #[.agg (Sn.refC (Sn.rlow ⟨lo, l⟩ x.src x.low) a' (l.length + 1) c').toArray, .int .i64 0]) ∧ Below v.heap.size v w' ∧ Sn.RefK.Row w' v.heap.size a' c' (l ++ [⟨x.src, x.seq, (doL S.line x).2.1⟩])) := hide fun v hv => Sn.rnote_ok hv.at_ (Nat.le_trans (unhide HL_) (by show 9000 ≤ 10000; omega)) _ _ _ _ (unhide HX).seq.2 hrn
    rw [p1, p2, p3, hf]
    clear p1 p2 p3 hcode f1 f2 f3 hnz hrn hf CX
    obtain ⟨ki, hki⟩ : ∃ ki : Int, ki = (x.kind : Int) := ⟨_, rfl⟩
    by_cases hk : ki = 1
    · have hkk : x.kind = 1 := by omega
      go_enter Tryz.func13, Tryz.ntmps13
      go_upto_region 1 with fail
      rw [← unhide HH]
      try change Code.wp _ _ _ _ (((w.alloc (.cells D.toArray 37)).alloc (.cells (itemC x).toArray 42)).alloc (.cells #[.int .i64 0, .slice none 0 0, .int .i64 0, .int .i64 0, .int .i64 0, .int .i64 0, .slice none 0 0] 37))
      rw [← unhide HW]
      go_wp2_with (refine Sn.wpList_load_on rfl 35 (.tmp 12) rfl H 2 rfl (Sn.refC lo a2 l.length c2) _ (unhide RS) Tryz.underlying35 rfl (by kernel_rfl) ?_)
      refine (unhide CA).mono ?_
      rintro e v1 ⟨rfl, hb1⟩
      rw [he]
      have B1 := hide ((unhide B0).below hb1)
      have ROW1 := hide (row_below (unhide HROW) hb1)
      have LIST1 := hide (ref_below (unhide HLIST) hb1)
      have Z1 : Hid (H + 3 ≤ v1.heap.size) := hide (by have := hb1.size; have := unhide HWS; omega)
      have k3 : v1.cell? ⟨H + 1, 3, none⟩ = some (.int .u8 ki) := by rw [hki]; exact (unhide B1).r1.cell 3 (by simp [itemC])
      have k4 : v1.cell? ⟨H + 1, 4, none⟩ = some (.string ⟨x.key.toArray⟩) := (unhide B1).r1.cell 4 (by simp [itemC])
      have k6 : v1.cell? ⟨H + 1, 6, none⟩ = some (.int .i64 x.at_) := (unhide B1).r1.cell 6 (by simp [itemC])
      have k7 : v1.cell? ⟨H + 1, 7, none⟩ = some (.int .i64 x.n) := (unhide B1).r1.cell 7 (by simp [itemC])
      clear hb1 CA RS c0 c1 c2'
      have C1 := hide (rtput_any (unhide ROW1) (Nat.zero_le _) (unhide HGS).line.good (unhide HGS).mild x.key x.at_ x.n (unhide HX).n)
      have RL := hide (range_two (unhide B1).r0)
      obtain ⟨LV, hLV⟩ : ∃ LV, LV = putL S.line x.key x.at_ x.n := ⟨_, rfl⟩
      have ELV := hide hLV
      rw [← hLV] at C1
      clear hLV hki
      subst hk
      go_wp2_with (refine Sn.wpList_load_on rfl 31 (.tmp 35) rfl H 0 rfl [.int .i64 S.line.mark, .slice a S.line.row.length c] _ (unhide RL) Tryz.underlying31 rfl (by kernel_rfl) ?_)
      refine (unhide C1).mono ?_
      rintro e v2 ⟨a3, c3, rfl, hr2, ho2, hb2⟩
      have TOLD : Hid (∀ v : World, OutK.Row v 0 none 0 ([] : List (Win AggV))) := hide fun _ => row_none _ _
      have OA : Hid (∀ j, (Value.slice a3 LV.1.row.length c3).ownBlock = some j → (Value.slice a S.line.row.length c).ownBlock = some j ∨ H + 3 ≤ j) := hide fun j e => (ho2 j e).imp id fun h => by have := unhide Z1; omega
      have OAN : Hid (∀ j, (Value.slice a3 LV.1.row.length c3).ownBlock = some j → j < H ∨ H + 3 ≤ j) := hide fun j e => (unhide OA j e).imp (unhide HOA j) id
      have ROW2 := hide hr2
      have LIST2 := hide (ref_below (unhide LIST1) hb2)
      have B2 := hide ((unhide B1).below hb2)
      have Z2 : Hid (H + 3 ≤ v2.heap.size) := hide (Nat.le_trans (unhide Z1) hb2.size)
      clear hr2 ho2 hb2 C1 RL ROW1 LIST1 B1 k3 k4 k6 k7
      have TH := hide (there_two (unhide B2).r0)
      obtain ⟨v3, hv3, hdb, hmv⟩ := (unhide B2).line (unhide HH) (.int .i64 LV.1.mark) (.slice a3 LV.1.row.length c3)
      have EQ3 := hide hv3
      have B3 := hide hdb
      have ROW3 := hide (row_off (unhide ROW2) hmv fun j e => by have := unhide OAN j e; omega)
      have LIST3 := hide (ref_off (unhide LIST2) hmv fun j e => by have := unhide HOB j e; omega)
      have Z3 : Hid (H + 3 ≤ v3.heap.size) := hide (Nat.le_trans (unhide Z2) hmv.size)
      clear hv3 hdb hmv B2 ROW2 LIST2
      go_upto_region 13 with (refine wpList_store_mid rfl 31 (.tmp 46) (.tmp 44) rfl H 0 #[.int .i64 LV.1.mark, .slice a3 LV.1.row.length c3] rfl rfl (unhide TH) (by kernel_rfl) (by simp [Value.oneCell']) ?_; change wpList _ _ _ _ _ (World.setCells _ H 0 [.int .i64 LV.1.mark, .slice a3 LV.1.row.length c3]); rw [unhide EQ3])
      clear TH EQ3
      have EDL : doL S.line x = (LV.1, (LV.2 : Int), []) := by rw [unhide ELV]; exact if_pos hkk
      have CN2 := hide (unhide CN v3 (unhide LIST3))
      rw [EDL] at CN2 REL2
      dsimp only at CN2 REL2
      have RS3 := hide (range_part (unhide B3).r0)
      have k0 : World.cell? v3 ⟨H + 1, 0, none⟩ = some (.int .i64 x.src) := (unhide B3).r1.cell 0 (by simp [itemC])
      have k1 : World.cell? v3 ⟨H + 1, 1, none⟩ = some (.int .i64 x.seq) := (unhide B3).r1.cell 1 (by simp [itemC])
      have k2 : World.cell? v3 ⟨H + 1, 2, none⟩ = some (.int .i64 x.low) := (unhide B3).r1.cell 2 (by simp [itemC])
      have HEDL := hide EDL
      clear CN EDL
      go_wp2_with (refine Sn.wpList_load_on rfl 35 (.tmp 60) rfl H 2 rfl (Sn.refC lo a2 l.length c2) _ (unhide RS3) Tryz.underlying35 rfl (by kernel_rfl) ?_)
      refine (unhide CN2).mono ?_
      rintro e v4 ⟨a5, c5, rfl, hb4, hr5⟩
      have ROW4 := hide (row_below (unhide ROW3) hb4)
      have B4 := hide ((unhide B3).below hb4)
      have OL : Hid (∀ j, (Value.slice a5 (l.length + 1) c5).ownBlock = some j → H + 3 ≤ j) := hide fun j e => by
        have e' : (Value.slice a5 (l ++ [(⟨x.src, x.seq, (LV.2 : Int)⟩ : Sn.Ent)]).length c5).ownBlock = some j := by rw [List.length_append]; exact e
        have := (Sn.row_lt hr5 j e').1
        have := unhide Z3
        omega
      have LIST4 := hide (Sn.row_base hr5 (Nat.zero_le _))
      have Z4 : Hid (H + 3 ≤ v4.heap.size) := hide (Nat.le_trans (unhide Z3) hb4.size)
      clear hb4 hr5 CN2 RS3 ROW3 LIST3 B3 k0 k1 k2
      have TH := hide (there_part (unhide B4).r0)
      obtain ⟨v5, hv5, hdb, hmv⟩ := (unhide B4).seen (unhide HH) (Sn.refC (Sn.rlow ⟨lo, l⟩ x.src x.low) a5 (l.length + 1) c5) rfl
      have EQ5 := hide hv5
      have B5 := hide hdb
      have ROW5 := hide (row_off (unhide ROW4) hmv fun j e => by have := unhide OAN j e; omega)
      have LIST5 := hide (ref_off (unhide LIST4) hmv fun j e => by
        have := unhide OL j (by rw [List.length_append] at e; exact e)
        omega)
      clear hv5 hdb hmv B4 ROW4 LIST4
      go_upto_region 14 with (refine wpList_store_mid rfl 35 (.tmp 72) (.tmp 70) rfl H 2 (Sn.refC (Sn.rlow ⟨lo, l⟩ x.src x.low) a5 (l.length + 1) c5).toArray rfl rfl (unhide TH) (by kernel_rfl) (by simp [Sn.refC, Value.oneCell']) ?_; change wpList _ _ _ _ _ (World.setCells _ H 2 (Sn.refC (Sn.rlow ⟨lo, l⟩ x.src x.low) a5 (l.length + 1) c5)); rw [unhide EQ5])
      clear TH EQ5
      have DR := hide (unhide B5).r0.range
      have DT := hide (unhide B5).r2.there
      obtain ⟨wf, hwf, hdb, hmv⟩ := (unhide B5).out (unhide HH) (docC LV.1.mark a3 LV.1.row.length c3 (Sn.rlow ⟨lo, l⟩ x.src x.low) a5 (l.length + 1) c5) rfl
      have EQ := hide hwf
      have HF := hide hdb
      have MV := hide hmv
      clear hwf hdb hmv
      go_wp2_with (first | refine Sn.wpList_load_on rfl 37 (.tmp 2) rfl H 0 rfl (docC LV.1.mark a3 LV.1.row.length c3 (Sn.rlow ⟨lo, l⟩ x.src x.low) a5 (l.length + 1) c5) _ (unhide DR) Tryz.underlying37 rfl (by kernel_rfl) ?_ | (refine wpList_store_mid rfl 37 (.tmp 4) (.tmp 73) rfl (H + 1 + 1) 0 (docC LV.1.mark a3 LV.1.row.length c3 (Sn.rlow ⟨lo, l⟩ x.src x.low) a5 (l.length + 1) c5).toArray rfl rfl (unhide DT) (by kernel_rfl) (by simp [docC, Sn.refC, Value.oneCell']) ?_; change wpList _ _ _ _ _ (World.setCells _ (H + 1 + 1) 0 (docC LV.1.mark a3 LV.1.row.length c3 (Sn.rlow ⟨lo, l⟩ x.src x.low) a5 (l.length + 1) c5)); rw [unhide EQ]))
      refine bodyPost_ret (v := .tuple #[.agg (docC LV.1.mark a3 LV.1.row.length c3 (Sn.rlow ⟨lo, l⟩ x.src x.low) a5 (l.length + 1) c5).toArray, .int .i64 (LV.2 : Int), .slice none ([] : List (Win AggV)).length 0, .bool true]) ?_ rfl ?_
      · exact results_cell_tmp3 Tryz.results13 _ wf (H + 1 + 1) (docC LV.1.mark a3 LV.1.row.length c3 (Sn.rlow ⟨lo, l⟩ x.src x.low) a5 (l.length + 1) c5) _ rfl (unhide HF).r2.range Tryz.underlying37 rfl (by kernel_rfl)
      · rw [unhide HEDL]
        refine ⟨⟨Sn.rlow ⟨lo, l⟩ x.src x.low, l ++ [⟨x.src, x.seq, (LV.2 : Int)⟩]⟩, a3, c3, a5, c5, none, 0, by rw [List.length_append]; rfl, (unhide HF).bel, ⟨row_off (unhide ROW5) (unhide MV) fun j e => by have := unhide OAN j e; omega, ref_off (unhide LIST5) (unhide MV) fun j e => ?_, unhide REL2⟩, unhide TOLD _, by rw [List.length_append]; exact Nat.le_refl _, fun j e => (unhide OA j e).imp id fun h => by have := unhide HH; omega, fun j e => .inr ?_, fun _ e => by cases e⟩
        · have := unhide OL j (by rw [List.length_append] at e; exact e)
          omega
        · have := unhide OL j (by rw [List.length_append] at e; exact e)
          have := unhide HH
          omega
    · by_cases hk2 : ki = 2
      · have hk := hk2
        have hkk : x.kind = 2 := by omega
        clear hk2
        go_enter Tryz.func13, Tryz.ntmps13
        go_upto_region 1 with fail
        rw [← unhide HH]
        try change Code.wp _ _ _ _ (((w.alloc (.cells D.toArray 37)).alloc (.cells (itemC x).toArray 42)).alloc (.cells #[.int .i64 0, .slice none 0 0, .int .i64 0, .int .i64 0, .int .i64 0, .int .i64 0, .slice none 0 0] 37))
        rw [← unhide HW]
        go_wp2_with (refine Sn.wpList_load_on rfl 35 (.tmp 12) rfl H 2 rfl (Sn.refC lo a2 l.length c2) _ (unhide RS) Tryz.underlying35 rfl (by kernel_rfl) ?_)
        refine (unhide CA).mono ?_
        rintro e v1 ⟨rfl, hb1⟩
        rw [he]
        have B1 := hide ((unhide B0).below hb1)
        have ROW1 := hide (row_below (unhide HROW) hb1)
        have LIST1 := hide (ref_below (unhide HLIST) hb1)
        have Z1 : Hid (H + 3 ≤ v1.heap.size) := hide (by have := hb1.size; have := unhide HWS; omega)
        have k3 : v1.cell? ⟨H + 1, 3, none⟩ = some (.int .u8 ki) := by rw [hki]; exact (unhide B1).r1.cell 3 (by simp [itemC])
        have k4 : v1.cell? ⟨H + 1, 4, none⟩ = some (.string ⟨x.key.toArray⟩) := (unhide B1).r1.cell 4 (by simp [itemC])
        have k6 : v1.cell? ⟨H + 1, 6, none⟩ = some (.int .i64 x.at_) := (unhide B1).r1.cell 6 (by simp [itemC])
        have k7 : v1.cell? ⟨H + 1, 7, none⟩ = some (.int .i64 x.n) := (unhide B1).r1.cell 7 (by simp [itemC])
        clear hb1 CA RS c0 c1 c2'
        have C1 := hide (rtmark_any (unhide ROW1) (Nat.zero_le _) (unhide HGS).line.good (unhide HGS).mild x.at_)
        have RL := hide (range_two (unhide B1).r0)
        obtain ⟨LV, hLV⟩ : ∃ LV, LV = markL S.line x.at_ := ⟨_, rfl⟩
        have ELV := hide hLV
        rw [← hLV] at C1
        clear hLV hki
        subst hk
        go_wp2_with (refine Sn.wpList_load_on rfl 31 (.tmp 50) rfl H 0 rfl [.int .i64 S.line.mark, .slice a S.line.row.length c] _ (unhide RL) Tryz.underlying31 rfl (by kernel_rfl) ?_)
        refine (unhide C1).mono ?_
        rintro e v2 ⟨a3, c3, a4, c4, rfl, hr2, hr4, ho2, hb2⟩
        have OT : Hid (∀ j, (Value.slice a4 LV.2.2.length c4).ownBlock = some j → H + 3 ≤ j) := hide fun j e => by have := (row_lt hr4 j e).1; have := unhide Z1; omega
        have TL2 := hide (row_mono hr4 (Nat.zero_le _))
        clear hr4
        have OA : Hid (∀ j, (Value.slice a3 LV.1.row.length c3).ownBlock = some j → (Value.slice a S.line.row.length c).ownBlock = some j ∨ H + 3 ≤ j) := hide fun j e => (ho2 j e).imp id fun h => by have := unhide Z1; omega
        have OAN : Hid (∀ j, (Value.slice a3 LV.1.row.length c3).ownBlock = some j → j < H ∨ H + 3 ≤ j) := hide fun j e => (unhide OA j e).imp (unhide HOA j) id
        have ROW2 := hide hr2
        have LIST2 := hide (ref_below (unhide LIST1) hb2)
        have B2 := hide ((unhide B1).below hb2)
        have Z2 : Hid (H + 3 ≤ v2.heap.size) := hide (Nat.le_trans (unhide Z1) hb2.size)
        clear hr2 ho2 hb2 C1 RL ROW1 LIST1 B1 k3 k4 k6 k7
        have TH := hide (there_two (unhide B2).r0)
        obtain ⟨v3, hv3, hdb, hmv⟩ := (unhide B2).line (unhide HH) (.int .i64 LV.1.mark) (.slice a3 LV.1.row.length c3)
        have EQ3 := hide hv3
        have B3 := hide hdb
        have ROW3 := hide (row_off (unhide ROW2) hmv fun j e => by have := unhide OAN j e; omega)
        have LIST3 := hide (ref_off (unhide LIST2) hmv fun j e => by have := unhide HOB j e; omega)
        have Z3 : Hid (H + 3 ≤ v3.heap.size) := hide (Nat.le_trans (unhide Z2) hmv.size)
        have TL3 := hide (row_off (unhide TL2) hmv fun j e => by have := unhide OT j e; omega)
        clear TL2
        clear hv3 hdb hmv B2 ROW2 LIST2
        go_upto_region 13 with (refine wpList_store_mid rfl 31 (.tmp 58) (.tmp 55) rfl H 0 #[.int .i64 LV.1.mark, .slice a3 LV.1.row.length c3] rfl rfl (unhide TH) (by kernel_rfl) (by simp [Value.oneCell']) ?_; change wpList _ _ _ _ _ (World.setCells _ H 0 [.int .i64 LV.1.mark, .slice a3 LV.1.row.length c3]); rw [unhide EQ3])
        clear TH EQ3
        have EDL : doL S.line x = (LV.1, (LV.2.1 : Int), LV.2.2) := by rw [unhide ELV]; exact (if_neg (by omega)).trans (if_pos hkk)
        have CN2 := hide (unhide CN v3 (unhide LIST3))
        rw [EDL] at CN2 REL2
        dsimp only at CN2 REL2
        have RS3 := hide (range_part (unhide B3).r0)
        have k0 : World.cell? v3 ⟨H + 1, 0, none⟩ = some (.int .i64 x.src) := (unhide B3).r1.cell 0 (by simp [itemC])
        have k1 : World.cell? v3 ⟨H + 1, 1, none⟩ = some (.int .i64 x.seq) := (unhide B3).r1.cell 1 (by simp [itemC])
        have k2 : World.cell? v3 ⟨H + 1, 2, none⟩ = some (.int .i64 x.low) := (unhide B3).r1.cell 2 (by simp [itemC])
        have HEDL := hide EDL
        clear CN EDL
        go_wp2_with (refine Sn.wpList_load_on rfl 35 (.tmp 60) rfl H 2 rfl (Sn.refC lo a2 l.length c2) _ (unhide RS3) Tryz.underlying35 rfl (by kernel_rfl) ?_)
        refine (unhide CN2).mono ?_
        rintro e v4 ⟨a5, c5, rfl, hb4, hr5⟩
        have ROW4 := hide (row_below (unhide ROW3) hb4)
        have B4 := hide ((unhide B3).below hb4)
        have OL : Hid (∀ j, (Value.slice a5 (l.length + 1) c5).ownBlock = some j → H + 3 ≤ j) := hide fun j e => by
          have e' : (Value.slice a5 (l ++ [(⟨x.src, x.seq, (LV.2.1 : Int)⟩ : Sn.Ent)]).length c5).ownBlock = some j := by rw [List.length_append]; exact e
          have := (Sn.row_lt hr5 j e').1
          have := unhide Z3
          omega
        have LIST4 := hide (Sn.row_base hr5 (Nat.zero_le _))
        have Z4 : Hid (H + 3 ≤ v4.heap.size) := hide (Nat.le_trans (unhide Z3) hb4.size)
        have TL4 := hide (row_below (unhide TL3) hb4)
        clear hb4 hr5 CN2 RS3 ROW3 LIST3 B3 k0 k1 k2 TL3
        have TH := hide (there_part (unhide B4).r0)
        obtain ⟨v5, hv5, hdb, hmv⟩ := (unhide B4).seen (unhide HH) (Sn.refC (Sn.rlow ⟨lo, l⟩ x.src x.low) a5 (l.length + 1) c5) rfl
        have EQ5 := hide hv5
        have B5 := hide hdb
        have ROW5 := hide (row_off (unhide ROW4) hmv fun j e => by have := unhide OAN j e; omega)
        have LIST5 := hide (ref_off (unhide LIST4) hmv fun j e => by
          have := unhide OL j (by rw [List.length_append] at e; exact e)
          omega)
        have TL5 := hide (row_off (unhide TL4) hmv fun j e => by have := unhide OT j e; omega)
        clear hv5 hdb hmv B4 ROW4 LIST4 TL4
        go_upto_region 14 with (refine wpList_store_mid rfl 35 (.tmp 72) (.tmp 70) rfl H 2 (Sn.refC (Sn.rlow ⟨lo, l⟩ x.src x.low) a5 (l.length + 1) c5).toArray rfl rfl (unhide TH) (by kernel_rfl) (by simp [Sn.refC, Value.oneCell']) ?_; change wpList _ _ _ _ _ (World.setCells _ H 2 (Sn.refC (Sn.rlow ⟨lo, l⟩ x.src x.low) a5 (l.length + 1) c5)); rw [unhide EQ5])
        clear TH EQ5
        have DR := hide (unhide B5).r0.range
        have DT := hide (unhide B5).r2.there
        obtain ⟨wf, hwf, hdb, hmv⟩ := (unhide B5).out (unhide HH) (docC LV.1.mark a3 LV.1.row.length c3 (Sn.rlow ⟨lo, l⟩ x.src x.low) a5 (l.length + 1) c5) rfl
        have EQ := hide hwf
        have HF := hide hdb
        have MV := hide hmv
        clear hwf hdb hmv
        go_wp2_with (first | refine Sn.wpList_load_on rfl 37 (.tmp 2) rfl H 0 rfl (docC LV.1.mark a3 LV.1.row.length c3 (Sn.rlow ⟨lo, l⟩ x.src x.low) a5 (l.length + 1) c5) _ (unhide DR) Tryz.underlying37 rfl (by kernel_rfl) ?_ | (refine wpList_store_mid rfl 37 (.tmp 4) (.tmp 73) rfl (H + 1 + 1) 0 (docC LV.1.mark a3 LV.1.row.length c3 (Sn.rlow ⟨lo, l⟩ x.src x.low) a5 (l.length + 1) c5).toArray rfl rfl (unhide DT) (by kernel_rfl) (by simp [docC, Sn.refC, Value.oneCell']) ?_; change wpList _ _ _ _ _ (World.setCells _ (H + 1 + 1) 0 (docC LV.1.mark a3 LV.1.row.length c3 (Sn.rlow ⟨lo, l⟩ x.src x.low) a5 (l.length + 1) c5)); rw [unhide EQ]))
        refine bodyPost_ret (v := .tuple #[.agg (docC LV.1.mark a3 LV.1.row.length c3 (Sn.rlow ⟨lo, l⟩ x.src x.low) a5 (l.length + 1) c5).toArray, .int .i64 (LV.2.1 : Int), .slice a4 LV.2.2.length c4, .bool true]) ?_ rfl ?_
        · exact results_cell_tmp3 Tryz.results13 _ wf (H + 1 + 1) (docC LV.1.mark a3 LV.1.row.length c3 (Sn.rlow ⟨lo, l⟩ x.src x.low) a5 (l.length + 1) c5) _ rfl (unhide HF).r2.range Tryz.underlying37 rfl (by kernel_rfl)
        · rw [unhide HEDL]
          refine ⟨⟨Sn.rlow ⟨lo, l⟩ x.src x.low, l ++ [⟨x.src, x.seq, (LV.2.1 : Int)⟩]⟩, a3, c3, a5, c5, a4, c4, by rw [List.length_append]; rfl, (unhide HF).bel, ⟨row_off (unhide ROW5) (unhide MV) fun j e => by have := unhide OAN j e; omega, ref_off (unhide LIST5) (unhide MV) fun j e => ?_, unhide REL2⟩, row_off (unhide TL5) (unhide MV) fun j e => by have := unhide OT j e; omega, by rw [List.length_append]; exact Nat.le_refl _, fun j e => (unhide OA j e).imp id fun h => by have := unhide HH; omega, fun j e => .inr ?_, fun j e => by have := unhide OT j e; have := unhide HH; omega⟩
          · have := unhide OL j (by rw [List.length_append] at e; exact e)
            omega
          · have := unhide OL j (by rw [List.length_append] at e; exact e)
            have := unhide HH
            omega
      · have hk1 := hk
        clear hk
        go_enter Tryz.func13, Tryz.ntmps13
        go_upto_region 1 with fail
        rw [← unhide HH]
        try change Code.wp _ _ _ _ (((w.alloc (.cells D.toArray 37)).alloc (.cells (itemC x).toArray 42)).alloc (.cells #[.int .i64 0, .slice none 0 0, .int .i64 0, .int .i64 0, .int .i64 0, .int .i64 0, .slice none 0 0] 37))
        rw [← unhide HW]
        go_wp2_with (refine Sn.wpList_load_on rfl 35 (.tmp 12) rfl H 2 rfl (Sn.refC lo a2 l.length c2) _ (unhide RS) Tryz.underlying35 rfl (by kernel_rfl) ?_)
        refine (unhide CA).mono ?_
        rintro e v1 ⟨rfl, hb1⟩
        rw [he]
        have B1 := hide ((unhide B0).below hb1)
        have ROW1 := hide (row_below (unhide HROW) hb1)
        have LIST1 := hide (ref_below (unhide HLIST) hb1)
        have Z1 : Hid (H + 3 ≤ v1.heap.size) := hide (by have := hb1.size; have := unhide HWS; omega)
        have k3 : v1.cell? ⟨H + 1, 3, none⟩ = some (.int .u8 ki) := by rw [hki]; exact (unhide B1).r1.cell 3 (by simp [itemC])
        have k4 : v1.cell? ⟨H + 1, 4, none⟩ = some (.string ⟨x.key.toArray⟩) := (unhide B1).r1.cell 4 (by simp [itemC])
        have k6 : v1.cell? ⟨H + 1, 6, none⟩ = some (.int .i64 x.at_) := (unhide B1).r1.cell 6 (by simp [itemC])
        have k7 : v1.cell? ⟨H + 1, 7, none⟩ = some (.int .i64 x.n) := (unhide B1).r1.cell 7 (by simp [itemC])
        clear hb1 CA RS c0 c1 c2'
        have B3 := hide (unhide B1)
        have ROW3 := hide (unhide ROW1)
        have LIST3 := hide (unhide LIST1)
        have Z3 := hide (unhide Z1)
        have OA : Hid (∀ j, (Value.slice a S.line.row.length c).ownBlock = some j → (Value.slice a S.line.row.length c).ownBlock = some j ∨ H + 3 ≤ j) := hide fun j e => .inl e
        have OAN : Hid (∀ j, (Value.slice a S.line.row.length c).ownBlock = some j → j < H ∨ H + 3 ≤ j) := hide fun j e => .inl (unhide HOA j e)
        have TOLD : Hid (∀ v : World, OutK.Row v 0 none 0 ([] : List (Win AggV))) := hide fun _ => row_none _ _
        clear B1 ROW1 LIST1 k4 k6 k7
        have n1 : decide (ki = 1) = false := decide_eq_false hk1
        have n2 : decide (ki = 2) = false := decide_eq_false hk2
        have m1 : (ki == 1) = false := Bool.eq_false_iff.2 fun h => hk1 (eq_of_beq h)
        have m2 : (ki == 2) = false := Bool.eq_false_iff.2 fun h => hk2 (eq_of_beq h)
        go_upto_region 13 with fail
        clear k3 n1 n2 m1 m2
        have EDL : doL S.line x = (S.line, 4, []) := (if_neg (by omega)).trans (if_neg (by omega))
        have CN2 := hide (unhide CN v1 (unhide LIST3))
        rw [EDL] at CN2 REL2
        dsimp only at CN2 REL2
        have RS3 := hide (range_part (unhide B3).r0)
        have k0 : World.cell? v1 ⟨H + 1, 0, none⟩ = some (.int .i64 x.src) := (unhide B3).r1.cell 0 (by simp [itemC])
        have k1 : World.cell? v1 ⟨H + 1, 1, none⟩ = some (.int .i64 x.seq) := (unhide B3).r1.cell 1 (by simp [itemC])
        have k2 : World.cell? v1 ⟨H + 1, 2, none⟩ = some (.int .i64 x.low) := (unhide B3).r1.cell 2 (by simp [itemC])
        have HEDL := hide EDL
        clear CN EDL
        go_wp2_with (refine Sn.wpList_load_on rfl 35 (.tmp 60) rfl H 2 rfl (Sn.refC lo a2 l.length c2) _ (unhide RS3) Tryz.underlying35 rfl (by kernel_rfl) ?_)
        refine (unhide CN2).mono ?_
        rintro e v4 ⟨a5, c5, rfl, hb4, hr5⟩
        have ROW4 := hide (row_below (unhide ROW3) hb4)
        have B4 := hide ((unhide B3).below hb4)
        have OL : Hid (∀ j, (Value.slice a5 (l.length + 1) c5).ownBlock = some j → H + 3 ≤ j) := hide fun j e => by
          have e' : (Value.slice a5 (l ++ [(⟨x.src, x.seq, (4 : Int)⟩ : Sn.Ent)]).length c5).ownBlock = some j := by rw [List.length_append]; exact e
          have := (Sn.row_lt hr5 j e').1
          have := unhide Z3
          omega
        have LIST4 := hide (Sn.row_base hr5 (Nat.zero_le _))
        have Z4 : Hid (H + 3 ≤ v4.heap.size) := hide (Nat.le_trans (unhide Z3) hb4.size)
        clear hb4 hr5 CN2 RS3 ROW3 LIST3 B3 k0 k1 k2
        have TH := hide (there_part (unhide B4).r0)
        obtain ⟨v5, hv5, hdb, hmv⟩ := (unhide B4).seen (unhide HH) (Sn.refC (Sn.rlow ⟨lo, l⟩ x.src x.low) a5 (l.length + 1) c5) rfl
        have EQ5 := hide hv5
        have B5 := hide hdb
        have ROW5 := hide (row_off (unhide ROW4) hmv fun j e => by have := unhide OAN j e; omega)
        have LIST5 := hide (ref_off (unhide LIST4) hmv fun j e => by
          have := unhide OL j (by rw [List.length_append] at e; exact e)
          omega)
        clear hv5 hdb hmv B4 ROW4 LIST4
        go_upto_region 14 with (refine wpList_store_mid rfl 35 (.tmp 72) (.tmp 70) rfl H 2 (Sn.refC (Sn.rlow ⟨lo, l⟩ x.src x.low) a5 (l.length + 1) c5).toArray rfl rfl (unhide TH) (by kernel_rfl) (by simp [Sn.refC, Value.oneCell']) ?_; change wpList _ _ _ _ _ (World.setCells _ H 2 (Sn.refC (Sn.rlow ⟨lo, l⟩ x.src x.low) a5 (l.length + 1) c5)); rw [unhide EQ5])
        clear TH EQ5
        have DR := hide (unhide B5).r0.range
        have DT := hide (unhide B5).r2.there
        obtain ⟨wf, hwf, hdb, hmv⟩ := (unhide B5).out (unhide HH) (docC S.line.mark a S.line.row.length c (Sn.rlow ⟨lo, l⟩ x.src x.low) a5 (l.length + 1) c5) rfl
        have EQ := hide hwf
        have HF := hide hdb
        have MV := hide hmv
        clear hwf hdb hmv
        go_wp2_with (first | refine Sn.wpList_load_on rfl 37 (.tmp 2) rfl H 0 rfl (docC S.line.mark a S.line.row.length c (Sn.rlow ⟨lo, l⟩ x.src x.low) a5 (l.length + 1) c5) _ (unhide DR) Tryz.underlying37 rfl (by kernel_rfl) ?_ | (refine wpList_store_mid rfl 37 (.tmp 4) (.tmp 73) rfl (H + 1 + 1) 0 (docC S.line.mark a S.line.row.length c (Sn.rlow ⟨lo, l⟩ x.src x.low) a5 (l.length + 1) c5).toArray rfl rfl (unhide DT) (by kernel_rfl) (by simp [docC, Sn.refC, Value.oneCell']) ?_; change wpList _ _ _ _ _ (World.setCells _ (H + 1 + 1) 0 (docC S.line.mark a S.line.row.length c (Sn.rlow ⟨lo, l⟩ x.src x.low) a5 (l.length + 1) c5)); rw [unhide EQ]))
        refine bodyPost_ret (v := .tuple #[.agg (docC S.line.mark a S.line.row.length c (Sn.rlow ⟨lo, l⟩ x.src x.low) a5 (l.length + 1) c5).toArray, .int .i64 (4 : Int), .slice none ([] : List (Win AggV)).length 0, .bool true]) ?_ rfl ?_
        · exact results_cell_tmp3 Tryz.results13 _ wf (H + 1 + 1) (docC S.line.mark a S.line.row.length c (Sn.rlow ⟨lo, l⟩ x.src x.low) a5 (l.length + 1) c5) _ rfl (unhide HF).r2.range Tryz.underlying37 rfl (by kernel_rfl)
        · rw [unhide HEDL]
          refine ⟨⟨Sn.rlow ⟨lo, l⟩ x.src x.low, l ++ [⟨x.src, x.seq, (4 : Int)⟩]⟩, a, c, a5, c5, none, 0, by rw [List.length_append]; rfl, (unhide HF).bel, ⟨row_off (unhide ROW5) (unhide MV) fun j e => by have := unhide OAN j e; omega, ref_off (unhide LIST5) (unhide MV) fun j e => ?_, unhide REL2⟩, unhide TOLD _, by rw [List.length_append]; exact Nat.le_refl _, fun j e => (unhide OA j e).imp id fun h => by have := unhide HH; omega, fun j e => .inr ?_, fun _ e => by cases e⟩
          · have := unhide OL j (by rw [List.length_append] at e; exact e)
            omega
          · have := unhide OL j (by rw [List.length_append] at e; exact e)
            have := unhide HH
            omega
end Go.Proofs.YtigmhljaoicdbaaGreat

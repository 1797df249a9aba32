/- The document's state beside a shard's, in a law's hands: boxes, rows, Apply, alike; entries handed over. Conditions: at most 9000 answers were given. -/
import Derived.Test.YtigmhljaoicdbaaGreatShDocB
import Derived.Test.YtigmhljaoicdbaaGreatShSame9
import Derived.Test.YtigmhljaoicdbaaGreatSnRefE
namespace Go.Proofs.YtigmhljaoicdbaaGreat.Sn
open Go.RowKit
theorem exec_app {P : Program} {w : World} {o : Oper} {a : Go.Act} (s x : Operand) (t tx ty : TypeId)
    (ho : o.op = .call { callee := .builtin .append, args := #[s, x], argTypes := #[t, tx] }) (hty : o.type = ty) {v xv v' : Value} {w' : World} (hs : a.eval s = v) (hx : a.eval x = xv)
    (hr : (Builtin.append_ #[t, tx] ty #[v, xv]).run P w = .ok v' w') : (execOp a.eval o).run P w = .ok (.value v') w' := by
  unfold execOp
  simp only [ho, resolve, invoke, builtin, Sem.run_bind, Sem.run_pure, Result.andThen_ok, List.map_toArray, List.map_cons, List.map_nil, hs, hx, hty, hr]
set_option maxRecDepth 100000 in
set_option maxHeartbeats 2000000 in
theorem given_any {w : World} {b : Option Addr} {d : Nat} {l : List Ent} (hb : RefK.At w b l) (hl : l.length ≤ 100) :
    Calls Tryz.prog 17 #[.slice b l.length d] w fun e w' => ∃ a c, e = .returned (.slice a l.length c) ∧ EntK.Row w' w.heap.size a c l ∧ Below w.heap.size w w' := by
  have HB := hide hb
  have HL := hide hl
  clear hb hl
  go_enter Tryz.func17, Tryz.ntmps17
  go_wp2_with fail
  go_loopw [3, 4] (fun lv i wr => ∃ (j : Nat) (a : Option Addr) (c : Nat), i = .int .i64 (j : Int) ∧ j ≤ l.length ∧ lv = .slice a j c ∧ EntK.Row wr w.heap.size a c (l.take j) ∧ Below w.heap.size w wr) (fun _ i _ => l.length - (intOf i).toNat)
  case atStart => exact ⟨0, none, 0, rfl, Nat.zero_le _, rfl, by rw [List.take_zero]; exact row_none _ _, Below.refl _ _⟩
  case round =>
    obtain ⟨j, a, c, rfl, hj, rfl, hrow, hbl⟩ := hrel
    by_cases hlt : j < l.length
    · have g0 : (0 : Int) ≤ (j : Int) := by omega
      have g1 : (j : Int) < (l.length : Int) := by omega
      have hwj : IntKind.i64.wrap ((j : Int) + 1) = (j : Int) + 1 := Go.IntWalk.i64_in _ (by have := unhide HL; omega)
      obtain ⟨x, hx⟩ : ∃ x, l[j]? = some x := ⟨_, List.getElem?_eq_getElem hlt⟩
      have hAt : RefK.At wr b l := (unhide HB).below (Nat.le_refl _) hbl
      obtain ⟨g, o, rfl, hg, hrg⟩ := hAt.cell refK_law hx
      have hjl : (l.take j).length = j := by rw [List.length_take]; omega
      have rowd : EntK.Row wr.drew w.heap.size a c (l.take j) := row_keep hrow ((Moved.refl (fun _ => False) wr).drew) (fun _ f => f.elim)
      obtain ⟨a', c', w9, happ, row9, b9, _, _⟩ := grow_one entK_law rowd x 99 (by rw [hjl]; have := unhide HL; omega) hbl.size
      rw [hjl] at happ
      rw [← take_snoc hx] at row9
      have bw9 : Below w.heap.size w w9 := (hbl.drew).trans b9
      obtain ⟨xs, xq, xc⟩ := x
      obtain ⟨CL, hCL⟩ : ∃ CL : World → Prop, CL = fun v => v.rangeAt g (o + j * 3) [.int .i64 xs, .int .i64 xq, .int .i64 xc] := ⟨_, rfl⟩
      have un : ∀ v, CL v → v.rangeAt g (o + j * 3) [.int .i64 xs, .int .i64 xq, .int .i64 xc] := fun v k => by rw [hCL] at k; exact k
      have to_ : ∀ v, Below w.heap.size w v → CL v := fun v hb => by
        obtain ⟨g', o', e, _, h⟩ := ((unhide HB).below (Nat.le_refl _) hb).cell refK_law hx
        cases e
        rw [hCL]; exact h
      have q0 : ∀ q : SW CL, q.w.cell? ⟨g, o + j * 3, none⟩ = some (.int .i64 xs) := fun q => un _ q.ok 0 _ rfl
      have q1 : ∀ q : SW CL, q.w.cell? ⟨g, o + j * 3 + 1, none⟩ = some (.int .i64 xq) := fun q => un _ q.ok 1 _ rfl
      have q2 : ∀ q : SW CL, q.w.cell? ⟨g, o + j * 3 + 2, none⟩ = some (.int .i64 xc) := fun q => un _ q.ok 2 _ rfl
      have BS := hide (to_ _ hbl.drew)
      have BA := hide (to_ (wr.drew.alloc (.cells #[.int .i64 xs, .int .i64 xq, .int .i64 xc] 99)) (hbl.drew.alloc hbl.drew.size _))
      have B9 := hide (to_ _ bw9)
      have HAP : Hid ((Builtin.append_ #[56, 56] 56 #[.slice a j c, .slice (some ⟨wr.drew.heap.size, 0, none⟩) 1 1]).run Tryz.prog (wr.drew.alloc (.cells #[.int .i64 xs, .int .i64 xq, .int .i64 xc] 99)) = .ok (.slice a' (j + 1) c') w9) := hide happ
      have REL := hide (And.intro row9 bw9)
      clear hrow hbl hx hAt hg hrg hjl rowd happ row9 b9 bw9 hCL un to_
      go_upto_region 5 with fail
      refine wp_region_chain (S := CL) [true, true, true, true, true, true, true, true, true, true, true, true, true, true, true, true, true, false, false, false] [false, false, false, false, false, false, false, false, false, false, false, false, false, false, false, false, false, true, true, true] (by kernel_rfl) (by kernel_rfl) (by kernel_rfl) (unhide BS) ?_
      apply Exists.intro
      apply And.intro
      · intro q
        have n0 : Nonempty (SK CL q.w) := ⟨⟨q, rfl⟩⟩
        simp only [pickM]
        repeat (go_big_quiet_step (fail))
        exact wpQuiet_nil rfl
      · simp only [pickZ]
        clear q0 q1 q2
        refine chain_step (.slice (some ⟨wr.drew.heap.size, 0, none⟩) 1 1) (wr.drew.alloc (.cells #[.int .i64 xs, .int .i64 xq, .int .i64 xc] 99)) rfl (by simp [go_sem]) (unhide BA) ?_
        refine chain_step (.slice a' (j + 1) c') w9 rfl (exec_app (v := .slice a j c) (xv := .slice (some ⟨wr.drew.heap.size, 0, none⟩) 1 1) _ _ 56 56 56 rfl rfl rfl rfl (unhide HAP)) (unhide B9) ?_
        refine chain_step (.slice a' (j + 1) c') w9 rfl (by simp [go_sem]) (unhide B9) ?_
        simp only [chainM]
        go_simp
        go_wp2_with fail
        exact ⟨⟨j + 1, a', c', rfl, by omega, rfl, unhide REL⟩, by simp [intOf]; omega⟩
    · have hje : j = l.length := by omega
      have REL : Hid (EntK.Row wr w.heap.size a c l ∧ Below w.heap.size w wr) := hide ⟨by rw [hje, List.take_length] at hrow; exact hrow, hbl⟩
      have HJE := hide hje
      clear hrow hbl hje
      go_wp2_with fail
      go_ret
      exact ⟨a, c, by rw [unhide HJE]; rfl, (unhide REL).1, (unhide REL).2⟩
end Go.Proofs.YtigmhljaoicdbaaGreat.Sn
namespace Go.Proofs.YtigmhljaoicdbaaGreat
open Go.RowKit
/-- A box. -/
def hBox (b : Nat) (cs : List Value) : Sn.Held := ⟨fun k => k = b, fun v => RowAt v b cs, fun _ h k e => by rw [e]; exact h.lt, fun v v' h hz hk =>
  ⟨Nat.lt_of_lt_of_le h.lt hz, fun i hi => (World.cell?_of_block (w := v) (a := ⟨b, i, none⟩) (hk b rfl)).trans (h.cell i hi), fun i hi => (World.frozen?_of_block (w := v) (a := ⟨b, i, none⟩) (hk b rfl)).trans (h.free i hi)⟩⟩
theorem HR.box {w0 v : World} {b : Nat} {cs : List Value} {R : List Sn.Held} (h : Sn.HR w0 v R) (m : hBox b cs ∈ R) : RowAt v b cs := (h.ok _ m : RowAt v b cs)
theorem HR.newbox {w0 v : World} {R : List Sn.Held} (h : Sn.HR w0 v R) (cs : List Value) (ty : TypeId) : Sn.HR w0 (v.alloc (.cells cs.toArray ty)) (hBox v.heap.size cs :: R) :=
  h.add (r := hBox v.heap.size cs) ((Below.refl _ v).alloc (Nat.le_refl _) _) (show RowAt _ _ _ from row_new v cs ty) fun k e => by have e' : k = v.heap.size := e; omega
/-- A box is written over. -/
theorem HR.setbox {w0 v : World} {b : Nat} {cs : List Value} {R : List Sn.Held} (h : Sn.HR w0 v (hBox b cs :: R)) (ds : List Value) (hl : cs.length = ds.length) : Sn.HR w0 (v.setCells b 0 ds) (hBox b ds :: R) :=
  h.turn (r := hBox b cs) (r' := hBox b ds) (setCells_moved v b 0 ds) (show RowAt _ _ _ from (HR.box h List.mem_cons_self).put ds hl) fun _ e => .inl e
/-- The document's state's rows, and what was told last. -/
structure Docs (v : World) (S : StV) (W : Sn.RefS) (a : Option Addr) (c : Nat) (a2 : Option Addr) (c2 : Nat) (o : List (Win AggV)) (a3 : Option Addr) (c3 : Nat) : Prop where
  doc : DocR v S W a c a2 c2
  told : OutK.Row v 0 a3 c3 o
theorem row_stay {β : Type} {K : RowK β} {v v' : World} {a : Option Addr} {c : Nat} {l : List β} (h : K.Row v 0 a c l) (hk : ∀ k, (Value.slice a l.length c).ownBlock = some k → v'.heap[k]? = v.heap[k]?) : K.Row v' 0 a c l := by
  refine ⟨h.1, h.2.imp id ?_⟩
  rintro ⟨g, cap, cur, e1, e2, e3, e4⟩
  exact ⟨g, cap, cur, e1, e2, (hk g (by rw [e1]; rfl)).trans e3, e4⟩
def hDocs (S : StV) (W : Sn.RefS) (a : Option Addr) (c : Nat) (a2 : Option Addr) (c2 : Nat) (o : List (Win AggV)) (a3 : Option Addr) (c3 : Nat) : Sn.Held :=
  ⟨fun k => (Value.slice a S.line.row.length c).ownBlock = some k ∨ (Value.slice a2 W.l.length c2).ownBlock = some k ∨ (Value.slice a3 o.length c3).ownBlock = some k, fun v => Docs v S W a c a2 c2 o a3 c3,
    fun v h k e => by
      rcases e with e | e | e
      · exact (row_lt h.doc.row k e).2
      · exact (Sn.row_lt h.doc.list k e).2
      · exact (row_lt h.told k e).2,
    fun v v' h _ hk => ⟨⟨row_stay h.doc.row fun k e => hk k (.inl e), row_stay h.doc.list fun k e => hk k (.inr (.inl e)), h.doc.rel⟩, row_stay h.told fun k e => hk k (.inr (.inr e))⟩⟩
section
variable {w0 v v' : World} {R : List Sn.Held} {S : StV} {W : Sn.RefS} {a a2 a3 : Option Addr} {c c2 c3 : Nat} {o : List (Win AggV)}
theorem HR.docs (h : Sn.HR w0 v R) (m : hDocs S W a c a2 c2 o a3 c3 ∈ R) : Docs v S W a c a2 c2 o a3 c3 := (h.ok _ m : Docs v S W a c a2 c2 o a3 c3)
theorem hd_apply (h : Sn.HR w0 v (hDocs S W a c a2 c2 o a3 c3 :: R)) (hS : GoodS S) (hl : W.l.length ≤ 9000) (x : ItemV) (hx : x.In) :
    Calls Tryz.prog 13 #[.agg (docC S.line.mark a S.line.row.length c W.low a2 W.l.length c2).toArray, .agg (itemC x).toArray] v fun e v' => ∃ V b d b2 d2 b3 d3,
      e = .returned (.tuple #[.agg (docC (appS S x).line.mark b (appS S x).line.row.length d V.low b2 V.l.length d2).toArray, .int .i64 (codeS S x), .slice b3 (outsS S x).length d3, .bool (freshS S x)]) ∧ V.l.length ≤ W.l.length + 1 ∧ Sn.HR w0 v' (hDocs (appS S x) V b d b2 d2 (outsS S x) b3 d3 :: R) :=
  (rapply_any hS (HR.docs h List.mem_cons_self).doc hl x hx).mono fun _ _ ⟨V, b, d, b2, d2, b3, d3, e, D⟩ => ⟨V, b, d, b2, d2, b3, d3, e, D.len,
    h.turn (r := hDocs S W a c a2 c2 o a3 c3) (r' := hDocs (appS S x) V b d b2 d2 (outsS S x) b3 d3) ((Moved.of_below (F := fun _ => False) D.bel).mono fun _ f => f.elim) (show Docs _ _ _ _ _ _ _ _ _ _ from ⟨D.doc, D.told⟩) fun k hk => by
      rcases hk with e | e | e
      · exact (D.own1 k e).imp .inl id
      · exact (D.own2 k e).imp (fun e => .inr (.inl e)) id
      · exact .inr (D.own3 k e)⟩
end
set_option maxRecDepth 100000 in
set_option maxHeartbeats 8000000 in
theorem alike13_any {w0 w : World} {R : List Sn.Held} {p : Nat} {F : Nat → Prop} {S : StV} {W : Sn.RefS} {a a2 a3 : Option Addr} {c c2 c3 : Nat} {o : List (Win AggV)} (h : Sn.HR w0 w R) (ms : hState p F S ∈ R) (gs : GoodS S) (md : hDocs S W a c a2 c2 o a3 c3 ∈ R) (hl : W.l.length ≤ 10000) :
    Calls Tryz.prog 15 #[.pointer (some ⟨p, 0, none⟩), .agg (docC S.line.mark a S.line.row.length c W.low a2 W.l.length c2).toArray] w fun e w' => e = .returned (.bool true) ∧ Sn.HR w0 w' R := by
  obtain ⟨low, l⟩ := W
  obtain ⟨D, hD⟩ : ∃ D, D = docC S.line.mark a S.line.row.length c low a2 l.length c2 := ⟨_, rfl⟩
  obtain ⟨V, hV⟩ : ∃ V, V = w.alloc (.cells D.toArray 37) := ⟨_, rfl⟩
  obtain ⟨H, hH⟩ : ∃ H, H = w.heap.size := ⟨_, rfl⟩
  have h1 : Sn.HR w0 V (hBox H D :: R) := by rw [hV, hH]; exact HR.newbox h D 37
  have hrel := (HR.docs h md).doc.rel
  have H1 := hide h1
  have MS := hide ms
  have MD := hide md
  have GS := hide gs
  have RA : Hid (Sn.rall (Sn.live ⟨low, l⟩) = Sn.all S.tab) := hide (Sn.rel_all hrel gs.tab)
  have RL := hide hrel.low
  have HS := hide hrel.src
  have HL := hide hl
  have HAL := hide (Sn.all_length gs.tab)
  have HRO : Hid (S.line.row.length ≤ 1000000) := hide (Nat.le_trans gs.mild.most (by omega))
  have DS : Hid (docC S.line.mark a S.line.row.length c low a2 l.length c2 = D) := hide hD.symm
  have HV := hide hV
  have HH := hide hH
  show Calls Tryz.prog 15 #[.pointer (some ⟨p, 0, none⟩), .agg (docC S.line.mark a S.line.row.length c low a2 l.length c2).toArray] w _
  rw [unhide DS]
  clear h h1 ms md gs hl hrel hV hH hD
  go_enter Tryz.func15, Tryz.ntmps15
  go_upto_region 1 with fail
  rw [← unhide HH, ← unhide HV]
  go_wp2_with fail
  refine (hs_lows (unhide H1) (List.mem_cons_of_mem _ (unhide MS))).mono ?_
  rintro e v1 ⟨a4, c4, rfl, h⟩
  have H2 := hide h
  clear h H1
  go_wp2_with fail
  refine (hs_ans (unhide H2) (List.mem_cons_of_mem _ (List.mem_cons_of_mem _ (unhide MS))) (unhide GS)).mono ?_
  rintro e v2 ⟨a5, c5, rfl, h⟩
  have H3 := hide h
  clear h H2
  have hbx := HR.box (cs := D) (b := H) (unhide H3) (by simp)
  rw [← unhide DS] at hbx
  have RG := hide (range_part hbx)
  have C37 := hide (Sn.rall_any (low := low) (c0 := c2) (HR.docs (unhide H3) (List.mem_cons_of_mem _ (List.mem_cons_of_mem _ (List.mem_cons_of_mem _ (unhide MD))))).doc.list.at_ (unhide HL) (unhide HS))
  clear hbx
  go_wp2_with (refine Sn.wpList_load_on rfl 35 (.tmp 14) rfl H 2 rfl (Sn.refC low a2 l.length c2) _ (unhide RG) Tryz.underlying35 rfl (by kernel_rfl) ?_)
  refine (unhide C37).mono ?_
  rintro e v3 ⟨a6, c6, rfl, hb3, hr3⟩
  rw [unhide RA] at hr3 ⊢
  have H4 : Hid (Sn.HR w0 v3 (Sn.hRow Sn.RefK a6 c6 (Sn.all S.tab) :: Sn.hRow Sn.EntK a5 c5 (Sn.all S.tab) :: Sn.hRow Sn.IntK a4 c4 (Sn.lows S.tab) :: hBox H D :: R)) := hide (HR.rowed (unhide H3) hb3 hr3)
  clear C37 hb3 hr3 RG H3
  obtain ⟨CL, hCL⟩ : ∃ CL : World → Prop, CL = fun v => Sn.HR w0 v (Sn.hRow Sn.RefK a6 c6 (Sn.all S.tab) :: Sn.hRow Sn.EntK a5 c5 (Sn.all S.tab) :: Sn.hRow Sn.IntK a4 c4 (Sn.lows S.tab) :: hBox H D :: R) := ⟨_, rfl⟩
  have un : ∀ v, CL v → Sn.HR w0 v (Sn.hRow Sn.RefK a6 c6 (Sn.all S.tab) :: Sn.hRow Sn.EntK a5 c5 (Sn.all S.tab) :: Sn.hRow Sn.IntK a4 c4 (Sn.lows S.tab) :: hBox H D :: R) := fun v k => by rw [hCL] at k; exact k
  have UN := hide un
  have bx : ∀ v, CL v → RowAt v H (docC S.line.mark a S.line.row.length c low a2 l.length c2) := fun v k => by
    have := HR.box (cs := D) (b := H) (un v k) (by simp)
    rw [← unhide DS] at this
    exact this
  have BX := hide bx
  have TO : Hid (∀ v, Sn.HR w0 v (Sn.hRow Sn.RefK a6 c6 (Sn.all S.tab) :: Sn.hRow Sn.EntK a5 c5 (Sn.all S.tab) :: Sn.hRow Sn.IntK a4 c4 (Sn.lows S.tab) :: hBox H D :: R) → CL v) := hide fun v k => by rw [hCL]; exact k
  have q0 : ∀ q : SW CL, q.w.cell? ⟨H, 0, none⟩ = some (.int .i64 S.line.mark) := fun q => (bx _ q.ok).cell 0 (by simp [docC])
  have q1 : ∀ q : SW CL, q.w.cell? ⟨H, 1, none⟩ = some (.slice a S.line.row.length c) := fun q => (bx _ q.ok).cell 1 (by simp [docC])
  have BS := hide (unhide TO _ ((unhide H4).below (Below.refl _ _).drew))
  have KM : Hid (∀ v, CL v → Calls Tryz.prog 19 #[.pointer (some ⟨p, 0, none⟩)] v fun e v' => e = .returned (.int .i64 S.line.mark) ∧ v' = v) := hide fun v hv => hs_mark (F := F) (S := S) (un v hv) (by simp [unhide MS])
  have KO : Hid (∀ v, CL v → Calls Tryz.prog 20 #[.pointer (some ⟨p, 0, none⟩)] v fun e v' => ∃ a7 c7, e = .returned (.slice a7 S.line.row.length c7) ∧ CL v' ∧ OutK.Row v' 0 a7 c7 S.line.row) := hide fun v hv => (hs_open (F := F) (S := S) (un v hv) (by simp [unhide MS]) (unhide GS)).mono fun _ _ ⟨a7, c7, e1, e2⟩ => ⟨a7, c7, e1, unhide TO _ e2.drop1, e2.ok _ List.mem_cons_self⟩
  have KS : Hid (∀ v a7 c7, CL v → OutK.Row v 0 a7 c7 S.line.row → Calls Tryz.prog 14 #[.slice a7 S.line.row.length c7, .slice a S.line.row.length c] v fun e v' => e = .returned (.bool true) ∧ CL v') := hide fun v a7 c7 hv hr => by
    have hd := (HR.docs (un v hv) (List.mem_cons_of_mem _ (List.mem_cons_of_mem _ (List.mem_cons_of_mem _ (List.mem_cons_of_mem _ (unhide MD)))))).doc.row
    refine (same9_any (l := S.line.row) (m := S.line.row) hr.at_ hd.at_ (unhide HRO)).mono fun _ _ ⟨e1, e2⟩ => ⟨by rw [e1, show decide (S.line.row = S.line.row) = true from decide_eq_true rfl], unhide TO _ ((un v hv).below (below_of_none e2))⟩
  have BH : Hid (∀ v, CL v → ∀ j x, (Sn.lows S.tab)[j]? = some x → ∃ g o, a4 = some ⟨g, o, none⟩ ∧ v.cell? ⟨g, o + j, none⟩ = some (.int .i64 x)) := hide fun v hv j x hx => by
    obtain ⟨g, o, e, _, hr⟩ := (Sn.HR.row (un v hv) (K := Sn.IntK) (a := a4) (c := c4) (l := Sn.lows S.tab) (by simp)).cell Sn.intK_law hx
    exact ⟨g, o, e, by have := hr 0 _ rfl; simpa [Sn.IntK] using this⟩
  have BE : Hid (∀ v, CL v → ∀ (j : Nat) (x : Sn.Ent), (Sn.all S.tab)[j]? = some x → ∃ g o, a5 = some ⟨g, o, none⟩ ∧ v.rangeAt g (o + j * 3) (Sn.entV x)) := hide fun v hv j x hx => by
    obtain ⟨g, o, e, _, hr⟩ := (Sn.HR.row (un v hv) (K := Sn.EntK) (a := a5) (c := c5) (l := Sn.all S.tab) (by simp)).cell Sn.entK_law hx
    exact ⟨g, o, e, hr⟩
  have BR : Hid (∀ v, CL v → ∀ (j : Nat) (x : Sn.Ent), (Sn.all S.tab)[j]? = some x → ∃ g o, a6 = some ⟨g, o, none⟩ ∧ v.rangeAt g (o + j * 3) (Sn.entV x)) := hide fun v hv j x hx => by
    obtain ⟨g, o, e, _, hr⟩ := (Sn.HR.row (un v hv) (K := Sn.RefK) (a := a6) (c := c6) (l := Sn.all S.tab) (by simp)).cell Sn.refK_law hx
    exact ⟨g, o, e, hr⟩
  have FIN : Hid (∀ v, CL v → Sn.HR w0 v R) := hide fun v hv => (un v hv).drop1.drop1.drop1.drop1
  have DR : Hid (∀ v, CL v → CL v.drew) := hide fun v hv => unhide TO _ ((un v hv).below (Below.refl _ _).drew)
  clear un bx H4 TO hCL
  generalize hrl : S.line.row.length = rl at *
  generalize hmk : S.line.mark = mk at *
  have bmk : (mk == mk) = true := beq_self_eq_true _
  go_upto_region 4 with fail
  refine wp_region_seq (S := CL) [true, false, true, true, true, false, false, false, false, false, false, false, false, false, false, false, false, false, false, false, false, false, false, false, false, false, false, false] [false, true, false, false, false, false, false, false, false, false, false, false, false, false, false, false, false, false, false, false, false, false, false, false, false, false, false, false] [false, false, false, false, false, true, true, true, true, true, true, true, true, true, true, true, true, true, true, true, false, true, true, true, true, false, false, false] [false, false, false, false, false, false, false, false, false, false, false, false, false, false, false, false, false, false, false, false, true, false, false, false, false, true, true, true] (by kernel_rfl) (by kernel_rfl) (by kernel_rfl) (unhide BS) ?_
  apply Exists.intro
  apply And.intro
  · intro q
    have n0 : Nonempty (SK CL q.w) := ⟨⟨q, rfl⟩⟩
    simp only [pickM]
    repeat (go_big_quiet_step (fail))
    exact wpQuiet_nil rfl
  · simp only [pickZ]
    refine chain_call 19 #[.pointer (some ⟨p, 0, none⟩)] rfl (by simp [go_sem]) ?_
    refine (unhide KM _ (unhide BS)).mono ?_
    rintro e v' ⟨rfl, hw⟩
    rw [hw]
    refine ⟨_, rfl, unhide BS, ?_⟩
    clear hw v'
    refine chain_nil ?_
    go_simp
    refine ⟨unhide BS, by kernel_rfl, ?_⟩
    apply Exists.intro
    apply And.intro
    · intro q
      have n0 : Nonempty (SK CL q.w) := ⟨⟨q, rfl⟩⟩
      simp only [pickM]
      repeat (go_big_quiet_step (fail))
      exact wpQuiet_nil rfl
    · try simp only [pickZ]
      refine chain_call_on 20 #[.pointer (some ⟨p, 0, none⟩)] rfl (by simp [go_sem]) ?_
      refine (unhide KO _ (unhide BS)).mono ?_
      rintro e v4 ⟨a7, c7, rfl, hc4, hr4⟩
      refine ⟨_, rfl, hc4, ?_⟩
      have C4 := hide hc4
      have K4 := hide (unhide KS v4 a7 c7 hc4 hr4)
      clear hc4 hr4
      go_simp
      refine chain_call_on 14 #[.slice a7 rl c7, .slice a rl c] rfl (by simp [go_sem]) ?_
      refine (unhide K4).mono ?_
      rintro e v5 ⟨rfl, hc5⟩
      refine ⟨_, rfl, hc5, ?_⟩
      have C5 := hide hc5
      clear hc5 K4 C4
      go_simp
      refine chain_step_on (.bool false) v5 rfl (by simp [go_sem]) (unhide C5) ?_
      go_simp
      refine chain_step (.bool false) v5 rfl (by simp [go_sem]) (unhide C5) ?_
      simp only [chainM]
      go_simp
      clear q0 q1
      go_wp2_with fail
      go_loopw [8] (fun i wr => ∃ k : Nat, i = .int .i64 (k : Int) ∧ k ≤ 4 ∧ CL wr) (fun i _ => 4 - (intOf i).toNat)
      case atStart => exact ⟨0, rfl, by decide, unhide C5⟩
      case round =>
        obtain ⟨k, rfl, hk, hcl⟩ := hrel
        clear C5
        by_cases hlt : k < 4
        · have g0 : (0 : Int) ≤ (k : Int) := by omega
          have g1 : (k : Int) < 4 := by omega
          have hwk : IntKind.i64.wrap ((k : Int) + 1) = (k : Int) + 1 := Go.IntWalk.i64_in _ (by omega)
          have hlk : (Sn.lows S.tab)[k]? = some (S.tab k).low := by
            match k, hlt with
            | 0, _ => rfl
            | 1, _ => rfl
            | 2, _ => rfl
            | 3, _ => rfl
          have hrl2 : low k = (S.tab k).low := unhide RL k hlt
          obtain ⟨g, og, rfl, _⟩ := unhide BH wr hcl k _ hlk
          have BSX := hide (unhide DR wr hcl)
          have ne : Nonempty (SX CL) := ⟨⟨_, unhide BSX⟩⟩
          have x0 : ∀ q : SX CL, q.w.cell? ⟨g, og + k, none⟩ = some (.int .i64 (S.tab k).low) := fun q => by
            obtain ⟨g', o', e, h⟩ := unhide BH q.w q.ok k _ hlk
            cases e
            exact h
          have xl : ∀ q : SX CL, q.w.cell? ⟨H, 2 + k, none⟩ = some (.int .i64 (S.tab k).low) := fun q => by
            have := (unhide BX q.w q.ok).cell (k + 2) (by simp [docC, Sn.refC]; omega)
            rw [Nat.add_comm 2 k, this, ← hrl2]
            match k, hlt with
            | 0, _ => rfl
            | 1, _ => rfl
            | 2, _ => rfl
            | 3, _ => rfl
          clear hrl2 hlk hcl
          generalize (S.tab k).low = n at *
          have bn : (n == n) = true := beq_self_eq_true _
          go_upto_region 9 with fail
          refine wp_region_sx (St := CL) (by kernel_rfl) (by kernel_rfl) (unhide BSX) ?_
          repeat (go_big_quiet_step (fail))
          refine wpQuiet_nil ?_
          first | (rintro v6 ⟨⟨v6', OK6⟩, e6x⟩; subst e6x) | rintro ⟨v6, OK6⟩
          try dsimp only
          have C6 := hide OK6
          clear OK6 x0 xl
          go_wp2_with fail
          exact ⟨⟨k + 1, rfl, by omega, unhide C6⟩, by simp [intOf]; omega⟩
        · have hbw := hide hcl
          have gk : ¬ (k : Int) < 4 := by omega
          clear hcl
          go_wp2_with fail
          go_loopw [9] (fun i wr => ∃ j : Nat, i = .int .i64 (j : Int) ∧ j ≤ (Sn.all S.tab).length ∧ CL wr) (fun i _ => (Sn.all S.tab).length - (intOf i).toNat)
          case atStart => exact ⟨0, rfl, Nat.zero_le _, unhide hbw⟩
          case round =>
            obtain ⟨j, rfl, hj, hcl⟩ := hrel
            clear hbw
            by_cases hjt : j < (Sn.all S.tab).length
            · have g0 : (0 : Int) ≤ (j : Int) := by omega
              have g1 : (j : Int) < ((Sn.all S.tab).length : Int) := by omega
              have hwj : IntKind.i64.wrap ((j : Int) + 1) = (j : Int) + 1 := Go.IntWalk.i64_in _ (by have := unhide HAL; omega)
              obtain ⟨x, hx⟩ : ∃ x, (Sn.all S.tab)[j]? = some x := ⟨_, List.getElem?_eq_getElem hjt⟩
              obtain ⟨g, og, rfl, _⟩ := unhide BE wr hcl j x hx
              obtain ⟨g', o', rfl, _⟩ := unhide BR wr hcl j x hx
              have BSX := hide (unhide DR wr hcl)
              have ne : Nonempty (SX CL) := ⟨⟨_, unhide BSX⟩⟩
              obtain ⟨xs, xq, xc⟩ := x
              have xe : ∀ q : SX CL, q.w.rangeAt g (og + j * 3) [.int .i64 xs, .int .i64 xq, .int .i64 xc] := fun q => by
                obtain ⟨_, _, e, h⟩ := unhide BE q.w q.ok j _ hx
                cases e
                exact h
              have ye : ∀ q : SX CL, q.w.rangeAt g' (o' + j * 3) [.int .i64 xs, .int .i64 xq, .int .i64 xc] := fun q => by
                obtain ⟨_, _, e, h⟩ := unhide BR q.w q.ok j _ hx
                cases e
                exact h
              have x0 : ∀ q : SX CL, q.w.cell? ⟨g, og + j * 3, none⟩ = some (.int .i64 xs) := fun q => xe q 0 _ rfl
              have x1 : ∀ q : SX CL, q.w.cell? ⟨g, og + j * 3 + 1, none⟩ = some (.int .i64 xq) := fun q => xe q 1 _ rfl
              have x2 : ∀ q : SX CL, q.w.cell? ⟨g, og + j * 3 + 2, none⟩ = some (.int .i64 xc) := fun q => xe q 2 _ rfl
              have y0 : ∀ q : SX CL, q.w.cell? ⟨g', o' + j * 3, none⟩ = some (.int .i64 xs) := fun q => ye q 0 _ rfl
              have y1 : ∀ q : SX CL, q.w.cell? ⟨g', o' + j * 3 + 1, none⟩ = some (.int .i64 xq) := fun q => ye q 1 _ rfl
              have y2 : ∀ q : SX CL, q.w.cell? ⟨g', o' + j * 3 + 2, none⟩ = some (.int .i64 xc) := fun q => ye q 2 _ rfl
              clear hcl hx xe ye
              go_upto_region 14 with fail
              refine wp_region_sx (St := CL) (by kernel_rfl) (by kernel_rfl) (unhide BSX) ?_
              repeat (go_big_quiet_step (fail))
              refine wpQuiet_nil ?_
              first | (rintro v6 ⟨⟨v6', OK6⟩, e6x⟩; subst e6x) | rintro ⟨v6, OK6⟩
              try dsimp only
              have C6 := hide OK6
              clear OK6 x0 x1 x2 y0 y1 y2
              go_wp2_with fail
              exact ⟨⟨j + 1, rfl, by omega, unhide C6⟩, by simp [intOf]; omega⟩
            · have gj : ¬ (j : Int) < ((Sn.all S.tab).length : Int) := by omega
              have gjd : decide (j < (Sn.all S.tab).length) = false := decide_eq_false hjt
              have B4 := hide (unhide FIN _ hcl)
              clear hcl
              go_wp2_with fail
              go_ret
              exact ⟨rfl, unhide B4⟩
end Go.Proofs.YtigmhljaoicdbaaGreat

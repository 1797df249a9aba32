/- The document's own 'with': a window put into a place of a row. Conditions: the place lies in the row; the row has at most 1000 windows. -/
import Derived.Test.YtmgmkdkdpeljmaaTakeS
namespace Go.Proofs.Ytmgmkdkdpeljmaa
open Go.RowKit

theorem slice_to (a : Option Addr) (n c i : Nat) (hi : i ≤ c) (W : World) : (Instr.slice 28 (.slice a n c) none (some (.int .i64 (i : Int))) none).run Try.prog W = .ok (.slice a i c) W := by
  have u := Try.underlying28
  have z := Try.sizeOf38
  simp [Instr.slice, go_sem]
  intro h; omega
theorem slice_from (a : Option Addr) (n c i : Nat) (hi : i ≤ n) (W : World) : (Instr.slice 28 (.slice a n c) (some (.int .i64 (i : Int))) none none).run Try.prog W = .ok (.slice (if c = i then a else a.map (·.add (i * 10))) (n - i) (c - i)) W := by
  have u := Try.underlying28
  have z := Try.sizeOf38
  simp [Instr.slice, go_sem]
  intro h; omega
theorem lies_nil (w : World) (a : Option Addr) : OutK.Lies w a [] := ⟨fun _ => rfl, fun x e j u hu => by simp [RowK.cells] at hu⟩
theorem lies_from {w : World} {a : Option Addr} {l : List (Win AggV)} {c i : Nat} (h : OutK.Lies w a l) (hi : i ≤ l.length) (hc : l.length ≤ c) : OutK.Lies w (if c = i then a else a.map (·.add (i * 10))) (l.drop i) := by
  split
  · rw [List.drop_of_length_le (by omega)]; exact lies_nil w a
  · cases a with
    | none => rw [h.1 rfl, List.drop_nil]; exact lies_nil w none
    | some x => exact lies_drop outK_law h i
theorem row_below {w w' : World} {B : Nat} {a : Option Addr} {c : Nat} {l : List (Win AggV)} (h : OutK.Row w B a c l) (hb : Below w.heap.size w w') : OutK.Row w' B a c l := by
  refine World.ownsRow.kept (row := none) h ⟨hb.os, hb.tape, hb.output, hb.size, fun k hk _ => hb.block k hk⟩ ?_
  cases e : (Value.slice a l.length c).ownBlock with
  | none => exact .inl rfl
  | some k => exact .inr (by simp)
theorem row_moved {G : Nat → Prop} {w w' : World} {B : Nat} {a : Option Addr} {c : Nat} {l : List (Win AggV)} (h : OutK.Row w B a c l) (hm : Moved G w w') (hG : ∀ i, G i → ∀ k, (Value.slice a l.length c).ownBlock = some k → i ≠ k) : OutK.Row w' B a c l := by
  obtain ⟨h1, h2⟩ := h
  refine ⟨h1, h2.imp id ?_⟩
  rintro ⟨g, cap, cur, hv, e1, e2, e3⟩
  refine ⟨g, cap, cur, hv, e1, (hm.block g (Array.getElem?_eq_some_iff.1 e2).1 (fun f => hG g f g (by rw [hv]; rfl) rfl)).trans e2, e3⟩
theorem row_mono {w : World} {B B' : Nat} {a : Option Addr} {c : Nat} {l : List (Win AggV)} (h : OutK.Row w B a c l) (hB : B' ≤ B) : OutK.Row w B' a c l := by
  obtain ⟨h1, h2⟩ := h
  refine ⟨h1, h2.imp id ?_⟩
  rintro ⟨g, cap, cur, hv, e1, e2⟩
  exact ⟨g, cap, cur, hv, Nat.le_trans hB e1, e2⟩
theorem row_lt {w : World} {B : Nat} {a : Option Addr} {c : Nat} {l : List (Win AggV)} (h : OutK.Row w B a c l) : ∀ k, (Value.slice a l.length c).ownBlock = some k → B ≤ k ∧ k < w.heap.size := fun k e => h.lt k e
def putAt (l : List (Win AggV)) (i : Nat) (x : Win AggV) (inst : Bool) : List (Win AggV) := l.take i ++ x :: l.drop (if inst = true then i + 1 else i)
/-- What with's variables hold. -/
structure Ws (w : World) (H : Nat) (s : Value) (x : Win AggV) (o : Value) (v : World) : Prop where
  c0 : v.cell? ⟨H, 0, none⟩ = some s
  r1 : RowAt v (H + 1) (outV x)
  r2 : RowAt v (H + 2) [.slice none 0 0]
  r3 : RowAt v (H + 3) [o]
  bel : Below w.heap.size w v
theorem Ws.below {w v v' : World} {H : Nat} {s o : Value} {x : Win AggV} (h : Ws w H s x o v) (hb : Below v.heap.size v v') : Ws w H s x o v' :=
  ⟨(hb.cell (p := ⟨H, 0, none⟩) (World.block_lt_of_cell? _ _ h.c0)).trans h.c0, h.r1.below hb, h.r2.below hb, h.r3.below hb, h.bel.trans (hb.mono h.bel.size)⟩
theorem Ws.put {w v : World} {H : Nat} {s o : Value} {x : Win AggV} (h : Ws w H s x o v) (hH : H = w.heap.size) (o' : Value) : Ws w H s x o' (v.setCell ⟨H + 3, 0, none⟩ o') := by
  have m := moved_set v (H + 3) 0 o'
  refine ⟨(m.cell (p := ⟨H, 0, none⟩) (World.block_lt_of_cell? _ _ h.c0) (by show ¬ H = H + 3; omega)).trans h.c0, h.r1.keep m (by omega), h.r2.keep m (by omega), h.r3.set 0 (Nat.succ_pos _) o', ?_⟩
  have m2 : Moved (fun i => i = H + 3) w (v.setCell ⟨H + 3, 0, none⟩ o') := ((Moved.of_below (F := fun _ => False) h.bel).mono (fun _ f => f.elim)).trans m (fun i hi => .inl hi)
  exact m2.below (fun i e => by omega) (Nat.le_refl _)
theorem Ws.grow {v : World} {H : Nat} {a : Option Addr} {c : Nat} {l : List (Win AggV)} (hsz : H + 4 ≤ v.heap.size) (hr : OutK.Row v (H + 4) a c l) (b : Option Addr) (cb : Nat) (m : List (Win AggV)) (hm : OutK.Lies v b m) (hb : l.length + m.length ≤ 1000000000000) :
    ∃ a' c' v', (Builtin.append_ #[28, 28] 28 #[.slice a l.length c, .slice b m.length cb]).run Try.prog v = .ok (.slice a' (l ++ m).length c') v' ∧ OutK.Row v' (H + 4) a' c' (l ++ m) ∧ Moved (fun i => H + 4 ≤ i) v v' := by
  obtain ⟨a', c', v', h1, h2, h3⟩ := grow_app outK_law hr b cb m hm hb hsz 28
  exact ⟨a', c', v', h1, h2, (Moved.refl _ _).grown h3 (fun k e => .inl (hr.lt k e).1)⟩
theorem Ws.moved {w v v' : World} {H : Nat} {s o : Value} {x : Win AggV} (h : Ws w H s x o v) (hH : H = w.heap.size) (m : Moved (fun i => H + 4 ≤ i) v v') : Ws w H s x o v' := by
  refine ⟨(m.cell (p := ⟨H, 0, none⟩) (World.block_lt_of_cell? _ _ h.c0) (by show ¬ H + 4 ≤ H; omega)).trans h.c0, h.r1.keep m (by omega), h.r2.keep m (by omega), h.r3.keep m (by omega), ?_⟩
  have m2 : Moved (fun i => H + 4 ≤ i) w v' := ((Moved.of_below (F := fun _ => False) h.bel).mono (fun _ f => f.elim)).trans m (fun i hi => .inl hi)
  exact m2.below (fun i hi => by omega) (Nat.le_refl _)
theorem exec_append {P : Program} {w w' : World} {op : Oper} {a : Act} (s x : Operand) (t tx ty : TypeId)
    (ho : op.op = .call { callee := .builtin .append, args := #[s, x], argTypes := #[t, tx] }) (hty : op.type = ty) {v xv v' : Value} (hs : a.eval s = v) (hx : a.eval x = xv)
    (hr : (Builtin.append_ #[t, tx] ty #[v, xv]).run P w = .ok v' w') : (execOp a.eval op).run P w = .ok (.value v') w' := by
  unfold execOp
  simp only [ho, resolve, invoke, builtin, Sem.run_bind, Sem.run_pure, Result.andThen_ok, List.map_toArray, List.map_cons, List.map_nil, hs, hx, hty, hr]
theorem wpQuiet_op_on {P : Program} {ops : Array Oper} {C : World → Prop} {Q : Act → Prop} {rest : List Oper} {op : Oper} {a : Act} (hw : Region.wanted op (yielded ops a.tmps) = true) (v : Value) (hr : ∀ w, C w → (execOp a.eval op).run P w = .ok (.value v) w)
    (h : wpQuiet P ops C Q rest (a.put op.dst v)) : wpQuiet P ops C Q (op :: rest) a := by
  unfold wpQuiet
  rw [if_pos hw]
  refine ⟨_, fun w hw' => ?_, h⟩
  unfold Oper.quietAt
  rw [hr w hw']
  exact ⟨rfl, rfl⟩
set_option maxRecDepth 100000 in
set_option maxHeartbeats 4000000 in
theorem with_any {w : World} {a : Option Addr} {c : Nat} {l : List (Win AggV)} (hR : OutK.Row w 0 a c l) (hl : l.length ≤ 1000) (i : Nat) (hi : i ≤ l.length) (x : Win AggV) (inst : Bool) (hin : inst = true → i < l.length) :
    Calls Try.prog 70 #[.agg #[.slice a l.length c], .int .i64 (i : Int), .agg (outV x).toArray, .bool inst] w fun e w' => ∃ a' c', e = .returned (.agg #[.slice a' (putAt l i x inst).length c']) ∧ OutK.Row w' w.heap.size a' c' (putAt l i x inst) ∧ Below w.heap.size w w' := by
  obtain ⟨W, hW⟩ : ∃ W, W = (((w.alloc (.cells #[.slice a l.length c] 49)).alloc (.cells (outV x).toArray 38)).alloc (.cells #[.slice none 0 0] 49)).alloc (.cells #[.slice none 0 0] 49) := ⟨_, rfl⟩
  obtain ⟨H, hH⟩ : ∃ H, H = w.heap.size := ⟨_, rfl⟩
  have hic : i ≤ c := Nat.le_trans hi (row_cap hR)
  have bW : Below w.heap.size w W := by rw [hW]; exact ((((Below.refl _ _).alloc (Nat.le_refl _) _).alloc (by simp) _).alloc (by simp; omega) _).alloc (by simp; omega) _
  have hsz : W.heap.size = H + 4 := by rw [hW, hH]; simp
  have T0 : RowAt W H [.slice a l.length c] := by rw [hW, hH]; exact row_old (row_old (row_old (row_new _ _ _) _) _) _
  have T1 : RowAt W (H + 1) (outV x) := by rw [hW, hH]; exact row_old (row_old (row_new2 _ _ _ _ _) _) _
  have T2 : RowAt W (H + 2) [.slice none 0 0] := by
    rw [hW, hH]
    have := row_new ((w.alloc (.cells #[.slice a l.length c] 49)).alloc (.cells (outV x).toArray 38)) [.slice none 0 0] 49
    rw [show ((w.alloc (.cells #[.slice a l.length c] 49)).alloc (.cells (outV x).toArray 38)).heap.size = w.heap.size + 2 by simp] at this
    exact row_old this _
  have T3 : RowAt W (H + 3) [.slice none 0 0] := by
    rw [hW, hH]
    have := row_new (((w.alloc (.cells #[.slice a l.length c] 49)).alloc (.cells (outV x).toArray 38)).alloc (.cells #[.slice none 0 0] 49)) [.slice none 0 0] 49
    rw [show (((w.alloc (.cells #[.slice a l.length c] 49)).alloc (.cells (outV x).toArray 38)).alloc (.cells #[.slice none 0 0] 49)).heap.size = w.heap.size + 3 by simp] at this
    exact this
  have ws0 : Ws w H (.slice a l.length c) x (.slice none 0 0) W := ⟨T0.cell 0 (Nat.succ_pos _), T1, T2, T3, bW⟩
  clear bW T0 T1 T2 T3
  have LW : ∀ u, Below w.heap.size w u → OutK.Lies u a l := fun u hu => row_lies (row_below hR hu)
  go_enter Try.func70, Try.ntmps70
  go_upto_region 2 with fail
  rw [← hH]
  try change Code.wp _ _ _ _ ((((w.alloc (.cells #[.slice a l.length c] 49)).alloc (.cells (outV x).toArray 38)).alloc (.cells #[.slice none 0 0] 49)).alloc (.cells #[.slice none 0 0] 49))
  rw [← hW]
  obtain ⟨a1, c1, u1, hap1, hr1, hm1⟩ := Ws.grow (v := W.drew) (H := H) (by show H + 4 ≤ W.heap.size; omega) (row_none W.drew (H + 4)) a c (l.take i) (lies_take outK_law (LW W.drew ws0.bel.drew) i) (by rw [List.length_take]; simp; omega)
  rw [List.nil_append] at hap1 hr1
  have hlt : (l.take i).length = i := by rw [List.length_take]; omega
  rw [hlt] at hap1
  obtain ⟨V1, hV1⟩ : ∃ V1, V1 = u1.setCell ⟨H + 1 + 1 + 1, 0, none⟩ (.slice a1 i c1) := ⟨_, rfl⟩
  have ws1 : Ws w H (.slice a l.length c) x (.slice a1 i c1) V1 := by rw [hV1]; exact (ws0.moved hH ((Moved.refl _ W).drew.trans hm1 (fun i hi => .inl hi))).put hH _
  have r1 : OutK.Row V1 (H + 4) a1 c1 (l.take i) := by rw [hV1]; exact row_moved hr1 (moved_set _ (H + 3) _ _) (fun j hj k hk => by have := (hr1.lt k hk).1; omega)
  have HV1 := hide hV1
  have HHW := hide hW
  have WS1 := hide ws1
  have R1 := hide r1
  have HLW := hide LW
  have HR := hide hR
  clear hr1 hV1 hW ws1 r1 LW hR
  refine (?goal : _)
  case goal =>
    obtain ⟨CL, hCL⟩ : ∃ CL : World → Prop, CL = fun v => Moved (fun i => H + 4 ≤ i) W v := ⟨_, rfl⟩
    have un : ∀ v, CL v → Moved (fun i => H + 4 ≤ i) W v := fun v k => by rw [hCL] at k; exact k
    have base : CL W.drew := by rw [hCL]; exact (Moved.refl _ _).drew
    have CL1 : CL u1 := by rw [hCL]; exact (Moved.refl _ W).drew.trans hm1 (fun i hi => .inl hi)
    have q0 : ∀ q : SW CL, q.w.cell? ⟨H, 0, none⟩ = some (.slice a l.length c) := fun q => (ws0.moved hH (un _ q.ok)).c0
    have q3 : ∀ q : SW CL, q.w.cell? ⟨H + 1 + 1 + 1, 0, none⟩ = some (.slice none 0 0) := fun q => (ws0.moved hH (un _ q.ok)).r3.cell 0 (Nat.succ_pos _)
    have wsn := ws0.moved hH (un _ CL1)
    have f1 : u1.frozen? ⟨H + 1 + 1 + 1, 0, none⟩ = false := wsn.r3.free 0 (Nat.succ_pos _)
    have k1 : u1.cell? ⟨H + 1 + 1 + 1, 0, none⟩ = some (.slice none 0 0) := wsn.r3.cell 0 (Nat.succ_pos _)
    have HH := hide hH
    clear hCL un hH
    refine wp_region_chain (S := CL) [true, true, true, true, true, true, false, false, false] [false, false, false, false, false, false, true, true, true] (by kernel_rfl) (by kernel_rfl) (by kernel_rfl) base ?_
    apply Exists.intro
    apply And.intro
    · intro q
      have n0 : Nonempty (SK CL q.w) := ⟨⟨q, rfl⟩⟩
      simp only [pickM]
      go_big_quiet_step (fail)
      go_big_quiet_step (fail)
      go_big_quiet_step (fail)
      go_big_quiet_step (fail)
      go_big_quiet_step (fail)
      refine wpQuiet_op_on rfl (.slice a i c) (fun w' _ => ?_) ?_
      · have := slice_to a l.length c i hic w'
        simp only [execOp, Act.eval]
        simp [go_sem, this]
      go_simp
      repeat (go_big_quiet_step (fail))
      exact wpQuiet_nil rfl
    · simp only [pickZ]
      refine chain_step (.slice a1 i c1) u1 rfl (exec_append (.tmp 11) (.tmp 15) 28 28 28 rfl rfl rfl rfl hap1) CL1 ?_
      go_simp
      refine chain_step (.pointer (some ⟨H + 1 + 1 + 1, 0, none⟩)) u1 rfl (by simp [go_sem]) CL1 ?_
      go_simp
      refine chain_last (u1.setCell ⟨H + 1 + 1 + 1, 0, none⟩ (.slice a1 i c1)) (by kernel_rfl) rfl (by simp [go_sem, f1, k1, Result.andThen]) ?_
      go_simp
      clear q0 q3 f1 k1 wsn CL1 base
      have hH := unhide HH
      clear HH

      rw [← unhide HV1]
      have HH := hide hH
      clear hap1 hm1 HV1 HHW ws0 hsz CL hlt hH
      obtain ⟨xk, xs, ⟨g0, g1, g2, g3, g4, g5, g6, g7⟩⟩ := x
      have RX : V1.rangeAt (H + 1) 0 [.string ⟨xk.toArray⟩, .int .i64 xs, .int .i64 g0, .int .i64 g1, .int .i64 g2, .int .i64 g3, .int .i64 g4, .int .i64 g5, .int .i64 g6, .int .i64 g7] := (unhide WS1).r1.range
      have k2 : V1.cell? ⟨H + 1 + 1 + 1, 0, none⟩ = some (.slice a1 i c1) := (unhide WS1).r3.cell 0 (Nat.succ_pos _)
      obtain ⟨b3, c3, u3, hap3, hr3, hm3⟩ := Ws.grow (v := V1.alloc (.cells #[.string ⟨xk.toArray⟩, .int .i64 xs, .int .i64 g0, .int .i64 g1, .int .i64 g2, .int .i64 g3, .int .i64 g4, .int .i64 g5, .int .i64 g6, .int .i64 g7] 38)) (H := H) (by have := (unhide WS1).r3.lt; simp; omega) ((unhide R1).alloc _) (some ⟨V1.heap.size, 0, none⟩) 1 [⟨xk, xs, ⟨g0, g1, g2, g3, g4, g5, g6, g7⟩⟩] (lies_new V1 _) (by rw [List.length_take]; simp; omega)
      obtain ⟨n3, hn3⟩ : ∃ n, n = (l.take i ++ [(⟨xk, xs, ⟨g0, g1, g2, g3, g4, g5, g6, g7⟩⟩ : Win AggV)]).length := ⟨_, rfl⟩
      rw [← hn3, show (l.take i).length = i by rw [List.length_take]; omega] at hap3
      have HAP3 : Hid ((Builtin.append_ #[28, 28] 28 #[.slice a1 i c1, .slice (some ⟨V1.heap.size, 0, none⟩) 1 1]).run Try.prog (V1.alloc (.cells #[.string ⟨xk.toArray⟩, .int .i64 xs, .int .i64 g0, .int .i64 g1, .int .i64 g2, .int .i64 g3, .int .i64 g4, .int .i64 g5, .int .i64 g6, .int .i64 g7] 38)) = .ok (.slice b3 n3 c3) u3) := hide hap3
      have m3 : Moved (fun i => H + 4 ≤ i) V1 u3 := ((Moved.refl _ V1).alloc _).trans hm3 (fun i hi => .inl hi)
      have wsn := (unhide WS1).moved (unhide HH) m3
      have f3 : u3.frozen? ⟨H + 1 + 1 + 1, 0, none⟩ = false := wsn.r3.free 0 (Nat.succ_pos _)
      have k3 : u3.cell? ⟨H + 1 + 1 + 1, 0, none⟩ = some (.slice a1 i c1) := wsn.r3.cell 0 (Nat.succ_pos _)
      obtain ⟨V3, hV3⟩ : ∃ V3, V3 = u3.setCell ⟨H + 1 + 1 + 1, 0, none⟩ (.slice b3 n3 c3) := ⟨_, rfl⟩
      have WS3 := hide (by rw [hV3]; exact wsn.put (unhide HH) _ : Ws w H (.slice a l.length c) ⟨xk, xs, ⟨g0, g1, g2, g3, g4, g5, g6, g7⟩⟩ (.slice b3 n3 c3) V3)
      have R3 : Hid (OutK.Row V3 (H + 4) b3 c3 (l.take i ++ [(⟨xk, xs, ⟨g0, g1, g2, g3, g4, g5, g6, g7⟩⟩ : Win AggV)])) := hide (by rw [hV3]; exact row_moved hr3 (moved_set _ (H + 3) _ _) (fun j hj k hk => by have := (hr3.lt k hk).1; omega))
      have HV3 := hide hV3
      have RXh := hide RX
      have HN3 := hide hn3
      clear hV3 hr3 hm3 m3 wsn hap3 RX hn3
      go_upto_region 4 with (first | (refine wpList_load_on rfl 38 (.tmp 6) rfl (H + 1) 0 rfl [.string ⟨xk.toArray⟩, .int .i64 xs, .int .i64 g0, .int .i64 g1, .int .i64 g2, .int .i64 g3, .int .i64 g4, .int .i64 g5, .int .i64 g6, .int .i64 g7] _ (unhide RXh) Try.underlying38 rfl (by kernel_rfl) ?_) | (at_builtin; refine wpList_app rfl _ _ 28 28 28 rfl rfl rfl rfl (unhide HAP3) ?_))
      rw [← unhide HV3]
      cases inst
      · have hee : i ≤ l.length := hi
        have hrem : (l.drop (i)).length = l.length - (i) := List.length_drop
        have hH := unhide HH
        obtain ⟨A5, hA5⟩ : ∃ A5, A5 = (if c = i then a else a.map (·.add ((i) * 10))) := ⟨_, rfl⟩
        have hsf : ∀ w', (Instr.slice 28 (.slice a l.length c) (some (.int .i64 ((i : Nat) : Int))) none none).run Try.prog w' = .ok (.slice A5 (l.length - (i)) (c - (i))) w' := by rw [hA5]; exact slice_from a l.length c (i) hee
        push_cast at hsf
        have hl5 : OutK.Lies V3.drew A5 (l.drop (i)) := by rw [hA5]; exact lies_from (unhide HLW V3.drew (unhide WS3).bel.drew) hee (row_cap (unhide HR))
        obtain ⟨a6, c6, u6, hap6, hr6, hm6⟩ := Ws.grow (v := V3.drew) (H := H) (unhide WS3).r3.lt (unhide R3) A5 (c - (i)) (l.drop (i)) hl5 (by simp; omega)
        rw [hrem, ← unhide HN3] at hap6
        obtain ⟨N6, hN6⟩ : ∃ n, n = (l.take i ++ [(⟨xk, xs, ⟨g0, g1, g2, g3, g4, g5, g6, g7⟩⟩ : Win AggV)] ++ l.drop (i)).length := ⟨_, rfl⟩
        rw [← hN6] at hap6
        obtain ⟨V6, hV6⟩ : ∃ V6, V6 = u6.setCell ⟨H + 1 + 1 + 1, 0, none⟩ (.slice a6 N6 c6) := ⟨_, rfl⟩
        have WS6 := hide (by rw [hV6]; exact ((unhide WS3).moved hH ((Moved.refl _ V3).drew.trans hm6 (fun i hi => .inl hi))).put hH _ : Ws w H (.slice a l.length c) (⟨xk, xs, ⟨g0, g1, g2, g3, g4, g5, g6, g7⟩⟩ : Win AggV) (.slice a6 N6 c6) V6)
        have R6 := hide (by rw [hV6]; exact row_moved hr6 (moved_set _ (H + 3) _ _) (fun j hj k hk => by have := (hr6.lt k hk).1; omega) : OutK.Row V6 (H + 4) a6 c6 (l.take i ++ [(⟨xk, xs, ⟨g0, g1, g2, g3, g4, g5, g6, g7⟩⟩ : Win AggV)] ++ l.drop (i)))
        have HL6 : Hid ((l.take i ++ [(⟨xk, xs, ⟨g0, g1, g2, g3, g4, g5, g6, g7⟩⟩ : Win AggV)] ++ l.drop (i)) = putAt l i (⟨xk, xs, ⟨g0, g1, g2, g3, g4, g5, g6, g7⟩⟩ : Win AggV) false) := hide (by simp [putAt])
        have HN6 : Hid (N6 = (putAt l i (⟨xk, xs, ⟨g0, g1, g2, g3, g4, g5, g6, g7⟩⟩ : Win AggV) false).length) := hide (by rw [hN6, unhide HL6])
        have HV6 := hide hV6
        have ws3 := unhide WS3
        clear hr6 hV6 hl5 hA5 hN6 hrem HH
        go_upto_region 6 with fail
        obtain ⟨CL, hCL⟩ : ∃ CL : World → Prop, CL = fun v => Moved (fun i => H + 4 ≤ i) V3 v := ⟨_, rfl⟩
        have un : ∀ v, CL v → Moved (fun i => H + 4 ≤ i) V3 v := fun v k => by rw [hCL] at k; exact k
        have base : CL V3.drew := by rw [hCL]; exact (Moved.refl _ _).drew
        have CL1 : CL u6 := by rw [hCL]; exact (Moved.refl _ V3).drew.trans hm6 (fun i hi => .inl hi)
        have q0 : ∀ q : SW CL, q.w.cell? ⟨H, 0, none⟩ = some (.slice a l.length c) := fun q => (ws3.moved hH (un _ q.ok)).c0
        have q3 : ∀ q : SW CL, q.w.cell? ⟨H + 1 + 1 + 1, 0, none⟩ = some (.slice b3 n3 c3) := fun q => (ws3.moved hH (un _ q.ok)).r3.cell 0 (Nat.succ_pos _)
        have wsn := ws3.moved hH (un _ CL1)
        have f1 : u6.frozen? ⟨H + 1 + 1 + 1, 0, none⟩ = false := wsn.r3.free 0 (Nat.succ_pos _)
        have k1 : u6.cell? ⟨H + 1 + 1 + 1, 0, none⟩ = some (.slice b3 n3 c3) := wsn.r3.cell 0 (Nat.succ_pos _)
        have HH := hide hH
        clear hCL un hH
        refine wp_region_chain (S := CL) [true, true, true, true, true, true, false, false, false] [false, false, false, false, false, false, true, true, true] (by kernel_rfl) (by kernel_rfl) (by kernel_rfl) base ?_
        apply Exists.intro
        apply And.intro
        · intro q
          have n0 : Nonempty (SK CL q.w) := ⟨⟨q, rfl⟩⟩
          simp only [pickM]
          go_big_quiet_step (fail)
          go_big_quiet_step (fail)
          go_big_quiet_step (fail)
          go_big_quiet_step (fail)
          go_big_quiet_step (fail)
          refine wpQuiet_op_on rfl (.slice A5 (l.length - (i)) (c - (i))) (fun w' _ => ?_) ?_
          · have := hsf w'
            simp only [execOp, Act.eval]
            simp [go_sem, this]
          go_simp
          repeat (go_big_quiet_step (fail))
          exact wpQuiet_nil rfl
        · simp only [pickZ]
          refine chain_step (.slice a6 N6 c6) u6 rfl (exec_append (.tmp 28) (.tmp 32) 28 28 28 rfl rfl rfl rfl hap6) CL1 ?_
          go_simp
          refine chain_step (.pointer (some ⟨H + 1 + 1 + 1, 0, none⟩)) u6 rfl (by simp [go_sem]) CL1 ?_
          go_simp
          refine chain_last (u6.setCell ⟨H + 1 + 1 + 1, 0, none⟩ (.slice a6 N6 c6)) (by kernel_rfl) rfl (by simp [go_sem, f1, k1, Result.andThen]) ?_
          go_simp
          clear q0 q3 f1 k1 wsn CL1 base
          have hH := unhide HH
          clear HH

          rw [← unhide HV6]
          have HH := hide hH
          clear hap6 hm6 HV6 WS3 R3 ws3 CL hsf hH HLW HR WS1 R1 HN3
          go_upto_region 7 with fail
          have hrg := (unhide WS6).r3.range
          have hth := (unhide WS6).r2.there
          go_step
          refine wpList_load_mid rfl 49 (.tmp 9) rfl (H + 1 + 1 + 1) 0 rfl [.slice a6 N6 c6] _ hrg Try.underlying49 rfl (by kernel_rfl) ?_
          refine wpList_store_mid rfl 49 (.tmp 8) (.tmp 35) rfl (H + 1 + 1) 0 #[.slice a6 N6 c6] rfl rfl hth (by kernel_rfl) (by simp [Value.oneCell']) ?_
          clear hrg hth
          have RF := (unhide WS6).r2.put [.slice a6 N6 c6] rfl
          have MV := hide (setCells_moved V6 (H + 2) 0 [.slice a6 N6 c6])
          have W6 := hide (row_moved (unhide R6) (unhide MV) (fun j hj k hk => by have := ((unhide R6).lt k hk).1; omega))
          have BF := hide (((Moved.of_below (F := fun j => j = H + 2) (unhide WS6).bel).trans (unhide MV) (fun j hj => .inl hj)).below (B := w.heap.size) (fun j hj => by rw [← unhide HH]; omega) (Nat.le_refl _))
          clear MV
          change wpList _ _ _ _ _ (V6.setCells (H + 2) 0 [.slice a6 N6 c6])
          generalize V6.setCells (H + 2) 0 [.slice a6 N6 c6] = wf at *
          go_wp2_with fail
          have hfr := RF.range
          refine bodyPost_ret (v := .agg #[.slice a6 N6 c6]) ?_ rfl ?_
          · exact results_cell_mid Try.results70 _ wf (H + 1 + 1) [.slice a6 N6 c6] _ rfl hfr Try.underlying49 rfl (by kernel_rfl)
          · exact ⟨a6, c6, by rw [unhide HN6], by rw [← unhide HL6]; exact row_mono (unhide W6) (by rw [← unhide HH]; omega), unhide BF⟩

      · have hwr : IntKind.i64.wrap ((i : Int) + 1) = (i : Int) + 1 := Go.IntWalk.i64_in _ (by omega)
        have hee : i + 1 ≤ l.length := hin rfl
        have hrem : (l.drop (i + 1)).length = l.length - (i + 1) := List.length_drop
        have hH := unhide HH
        obtain ⟨A5, hA5⟩ : ∃ A5, A5 = (if c = i + 1 then a else a.map (·.add ((i + 1) * 10))) := ⟨_, rfl⟩
        have hsf : ∀ w', (Instr.slice 28 (.slice a l.length c) (some (.int .i64 ((i + 1 : Nat) : Int))) none none).run Try.prog w' = .ok (.slice A5 (l.length - (i + 1)) (c - (i + 1))) w' := by rw [hA5]; exact slice_from a l.length c (i + 1) hee
        push_cast at hsf
        have hl5 : OutK.Lies V3.drew A5 (l.drop (i + 1)) := by rw [hA5]; exact lies_from (unhide HLW V3.drew (unhide WS3).bel.drew) hee (row_cap (unhide HR))
        obtain ⟨a6, c6, u6, hap6, hr6, hm6⟩ := Ws.grow (v := V3.drew) (H := H) (unhide WS3).r3.lt (unhide R3) A5 (c - (i + 1)) (l.drop (i + 1)) hl5 (by simp; omega)
        rw [hrem, ← unhide HN3] at hap6
        obtain ⟨N6, hN6⟩ : ∃ n, n = (l.take i ++ [(⟨xk, xs, ⟨g0, g1, g2, g3, g4, g5, g6, g7⟩⟩ : Win AggV)] ++ l.drop (i + 1)).length := ⟨_, rfl⟩
        rw [← hN6] at hap6
        obtain ⟨V6, hV6⟩ : ∃ V6, V6 = u6.setCell ⟨H + 1 + 1 + 1, 0, none⟩ (.slice a6 N6 c6) := ⟨_, rfl⟩
        have WS6 := hide (by rw [hV6]; exact ((unhide WS3).moved hH ((Moved.refl _ V3).drew.trans hm6 (fun i hi => .inl hi))).put hH _ : Ws w H (.slice a l.length c) (⟨xk, xs, ⟨g0, g1, g2, g3, g4, g5, g6, g7⟩⟩ : Win AggV) (.slice a6 N6 c6) V6)
        have R6 := hide (by rw [hV6]; exact row_moved hr6 (moved_set _ (H + 3) _ _) (fun j hj k hk => by have := (hr6.lt k hk).1; omega) : OutK.Row V6 (H + 4) a6 c6 (l.take i ++ [(⟨xk, xs, ⟨g0, g1, g2, g3, g4, g5, g6, g7⟩⟩ : Win AggV)] ++ l.drop (i + 1)))
        have HL6 : Hid ((l.take i ++ [(⟨xk, xs, ⟨g0, g1, g2, g3, g4, g5, g6, g7⟩⟩ : Win AggV)] ++ l.drop (i + 1)) = putAt l i (⟨xk, xs, ⟨g0, g1, g2, g3, g4, g5, g6, g7⟩⟩ : Win AggV) true) := hide (by simp [putAt])
        have HN6 : Hid (N6 = (putAt l i (⟨xk, xs, ⟨g0, g1, g2, g3, g4, g5, g6, g7⟩⟩ : Win AggV) true).length) := hide (by rw [hN6, unhide HL6])
        have HV6 := hide hV6
        have ws3 := unhide WS3
        clear hr6 hV6 hl5 hA5 hN6 hrem HH
        go_upto_region 6 with fail
        obtain ⟨CL, hCL⟩ : ∃ CL : World → Prop, CL = fun v => Moved (fun i => H + 4 ≤ i) V3 v := ⟨_, rfl⟩
        have un : ∀ v, CL v → Moved (fun i => H + 4 ≤ i) V3 v := fun v k => by rw [hCL] at k; exact k
        have base : CL V3.drew := by rw [hCL]; exact (Moved.refl _ _).drew
        have CL1 : CL u6 := by rw [hCL]; exact (Moved.refl _ V3).drew.trans hm6 (fun i hi => .inl hi)
        have q0 : ∀ q : SW CL, q.w.cell? ⟨H, 0, none⟩ = some (.slice a l.length c) := fun q => (ws3.moved hH (un _ q.ok)).c0
        have q3 : ∀ q : SW CL, q.w.cell? ⟨H + 1 + 1 + 1, 0, none⟩ = some (.slice b3 n3 c3) := fun q => (ws3.moved hH (un _ q.ok)).r3.cell 0 (Nat.succ_pos _)
        have wsn := ws3.moved hH (un _ CL1)
        have f1 : u6.frozen? ⟨H + 1 + 1 + 1, 0, none⟩ = false := wsn.r3.free 0 (Nat.succ_pos _)
        have k1 : u6.cell? ⟨H + 1 + 1 + 1, 0, none⟩ = some (.slice b3 n3 c3) := wsn.r3.cell 0 (Nat.succ_pos _)
        have HH := hide hH
        clear hCL un hH
        refine wp_region_chain (S := CL) [true, true, true, true, true, true, false, false, false] [false, false, false, false, false, false, true, true, true] (by kernel_rfl) (by kernel_rfl) (by kernel_rfl) base ?_
        apply Exists.intro
        apply And.intro
        · intro q
          have n0 : Nonempty (SK CL q.w) := ⟨⟨q, rfl⟩⟩
          simp only [pickM]
          go_big_quiet_step (fail)
          go_big_quiet_step (fail)
          go_big_quiet_step (fail)
          go_big_quiet_step (fail)
          go_big_quiet_step (fail)
          refine wpQuiet_op_on rfl (.slice A5 (l.length - (i + 1)) (c - (i + 1))) (fun w' _ => ?_) ?_
          · have := hsf w'
            simp only [execOp, Act.eval]
            simp [go_sem, this]
          go_simp
          repeat (go_big_quiet_step (fail))
          exact wpQuiet_nil rfl
        · simp only [pickZ]
          refine chain_step (.slice a6 N6 c6) u6 rfl (exec_append (.tmp 28) (.tmp 32) 28 28 28 rfl rfl rfl rfl hap6) CL1 ?_
          go_simp
          refine chain_step (.pointer (some ⟨H + 1 + 1 + 1, 0, none⟩)) u6 rfl (by simp [go_sem]) CL1 ?_
          go_simp
          refine chain_last (u6.setCell ⟨H + 1 + 1 + 1, 0, none⟩ (.slice a6 N6 c6)) (by kernel_rfl) rfl (by simp [go_sem, f1, k1, Result.andThen]) ?_
          go_simp
          clear q0 q3 f1 k1 wsn CL1 base
          have hH := unhide HH
          clear HH

          rw [← unhide HV6]
          have HH := hide hH
          clear hap6 hm6 HV6 WS3 R3 ws3 CL hsf hH HLW HR WS1 R1 HN3
          go_upto_region 7 with fail
          have hrg := (unhide WS6).r3.range
          have hth := (unhide WS6).r2.there
          go_step
          refine wpList_load_mid rfl 49 (.tmp 9) rfl (H + 1 + 1 + 1) 0 rfl [.slice a6 N6 c6] _ hrg Try.underlying49 rfl (by kernel_rfl) ?_
          refine wpList_store_mid rfl 49 (.tmp 8) (.tmp 35) rfl (H + 1 + 1) 0 #[.slice a6 N6 c6] rfl rfl hth (by kernel_rfl) (by simp [Value.oneCell']) ?_
          clear hrg hth
          have RF := (unhide WS6).r2.put [.slice a6 N6 c6] rfl
          have MV := hide (setCells_moved V6 (H + 2) 0 [.slice a6 N6 c6])
          have W6 := hide (row_moved (unhide R6) (unhide MV) (fun j hj k hk => by have := ((unhide R6).lt k hk).1; omega))
          have BF := hide (((Moved.of_below (F := fun j => j = H + 2) (unhide WS6).bel).trans (unhide MV) (fun j hj => .inl hj)).below (B := w.heap.size) (fun j hj => by rw [← unhide HH]; omega) (Nat.le_refl _))
          clear MV
          change wpList _ _ _ _ _ (V6.setCells (H + 2) 0 [.slice a6 N6 c6])
          generalize V6.setCells (H + 2) 0 [.slice a6 N6 c6] = wf at *
          go_wp2_with fail
          have hfr := RF.range
          refine bodyPost_ret (v := .agg #[.slice a6 N6 c6]) ?_ rfl ?_
          · exact results_cell_mid Try.results70 _ wf (H + 1 + 1) [.slice a6 N6 c6] _ rfl hfr Try.underlying49 rfl (by kernel_rfl)
          · exact ⟨a6, c6, by rw [unhide HN6], by rw [← unhide HL6]; exact row_mono (unhide W6) (by rw [← unhide HH]; omega), unhide BF⟩

end Go.Proofs.Ytmgmkdkdpeljmaa

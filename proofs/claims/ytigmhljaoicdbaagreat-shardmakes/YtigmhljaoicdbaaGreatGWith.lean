/- The document's own 'with': a window put into a place of a row. Conditions: the place lies in the row; the row has at most 1000 windows. -/
import Derived.Test.YtigmhljaoicdbaaGreatGSetS
import Derived.Test.YtigmhljaoicdbaaGreatGKeys
import Derived.ProofKit
import Derived.OpenShut
import Derived.ChangeSlices
import Derived.Test.YtigmhljaoicdbaaGreatGPut
import Derived.Deep.Fields
namespace Go.Proofs.YtigmhljaoicdbaaGreat
open Go.RowKit

theorem slice_to (a : Option Addr) (n c i : Nat) (hi : i ≤ c) (W : World) : (Instr.slice 27 (.slice a n c) none (some (.int .i64 (i : Int))) none).run Tryz.prog W = .ok (.slice a i c) W := by
  have u := Tryz.underlying27
  have z := Tryz.sizeOf52
  simp [Instr.slice, go_sem]
  intro h; omega
theorem slice_from (a : Option Addr) (n c i : Nat) (hi : i ≤ n) (W : World) : (Instr.slice 27 (.slice a n c) (some (.int .i64 (i : Int))) none none).run Tryz.prog W = .ok (.slice (if c = i then a else a.map (·.add (i * 10))) (n - i) (c - i)) W := by
  have u := Tryz.underlying27
  have z := Tryz.sizeOf52
  simp [Instr.slice, go_sem]
  intro h; omega
theorem lies_nil (w : World) (a : Option Addr) : OutK.Lies w a [] := ⟨fun _ => rfl, fun x e j u hu => by simp [RowK.cells] at hu⟩
theorem lies_from {w : World} {a : Option Addr} {l : List (Win AggV)} {c i : Nat} (h : OutK.Lies w a l) (hi : i ≤ l.length) (hc : l.length ≤ c) : OutK.Lies w (if c = i then a else a.map (·.add (i * 10))) (l.drop i) := by
  split
  · rw [List.drop_of_length_le (by omega)]; exact lies_nil w a
  · cases a with
    | none => rw [h.1 rfl, List.drop_nil]; exact lies_nil w none
    | some x => exact lies_drop outK_law h i
theorem row_below {w w' : World} {B : Nat} {a : Option Addr} {c : Nat} {l : List (Win AggV)} (h : OutK.Row w B a c l) (hb : Below w.heap.size w w') : OutK.Row w' B a c l := by
  refine World.ownsRow.kept (row := none) h ⟨hb.os, hb.tape, hb.output, hb.size, fun k hk _ => hb.block k hk⟩ ?_
  cases e : (Value.slice a l.length c).ownBlock with
  | none => exact .inl rfl
  | some k => exact .inr (by simp)
theorem row_moved {G : Nat → Prop} {w w' : World} {B : Nat} {a : Option Addr} {c : Nat} {l : List (Win AggV)} (h : OutK.Row w B a c l) (hm : Moved G w w') (hG : ∀ i, G i → ∀ k, (Value.slice a l.length c).ownBlock = some k → i ≠ k) : OutK.Row w' B a c l := by
  obtain ⟨h1, h2⟩ := h
  refine ⟨h1, h2.imp id ?_⟩
  rintro ⟨g, cap, cur, hv, e1, e2, e3⟩
  refine ⟨g, cap, cur, hv, e1, (hm.block g (Array.getElem?_eq_some_iff.1 e2).1 (fun f => hG g f g (by rw [hv]; rfl) rfl)).trans e2, e3⟩
theorem row_mono {w : World} {B B' : Nat} {a : Option Addr} {c : Nat} {l : List (Win AggV)} (h : OutK.Row w B a c l) (hB : B' ≤ B) : OutK.Row w B' a c l := by
  obtain ⟨h1, h2⟩ := h
  refine ⟨h1, h2.imp id ?_⟩
  rintro ⟨g, cap, cur, hv, e1, e2⟩
  exact ⟨g, cap, cur, hv, Nat.le_trans hB e1, e2⟩
theorem row_lt {w : World} {B : Nat} {a : Option Addr} {c : Nat} {l : List (Win AggV)} (h : OutK.Row w B a c l) : ∀ k, (Value.slice a l.length c).ownBlock = some k → B ≤ k ∧ k < w.heap.size := fun k e => h.lt k e
def putAt (l : List (Win AggV)) (i : Nat) (x : Win AggV) (inst : Bool) : List (Win AggV) := l.take i ++ x :: l.drop (if inst = true then i + 1 else i)
/-- What with's variables hold. -/
structure Ws (w : World) (H : Nat) (s : Value) (x : Win AggV) (o : Value) (v : World) : Prop where
  c0 : v.cell? ⟨H, 0, none⟩ = some s
  r1 : RowAt v (H + 1) (outV x)
  r2 : RowAt v (H + 2) [.slice none 0 0]
  r3 : RowAt v (H + 3) [o]
  bel : Below w.heap.size w v
theorem Ws.below {w v v' : World} {H : Nat} {s o : Value} {x : Win AggV} (h : Ws w H s x o v) (hb : Below v.heap.size v v') : Ws w H s x o v' :=
  ⟨(hb.cell (p := ⟨H, 0, none⟩) (World.block_lt_of_cell? _ _ h.c0)).trans h.c0, h.r1.below hb, h.r2.below hb, h.r3.below hb, h.bel.trans (hb.mono h.bel.size)⟩
theorem Ws.put {w v : World} {H : Nat} {s o : Value} {x : Win AggV} (h : Ws w H s x o v) (hH : H = w.heap.size) (o' : Value) : Ws w H s x o' (v.setCell ⟨H + 3, 0, none⟩ o') := by
  have m := moved_set v (H + 3) 0 o'
  refine ⟨(m.cell (p := ⟨H, 0, none⟩) (World.block_lt_of_cell? _ _ h.c0) (by show ¬ H = H + 3; omega)).trans h.c0, h.r1.keep m (by omega), h.r2.keep m (by omega), h.r3.set 0 (Nat.succ_pos _) o', ?_⟩
  have m2 : Moved (fun i => i = H + 3) w (v.setCell ⟨H + 3, 0, none⟩ o') := ((Moved.of_below (F := fun _ => False) h.bel).mono (fun _ f => f.elim)).trans m (fun i hi => .inl hi)
  exact m2.below (fun i e => by omega) (Nat.le_refl _)
theorem Ws.grow {v : World} {H : Nat} {a : Option Addr} {c : Nat} {l : List (Win AggV)} (hsz : H + 4 ≤ v.heap.size) (hr : OutK.Row v (H + 4) a c l) (b : Option Addr) (cb : Nat) (m : List (Win AggV)) (hm : OutK.Lies v b m) (hb : l.length + m.length ≤ 1000000000000) :
    ∃ a' c' v', (Builtin.append_ #[27, 27] 27 #[.slice a l.length c, .slice b m.length cb]).run Tryz.prog v = .ok (.slice a' (l ++ m).length c') v' ∧ OutK.Row v' (H + 4) a' c' (l ++ m) ∧ Moved (fun i => H + 4 ≤ i) v v' := by
  obtain ⟨a', c', v', h1, h2, h3⟩ := grow_app outK_law hr b cb m hm hb hsz 27
  exact ⟨a', c', v', h1, h2, (Moved.refl _ _).grown h3 (fun k e => .inl (hr.lt k e).1)⟩
theorem Ws.moved {w v v' : World} {H : Nat} {s o : Value} {x : Win AggV} (h : Ws w H s x o v) (hH : H = w.heap.size) (m : Moved (fun i => H + 4 ≤ i) v v') : Ws w H s x o v' := by
  refine ⟨(m.cell (p := ⟨H, 0, none⟩) (World.block_lt_of_cell? _ _ h.c0) (by show ¬ H + 4 ≤ H; omega)).trans h.c0, h.r1.keep m (by omega), h.r2.keep m (by omega), h.r3.keep m (by omega), ?_⟩
  have m2 : Moved (fun i => H + 4 ≤ i) w v' := ((Moved.of_below (F := fun _ => False) h.bel).mono (fun _ f => f.elim)).trans m (fun i hi => .inl hi)
  exact m2.below (fun i hi => by omega) (Nat.le_refl _)
theorem exec_append {P : Program} {w w' : World} {op : Oper} {a : Act} (s x : Operand) (t tx ty : TypeId)
    (ho : op.op = .call { callee := .builtin .append, args := #[s, x], argTypes := #[t, tx] }) (hty : op.type = ty) {v xv v' : Value} (hs : a.eval s = v) (hx : a.eval x = xv)
    (hr : (Builtin.append_ #[t, tx] ty #[v, xv]).run P w = .ok v' w') : (execOp a.eval op).run P w = .ok (.value v') w' := by
  unfold execOp
  simp only [ho, resolve, invoke, builtin, Sem.run_bind, Sem.run_pure, Result.andThen_ok, List.map_toArray, List.map_cons, List.map_nil, hs, hx, hty, hr]
theorem wpQuiet_op_on {P : Program} {ops : Array Oper} {C : World → Prop} {Q : Act → Prop} {rest : List Oper} {op : Oper} {a : Act} (hw : Region.wanted op (yielded ops a.tmps) = true) (v : Value) (hr : ∀ w, C w → (execOp a.eval op).run P w = .ok (.value v) w)
    (h : wpQuiet P ops C Q rest (a.put op.dst v)) : wpQuiet P ops C Q (op :: rest) a := by
  unfold wpQuiet
  rw [if_pos hw]
  refine ⟨_, fun w hw' => ?_, h⟩
  unfold Oper.quietAt
  rw [hr w hw']
  exact ⟨rfl, rfl⟩
set_option maxRecDepth 100000 in
set_option maxHeartbeats 4000000 in
theorem with_any {w : World} {a : Option Addr} {c : Nat} {l : List (Win AggV)} (hR : OutK.Row w 0 a c l) (hl : l.length ≤ 1000) (i : Nat) (hi : i ≤ l.length) (x : Win AggV) (inst : Bool) (hin : inst = true → i < l.length) :
    Calls Tryz.prog 85 #[.agg #[.slice a l.length c], .int .i64 (i : Int), .agg (outV x).toArray, .bool inst] w fun e w' => ∃ a' c', e = .returned (.agg #[.slice a' (putAt l i x inst).length c']) ∧ OutK.Row w' w.heap.size a' c' (putAt l i x inst) ∧ Below w.heap.size w w' := by
  obtain ⟨W, hW⟩ : ∃ W, W = (((w.alloc (.cells #[.slice a l.length c] 29)).alloc (.cells (outV x).toArray 52)).alloc (.cells #[.slice none 0 0] 29)).alloc (.cells #[.slice none 0 0] 29) := ⟨_, rfl⟩
  obtain ⟨H, hH⟩ : ∃ H, H = w.heap.size := ⟨_, rfl⟩
  have hic : i ≤ c := Nat.le_trans hi (row_cap hR)
  have bW : Below w.heap.size w W := by rw [hW]; exact ((((Below.refl _ _).alloc (Nat.le_refl _) _).alloc (by simp) _).alloc (by simp; omega) _).alloc (by simp; omega) _
  have hsz : W.heap.size = H + 4 := by rw [hW, hH]; simp
  have T0 : RowAt W H [.slice a l.length c] := by rw [hW, hH]; exact row_old (row_old (row_old (row_new _ _ _) _) _) _
  have T1 : RowAt W (H + 1) (outV x) := by rw [hW, hH]; exact row_old (row_old (row_new2 _ _ _ _ _) _) _
  have T2 : RowAt W (H + 2) [.slice none 0 0] := by
    rw [hW, hH]
    have := row_new ((w.alloc (.cells #[.slice a l.length c] 29)).alloc (.cells (outV x).toArray 52)) [.slice none 0 0] 29
    rw [show ((w.alloc (.cells #[.slice a l.length c] 29)).alloc (.cells (outV x).toArray 52)).heap.size = w.heap.size + 2 by simp] at this
    exact row_old this _
  have T3 : RowAt W (H + 3) [.slice none 0 0] := by
    rw [hW, hH]
    have := row_new (((w.alloc (.cells #[.slice a l.length c] 29)).alloc (.cells (outV x).toArray 52)).alloc (.cells #[.slice none 0 0] 29)) [.slice none 0 0] 29
    rw [show (((w.alloc (.cells #[.slice a l.length c] 29)).alloc (.cells (outV x).toArray 52)).alloc (.cells #[.slice none 0 0] 29)).heap.size = w.heap.size + 3 by simp] at this
    exact this
  have ws0 : Ws w H (.slice a l.length c) x (.slice none 0 0) W := ⟨T0.cell 0 (Nat.succ_pos _), T1, T2, T3, bW⟩
  clear bW T0 T1 T2 T3
  have LW : ∀ u, Below w.heap.size w u → OutK.Lies u a l := fun u hu => row_lies (row_below hR hu)
  go_enter Tryz.func85, Tryz.ntmps85
  go_upto_region 2 with fail
  rw [← hH]
  try change Code.wp _ _ _ _ ((((w.alloc (.cells #[.slice a l.length c] 29)).alloc (.cells (outV x).toArray 52)).alloc (.cells #[.slice none 0 0] 29)).alloc (.cells #[.slice none 0 0] 29))
  rw [← hW]
  obtain ⟨a1, c1, u1, hap1, hr1, hm1⟩ := Ws.grow (v := W.drew) (H := H) (by show H + 4 ≤ W.heap.size; omega) (row_none W.drew (H + 4)) a c (l.take i) (lies_take outK_law (LW W.drew ws0.bel.drew) i) (by rw [List.length_take]; simp; omega)
  rw [List.nil_append] at hap1 hr1
  have hlt : (l.take i).length = i := by rw [List.length_take]; omega
  rw [hlt] at hap1
  obtain ⟨V1, hV1⟩ : ∃ V1, V1 = u1.setCell ⟨H + 1 + 1 + 1, 0, none⟩ (.slice a1 i c1) := ⟨_, rfl⟩
  have ws1 : Ws w H (.slice a l.length c) x (.slice a1 i c1) V1 := by rw [hV1]; exact (ws0.moved hH ((Moved.refl _ W).drew.trans hm1 (fun i hi => .inl hi))).put hH _
  have r1 : OutK.Row V1 (H + 4) a1 c1 (l.take i) := by rw [hV1]; exact row_moved hr1 (moved_set _ (H + 3) _ _) (fun j hj k hk => by have := (hr1.lt k hk).1; omega)
  have HV1 := hide hV1
  have HHW := hide hW
  have WS1 := hide ws1
  have R1 := hide r1
  have HLW := hide LW
  have HR := hide hR
  clear hr1 hV1 hW ws1 r1 LW hR
  refine (?goal : _)
  case goal =>
    obtain ⟨CL, hCL⟩ : ∃ CL : World → Prop, CL = fun v => Moved (fun i => H + 4 ≤ i) W v := ⟨_, rfl⟩
    have un : ∀ v, CL v → Moved (fun i => H + 4 ≤ i) W v := fun v k => by rw [hCL] at k; exact k
    have base : CL W.drew := by rw [hCL]; exact (Moved.refl _ _).drew
    have CL1 : CL u1 := by rw [hCL]; exact (Moved.refl _ W).drew.trans hm1 (fun i hi => .inl hi)
    have q0 : ∀ q : SW CL, q.w.cell? ⟨H, 0, none⟩ = some (.slice a l.length c) := fun q => (ws0.moved hH (un _ q.ok)).c0
    have q3 : ∀ q : SW CL, q.w.cell? ⟨H + 1 + 1 + 1, 0, none⟩ = some (.slice none 0 0) := fun q => (ws0.moved hH (un _ q.ok)).r3.cell 0 (Nat.succ_pos _)
    have wsn := ws0.moved hH (un _ CL1)
    have f1 : u1.frozen? ⟨H + 1 + 1 + 1, 0, none⟩ = false := wsn.r3.free 0 (Nat.succ_pos _)
    have k1 : u1.cell? ⟨H + 1 + 1 + 1, 0, none⟩ = some (.slice none 0 0) := wsn.r3.cell 0 (Nat.succ_pos _)
    have HH := hide hH
    clear hCL un hH
    refine wp_region_chain (S := CL) [true, true, true, true, true, true, false, false, false] [false, false, false, false, false, false, true, true, true] (by kernel_rfl) (by kernel_rfl) (by kernel_rfl) base ?_
    apply Exists.intro
    apply And.intro
    · intro q
      have n0 : Nonempty (SK CL q.w) := ⟨⟨q, rfl⟩⟩
      simp only [pickM]
      go_big_quiet_step (fail)
      go_big_quiet_step (fail)
      go_big_quiet_step (fail)
      go_big_quiet_step (fail)
      go_big_quiet_step (fail)
      refine wpQuiet_op_on rfl (.slice a i c) (fun w' _ => ?_) ?_
      · have := slice_to a l.length c i hic w'
        simp only [execOp, Act.eval]
        simp [go_sem, this]
      go_simp
      repeat (go_big_quiet_step (fail))
      exact wpQuiet_nil rfl
    · simp only [pickZ]
      refine chain_step (.slice a1 i c1) u1 rfl (exec_append (.tmp 11) (.tmp 15) 27 27 27 rfl rfl rfl rfl hap1) CL1 ?_
      go_simp
      refine chain_step (.pointer (some ⟨H + 1 + 1 + 1, 0, none⟩)) u1 rfl (by simp [go_sem]) CL1 ?_
      go_simp
      refine chain_last (u1.setCell ⟨H + 1 + 1 + 1, 0, none⟩ (.slice a1 i c1)) (by kernel_rfl) rfl (by simp [go_sem, f1, k1, Result.andThen]) ?_
      go_simp
      clear q0 q3 f1 k1 wsn CL1 base
      have hH := unhide HH
      clear HH

      rw [← unhide HV1]
      have HH := hide hH
      clear hap1 hm1 HV1 HHW ws0 hsz CL hlt hH
      obtain ⟨xk, xs, ⟨g0, g1, g2, g3, g4, g5, g6, g7⟩⟩ := x
      have RX : V1.rangeAt (H + 1) 0 [.string ⟨xk.toArray⟩, .int .i64 xs, .int .i64 g0, .int .i64 g1, .int .i64 g2, .int .i64 g3, .int .i64 g4, .int .i64 g5, .int .i64 g6, .int .i64 g7] := (unhide WS1).r1.range
      have k2 : V1.cell? ⟨H + 1 + 1 + 1, 0, none⟩ = some (.slice a1 i c1) := (unhide WS1).r3.cell 0 (Nat.succ_pos _)
      obtain ⟨b3, c3, u3, hap3, hr3, hm3⟩ := Ws.grow (v := V1.alloc (.cells #[.string ⟨xk.toArray⟩, .int .i64 xs, .int .i64 g0, .int .i64 g1, .int .i64 g2, .int .i64 g3, .int .i64 g4, .int .i64 g5, .int .i64 g6, .int .i64 g7] 52)) (H := H) (by have := (unhide WS1).r3.lt; simp; omega) ((unhide R1).alloc _) (some ⟨V1.heap.size, 0, none⟩) 1 [⟨xk, xs, ⟨g0, g1, g2, g3, g4, g5, g6, g7⟩⟩] (lies_new V1 _) (by rw [List.length_take]; simp; omega)
      obtain ⟨n3, hn3⟩ : ∃ n, n = (l.take i ++ [(⟨xk, xs, ⟨g0, g1, g2, g3, g4, g5, g6, g7⟩⟩ : Win AggV)]).length := ⟨_, rfl⟩
      rw [← hn3, show (l.take i).length = i by rw [List.length_take]; omega] at hap3
      have HAP3 : Hid ((Builtin.append_ #[27, 27] 27 #[.slice a1 i c1, .slice (some ⟨V1.heap.size, 0, none⟩) 1 1]).run Tryz.prog (V1.alloc (.cells #[.string ⟨xk.toArray⟩, .int .i64 xs, .int .i64 g0, .int .i64 g1, .int .i64 g2, .int .i64 g3, .int .i64 g4, .int .i64 g5, .int .i64 g6, .int .i64 g7] 52)) = .ok (.slice b3 n3 c3) u3) := hide hap3
      have m3 : Moved (fun i => H + 4 ≤ i) V1 u3 := ((Moved.refl _ V1).alloc _).trans hm3 (fun i hi => .inl hi)
      have wsn := (unhide WS1).moved (unhide HH) m3
      have f3 : u3.frozen? ⟨H + 1 + 1 + 1, 0, none⟩ = false := wsn.r3.free 0 (Nat.succ_pos _)
      have k3 : u3.cell? ⟨H + 1 + 1 + 1, 0, none⟩ = some (.slice a1 i c1) := wsn.r3.cell 0 (Nat.succ_pos _)
      obtain ⟨V3, hV3⟩ : ∃ V3, V3 = u3.setCell ⟨H + 1 + 1 + 1, 0, none⟩ (.slice b3 n3 c3) := ⟨_, rfl⟩
      have WS3 := hide (by rw [hV3]; exact wsn.put (unhide HH) _ : Ws w H (.slice a l.length c) ⟨xk, xs, ⟨g0, g1, g2, g3, g4, g5, g6, g7⟩⟩ (.slice b3 n3 c3) V3)
      have R3 : Hid (OutK.Row V3 (H + 4) b3 c3 (l.take i ++ [(⟨xk, xs, ⟨g0, g1, g2, g3, g4, g5, g6, g7⟩⟩ : Win AggV)])) := hide (by rw [hV3]; exact row_moved hr3 (moved_set _ (H + 3) _ _) (fun j hj k hk => by have := (hr3.lt k hk).1; omega))
      have HV3 := hide hV3
      have RXh := hide RX
      have HN3 := hide hn3
      clear hV3 hr3 hm3 m3 wsn hap3 RX hn3
      go_upto_region 4 with (first | (refine wpList_load_on rfl 52 (.tmp 6) rfl (H + 1) 0 rfl [.string ⟨xk.toArray⟩, .int .i64 xs, .int .i64 g0, .int .i64 g1, .int .i64 g2, .int .i64 g3, .int .i64 g4, .int .i64 g5, .int .i64 g6, .int .i64 g7] _ (unhide RXh) Tryz.underlying52 rfl (by kernel_rfl) ?_) | (at_builtin; refine wpList_app rfl _ _ 27 27 27 rfl rfl rfl rfl (unhide HAP3) ?_))
      rw [← unhide HV3]
      cases inst
      · have hee : i ≤ l.length := hi
        have hrem : (l.drop (i)).length = l.length - (i) := List.length_drop
        have hH := unhide HH
        obtain ⟨A5, hA5⟩ : ∃ A5, A5 = (if c = i then a else a.map (·.add ((i) * 10))) := ⟨_, rfl⟩
        have hsf : ∀ w', (Instr.slice 27 (.slice a l.length c) (some (.int .i64 ((i : Nat) : Int))) none none).run Tryz.prog w' = .ok (.slice A5 (l.length - (i)) (c - (i))) w' := by rw [hA5]; exact slice_from a l.length c (i) hee
        push_cast at hsf
        have hl5 : OutK.Lies V3.drew A5 (l.drop (i)) := by rw [hA5]; exact lies_from (unhide HLW V3.drew (unhide WS3).bel.drew) hee (row_cap (unhide HR))
        obtain ⟨a6, c6, u6, hap6, hr6, hm6⟩ := Ws.grow (v := V3.drew) (H := H) (unhide WS3).r3.lt (unhide R3) A5 (c - (i)) (l.drop (i)) hl5 (by simp; omega)
        rw [hrem, ← unhide HN3] at hap6
        obtain ⟨N6, hN6⟩ : ∃ n, n = (l.take i ++ [(⟨xk, xs, ⟨g0, g1, g2, g3, g4, g5, g6, g7⟩⟩ : Win AggV)] ++ l.drop (i)).length := ⟨_, rfl⟩
        rw [← hN6] at hap6
        obtain ⟨V6, hV6⟩ : ∃ V6, V6 = u6.setCell ⟨H + 1 + 1 + 1, 0, none⟩ (.slice a6 N6 c6) := ⟨_, rfl⟩
        have WS6 := hide (by rw [hV6]; exact ((unhide WS3).moved hH ((Moved.refl _ V3).drew.trans hm6 (fun i hi => .inl hi))).put hH _ : Ws w H (.slice a l.length c) (⟨xk, xs, ⟨g0, g1, g2, g3, g4, g5, g6, g7⟩⟩ : Win AggV) (.slice a6 N6 c6) V6)
        have R6 := hide (by rw [hV6]; exact row_moved hr6 (moved_set _ (H + 3) _ _) (fun j hj k hk => by have := (hr6.lt k hk).1; omega) : OutK.Row V6 (H + 4) a6 c6 (l.take i ++ [(⟨xk, xs, ⟨g0, g1, g2, g3, g4, g5, g6, g7⟩⟩ : Win AggV)] ++ l.drop (i)))
        have HL6 : Hid ((l.take i ++ [(⟨xk, xs, ⟨g0, g1, g2, g3, g4, g5, g6, g7⟩⟩ : Win AggV)] ++ l.drop (i)) = putAt l i (⟨xk, xs, ⟨g0, g1, g2, g3, g4, g5, g6, g7⟩⟩ : Win AggV) false) := hide (by simp [putAt])
        have HN6 : Hid (N6 = (putAt l i (⟨xk, xs, ⟨g0, g1, g2, g3, g4, g5, g6, g7⟩⟩ : Win AggV) false).length) := hide (by rw [hN6, unhide HL6])
        have HV6 := hide hV6
        have ws3 := unhide WS3
        clear hr6 hV6 hl5 hA5 hN6 hrem HH
        go_upto_region 6 with fail
        obtain ⟨CL, hCL⟩ : ∃ CL : World → Prop, CL = fun v => Moved (fun i => H + 4 ≤ i) V3 v := ⟨_, rfl⟩
        have un : ∀ v, CL v → Moved (fun i => H + 4 ≤ i) V3 v := fun v k => by rw [hCL] at k; exact k
        have base : CL V3.drew := by rw [hCL]; exact (Moved.refl _ _).drew
        have CL1 : CL u6 := by rw [hCL]; exact (Moved.refl _ V3).drew.trans hm6 (fun i hi => .inl hi)
        have q0 : ∀ q : SW CL, q.w.cell? ⟨H, 0, none⟩ = some (.slice a l.length c) := fun q => (ws3.moved hH (un _ q.ok)).c0
        have q3 : ∀ q : SW CL, q.w.cell? ⟨H + 1 + 1 + 1, 0, none⟩ = some (.slice b3 n3 c3) := fun q => (ws3.moved hH (un _ q.ok)).r3.cell 0 (Nat.succ_pos _)
        have wsn := ws3.moved hH (un _ CL1)
        have f1 : u6.frozen? ⟨H + 1 + 1 + 1, 0, none⟩ = false := wsn.r3.free 0 (Nat.succ_pos _)
        have k1 : u6.cell? ⟨H + 1 + 1 + 1, 0, none⟩ = some (.slice b3 n3 c3) := wsn.r3.cell 0 (Nat.succ_pos _)
        have HH := hide hH
        clear hCL un hH
        refine wp_region_chain (S := CL) [true, true, true, true, true, true, false, false, false] [false, false, false, false, false, false, true, true, true] (by kernel_rfl) (by kernel_rfl) (by kernel_rfl) base ?_
        apply Exists.intro
        apply And.intro
        · intro q
          have n0 : Nonempty (SK CL q.w) := ⟨⟨q, rfl⟩⟩
          simp only [pickM]
          go_big_quiet_step (fail)
          go_big_quiet_step (fail)
          go_big_quiet_step (fail)
          go_big_quiet_step (fail)
          go_big_quiet_step (fail)
          refine wpQuiet_op_on rfl (.slice A5 (l.length - (i)) (c - (i))) (fun w' _ => ?_) ?_
          · have := hsf w'
            simp only [execOp, Act.eval]
            simp [go_sem, this]
          go_simp
          repeat (go_big_quiet_step (fail))
          exact wpQuiet_nil rfl
        · simp only [pickZ]
          refine chain_step (.slice a6 N6 c6) u6 rfl (exec_append (.tmp 28) (.tmp 32) 27 27 27 rfl rfl rfl rfl hap6) CL1 ?_
          go_simp
          refine chain_step (.pointer (some ⟨H + 1 + 1 + 1, 0, none⟩)) u6 rfl (by simp [go_sem]) CL1 ?_
          go_simp
          refine chain_last (u6.setCell ⟨H + 1 + 1 + 1, 0, none⟩ (.slice a6 N6 c6)) (by kernel_rfl) rfl (by simp [go_sem, f1, k1, Result.andThen]) ?_
          go_simp
          clear q0 q3 f1 k1 wsn CL1 base
          have hH := unhide HH
          clear HH

          rw [← unhide HV6]
          have HH := hide hH
          clear hap6 hm6 HV6 WS3 R3 ws3 CL hsf hH HLW HR WS1 R1 HN3
          go_upto_region 7 with fail
          have hrg := (unhide WS6).r3.range
          have hth := (unhide WS6).r2.there
          go_step
          refine wpList_load_mid rfl 29 (.tmp 9) rfl (H + 1 + 1 + 1) 0 rfl [.slice a6 N6 c6] _ hrg Tryz.underlying29 rfl (by kernel_rfl) ?_
          refine wpList_store_mid rfl 29 (.tmp 8) (.tmp 35) rfl (H + 1 + 1) 0 #[.slice a6 N6 c6] rfl rfl hth (by kernel_rfl) (by simp [Value.oneCell']) ?_
          clear hrg hth
          have RF := (unhide WS6).r2.put [.slice a6 N6 c6] rfl
          have MV := hide (setCells_moved V6 (H + 2) 0 [.slice a6 N6 c6])
          have W6 := hide (row_moved (unhide R6) (unhide MV) (fun j hj k hk => by have := ((unhide R6).lt k hk).1; omega))
          have BF := hide (((Moved.of_below (F := fun j => j = H + 2) (unhide WS6).bel).trans (unhide MV) (fun j hj => .inl hj)).below (B := w.heap.size) (fun j hj => by rw [← unhide HH]; omega) (Nat.le_refl _))
          clear MV
          change wpList _ _ _ _ _ (V6.setCells (H + 2) 0 [.slice a6 N6 c6])
          generalize V6.setCells (H + 2) 0 [.slice a6 N6 c6] = wf at *
          go_wp2_with fail
          have hfr := RF.range
          refine bodyPost_ret (v := .agg #[.slice a6 N6 c6]) ?_ rfl ?_
          · exact results_cell_mid Tryz.results85 _ wf (H + 1 + 1) [.slice a6 N6 c6] _ rfl hfr Tryz.underlying29 rfl (by kernel_rfl)
          · exact ⟨a6, c6, by rw [unhide HN6], by rw [← unhide HL6]; exact row_mono (unhide W6) (by rw [← unhide HH]; omega), unhide BF⟩

      · have hwr : IntKind.i64.wrap ((i : Int) + 1) = (i : Int) + 1 := Go.IntWalk.i64_in _ (by omega)
        have hee : i + 1 ≤ l.length := hin rfl
        have hrem : (l.drop (i + 1)).length = l.length - (i + 1) := List.length_drop
        have hH := unhide HH
        obtain ⟨A5, hA5⟩ : ∃ A5, A5 = (if c = i + 1 then a else a.map (·.add ((i + 1) * 10))) := ⟨_, rfl⟩
        have hsf : ∀ w', (Instr.slice 27 (.slice a l.length c) (some (.int .i64 ((i + 1 : Nat) : Int))) none none).run Tryz.prog w' = .ok (.slice A5 (l.length - (i + 1)) (c - (i + 1))) w' := by rw [hA5]; exact slice_from a l.length c (i + 1) hee
        push_cast at hsf
        have hl5 : OutK.Lies V3.drew A5 (l.drop (i + 1)) := by rw [hA5]; exact lies_from (unhide HLW V3.drew (unhide WS3).bel.drew) hee (row_cap (unhide HR))
        obtain ⟨a6, c6, u6, hap6, hr6, hm6⟩ := Ws.grow (v := V3.drew) (H := H) (unhide WS3).r3.lt (unhide R3) A5 (c - (i + 1)) (l.drop (i + 1)) hl5 (by simp; omega)
        rw [hrem, ← unhide HN3] at hap6
        obtain ⟨N6, hN6⟩ : ∃ n, n = (l.take i ++ [(⟨xk, xs, ⟨g0, g1, g2, g3, g4, g5, g6, g7⟩⟩ : Win AggV)] ++ l.drop (i + 1)).length := ⟨_, rfl⟩
        rw [← hN6] at hap6
        obtain ⟨V6, hV6⟩ : ∃ V6, V6 = u6.setCell ⟨H + 1 + 1 + 1, 0, none⟩ (.slice a6 N6 c6) := ⟨_, rfl⟩
        have WS6 := hide (by rw [hV6]; exact ((unhide WS3).moved hH ((Moved.refl _ V3).drew.trans hm6 (fun i hi => .inl hi))).put hH _ : Ws w H (.slice a l.length c) (⟨xk, xs, ⟨g0, g1, g2, g3, g4, g5, g6, g7⟩⟩ : Win AggV) (.slice a6 N6 c6) V6)
        have R6 := hide (by rw [hV6]; exact row_moved hr6 (moved_set _ (H + 3) _ _) (fun j hj k hk => by have := (hr6.lt k hk).1; omega) : OutK.Row V6 (H + 4) a6 c6 (l.take i ++ [(⟨xk, xs, ⟨g0, g1, g2, g3, g4, g5, g6, g7⟩⟩ : Win AggV)] ++ l.drop (i + 1)))
        have HL6 : Hid ((l.take i ++ [(⟨xk, xs, ⟨g0, g1, g2, g3, g4, g5, g6, g7⟩⟩ : Win AggV)] ++ l.drop (i + 1)) = putAt l i (⟨xk, xs, ⟨g0, g1, g2, g3, g4, g5, g6, g7⟩⟩ : Win AggV) true) := hide (by simp [putAt])
        have HN6 : Hid (N6 = (putAt l i (⟨xk, xs, ⟨g0, g1, g2, g3, g4, g5, g6, g7⟩⟩ : Win AggV) true).length) := hide (by rw [hN6, unhide HL6])
        have HV6 := hide hV6
        have ws3 := unhide WS3
        clear hr6 hV6 hl5 hA5 hN6 hrem HH
        go_upto_region 6 with fail
        obtain ⟨CL, hCL⟩ : ∃ CL : World → Prop, CL = fun v => Moved (fun i => H + 4 ≤ i) V3 v := ⟨_, rfl⟩
        have un : ∀ v, CL v → Moved (fun i => H + 4 ≤ i) V3 v := fun v k => by rw [hCL] at k; exact k
        have base : CL V3.drew := by rw [hCL]; exact (Moved.refl _ _).drew
        have CL1 : CL u6 := by rw [hCL]; exact (Moved.refl _ V3).drew.trans hm6 (fun i hi => .inl hi)
        have q0 : ∀ q : SW CL, q.w.cell? ⟨H, 0, none⟩ = some (.slice a l.length c) := fun q => (ws3.moved hH (un _ q.ok)).c0
        have q3 : ∀ q : SW CL, q.w.cell? ⟨H + 1 + 1 + 1, 0, none⟩ = some (.slice b3 n3 c3) := fun q => (ws3.moved hH (un _ q.ok)).r3.cell 0 (Nat.succ_pos _)
        have wsn := ws3.moved hH (un _ CL1)
        have f1 : u6.frozen? ⟨H + 1 + 1 + 1, 0, none⟩ = false := wsn.r3.free 0 (Nat.succ_pos _)
        have k1 : u6.cell? ⟨H + 1 + 1 + 1, 0, none⟩ = some (.slice b3 n3 c3) := wsn.r3.cell 0 (Nat.succ_pos _)
        have HH := hide hH
        clear hCL un hH
        refine wp_region_chain (S := CL) [true, true, true, true, true, true, false, false, false] [false, false, false, false, false, false, true, true, true] (by kernel_rfl) (by kernel_rfl) (by kernel_rfl) base ?_
        apply Exists.intro
        apply And.intro
        · intro q
          have n0 : Nonempty (SK CL q.w) := ⟨⟨q, rfl⟩⟩
          simp only [pickM]
          go_big_quiet_step (fail)
          go_big_quiet_step (fail)
          go_big_quiet_step (fail)
          go_big_quiet_step (fail)
          go_big_quiet_step (fail)
          refine wpQuiet_op_on rfl (.slice A5 (l.length - (i + 1)) (c - (i + 1))) (fun w' _ => ?_) ?_
          · have := hsf w'
            simp only [execOp, Act.eval]
            simp [go_sem, this]
          go_simp
          repeat (go_big_quiet_step (fail))
          exact wpQuiet_nil rfl
        · simp only [pickZ]
          refine chain_step (.slice a6 N6 c6) u6 rfl (exec_append (.tmp 28) (.tmp 32) 27 27 27 rfl rfl rfl rfl hap6) CL1 ?_
          go_simp
          refine chain_step (.pointer (some ⟨H + 1 + 1 + 1, 0, none⟩)) u6 rfl (by simp [go_sem]) CL1 ?_
          go_simp
          refine chain_last (u6.setCell ⟨H + 1 + 1 + 1, 0, none⟩ (.slice a6 N6 c6)) (by kernel_rfl) rfl (by simp [go_sem, f1, k1, Result.andThen]) ?_
          go_simp
          clear q0 q3 f1 k1 wsn CL1 base
          have hH := unhide HH
          clear HH

          rw [← unhide HV6]
          have HH := hide hH
          clear hap6 hm6 HV6 WS3 R3 ws3 CL hsf hH HLW HR WS1 R1 HN3
          go_upto_region 7 with fail
          have hrg := (unhide WS6).r3.range
          have hth := (unhide WS6).r2.there
          go_step
          refine wpList_load_mid rfl 29 (.tmp 9) rfl (H + 1 + 1 + 1) 0 rfl [.slice a6 N6 c6] _ hrg Tryz.underlying29 rfl (by kernel_rfl) ?_
          refine wpList_store_mid rfl 29 (.tmp 8) (.tmp 35) rfl (H + 1 + 1) 0 #[.slice a6 N6 c6] rfl rfl hth (by kernel_rfl) (by simp [Value.oneCell']) ?_
          clear hrg hth
          have RF := (unhide WS6).r2.put [.slice a6 N6 c6] rfl
          have MV := hide (setCells_moved V6 (H + 2) 0 [.slice a6 N6 c6])
          have W6 := hide (row_moved (unhide R6) (unhide MV) (fun j hj k hk => by have := ((unhide R6).lt k hk).1; omega))
          have BF := hide (((Moved.of_below (F := fun j => j = H + 2) (unhide WS6).bel).trans (unhide MV) (fun j hj => .inl hj)).below (B := w.heap.size) (fun j hj => by rw [← unhide HH]; omega) (Nat.le_refl _))
          clear MV
          change wpList _ _ _ _ _ (V6.setCells (H + 2) 0 [.slice a6 N6 c6])
          generalize V6.setCells (H + 2) 0 [.slice a6 N6 c6] = wf at *
          go_wp2_with fail
          have hfr := RF.range
          refine bodyPost_ret (v := .agg #[.slice a6 N6 c6]) ?_ rfl ?_
          · exact results_cell_mid Tryz.results85 _ wf (H + 1 + 1) [.slice a6 N6 c6] _ rfl hfr Tryz.underlying29 rfl (by kernel_rfl)
          · exact ⟨a6, c6, by rw [unhide HN6], by rw [← unhide HL6]; exact row_mono (unhide W6) (by rw [← unhide HH]; omega), unhide BF⟩

end Go.Proofs.YtigmhljaoicdbaaGreat

namespace Go.Proofs.YtigmhljaoicdbaaGreat
open Go.RowKit
/-- A row of windows in hand: where, room, which. -/
abbrev Held := Option Addr × Nat × List (Win AggV)
def Held.is (w0 v : World) (r : Held) : Prop := OutK.Row v w0.heap.size r.1 r.2.1 r.2.2
def Held.at (r : Held) (k : Nat) : Prop := (Value.slice r.1 r.2.2.length r.2.1).ownBlock = some k
structure HereF (w0 v : World) (p : Nat) (F : Nat → Prop) (l : List (Win AggV)) (R : List Held) : Prop where
  st : StIs v p F l
  big : ∀ k, F k → w0.heap.size ≤ k
  bel : Below w0.heap.size w0 v
  rows : ∀ r ∈ R, r.is w0 v ∧ ∀ k, r.at k → ¬ F k
def Here (w0 v : World) (p : Nat) (l : List (Win AggV)) (R : List Held) : Prop := ∃ F, HereF w0 v p F l R
theorem below_of_moved {w0 v v' : World} {F : Nat → Prop} (h : Below w0.heap.size w0 v) (big : ∀ k, F k → w0.heap.size ≤ k) (m : Moved F v v') : Below w0.heap.size w0 v' :=
  ((Moved.of_below (F := F) h).trans m (fun _ hi => .inl hi)).below big (Nat.le_refl _)
theorem HereF.step {w0 v v' : World} {p : Nat} {F F' : Nat → Prop} {l l' : List (Win AggV)} {R : List Held} (h : HereF w0 v p F l R) (hs : StIs v' p F' l') (hf : ∀ k, F' k → F k ∨ v.heap.size ≤ k) (m : Moved F v v') : HereF w0 v' p F' l' R := by
  refine ⟨hs, fun k hk => (hf k hk).elim (h.big k) (fun e => Nat.le_trans h.bel.size e), below_of_moved h.bel h.big m, fun r hr => ?_⟩
  obtain ⟨h1, h2⟩ := h.rows r hr
  refine ⟨row_moved h1 m (fun i hi k hk e => h2 k hk (e ▸ hi)), fun k hk f => ?_⟩
  rcases hf k f with f | f
  · exact h2 k hk f
  · have := (row_lt h1 k hk).2; omega
theorem HereF.did {w0 v v' : World} {p : Nat} {F : Nat → Prop} {l l' : List (Win AggV)} {R : List Held} (h : HereF w0 v p F l R) (hd : Did v v' p F l') : Here w0 v' p l' R := by
  obtain ⟨F', h1, h2, h3⟩ := hd
  exact ⟨F', h.step h1 h2 h3⟩
theorem HereF.below {w0 v v' : World} {p : Nat} {F : Nat → Prop} {l : List (Win AggV)} {R : List Held} (h : HereF w0 v p F l R) (hb : Below v.heap.size v v') : HereF w0 v' p F l R :=
  h.step (h.st.keep (Moved.of_below (F := fun _ => False) hb) (fun _ f => f.elim)) (fun _ f => .inl f) (Moved.of_below hb)
theorem Here.below {w0 v v' : World} {p : Nat} {l : List (Win AggV)} {R : List Held} (h : Here w0 v p l R) (hb : Below v.heap.size v v') : Here w0 v' p l R := by
  obtain ⟨F, h⟩ := h; exact ⟨F, h.below hb⟩
theorem Here.bel {w0 v : World} {p : Nat} {l : List (Win AggV)} {R : List Held} (h : Here w0 v p l R) : Below w0.heap.size w0 v := by obtain ⟨F, h⟩ := h; exact h.bel
theorem Here.fine {w0 v : World} {p : Nat} {l : List (Win AggV)} {R : List Held} (h : Here w0 v p l R) : Fine l := by obtain ⟨F, h⟩ := h; exact h.st.fine
theorem Here.row {w0 v : World} {p : Nat} {l : List (Win AggV)} {R : List Held} (h : Here w0 v p l R) {r : Held} (hr : r ∈ R) : r.is w0 v := by obtain ⟨F, h⟩ := h; exact (h.rows r hr).1
/-- A new row joins. -/
theorem HereF.take {w0 v v' : World} {p : Nat} {F F' : Nat → Prop} {l l' : List (Win AggV)} {R : List Held} {a : Option Addr} {c : Nat} {xs : List (Win AggV)} (h : HereF w0 v p F l R) (hs : StIs v' p F' l') (hf : ∀ k, F' k → F k) (m : Moved F v v') (hx : OutK.Row v' v.heap.size a c xs) : HereF w0 v' p F' l' ((a, c, xs) :: R) := by
  have h' := h.step hs (fun k hk => .inl (hf k hk)) m
  refine ⟨h'.st, h'.big, h'.bel, fun r hr => ?_⟩
  rcases List.mem_cons.1 hr with rfl | hr
  · refine ⟨row_mono hx h.bel.size, fun k hk f => ?_⟩
    have := h.st.lt k (hf k f)
    have := (row_lt hx k hk).1
    omega
  · exact h'.rows r hr
theorem Here.new {w0 v : World} (hb : Below w0.heap.size w0 v) {R : List Held} (hR : ∀ r ∈ R, r.is w0 v) : Calls Tryz.prog 51 #[] v fun e v' => e = .returned (.pointer (some ⟨v.heap.size, 0, none⟩)) ∧ Here w0 v' v.heap.size [] R :=
  (new_any v).mono fun e v' ⟨h1, h2, h3⟩ => by
    refine ⟨h1, foot v.heap.size none, h3, fun k hk => ?_, hb.trans (h2.mono hb.size), fun r hr => ⟨row_below (hR r hr) h2, fun k hk f => ?_⟩⟩
    · rcases hk with rfl | hk
      · exact hb.size
      · cases hk
    · have := (row_lt (hR r hr) k hk).2
      rcases f with rfl | f
      · omega
      · cases f
theorem Here.put {w0 v : World} {p : Nat} {l : List (Win AggV)} {R : List Held} (h : Here w0 v p l R) (hl : l.length ≤ 32) (hIn : ∀ a ∈ l, a.agg.In) (k : List UInt8) (at_ n : Int) (hn : i64 n) :
    Calls Tryz.prog 80 #[.pointer (some ⟨p, 0, none⟩), .string ⟨k.toArray⟩, .int .i64 at_, .int .i64 n] v fun e v' => e = .returned (.int .i64 ((putS SO l k at_ n).2 : Int)) ∧ Here w0 v' p (putS SO l k at_ n).1 R := by
  obtain ⟨F, h⟩ := h
  exact (sput_any h.st hl hIn k at_ n hn).mono fun e v' ⟨h1, h2⟩ => ⟨h1, h.did h2⟩
theorem Here.set {w0 v : World} {p : Nat} {l : List (Win AggV)} {R : List Held} (h : Here w0 v p l R) (hl : l.length ≤ 32) (x : Win AggV) (hx : x.agg.In) (hk : okk x.key x.start) :
    Calls Tryz.prog 66 #[.pointer (some ⟨p, 0, none⟩), .agg (outV x).toArray] v fun e v' => e = .returned (.int .i64 ((setS SO l x).2 : Int)) ∧ Here w0 v' p (setS SO l x).1 R := by
  obtain ⟨F, h⟩ := h
  exact (set_any h.st hl x hx hk).mono fun e v' ⟨h1, h2⟩ => ⟨h1, h.did h2⟩
theorem Here.get {w0 v : World} {p : Nat} {l : List (Win AggV)} {R : List Held} (h : Here w0 v p l R) {k : List UInt8} {s : Int} (hk : okk k s) :
    Calls Tryz.prog 88 #[.pointer (some ⟨p, 0, none⟩), .string ⟨k.toArray⟩, .int .i64 s] v fun e v' => e = .returned (.tuple #[aggV ((look l k s).getD zero), .bool (look l k s).isSome]) ∧ Here w0 v' p l R := by
  obtain ⟨F, h⟩ := h
  exact (get_any h.st hk).mono fun e v' ⟨h1, h2⟩ => ⟨h1, F, h.below h2⟩
theorem Here.taken {w0 v : World} {p : Nat} {l : List (Win AggV)} {R : List Held} (h : Here w0 v p l R) (hl : l.length ≤ 1000) (m : Int) :
    Calls Tryz.prog 81 #[.pointer (some ⟨p, 0, none⟩), .int .i64 m] v fun e v' => ∃ a c, e = .returned (.slice a (takeS SO l m).2.length c) ∧ Here w0 v' p (takeS SO l m).1 ((a, c, (takeS SO l m).2) :: R) := by
  obtain ⟨F, h⟩ := h
  exact (take_any h.st hl m).mono fun e v' ⟨a, c, h1, h2, h3, h4⟩ => ⟨a, c, h1, F, h.take h3 (fun _ f => f) h4 h2⟩
theorem HereF.taken {w0 v : World} {p : Nat} {F : Nat → Prop} {l : List (Win AggV)} {R : List Held} (h : HereF w0 v p F l R) (hl : l.length ≤ 1000) (m : Int) :
    Calls Tryz.prog 81 #[.pointer (some ⟨p, 0, none⟩), .int .i64 m] v fun e v' => ∃ a c, e = .returned (.slice a (takeS SO l m).2.length c) ∧ HereF w0 v' p F (takeS SO l m).1 ((a, c, (takeS SO l m).2) :: R) ∧ Moved F v v' :=
  (take_any h.st hl m).mono fun _ _ ⟨a, c, h1, h2, h3, h4⟩ => ⟨a, c, h1, h.take h3 (fun _ f => f) h4 h2, h4⟩
theorem Here.all {w0 v : World} {p : Nat} {l : List (Win AggV)} {R : List Held} (h : Here w0 v p l R) (hl : l.length ≤ 1000) :
    Calls Tryz.prog 71 #[.pointer (some ⟨p, 0, none⟩)] v fun e v' => ∃ a c, e = .returned (.slice a l.length c) ∧ Here w0 v' p l ((a, c, l) :: R) := by
  obtain ⟨F, h⟩ := h
  exact (all_any h.st hl).mono fun e v' ⟨a, c, h1, h2, h3⟩ => ⟨a, c, h1, F, h.take (h.below h3).st (fun _ f => f) (Moved.of_below h3) h2⟩
theorem Here.drop {w0 v : World} {p : Nat} {l : List (Win AggV)} {R R' : List Held} (h : Here w0 v p l R) (hR : ∀ r ∈ R', r ∈ R) : Here w0 v p l R' := by
  obtain ⟨F, h⟩ := h; exact ⟨F, h.st, h.big, h.bel, fun r hr => h.rows r (hR r hr)⟩
/-- The cells of a held row's entry. -/
theorem held_at {w0 v : World} {r : Held} (h : r.is w0 v) {j : Nat} {x : Win AggV} (hx : r.2.2[j]? = some x) : ∃ g, r.1 = some ⟨g, 0, none⟩ ∧ v.rangeAt g (j * 10) (outV x) ∧ g < v.heap.size := by
  obtain ⟨a, c, l⟩ := r
  have h' : OutK.Row v w0.heap.size a c l := h
  obtain ⟨g, rfl⟩ : ∃ g, a = some ⟨g, 0, none⟩ := by
    rcases h'.2 with ⟨_, h0⟩ | ⟨g, cap, cur, hv, _⟩
    · rw [List.length_eq_zero_iff.1 h0] at hx; cases hx
    · simp only [Value.slice.injEq] at hv; exact ⟨g, hv.1⟩
  refine ⟨g, rfl, ?_, ?_⟩
  · have := lies_at outK_law (row_lies h') hx
    rw [Nat.zero_add] at this; exact this
  · exact (row_lt h' g rfl).2
end Go.Proofs.YtigmhljaoicdbaaGreat

namespace Go.Proofs.YtigmhljaoicdbaaGreat
open Go.RowKit
def wb : AggV := put (put zero 5) 1
def wk1 : List (Win AggV) := [⟨[98], 10, put zero 5⟩]
def wk2 : List (Win AggV) := [⟨[97], 0, put zero 2⟩, ⟨[98], 10, put zero 5⟩]
def wk3 : List (Win AggV) := [⟨[97], 0, put zero 2⟩, ⟨[98], 10, wb⟩]
theorem wk1_eq : putS SO [] [98] 12 5 = (wk1, 0) := by kernel_rfl
theorem wk2_eq : putS SO wk1 [97] 3 2 = (wk2, 0) := by kernel_rfl
theorem wk3_eq : putS SO wk2 [98] 10 1 = (wk3, 0) := by kernel_rfl
theorem wk3_look : look wk3 [98] 10 = some wb := by kernel_rfl
theorem wk3_take : takeS SO wk3 15 = ([⟨[98], 10, wb⟩], [⟨[97], 0, put zero 2⟩]) := by kernel_rfl
theorem wb_sum : wb.sum = 6 := by kernel_rfl
theorem wb_count : wb.count = 2 := by kernel_rfl
instance (x : Int) : Decidable (i64 x) := by unfold i64; infer_instance
instance (a : AggV) : Decidable a.In := decidable_of_iff (i64 a.count ∧ i64 a.sum ∧ i64 a.mn ∧ i64 a.mx ∧ i64 a.h0 ∧ i64 a.h1 ∧ i64 a.h2 ∧ i64 a.h3) ⟨fun ⟨a, b, c, d, e, f, g, h⟩ => ⟨a, b, c, d, e, f, g, h⟩, fun ⟨a, b, c, d, e, f, g, h⟩ => ⟨a, b, c, d, e, f, g, h⟩⟩
theorem wk1_in : ∀ a ∈ wk1, a.agg.In := by decide +kernel
theorem wk2_in : ∀ a ∈ wk2, a.agg.In := by decide +kernel
theorem okc {k : List UInt8} {s : Int} (hk : k.length ≤ 1000) (h0 : 0 ≤ s) (h1 : s ≤ 1099511627776) : okk k s := ⟨by simp [maxLen]; omega, by unfold i64; omega⟩
theorem wk_put1 {w v : World} {p : Nat} (h : Here w v p [] []) : Calls Tryz.prog 80 #[.pointer (some ⟨p, 0, none⟩), .string ⟨#[98]⟩, .int .i64 12, .int .i64 5] v fun e v' => e = .returned (.int .i64 0) ∧ Here w v' p wk1 [] := by
  have := h.put (Nat.zero_le _) (fun _ h => by cases h) [98] 12 5 (by unfold i64; omega)
  rw [wk1_eq] at this; exact this
theorem wk_put2 {w v : World} {p : Nat} (h : Here w v p wk1 []) : Calls Tryz.prog 80 #[.pointer (some ⟨p, 0, none⟩), .string ⟨#[97]⟩, .int .i64 3, .int .i64 2] v fun e v' => e = .returned (.int .i64 0) ∧ Here w v' p wk2 [] := by
  have := h.put (by decide) wk1_in [97] 3 2 (by unfold i64; omega)
  rw [wk2_eq] at this; exact this
theorem wk_put3 {w v : World} {p : Nat} (h : Here w v p wk2 []) : Calls Tryz.prog 80 #[.pointer (some ⟨p, 0, none⟩), .string ⟨#[98]⟩, .int .i64 10, .int .i64 1] v fun e v' => e = .returned (.int .i64 0) ∧ Here w v' p wk3 [] := by
  have := h.put (by decide) wk2_in [98] 10 1 (by unfold i64; omega)
  rw [wk3_eq] at this; exact this
theorem wk_get {w v : World} {p : Nat} (h : Here w v p wk3 []) : Calls Tryz.prog 88 #[.pointer (some ⟨p, 0, none⟩), .string ⟨#[98]⟩, .int .i64 10] v fun e v' => ∃ b2 b3 b4 b5 b6 b7, e = .returned (.tuple #[.agg #[.int .i64 2, .int .i64 6, .int .i64 b2, .int .i64 b3, .int .i64 b4, .int .i64 b5, .int .i64 b6, .int .i64 b7], .bool true]) ∧ Here w v' p wk3 [] := by
  have := h.get (okc (k := [98]) (s := 10) (by decide) (by decide) (by decide))
  rw [wk3_look] at this
  refine this.mono ?_
  rintro e v' ⟨h1, h2⟩
  refine ⟨wb.mn, wb.mx, wb.h0, wb.h1, wb.h2, wb.h3, ?_, h2⟩
  rw [h1, ← wb_sum, ← wb_count]
  rfl
theorem wk_taken {w v : World} {p : Nat} {F : Nat → Prop} (h : HereF w v p F wk3 []) : Calls Tryz.prog 81 #[.pointer (some ⟨p, 0, none⟩), .int .i64 15] v fun e v' => ∃ g c l, e = .returned (.slice (some ⟨g, 0, none⟩) 1 c) ∧ v'.cell? ⟨g, 0, none⟩ = some (.string ⟨#[97]⟩) ∧ l.length = 1 ∧ Here w v' p l [] ∧ Moved F v v' := by
  have := h.taken (by decide) 15
  rw [wk3_take] at this
  refine this.mono ?_
  rintro e v' ⟨a, c, h1, h2, h3⟩
  obtain ⟨g, hg, hc, _⟩ := held_at (h2.rows _ List.mem_cons_self).1 (j := 0) rfl
  cases hg
  exact ⟨g, c, _, h1, hc 0 _ rfl, rfl, Here.drop ⟨F, h2⟩ (fun _ h => by cases h), h3⟩
end Go.Proofs.YtigmhljaoicdbaaGreat

namespace Go.Proofs.YtigmhljaoicdbaaGreat
open Go.RowKit Go.ChangeShapes Go.WideShapes

theorem mcells2 : Tryz.prog.cellsOf 2 = 1 := by kernel_rfl
theorem mcells22 : Tryz.prog.cellsOf 48 = 4 := by kernel_rfl
theorem mcells24 : Tryz.prog.cellsOf 50 = 8 := by kernel_rfl
set_option maxRecDepth 100000 in
theorem hist_in {H : Type} {enc : TypeId × Value → H} {w : World} {base : Nat} {spare : Nat → Bool} {held : Bool} {fuel : Nat} {cs : List Value} {x : DataW H × List MemPlace} (h : DataW.trod enc Tryz.prog w base spare held fuel 48 cs = some x) :
    ∃ h0 h1 h2 h3 : Int, i64 h0 ∧ i64 h1 ∧ i64 h2 ∧ i64 h3 ∧ cs = [.int .i64 h0, .int .i64 h1, .int .i64 h2, .int .i64 h3] := by
  obtain ⟨xs, n, rfl, rfl, hl, hxl, hf⟩ := DataW.trod_array Tryz.underlying48 h
  rw [mcells22] at hl
  rw [mcells2] at hf
  match cs, hl, xs, hxl with
  | [v0, v1, v2, v3], _, [y0, y1, y2, y3], _ =>
    have k0 : DataW.trod enc Tryz.prog w base spare held n 2 [v0] = some y0 := hf 0 (by omega)
    have k1 : DataW.trod enc Tryz.prog w base spare held n 2 [v1] = some y1 := hf 1 (by omega)
    have k2 : DataW.trod enc Tryz.prog w base spare held n 2 [v2] = some y2 := hf 2 (by omega)
    have k3 : DataW.trod enc Tryz.prog w base spare held n 2 [v3] = some y3 := hf 3 (by omega)
    obtain ⟨x0, e0, _, w0⟩ := DataW.trod_int Tryz.underlying2 k0
    obtain ⟨x1, e1, _, w1⟩ := DataW.trod_int Tryz.underlying2 k1
    obtain ⟨x2, e2, _, w2⟩ := DataW.trod_int Tryz.underlying2 k2
    obtain ⟨x3, e3, _, w3⟩ := DataW.trod_int Tryz.underlying2 k3
    simp only [List.cons.injEq, and_true] at e0 e1 e2 e3
    refine ⟨x0, x1, x2, x3, ?_, ?_, ?_, ?_, by rw [e0, e1, e2, e3]⟩
    · have := bounds_i64 w0; unfold i64; omega
    · have := bounds_i64 w1; unfold i64; omega
    · have := bounds_i64 w2; unfold i64; omega
    · have := bounds_i64 w3; unfold i64; omega
set_option maxRecDepth 100000 in
theorem agg_in {H : Type} {enc : TypeId × Value → H} {w : World} {base : Nat} {spare : Nat → Bool} {held : Bool} {fuel : Nat} {cs : List Value} {x : DataW H × List MemPlace} (h : DataW.trod enc Tryz.prog w base spare held fuel 50 cs = some x) :
    ∃ a : AggV, a.In ∧ cs = cellsA a := by
  obtain ⟨xs, n, rfl, rfl, hl, hxl, hf⟩ := DataW.trod_struct Tryz.underlying50 h
  rw [mcells24] at hl
  match cs, hl, xs, hxl with
  | [v0, v1, v2, v3, v4, v5, v6, v7], _, [y0, y1, y2, y3, y4], _ =>
    have g0 : DataW.trod enc Tryz.prog w base spare held n 2 (List.take (Tryz.prog.cellsOf 2) (List.drop 0 [v0, v1, v2, v3, v4, v5, v6, v7])) = some y0 := hf 0 _ rfl
    have g1 : DataW.trod enc Tryz.prog w base spare held n 2 (List.take (Tryz.prog.cellsOf 2) (List.drop 1 [v0, v1, v2, v3, v4, v5, v6, v7])) = some y1 := hf 1 _ rfl
    have g2 : DataW.trod enc Tryz.prog w base spare held n 2 (List.take (Tryz.prog.cellsOf 2) (List.drop 2 [v0, v1, v2, v3, v4, v5, v6, v7])) = some y2 := hf 2 _ rfl
    have g3 : DataW.trod enc Tryz.prog w base spare held n 2 (List.take (Tryz.prog.cellsOf 2) (List.drop 3 [v0, v1, v2, v3, v4, v5, v6, v7])) = some y3 := hf 3 _ rfl
    have g4 : DataW.trod enc Tryz.prog w base spare held n 48 (List.take (Tryz.prog.cellsOf 48) (List.drop 4 [v0, v1, v2, v3, v4, v5, v6, v7])) = some y4 := hf 4 _ rfl
    rw [mcells2] at g0 g1 g2 g3
    rw [mcells22] at g4
    have k0 : DataW.trod enc Tryz.prog w base spare held n 2 [v0] = some y0 := g0
    have k1 : DataW.trod enc Tryz.prog w base spare held n 2 [v1] = some y1 := g1
    have k2 : DataW.trod enc Tryz.prog w base spare held n 2 [v2] = some y2 := g2
    have k3 : DataW.trod enc Tryz.prog w base spare held n 2 [v3] = some y3 := g3
    have k4 : DataW.trod enc Tryz.prog w base spare held n 48 [v4, v5, v6, v7] = some y4 := g4
    obtain ⟨x0, e0, _, w0⟩ := DataW.trod_int Tryz.underlying2 k0
    obtain ⟨x1, e1, _, w1⟩ := DataW.trod_int Tryz.underlying2 k1
    obtain ⟨x2, e2, _, w2⟩ := DataW.trod_int Tryz.underlying2 k2
    obtain ⟨x3, e3, _, w3⟩ := DataW.trod_int Tryz.underlying2 k3
    obtain ⟨h0, h1, h2, h3, i0, i1, i2, i3, e4⟩ := hist_in k4
    simp only [List.cons.injEq, and_true] at e0 e1 e2 e3 e4
    obtain ⟨p0, p1, p2, p3⟩ := e4
    refine ⟨⟨x0, x1, x2, x3, h0, h1, h2, h3⟩, ⟨?_, ?_, ?_, ?_, i0, i1, i2, i3⟩, by rw [e0, e1, e2, e3, p0, p1, p2, p3]; rfl⟩
    · have := bounds_i64 w0; unfold i64; simp only; omega
    · have := bounds_i64 w1; unfold i64; simp only; omega
    · have := bounds_i64 w2; unfold i64; simp only; omega
    · have := bounds_i64 w3; unfold i64; simp only; omega
set_option maxRecDepth 100000 in
theorem agg_arg {H : Type} {enc : TypeId × Value → H} {w : World} {base : Nat} {spare : Nat → Bool} {held : Bool} {r : Reach} {b0 : Nat} {v : Value} {d : DataW H} {pl : List MemPlace} (hv : Value.okWide Tryz.prog w r b0 50 v) (h : DataW.Trod enc Tryz.prog w base spare held 50 v d pl) :
    ∃ a : AggV, a.In ∧ v = aggV a := by
  obtain ⟨cs, rfl, _⟩ := okWide_struct Tryz.underlying50 hv
  obtain ⟨fuel, hf⟩ := h
  obtain ⟨a, ha, hcs⟩ := agg_in hf
  refine ⟨a, ha, ?_⟩
  have : cs.toList = cellsA a := hcs
  unfold aggV
  rw [← this, Array.toArray_toList]
theorem mcells9 : Tryz.prog.cellsOf 9 = 1 := by kernel_rfl
theorem mcells38 : Tryz.prog.cellsOf 52 = 10 := by kernel_rfl
set_option maxRecDepth 100000 in
theorem out_in {H : Type} {enc : TypeId × Value → H} {w : World} {base : Nat} {spare : Nat → Bool} {held : Bool} {fuel : Nat} {cs : List Value} {x : DataW H × List MemPlace} (h : DataW.trod enc Tryz.prog w base spare held fuel 52 cs = some x) :
    ∃ a : Win AggV, a.agg.In ∧ i64 a.start ∧ a.key.length ≤ maxLen ∧ cs = outV a := by
  obtain ⟨xs, n, rfl, rfl, hl, hxl, hf⟩ := DataW.trod_struct Tryz.underlying52 h
  rw [mcells38] at hl
  match cs, hl, xs, hxl with
  | [v0, v1, v2, v3, v4, v5, v6, v7, v8, v9], _, [y0, y1, y2], _ =>
    have g0 : DataW.trod enc Tryz.prog w base spare held n 9 (List.take (Tryz.prog.cellsOf 9) (List.drop 0 [v0, v1, v2, v3, v4, v5, v6, v7, v8, v9])) = some y0 := hf 0 _ rfl
    have g1 : DataW.trod enc Tryz.prog w base spare held n 2 (List.take (Tryz.prog.cellsOf 2) (List.drop 1 [v0, v1, v2, v3, v4, v5, v6, v7, v8, v9])) = some y1 := hf 1 _ rfl
    have g2 : DataW.trod enc Tryz.prog w base spare held n 50 (List.take (Tryz.prog.cellsOf 50) (List.drop 2 [v0, v1, v2, v3, v4, v5, v6, v7, v8, v9])) = some y2 := hf 2 _ rfl
    rw [mcells9] at g0
    rw [mcells2] at g1
    rw [mcells24] at g2
    have k0 : DataW.trod enc Tryz.prog w base spare held n 9 [v0] = some y0 := g0
    have k1 : DataW.trod enc Tryz.prog w base spare held n 2 [v1] = some y1 := g1
    have k2 : DataW.trod enc Tryz.prog w base spare held n 50 [v2, v3, v4, v5, v6, v7, v8, v9] = some y2 := g2
    obtain ⟨s, e0, _, w0⟩ := DataW.trod_string Tryz.underlying9 k0
    obtain ⟨x1, e1, _, w1⟩ := DataW.trod_int Tryz.underlying2 k1
    obtain ⟨a, ha, e2⟩ := agg_in k2
    simp only [List.cons.injEq, and_true] at e0 e1
    refine ⟨⟨s.data.toList, x1, a⟩, ha, ?_, ?_, ?_⟩
    · have := bounds_i64 w1; unfold i64; simp only; omega
    · simp only [Array.length_toList]; exact w0
    · rw [e0, e1, e2]; rfl
set_option maxRecDepth 100000 in
theorem out_arg {H : Type} {enc : TypeId × Value → H} {w : World} {base : Nat} {spare : Nat → Bool} {held : Bool} {r : Reach} {b0 : Nat} {v : Value} {d : DataW H} {pl : List MemPlace} (hv : Value.okWide Tryz.prog w r b0 52 v) (h : DataW.Trod enc Tryz.prog w base spare held 52 v d pl) :
    ∃ a : Win AggV, a.agg.In ∧ i64 a.start ∧ a.key.length ≤ maxLen ∧ v = .agg (outV a).toArray := by
  obtain ⟨cs, rfl, _⟩ := okWide_struct Tryz.underlying52 hv
  obtain ⟨fuel, hf⟩ := h
  obtain ⟨a, ha, hs, hk, hcs⟩ := out_in hf
  refine ⟨a, ha, hs, hk, ?_⟩
  have : cs.toList = outV a := hcs
  rw [← this, Array.toArray_toList]
end Go.Proofs.YtigmhljaoicdbaaGreat

namespace Go.Proofs.YtigmhljaoicdbaaGreat
open Go.RowKit Go.ChangeShapes Go.WideShapes
abbrev ActZ := ActV AggV
structure ActZ.Ok (p : ActZ) : Prop where
  do_ : p.do_ < 256
  key : p.key.length ≤ maxLen
  at_ : i64 p.at_
  n : i64 p.n
  outk : p.out.key.length ≤ maxLen
  outs : i64 p.out.start
  outa : p.out.agg.In
def ActZ.none_ : ActZ := ⟨0, [], 0, 0, ⟨[], 0, zero⟩⟩
/-- Its cells at a place. -/
structure ActAt (w : World) (b o : Nat) (p : ActZ) : Prop where
  c0 : w.cell? ⟨b, o, none⟩ = some (.int .u8 (p.do_ : Int))
  c1 : w.cell? ⟨b, o + 1, none⟩ = some (.string ⟨p.key.toArray⟩)
  c2 : w.cell? ⟨b, o + 2, none⟩ = some (.int .i64 p.at_)
  c3 : w.cell? ⟨b, o + 3, none⟩ = some (.int .i64 p.n)
  out : w.rangeAt b (o + 4) (outV p.out)
/-- A slice of acts. -/
structure IsActs (w : World) (a : Option Addr) (len cap : Nat) (z : List ActZ) : Prop where
  size_ : z.length = len
  max : len ≤ maxLen
  at_ : ∀ k, k < len → ∃ b o, a = some ⟨b, o, none⟩ ∧ ActAt w b (o + k * 14) (z.getD k ActZ.none_) ∧ (z.getD k ActZ.none_).Ok ∧ b < w.heap.size
theorem cells5 : Tryz.prog.cellsOf 5 = 1 := by kernel_rfl
def actC (p : ActZ) : List Value := .int .u8 (p.do_ : Int) :: .string ⟨p.key.toArray⟩ :: .int .i64 p.at_ :: .int .i64 p.n :: outV p.out
theorem u8_in {x : Int} (h : (Lit.int .u8 x).wf = true) : 0 ≤ x ∧ x < 256 := by have := bounds_u8 h; omega
theorem ActAt.keep {F : Nat → Prop} {w w' : World} {b o : Nat} {p : ActZ} (h : ActAt w b o p) (m : Moved F w w') (hb : b < w.heap.size) (hF : ¬ F b) : ActAt w' b o p :=
  ⟨(m.cell (p := ⟨b, o, none⟩) hb hF).trans h.c0, (m.cell (p := ⟨b, o + 1, none⟩) hb hF).trans h.c1, (m.cell (p := ⟨b, o + 2, none⟩) hb hF).trans h.c2, (m.cell (p := ⟨b, o + 3, none⟩) hb hF).trans h.c3, fun j u hu => (m.cell (p := ⟨b, o + 4 + j, none⟩) hb hF).trans (h.out j u hu)⟩
theorem IsActs.below {w w' : World} {a : Option Addr} {len cap : Nat} {z : List ActZ} (h : IsActs w a len cap z) (hb : Below w.heap.size w w') : IsActs w' a len cap z :=
  ⟨h.size_, h.max, fun k hk => by
    obtain ⟨b, o, e, hp, ok, hlt⟩ := h.at_ k hk
    exact ⟨b, o, e, hp.keep (Moved.of_below (F := fun _ => False) hb) hlt id, ok, Nat.lt_of_lt_of_le hlt hb.size⟩⟩
theorem IsActs.ok {w : World} {a : Option Addr} {len cap : Nat} {z : List ActZ} (h : IsActs w a len cap z) : ∀ p ∈ z, p.Ok := fun p hp => by
  obtain ⟨k, hk, rfl⟩ := List.mem_iff_getElem.1 hp
  obtain ⟨_, _, _, _, ok, _⟩ := h.at_ k (by rw [← h.size_]; exact hk)
  rw [List.getD_eq_getElem?_getD, List.getElem?_eq_getElem hk] at ok
  exact ok
/-- Too long a key. -/
def long (p : ActZ) : Bool := decide (100 < p.key.length) || decide (100 < p.out.key.length)
/-- More than 200 acts, or a key of more than 100 bytes. -/
def tooGreat (z : List ActZ) : Bool := decide (200 < z.length) || z.any long
theorem any_at {z : List ActZ} {k : Nat} (hk : k < z.length) (h : long (z.getD k ActZ.none_) = true) : z.any long = true := by
  rw [List.getD_eq_getElem?_getD, List.getElem?_eq_getElem hk] at h
  exact List.any_eq_true.2 ⟨_, List.getElem_mem hk, h⟩
theorem any_none {z : List ActZ} (h : ∀ k, k < z.length → long (z.getD k ActZ.none_) = false) : z.any long = false := by
  rw [List.any_eq_false]
  intro p hp
  obtain ⟨k, hk, rfl⟩ := List.mem_iff_getElem.1 hp
  have := h k hk
  rw [List.getD_eq_getElem?_getD, List.getElem?_eq_getElem hk] at this
  simpa using this
end Go.Proofs.YtigmhljaoicdbaaGreat

namespace Go.Proofs.YtigmhljaoicdbaaGreat
open Go.RowKit
structure Mild (l : List (Win AggV)) : Prop where
  rise : Rise l
  most : l.length ≤ 32
  ins_ : ∀ a ∈ l, a.agg.In
theorem mild_nil : Mild [] := ⟨List.Pairwise.nil, Nat.zero_le _, fun _ h => by cases h⟩
theorem mild_ins {l : List (Win AggV)} {x : Win AggV} (h : Mild l) (hx : x.agg.In) (hl : (look l x.key x.start).isSome = true ∨ l.length < 32) : Mild (ins x l) := by
  refine ⟨ins_rise h.rise, ?_, fun a ha => ?_⟩
  · rw [ins_len h.rise]
    have := h.most
    split
    · exact this
    · rename_i hn
      rcases hl with k | k
      · exact absurd k hn
      · omega
  · rcases ins_mem ha with rfl | ha
    · exact hx
    · exact h.ins_ a ha
theorem mild_put {l : List (Win AggV)} (h : Mild l) {k : List UInt8} {a v : Int} (hv : i64 v) : Mild (putS SO l k a v).1 := by
  rcases put_ways (O := SO) l k a v with ⟨_, e⟩ | ⟨hk, ⟨x, hx, e⟩ | ⟨hx, ⟨_, e⟩ | ⟨hl, e⟩⟩⟩
  · rw [e]; exact h
  · rw [e]; exact mild_ins h (put_in (h.ins_ _ (look_some hx)) hv) (.inl (by rw [hx]; rfl))
  · rw [e]; exact h
  · rw [e]; exact mild_ins h (put_in zero_in hv) (.inr (by omega))
theorem mild_set {l : List (Win AggV)} (h : Mild l) {x : Win AggV} (hx : x.agg.In) : Mild (setS SO l x).1 := by
  rcases set_ways (O := SO) l x with ⟨_, e⟩ | ⟨hk, ⟨_, e⟩ | ⟨_, ⟨_, e⟩ | ⟨hl, e⟩⟩⟩
  · rw [e]; exact h
  · rw [e]; exact h
  · rw [e]; exact h
  · rw [e]; exact mild_ins h hx (.inr (by omega))
theorem mild_take {l : List (Win AggV)} (h : Mild l) (m : Int) : Mild (takeS SO l m).1 := ⟨rise_filter h.rise, Nat.le_trans (List.length_filter_le _ _) h.most, fun a ha => h.ins_ a (List.mem_filter.1 ha).1⟩
theorem mild_act {l : List (Win AggV)} (h : Mild l) {p : ActZ} (hp : p.Ok) : Mild (actS SO l p) := by
  unfold actS
  split
  · exact mild_put h hp.n
  · split
    · exact mild_set h hp.outa
    · split
      · exact mild_take h _
      · exact h
theorem take_snoc {z : List ActZ} {k : Nat} (hk : k < z.length) : z.take (k + 1) = z.take k ++ [z.getD k ActZ.none_] := by
  rw [List.take_add_one, List.getD_eq_getElem?_getD, List.getElem?_eq_getElem hk]; rfl
end Go.Proofs.YtigmhljaoicdbaaGreat

/- The document's own 'with': a window put into a place of a row. Conditions: the place lies in the row; the row has at most 1000 windows. -/
import Derived.Test.YtmgmkdkdpeljmabTakeS
namespace Go.Proofs.Ytmgmkdkdpeljmab
open Go.RowKit

theorem slice_to (a : Option Addr) (n c i : Nat) (hi : i ≤ c) (W : World) : (Instr.slice 29 (.slice a n c) none (some (.int .i64 (i : Int))) none).run Try.prog W = .ok (.slice a i c) W := by
  have u := Try.underlying29
  have z := Try.sizeOf46
  simp [Instr.slice, go_sem]
  intro h; omega
theorem slice_from (a : Option Addr) (n c i : Nat) (hi : i ≤ n) (W : World) : (Instr.slice 29 (.slice a n c) (some (.int .i64 (i : Int))) none none).run Try.prog W = .ok (.slice (if c = i then a else a.map (·.add (i * 10))) (n - i) (c - i)) W := by
  have u := Try.underlying29
  have z := Try.sizeOf46
  simp [Instr.slice, go_sem]
  intro h; omega
theorem lies_nil (w : World) (a : Option Addr) : OutK.Lies w a [] := ⟨fun _ => rfl, fun x e j u hu => by simp [RowK.cells] at hu⟩
theorem lies_from {w : World} {a : Option Addr} {l : List (Win AggV)} {c i : Nat} (h : OutK.Lies w a l) (hi : i ≤ l.length) (hc : l.length ≤ c) : OutK.Lies w (if c = i then a else a.map (·.add (i * 10))) (l.drop i) := by
  split
  · rw [List.drop_of_length_le (by omega)]; exact lies_nil w a
  · cases a with
    | none => rw [h.1 rfl, List.drop_nil]; exact lies_nil w none
    | some x => exact lies_drop outK_law h i
theorem row_below {w w' : World} {B : Nat} {a : Option Addr} {c : Nat} {l : List (Win AggV)} (h : OutK.Row w B a c l) (hb : Below w.heap.size w w') : OutK.Row w' B a c l := by
  refine World.ownsRow.kept (row := none) h ⟨hb.os, hb.tape, hb.output, hb.size, fun k hk _ => hb.block k hk⟩ ?_
  cases e : (Value.slice a l.length c).ownBlock with
  | none => exact .inl rfl
  | some k => exact .inr (by simp)
theorem row_moved {G : Nat → Prop} {w w' : World} {B : Nat} {a : Option Addr} {c : Nat} {l : List (Win AggV)} (h : OutK.Row w B a c l) (hm : Moved G w w') (hG : ∀ i, G i → ∀ k, (Value.slice a l.length c).ownBlock = some k → i ≠ k) : OutK.Row w' B a c l := by
  obtain ⟨h1, h2⟩ := h
  refine ⟨h1, h2.imp id ?_⟩
  rintro ⟨g, cap, cur, hv, e1, e2, e3⟩
  refine ⟨g, cap, cur, hv, e1, (hm.block g (Array.getElem?_eq_some_iff.1 e2).1 (fun f => hG g f g (by rw [hv]; rfl) rfl)).trans e2, e3⟩
theorem row_mono {w : World} {B B' : Nat} {a : Option Addr} {c : Nat} {l : List (Win AggV)} (h : OutK.Row w B a c l) (hB : B' ≤ B) : OutK.Row w B' a c l := by
  obtain ⟨h1, h2⟩ := h
  refine ⟨h1, h2.imp id ?_⟩
  rintro ⟨g, cap, cur, hv, e1, e2⟩
  exact ⟨g, cap, cur, hv, Nat.le_trans hB e1, e2⟩
theorem row_lt {w : World} {B : Nat} {a : Option Addr} {c : Nat} {l : List (Win AggV)} (h : OutK.Row w B a c l) : ∀ k, (Value.slice a l.length c).ownBlock = some k → B ≤ k ∧ k < w.heap.size := fun k e => h.lt k e
def putAt (l : List (Win AggV)) (i : Nat) (x : Win AggV) (inst : Bool) : List (Win AggV) := l.take i ++ x :: l.drop (if inst = true then i + 1 else i)
/-- What with's variables hold. -/
structure Ws (w : World) (H : Nat) (s : Value) (x : Win AggV) (o : Value) (v : World) : Prop where
  c0 : v.cell? ⟨H, 0, none⟩ = some s
  r1 : RowAt v (H + 1) (outV x)
  r2 : RowAt v (H + 2) [.slice none 0 0]
  r3 : RowAt v (H + 3) [o]
  bel : Below w.heap.size w v
theorem Ws.below {w v v' : World} {H : Nat} {s o : Value} {x : Win AggV} (h : Ws w H s x o v) (hb : Below v.heap.size v v') : Ws w H s x o v' :=
  ⟨(hb.cell (p := ⟨H, 0, none⟩) (World.block_lt_of_cell? _ _ h.c0)).trans h.c0, h.r1.below hb, h.r2.below hb, h.r3.below hb, h.bel.trans (hb.mono h.bel.size)⟩
theorem Ws.put {w v : World} {H : Nat} {s o : Value} {x : Win AggV} (h : Ws w H s x o v) (hH : H = w.heap.size) (o' : Value) : Ws w H s x o' (v.setCell ⟨H + 3, 0, none⟩ o') := by
  have m := moved_set v (H + 3) 0 o'
  refine ⟨(m.cell (p := ⟨H, 0, none⟩) (World.block_lt_of_cell? _ _ h.c0) (by show ¬ H = H + 3; omega)).trans h.c0, h.r1.keep m (by omega), h.r2.keep m (by omega), h.r3.set 0 (Nat.succ_pos _) o', ?_⟩
  have m2 : Moved (fun i => i = H + 3) w (v.setCell ⟨H + 3, 0, none⟩ o') := ((Moved.of_below (F := fun _ => False) h.bel).mono (fun _ f => f.elim)).trans m (fun i hi => .inl hi)
  exact m2.below (fun i e => by omega) (Nat.le_refl _)
theorem Ws.grow {v : World} {H : Nat} {a : Option Addr} {c : Nat} {l : List (Win AggV)} (hsz : H + 4 ≤ v.heap.size) (hr : OutK.Row v (H + 4) a c l) (b : Option Addr) (cb : Nat) (m : List (Win AggV)) (hm : OutK.Lies v b m) (hb : l.length + m.length ≤ 1000000000000) :
    ∃ a' c' v', (Builtin.append_ #[29, 29] 29 #[.slice a l.length c, .slice b m.length cb]).run Try.prog v = .ok (.slice a' (l ++ m).length c') v' ∧ OutK.Row v' (H + 4) a' c' (l ++ m) ∧ Moved (fun i => H + 4 ≤ i) v v' := by
  obtain ⟨a', c', v', h1, h2, h3⟩ := grow_app outK_law hr b cb m hm hb hsz 29
  exact ⟨a', c', v', h1, h2, (Moved.refl _ _).grown h3 (fun k e => .inl (hr.lt k e).1)⟩
theorem Ws.moved {w v v' : World} {H : Nat} {s o : Value} {x : Win AggV} (h : Ws w H s x o v) (hH : H = w.heap.size) (m : Moved (fun i => H + 4 ≤ i) v v') : Ws w H s x o v' := by
  refine ⟨(m.cell (p := ⟨H, 0, none⟩) (World.block_lt_of_cell? _ _ h.c0) (by show ¬ H + 4 ≤ H; omega)).trans h.c0, h.r1.keep m (by omega), h.r2.keep m (by omega), h.r3.keep m (by omega), ?_⟩
  have m2 : Moved (fun i => H + 4 ≤ i) w v' := ((Moved.of_below (F := fun _ => False) h.bel).mono (fun _ f => f.elim)).trans m (fun i hi => .inl hi)
  exact m2.below (fun i hi => by omega) (Nat.le_refl _)
theorem exec_append {P : Program} {w w' : World} {op : Oper} {a : Act} (s x : Operand) (t tx ty : TypeId)
    (ho : op.op = .call { callee := .builtin .append, args := #[s, x], argTypes := #[t, tx] }) (hty : op.type = ty) {v xv v' : Value} (hs : a.eval s = v) (hx : a.eval x = xv)
    (hr : (Builtin.append_ #[t, tx] ty #[v, xv]).run P w = .ok v' w') : (execOp a.eval op).run P w = .ok (.value v') w' := by
  unfold execOp
  simp only [ho, resolve, invoke, builtin, Sem.run_bind, Sem.run_pure, Result.andThen_ok, List.map_toArray, List.map_cons, List.map_nil, hs, hx, hty, hr]
theorem wpQuiet_op_on {P : Program} {ops : Array Oper} {C : World → Prop} {Q : Act → Prop} {rest : List Oper} {op : Oper} {a : Act} (hw : Region.wanted op (yielded ops a.tmps) = true) (v : Value) (hr : ∀ w, C w → (execOp a.eval op).run P w = .ok (.value v) w)
    (h : wpQuiet P ops C Q rest (a.put op.dst v)) : wpQuiet P ops C Q (op :: rest) a := by
  unfold wpQuiet
  rw [if_pos hw]
  refine ⟨_, fun w hw' => ?_, h⟩
  unfold Oper.quietAt
  rw [hr w hw']
  exact ⟨rfl, rfl⟩
end Go.Proofs.Ytmgmkdkdpeljmab

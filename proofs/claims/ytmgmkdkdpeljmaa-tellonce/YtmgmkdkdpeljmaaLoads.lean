/- Loads of whole structs, guarded or not, in a plain region; a struct kept in a new block. No conditions. -/
import Derived.Test.YtmgmkdkdpeljmaaMem
import Derived.OwnWalk
namespace Go.Proofs.Ytmgmkdkdpeljmaa
open Go.RowKit
theorem wpList_load_on {P : Program} {ops : Array Oper} {rest : List Oper} {op : Oper} {a : Act} {w : World} {Q : Exit → Act → World → Prop} (hw : Region.wanted op (yielded ops a.tmps) = true) (ty : TypeId) (x : Operand) (ho : op.op = .load ty x)
    (b o : Nat) (hx : a.eval x = .pointer (some ⟨b, o, none⟩)) (cs : List Value) (d : TypeDesc) (hc : w.rangeAt b o cs)
    (hu : P.underlying ty = some d) (hd : d.isRow = true) (hi : (P.info? ty).map (·.size) = some cs.length)
    (h : wpList P ops Q rest (a.put op.dst (.agg cs.toArray)) w) : wpList P ops Q (op :: rest) a w := by
  unfold wpList
  rw [if_pos hw]
  exact .inl (wp_load_mid ty x ho b o hx cs d hc hu hd hi h)
theorem wpList_app {P : Program} {w : World} {ops : Array Oper} {rest : List Oper} {o : Oper} {a : Act} {Q : Exit → Act → World → Prop} (hgd : o.guard = none) (s x : Operand) (t tx ty : TypeId)
    (ho : o.op = .call { callee := .builtin .append, args := #[s, x], argTypes := #[t, tx] }) (hty : o.type = ty) {v xv v' : Value} {w' : World} (hs : a.eval s = v) (hx : a.eval x = xv)
    (hr : (Builtin.append_ #[t, tx] ty #[v, xv]).run P w = .ok v' w') (h : wpList P ops Q rest (a.put o.dst v') w') : wpList P ops Q (o :: rest) a w :=
  wpList_plain hgd fun _ hK => by
    unfold Oper.wp execOp
    simp only [ho, resolve, invoke, builtin, Sem.run_bind, Sem.run_pure, Result.andThen_ok, List.map_toArray, List.map_cons, List.map_nil, hs, hx, hty, hr]
    exact hK _ _ h
/-- A struct is kept in a new block. -/
theorem keep_row (w : World) (ty : TypeId) (zs cs : List Value) (hl : zs.length = cs.length) : ∃ wf, (w.alloc (.cells zs.toArray ty)).setCells w.heap.size 0 cs = wf ∧ RowAt wf w.heap.size cs ∧ Moved (fun _ => False) w wf ∧ (w.alloc (.cells zs.toArray ty)).there w.heap.size 0 cs.length := by
  have h0 := row_new w zs ty
  have mv := setCells_moved (w.alloc (.cells zs.toArray ty)) w.heap.size 0 cs
  exact ⟨_, rfl, h0.put cs hl, ((Moved.refl _ w).alloc _).trans mv fun i hi => .inr (by omega), by rw [← hl]; exact h0.there⟩
end Go.Proofs.Ytmgmkdkdpeljmaa

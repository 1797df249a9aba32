/- What is left to come, beside a net: the statements' find, and steps on the list. No conditions. -/
import Derived.Test.YtceepejndomfaaaFits
import Derived.Test.YtceepejndomfaaaOrderWalk
namespace Go.Proofs.Ytceepejndomfaaa
open Go.RowKit

theorem split_at (l : List Pkt) (k : Nat) (h : k < l.length) : l = l.take k ++ (l.getD k Pkt.zero :: l.drop (k + 1)) := by
  have := List.take_append_drop k l
  rw [List.drop_eq_getElem_cons h] at this
  rw [List.getD_eq_getElem?_getD, List.getElem?_eq_getElem h]
  exact this.symm
theorem perm_at (l : List Pkt) (k : Nat) (h : k < l.length) : l.Perm (l.getD k Pkt.zero :: (l.take k ++ l.drop (k + 1))) := by
  have e := split_at l k h
  have p : (l.take k ++ (l.getD k Pkt.zero :: l.drop (k + 1))).Perm (l.getD k Pkt.zero :: (l.take k ++ l.drop (k + 1))) := List.perm_middle
  rwa [← e] at p
theorem perm_cut {l m : List Pkt} (h : m.Perm l) {k i : Nat} (hk : k < m.length) (hi : i < l.length) (e : m.getD k Pkt.zero = l.getD i Pkt.zero) : (m.take k ++ m.drop (k + 1)).Perm (l.take i ++ l.drop (i + 1)) := by
  have h1 := perm_at m k hk
  have h2 := perm_at l i hi
  rw [e] at h1
  exact ((h1.symm.trans h).trans h2).cons_inv
theorem samePk_eq (p q : Pkt) : samePk p.f p.t p.d q.f q.t q.d = decide (p = q) := by unfold samePk; rfl

set_option maxHeartbeats 2000000 in
theorem lfind_any {w : World} {a : Option Addr} {c : Nat} {l : List Pkt} (h : Row w a c l) (q : Pkt) (hq : q ∈ l) (hl : l.length ≤ 5184) :
    Calls Try.prog 18 #[.slice a l.length c, q.val] w fun e w' => ∃ i, i < l.length ∧ l.getD i Pkt.zero = q ∧ e = .returned (.int .i64 (i : Int)) ∧ Below w.heap.size w w' := by
  obtain ⟨w1, hw1⟩ : ∃ w1, w1 = w.alloc (.cells #[.int .i64 q.f, .int .i64 q.t, .string q.d] 25) := ⟨_, rfl⟩
  have hb1 : Below w.heap.size w w1 := by rw [hw1]; exact (Below.refl _ _).alloc (Nat.le_refl _) _
  have hr1 : Row w1 a c l := h.keep (Moved.of_below (F := fun _ => False) hb1) fun _ _ f => f
  have hp1 : PkAt w1 w.heap.size q := by rw [hw1]; exact PkAt.new w q.f q.t q.d
  have HB := hide hb1
  have HR := hide hr1
  have HP := hide hp1
  have HW := hide hw1
  have HQ := hide hq
  clear h hb1 hr1 hp1 hw1 hq
  unfold Pkt.val
  go_enter Try.func18, Try.ntmps18
  go_upto_region 1 with fail
  rw [← unhide HW]
  generalize hB : w.heap.size = B at *
  go_wp2_with fail
  go_loopw [5] (fun t wr => ∃ k : Nat, k ≤ l.length ∧ t = .int .i64 (k : Int) ∧ (∀ j, j < k → l.getD j Pkt.zero ≠ q) ∧ ∃ n, wr = w1.drewN n) (fun t _ => l.length - (intOf t).toNat)
  case atStart => exact ⟨0, by omega, rfl, fun j hj => absurd hj (Nat.not_lt_zero _), 0, rfl⟩
  case round =>
    obtain ⟨k, hk, rfl, hno, nn, rfl⟩ := hrel
    by_cases hlt : k < l.length
    · have hrow := unhide HR
      rcases hrow.form with ⟨_, _, e⟩ | ⟨g, rfl, hg, _⟩
      · rw [e] at hlt; simp at hlt
      obtain ⟨c0, c1, c2⟩ := hrow.at k hlt
      obtain ⟨b0, b1, b2⟩ := unhide HP
      have hs := samePk_eq (l.getD k Pkt.zero) q
      have HNO := hide hno
      clear hrow hno
      by_cases he : l.getD k Pkt.zero = q
      · rw [he] at c0 c1 c2
        have same := samePk_self q.f q.t q.d
        clear hs
        have HE := hide he
        clear he
        go_wp2_with fail
        go_quiet (fail)
        go_wp2_with fail
        go_ret
        refine ⟨k, hlt, unhide HE, rfl, ?_⟩
        have hb := unhide HB
        rw [← hB] at hb
        exact ⟨hb.os, hb.tape, hb.output, hb.size, hb.block⟩
      · rw [decide_eq_false he] at hs
        have HE := hide he
        clear he
        have hno2 : ∀ j, j < k + 1 → l.getD j Pkt.zero ≠ q := fun j hj => by
          by_cases hjk : j = k
          · rw [hjk]; exact unhide HE
          · exact unhide HNO j (by omega)
        have HNO2 := hide hno2
        clear hno2
        generalize l.getD k Pkt.zero = v at *
        have hs' : samePk v.f v.t v.d q.f q.t q.d = false := hs
        clear hs
        have hse := fun w => eq25 v.f v.t v.d q.f q.t q.d w
        rw [hs'] at hse
        obtain ⟨vf, hvf⟩ : ∃ vf, v.f = vf := ⟨_, rfl⟩
        obtain ⟨vt, hvt⟩ : ∃ vt, v.t = vt := ⟨_, rfl⟩
        obtain ⟨vd, hvd⟩ : ∃ vd, v.d = vd := ⟨_, rfl⟩
        rw [hvf] at c0 hs' hse
        rw [hvt] at c1 hs' hse
        rw [hvd] at c2 hs' hse
        clear hvf hvt hvd
        go_wp2_with fail
        go_quiet (fail)
        go_wp2_with fail
        go_roundw
        case rel => exact ⟨k + 1, by omega, by go_num, unhide HNO2, _, rfl⟩
        case measure => simp [intOf]; omega
    · exfalso
      obtain ⟨i, hi⟩ := List.mem_iff_getElem?.1 (unhide HQ)
      have hil := (List.getElem?_eq_some_iff.1 hi).1
      exact hno i (by omega) (by rw [List.getD_eq_getElem?_getD, hi]; rfl)

theorem step_prow2 {ops : Array Oper} {o : Oper} {ac : Act} {w : World} {K : Act → World → Prop} {Q : Exit → Act → World → Prop} {E : Prop}
    (hg : o.guard = none) (s x : Operand) (hop : o.op = Op.call { callee := Callee.builtin Builtin.append, args := #[s, x], argTypes := #[36, 36] })
    {a : Option Addr} {c : Nat} {l : List Pkt} (h : Row w a c l) (n : Nat) (hn : l.length = n) (b : Option Addr) (cb : Nat) (m : List Pkt) (hm : Lies w b m) (k : Nat) (hk : m.length = k) (hb : l.length + m.length ≤ 1099511627776)
    (hs : ac.eval s = .slice a n c) (hx : ac.eval x = .slice b k cb)
    (hK : ∀ a' c' w', Row w' a' c' (l ++ m) → Fresh w a a' → w.grownBy w' (Value.slice a l.length c).ownBlock → K (ac.put o.dst (.slice a' (n + k) c')) w') :
    if Region.wanted o (yielded ops ac.tmps) = true then Oper.wp Try.prog o ac w K Q else E := by
  subst hn
  subst hk
  refine step_prow hg s x hop h b cb m hm hb hs hx fun a' c' w' h1 h2 h3 => ?_
  rw [List.length_append]
  exact hK a' c' w' h1 h2 h3

/-- A net at x with l on their way, and the list of what is left to come, which are the same but for their row. -/
def Core (w0 w : World) (x : Nat) (l : List Pkt) (la : Option Addr) (lc : Nat) (left : List Pkt) : Prop := Own w0 w (ofRow la) x l ∧ Row w la lc left ∧ left.Perm l ∧ ∀ k, ofRow la k → w0.heap.size ≤ k
theorem Core.push {w0 w : World} {X : Nat → Prop} {x : Nat} {l2 left : List Pkt} {la : Option Addr} {lc : Nat} (ho : Own w0 w X x l2) (hX : ∀ k, ofRow la k → X k) (hr : Row w la lc left) (hb : ∀ k, ofRow la k → w0.heap.size ≤ k) (q : Pkt) (hp : (left ++ [q]).Perm l2) (hl : left.length ≤ 5184) :
    ∃ a' c' w3, (∀ ty, (Builtin.append_ #[36, 36] ty #[.slice la left.length lc, .slice (some ⟨w.heap.size, 0, none⟩) 1 1]).run Try.prog (w.alloc (.cells #[.int .i64 q.f, .int .i64 q.t, .string q.d] 25)) = .ok (.slice a' (left.length + 1) c') w3) ∧ Core w0 w3 x l2 a' c' (left ++ [q]) := by
  have hr1 : Row (w.alloc (.cells #[.int .i64 q.f, .int .i64 q.t, .string q.d] 25)) la lc left := hr.keep ((Moved.refl (fun _ => False) w).alloc _) fun _ _ f => f
  obtain ⟨a', c', w3, hrun, hrow, hf, hg⟩ := prow_app hr1 (some ⟨w.heap.size, 0, none⟩) 1 [⟨q.f, q.t, q.d⟩] (lies_one w q.f q.t q.d) (by simp; omega)
  have m : Moved (ofRow la) w w3 := ((Moved.refl (ofRow la) w).alloc _).grown hg fun k hk => by
    cases la with
    | none => simp [Value.ownBlock] at hk
    | some y => simp [Value.ownBlock] at hk; exact .inl ⟨y, rfl, hk.symm⟩
  have hfr : ∀ y, a' = some y → la = some y ∨ w.heap.size ≤ y.block := fun y hy => by
    rcases hf y hy with e | e
    · exact .inl e
    · have e' : w.heap.size + 1 ≤ y.block := by simpa using e
      exact .inr (by omega)
  have hbase := ho.base.size
  refine ⟨a', c', w3, fun ty => by have := hrun ty; simpa using this, (ho.mono hX).beside m (fun k hk => ⟨hk, hb k hk⟩) (fun k hk => ?_), hrow, hp, fun k hk => ?_⟩
  · obtain ⟨y, e, rfl⟩ := hk
    refine ⟨?_, hrow.lt y e⟩
    rcases hfr y e with e' | e'
    · exact .inl ⟨y, e', rfl⟩
    · exact .inr e'
  · obtain ⟨y, e, rfl⟩ := hk
    rcases hfr y e with e' | e'
    · exact hb _ ⟨y, e', rfl⟩
    · omega
theorem Core.cut {w0 w w4 : World} {X : Nat → Prop} {x : Nat} {l2 left' : List Pkt} {a' : Option Addr} {c' : Nat} (ho : Own w0 w X x l2) (m : Moved (fun _ => False) w w4) (hr : Row w4 a' c' left') (hfr : ∀ y, a' = some y → w.heap.size ≤ y.block) (hp : left'.Perm l2) : Core w0 w4 x l2 a' c' left' := by
  have hbase := ho.base.size
  refine ⟨ho.beside m (fun _ f => f.elim) (fun k hk => ?_), hr, hp, fun k hk => ?_⟩
  · obtain ⟨y, e, rfl⟩ := hk
    exact ⟨.inr (hfr y e), hr.lt y e⟩
  · obtain ⟨y, e, rfl⟩ := hk
    exact Nat.le_trans hbase (hfr y e)
theorem Core.same {w0 w : World} {X : Nat → Prop} {x : Nat} {l left : List Pkt} {la : Option Addr} {lc : Nat} (ho : Own w0 w X x l) (hX : ∀ k, ofRow la k → X k) (hr : Row w la lc left) (hb : ∀ k, ofRow la k → w0.heap.size ≤ k) (hp : left.Perm l) : Core w0 w x l la lc left := ⟨ho.mono hX, hr, hp, hb⟩
theorem lies_take {w : World} {g c : Nat} {l : List Pkt} (h : Row w (some ⟨g, 0, none⟩) c l) (i : Nat) : Lies w (some ⟨g, 0, none⟩) (l.take i) := by
  refine ⟨fun e => (by cases e), fun x e j u hu => h.lies.2 x e j u ?_⟩
  rw [← pcells_take, List.getElem?_take] at hu
  split at hu
  · exact hu
  · cases hu
theorem lies_drop {w : World} {g c : Nat} {l : List Pkt} (h : Row w (some ⟨g, 0, none⟩) c l) (i : Nat) (hi : i + 1 ≤ l.length) : ∃ A : Addr, (if c = i + 1 then some (⟨g, 0, none⟩ : Addr) else some ⟨g, (i + 1) * 3, none⟩) = some A ∧ ∀ w', Moved (fun _ => False) w w' → Lies w' (some A) (l.drop (i + 1)) := by
  have hc := h.cap
  by_cases e : c = i + 1
  · refine ⟨⟨g, 0, none⟩, by simp [e], fun w' _ => ⟨fun e => (by cases e), fun x _ j u hu => ?_⟩⟩
    have h0 : l.drop (i + 1) = [] := List.length_eq_zero_iff.1 (by rw [List.length_drop]; omega)
    rw [h0] at hu
    simp [pcells] at hu
  · refine ⟨⟨g, (i + 1) * 3, none⟩, by simp [e], fun w' m => ⟨fun e => (by cases e), fun x ex j u hu => ?_⟩⟩
    cases ex
    rw [← pcells_drop, List.getElem?_drop] at hu
    have := (h.keep m fun _ _ f => f).lies.2 _ rfl _ u hu
    rw [Addr.add_lit, Nat.zero_add] at this
    rw [Addr.add_lit]; exact this
end Go.Proofs.Ytceepejndomfaaa

/- The library's Delete and Clone of packets. No conditions but bounds on lengths. -/
import Derived.Test.YtceepejndomfaaaRow
namespace Go.Proofs.Ytceepejndomfaaa
open Go.RowKit

theorem moved_setCells {F : Nat → Prop} {a b : World} (h : Moved F a b) {g : Nat} (hg : F g ∨ a.heap.size ≤ g) : ∀ (vs : List Value) (o : Nat), Moved F a (b.setCells g o vs)
  | vs, o => by
    induction vs generalizing b o with
    | nil => exact h
    | cons v r ih => exact ih (h.setCell (p := ⟨g, o, none⟩) hg v) (o + 1)

set_option maxHeartbeats 2000000 in
theorem delete_any {w : World} {g c : Nat} {l : List Pkt} (h : Row w (some ⟨g, 0, none⟩) c l) (i : Nat) (hi : i < l.length) (hb : l.length ≤ 1099511627776) :
    Calls Try.prog 24 #[.slice (some ⟨g, 0, none⟩) l.length c, .int .i64 (i : Int), .int .i64 ((i : Int) + 1)] w fun e w' => e = .returned (.slice (some ⟨g, 0, none⟩) (l.length - 1) c) ∧
      Row w' (some ⟨g, 0, none⟩) c (l.take i ++ l.drop (i + 1)) ∧ Moved (fun k => k = g) w w' := by
  rcases h.form with ⟨e, _⟩ | ⟨g', e, hlt, hcap, hcm, cur, hg, hcs⟩
  · cases e
  · cases e
    obtain ⟨i0, hi0, hz0, hz1, hz2⟩ := info_parts info25
    obtain ⟨n, hn⟩ : ∃ n, n = l.length := ⟨_, rfl⟩
    have hlen : (pcells (l.drop (i + 1))).length = (n - (i + 1)) * 3 := by rw [pcells_length, List.length_drop, hn]
    have hcell : ∀ j, j < n * 3 → w.cell? ⟨g, j, none⟩ = (pcells l)[j]? := fun j hj => by
      have hj' : j < (pcells l).length := by rw [pcells_length, ← hn]; exact hj
      have := h.cells (g := g) rfl j _ (List.getElem?_eq_getElem hj')
      rw [Addr.add_lit, Nat.zero_add] at this
      rw [this, List.getElem?_eq_getElem hj']
    have hsome : ∀ j, j < c * 3 → (w.cell? ⟨g, j, none⟩).isSome = true := fun j hj => by
      have : w.cell? ⟨g, j, none⟩ = cur[j]? := by simp [World.cell?, hg]
      rw [this, Array.getElem?_eq_getElem (by omega)]; rfl
    have hfree : ∀ j, w.frozen? ⟨g, j, none⟩ = false := fun j => Lib.frozen_of_heap hg _
    have hthere : ∀ j, j < (pcells (l.drop (i + 1))).length → (w.drew.cell? ⟨g, 0 + i * 3 + j, none⟩).isSome = true := fun j hj => hsome _ (by rw [hlen] at hj; omega)
    obtain ⟨zs, hzs, hcl⟩ := run_clear_pkts (w.drew.setCells g (0 + i * 3) (pcells (l.drop (i + 1)))) 0 g ((i + (n - (i + 1))) * 3) (n - (i + (n - (i + 1)))) (c - (i + (n - (i + 1)))) (by omega)
      (fun j hj => World.isSome_setCells _ _ _ _ _ (hsome _ (by omega))) (fun j hj => by rw [World.frozen?_setCells]; exact hfree _)
    have hR : Row ((w.drew.setCells g (0 + i * 3) (pcells (l.drop (i + 1)))).setCells g ((i + (n - (i + 1))) * 3) zs) (some ⟨g, 0, none⟩) c (l.take i ++ l.drop (i + 1)) := by
      obtain ⟨cur1, hg1, hs1⟩ := setCells_obj g 25 (0, 0) (pcells (l.drop (i + 1))) (0 + i * 3) w.drew cur hg
      obtain ⟨cur2, hg2, hs2⟩ := setCells_obj g 25 (0, 0) zs ((i + (n - (i + 1))) * 3) _ cur1 hg1
      have hll : (l.take i ++ l.drop (i + 1)).length = n - 1 := by simp; omega
      refine row_of_cells hg2 (by omega) (by omega) hcm fun j hj => ?_
      rw [hll] at hj
      rw [World.cell?_setCells_out _ _ _ _ _ (fun _ _ => .inl (by show j < _; omega)), pcells_append]
      have hti : (pcells (l.take i)).length = i * 3 := by rw [pcells_length, List.length_take]; omega
      by_cases hji : j < i * 3
      · rw [World.cell?_setCells_out _ _ _ _ _ (fun _ _ => .inl (by show j < _; omega)), List.getElem?_append_left (by omega), ← pcells_take, List.getElem?_take, if_pos hji]
        exact hcell j (by omega)
      · have hk : j - i * 3 < (pcells (l.drop (i + 1))).length := by rw [hlen]; omega
        have := World.cell?_setCells_in g (pcells (l.drop (i + 1))) (0 + i * 3) w.drew hthere (j - i * 3) hk
        rw [show 0 + i * 3 + (j - i * 3) = j by omega] at this
        rw [this, List.getElem?_append_right (by omega), hti, List.getElem?_eq_getElem hk]
    have hM : Moved (fun k => k = g) w ((w.drew.setCells g (0 + i * 3) (pcells (l.drop (i + 1)))).setCells g ((i + (n - (i + 1))) * 3) zs) :=
      moved_setCells (moved_setCells (Moved.refl (fun k => k = g) w).drew (.inl rfl) _ _) (.inl rfl) _ _
    have HR' := hide (And.intro hR hM)
    clear hR hM hthere
    have HR := hide h
    have Hcell := hide hcell
    have Hsome := hide hsome
    have Hfree := hide hfree
    obtain ⟨A, hA, hsrc⟩ : ∃ A : Addr, (if c = i + 1 then some (⟨g, 0, none⟩ : Addr) else some ⟨g, (i + 1) * 3, none⟩) = some A ∧ Hid (∀ t u, (pcells (l.drop (i + 1)))[t]? = some u → w.drew.cell? (A.add t) = some u) := by
      by_cases e : c = i + 1
      · refine ⟨⟨g, 0, none⟩, by simp [e], fun t u hu => ?_⟩
        have h0 : (pcells (l.drop (i + 1))).length = 0 := by rw [hlen]; omega
        rw [List.length_eq_zero_iff.1 h0] at hu
        simp at hu
      · refine ⟨⟨g, (i + 1) * 3, none⟩, by simp [e], fun t u hu => ?_⟩
        have ht := (List.getElem?_eq_some_iff.1 hu).1
        rw [hlen] at ht
        rw [Addr.add_lit]
        show w.cell? _ = _
        rw [hcell _ (by omega), ← hu, ← pcells_drop, List.getElem?_drop]
    clear h hcell hsome hfree hcs hg
    rw [← hn]
    have hin : i < n := by omega
    have hin1 : i + 1 ≤ n := hin
    have hnc : n ≤ c := by omega
    have hnb : n ≤ 1099511627776 := by omega
    have hc63 : c ≤ 9223372036854775807 := by unfold maxLen at hcm; omega
    have hic : i ≤ c := by omega
    have hjc : i + 1 ≤ c := by omega
    have g1 : (0 : Int) ≤ (i : Int) + 1 := by omega
    have g2 : (i : Int) + 1 ≤ (n : Int) := by omega
    obtain ⟨W1, hW1⟩ : ∃ W1, W1 = w.drew.setCells g (0 + i * 3) (pcells (l.drop (i + 1))) := ⟨_, rfl⟩
    rw [← hW1] at hcl HR'
    have HW := hide hW1
    clear hW1 hzs
    have Hn := hide hn
    have Hlen := hide hlen
    clear hi hb hcm hcap hn hlen
    go_enter Try.func24, Try.ntmps24
    go_wp2_with fail
    go_region_law (refine step_append_room rfl (.tmp 22) (.tmp 25) 36 rfl 25 i0 3 Try.underlying36 hi0 hz1 g 0 i c (by simp [Act.eval, Act.put]) A (n - (i + 1)) (c - (i + 1)) (pcells (l.drop (i + 1))) (by simp [Act.eval, Act.put]) (unhide Hlen) hsrc.out (pcells_oneCell _) (by omega) (fun j hj => ⟨unhide Hsome _ (by rw [unhide Hlen] at hj; omega), unhide Hfree _⟩) ?_; rw [← unhide HW])
    go_wp2
    go_ret
    exact ⟨by rw [show n - 1 = i + (n - (i + 1)) by omega]; rfl, unhide HR'⟩

theorem wpList_app {w : World} {ops : Array Oper} {rest : List Oper} {o : Oper} {a : Act} {Q : Exit → Act → World → Prop} (hgd : o.guard = none) (s x : Operand) (t tx : TypeId)
    (ho : o.op = .call { callee := .builtin .append, args := #[s, x], argTypes := #[t, tx] }) {v xv v' : Value} {w' : World} (hs : a.eval s = v) (hx : a.eval x = xv)
    (hr : ∀ ty, (Builtin.append_ #[t, tx] ty #[v, xv]).run Try.prog w = .ok v' w') (h : wpList Try.prog ops Q rest (a.put o.dst v') w') : wpList Try.prog ops Q (o :: rest) a w :=
  wpList_plain hgd fun _ hK => by
    unfold Oper.wp execOp
    simp only [ho, resolve, invoke, builtin, Sem.run_bind, Sem.run_pure, Result.andThen_ok, List.map_toArray, List.map_cons, List.map_nil, hs, hx, hr]
    exact hK _ _ h
theorem equalIn36 (w : World) (d : Nat) (a : Option Addr) (n c : Nat) : (Op.equalIn (d + 1) 36 (.slice a n c) (.slice none 0 0)).run Try.prog w = .ok a.isNone w := by cases a <;> simp [Op.equalIn, run_underlying Try.underlying36]
theorem eql36 (w : World) (a : Option Addr) (n c : Nat) : (binOp .eql 36 (.slice a n c) (.slice none 0 0)).run Try.prog w = .ok (.bool a.isNone) w := by
  simp only [binOp]
  simp [Op.equal, Op.maxDepth, equalIn36 w 9999 a n c]
theorem clone_any {w : World} {a : Option Addr} {c : Nat} {l : List Pkt} (h : Row w a c l) (hb : l.length ≤ 1099511627776) :
    Calls Try.prog 26 #[.slice a l.length c] w fun e w' => ∃ a' c', e = .returned (.slice a' l.length c') ∧ Row w' a' c' l ∧ Below w.heap.size w w' ∧ ∀ x, a' = some x → w.heap.size ≤ x.block := by
  rcases h.form with ⟨rfl, rfl, rfl⟩ | ⟨g, rfl, hlt, hcap, hcm, cur, hg, hcs⟩
  · have q36 : ∀ (w : World), (binOp .eql 36 (.slice none 0 0) (.slice none 0 0)).run Try.prog w = .ok (.bool true) w := fun w => eql36 w _ _ _
    have H := hide h
    clear h
    go_enter Try.func26, Try.ntmps26
    go_wp2
    go_ret
    exact ⟨none, 0, rfl, unhide H, Below.refl _ _, fun x e => by cases e⟩
  · have q36 : ∀ (w : World), (binOp .eql 36 (.slice (some ⟨g, 0, none⟩) l.length c) (.slice none 0 0)).run Try.prog w = .ok (.bool false) w := fun w => eql36 w _ _ _
    have hrow : Row (w.alloc (.cells #[] 25)) (some ⟨w.heap.size, 0, none⟩) 0 [] := World.ownsRow_made w #[] 0 (Nat.zero_le _) (Nat.zero_le _) rfl
    have hlies : Lies (w.alloc (.cells #[] 25)) (some ⟨g, 0, none⟩) l := h.lies.keep ((Moved.refl (fun _ => False) w).alloc _) fun _ _ f => f
    obtain ⟨a', c', w1, hr, h1, h2, h3⟩ := prow_app hrow (some ⟨g, 0, none⟩) c l hlies (by simpa using hb)
    have hbel : Below w.heap.size w w1 := ((((Moved.refl (fun _ => False) w).alloc (.cells #[] 25)).grown h3 fun k hk => by simp [Value.ownBlock] at hk; exact .inr (by omega))).below (fun _ f => f.elim) (Nat.le_refl _)
    have hfr : ∀ x, a' = some x → w.heap.size ≤ x.block := fun x hx => by
      rcases h2 x hx with e | e
      · cases e; exact Nat.le_refl _
      · simp at e; omega
    have H := hide (And.intro h1 (And.intro hbel hfr))
    simp only [List.nil_append, List.length_nil] at hr
    clear h h1 hbel hfr h2 h3 hrow hlies hg hcs
    go_enter Try.func26, Try.ntmps26
    go_wp2_with (at_builtin; refine wpList_app rfl _ _ 36 36 rfl rfl rfl hr ?_)
    go_ret
    exact ⟨a', c', rfl, unhide H⟩
end Go.Proofs.Ytceepejndomfaaa

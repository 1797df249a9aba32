/- A net of a statement's own, beside other blocks; packets held against each other; the statements' awake. No conditions. -/
import Derived.Test.YtceepejndomfaaaTake
import Derived.Laws.StructEq
namespace Go.Proofs.Ytceepejndomfaaa
open Go.RowKit

/-- Are two packets the same? -/
def samePk (f t : Int) (d : ByteArray) (f' t' : Int) (d' : ByteArray) : Bool := decide ((⟨f, t, d⟩ : Pkt) = ⟨f', t', d'⟩)
theorem samePk_self (f t : Int) (d : ByteArray) : samePk f t d f t d = true := by unfold samePk; simp
@[go_sem] theorem eq25 (f t : Int) (d : ByteArray) (f' t' : Int) (d' : ByteArray) (w : World) : (Op.equalIn 10000 25 (.agg #[.int .i64 f, .int .i64 t, .string d]) (.agg #[.int .i64 f', .int .i64 t', .string d'])).run Try.prog w = .ok (samePk f t d f' t' d') w := by
  have u3 := Try.underlying3
  have a3 := Try.isAgg3
  have z3 := Try.sizeOf3
  have u9 := Try.underlying9
  have a9 := Try.isAgg9
  have z9 := Try.sizeOf9
  have hS : Try.prog.underlying 25 = some (.struct (Try.prog.fieldsOf 25)) := by kernel_rfl
  have hp : Try.prog.stoodInHeld 25 = false := by kernel_rfl
  rw [show (10000 : Nat) = 9999 + 1 from rfl, run_equalIn_agg w 9999 25 _ _ hS hp]
  simp only [Program.fieldsOf, Try.underlying25]
  go_simp
  unfold samePk
  have hd : d.toList = d'.toList ↔ d = d' := by
    rw [ByteArray.toList_eq, ByteArray.toList_eq]
    exact ⟨bytes_ext, fun h => by rw [h]⟩
  by_cases h1 : f = f' <;> by_cases h2 : t = t' <;> by_cases h3 : d = d' <;> simp [h1, h2, h3, hd]
@[go_sem] theorem guard25 (op : BinOp) (x y : Operand) (xs ys : Array Value) (w : World) : (eqGuard op 25 x y (.agg xs) (.agg ys)).run Try.prog w = .ok () w := run_eqGuard_agg w op 25 x y xs ys (by kernel_rfl)

/-- A net at p whose blocks are none of X and none of w0's; X's are there. -/
def Own (w0 w : World) (X : Nat → Prop) (p : Nat) (l : List Pkt) : Prop :=
  ∃ F, NetIs w p F l ∧ (∀ k, F k → w0.heap.size ≤ k ∧ ¬ X k) ∧ (∀ k, X k → k < w.heap.size) ∧ Moved (fun _ => False) w0 w
/-- X's blocks have stayed. -/
def Keeps (X : Nat → Prop) (w w' : World) : Prop := w.heap.size ≤ w'.heap.size ∧ ∀ k, X k → w'.heap[k]? = w.heap[k]?
theorem Keeps.cell {X : Nat → Prop} {w w' : World} (h : Keeps X w w') {b o : Nat} (hb : X b) : w'.cell? ⟨b, o, none⟩ = w.cell? ⟨b, o, none⟩ := World.cell?_of_block (a := ⟨b, o, none⟩) (h.2 b hb)
theorem Keeps.frozen {X : Nat → Prop} {w w' : World} (h : Keeps X w w') {b o : Nat} (hb : X b) : w'.frozen? ⟨b, o, none⟩ = w.frozen? ⟨b, o, none⟩ := World.frozen?_of_block (a := ⟨b, o, none⟩) (h.2 b hb)
theorem Own.did {w0 w w' : World} {X : Nat → Prop} {p : Nat} {l' : List Pkt} {F : Nat → Prop} (hF : ∀ k, F k → w0.heap.size ≤ k ∧ ¬ X k) (hX : ∀ k, X k → k < w.heap.size) (hm : Moved (fun _ => False) w0 w) (h : Did w w' p F l') : Own w0 w' X p l' ∧ Keeps X w w' := by
  obtain ⟨F', hN, hf, m⟩ := h
  refine ⟨⟨F', hN, fun k hk => ?_, fun k hk => Nat.lt_of_lt_of_le (hX k hk) m.size, hm.trans m fun k hk => .inr (hF k hk).1⟩, m.size, fun k hk => m.block k (hX k hk) fun hf' => (hF k hf').2 hk⟩
  rcases hf k hk with h' | h'
  · exact hF k h'
  · exact ⟨Nat.le_trans hm.size h', fun hx => by have := hX k hx; omega⟩
theorem Own.below {w0 w w' : World} {X : Nat → Prop} {p : Nat} {l : List Pkt} (h : Own w0 w X p l) (hb : Below w.heap.size w w') : Own w0 w' X p l ∧ Keeps X w w' := by
  obtain ⟨F, hN, hF, hX, hm⟩ := h
  exact Own.did hF hX hm (Did.start hN (Moved.of_below hb))
/-- Another object's step: of X's blocks, or of new ones. -/
theorem Own.beside {w0 w w' : World} {X X' G : Nat → Prop} {p : Nat} {l : List Pkt} (h : Own w0 w X p l) (m : Moved G w w') (hG : ∀ k, G k → X k ∧ w0.heap.size ≤ k) (hX' : ∀ k, X' k → (X k ∨ w.heap.size ≤ k) ∧ k < w'.heap.size) : Own w0 w' X' p l := by
  obtain ⟨F, hN, hF, hX, hm⟩ := h
  refine ⟨F, hN.keep m fun k hk hf => (hF k hf).2 (hG k hk).1, fun k hk => ⟨(hF k hk).1, fun hx => ?_⟩, fun k hk => (hX' k hk).2, hm.trans m fun k hk => .inr (hG k hk).2⟩
  rcases (hX' k hx).1 with h' | h'
  · exact (hF k hk).2 h'
  · have := hN.lt k hk; omega
theorem Own.alloc {w0 w : World} {X : Nat → Prop} {p : Nat} {l : List Pkt} (h : Own w0 w X p l) (o : Obj) : Own w0 (w.alloc o) (fun k => X k ∨ k = w.heap.size) p l :=
  h.beside ((Moved.refl (fun _ => False) w).alloc o) (fun _ f => f.elim) fun k hk => by
    obtain ⟨F, hN, hF, hX, hm⟩ := h
    rcases hk with h' | h'
    · exact ⟨.inl h', by have := hX k h'; simp; omega⟩
    · exact ⟨.inr (by omega), by simp; omega⟩
theorem Own.drew {w0 w : World} {X : Nat → Prop} {p : Nat} {l : List Pkt} (h : Own w0 w X p l) : Own w0 w.drew X p l := by
  obtain ⟨F, hN, hF, hX, hm⟩ := h
  exact ⟨F, hN.keep (Moved.refl (fun _ => False) w).drew fun _ f => f.elim, hF, hX, hm.drew⟩
theorem Own.mono {w0 w : World} {X X' : Nat → Prop} {p : Nat} {l : List Pkt} (h : Own w0 w X p l) (hX : ∀ k, X' k → X k) : Own w0 w X' p l := by
  obtain ⟨F, hN, hF, hX', hm⟩ := h
  exact ⟨F, hN, fun k hk => ⟨(hF k hk).1, fun hx => (hF k hk).2 (hX k hx)⟩, fun k hk => hX' k (hX k hk), hm⟩
theorem Own.good {w0 w : World} {X : Nat → Prop} {p : Nat} {l : List Pkt} (h : Own w0 w X p l) : (∀ q ∈ l, q.ok) ∧ (∀ i, cnt i l ≤ 64) ∧ l.length ≤ 5184 := by
  obtain ⟨F, hN, _⟩ := h
  exact ⟨hN.good.1, hN.good.2, hN.len⟩
theorem Own.base {w0 w : World} {X : Nat → Prop} {p : Nat} {l : List Pkt} (h : Own w0 w X p l) : Moved (fun _ => False) w0 w := by
  obtain ⟨F, _, _, _, hm⟩ := h; exact hm
/-- A step's outcome. -/
def Goes (w0 w : World) (X : Nat → Prop) (p : Nat) (v : Value) (l : List Pkt) (e : Ending) (w' : World) : Prop := e = .returned v ∧ Own w0 w' X p l ∧ Keeps X w w'
theorem post_own {w0 w : World} {X : Nat → Prop} {p : Nat} {l : List Pkt} (h : Own w0 w X p l) (q : Pkt) : Calls Try.prog 9 #[.pointer (some ⟨p, 0, none⟩), q.val] w (Goes w0 w X p (.int .i64 (postE l q)) (postL l q)) := by
  obtain ⟨F, hN, hF, hX, hm⟩ := h
  refine (post_any hN q).mono ?_
  rintro e w' ⟨rfl, hd⟩
  exact ⟨rfl, Own.did hF hX hm hd⟩
theorem take_own {w0 w : World} {X : Nat → Prop} {p : Nat} {l : List Pkt} (h : Own w0 w X p l) (i : Int) : Calls Try.prog 11 #[.pointer (some ⟨p, 0, none⟩), .int .i64 i] w (Goes w0 w X p (.tuple #[(takeP l i).val, .int .i64 (takeE l i)]) (takeL l i)) := by
  obtain ⟨F, hN, hF, hX, hm⟩ := h
  refine (take_any hN i).mono ?_
  rintro e w' ⟨rfl, hd⟩
  exact ⟨rfl, Own.did hF hX hm hd⟩
theorem lose_own {w0 w : World} {X : Nat → Prop} {p : Nat} {l : List Pkt} (h : Own w0 w X p l) (i : Int) : Calls Try.prog 13 #[.pointer (some ⟨p, 0, none⟩), .int .i64 i] w (Goes w0 w X p (.int .i64 (takeE l i)) (takeL l i)) := by
  obtain ⟨F, hN, hF, hX, hm⟩ := h
  refine (lose_any hN i).mono ?_
  rintro e w' ⟨rfl, hd⟩
  exact ⟨rfl, Own.did hF hX hm hd⟩
theorem dup_own {w0 w : World} {X : Nat → Prop} {p : Nat} {l : List Pkt} (h : Own w0 w X p l) (i : Int) : Calls Try.prog 10 #[.pointer (some ⟨p, 0, none⟩), .int .i64 i] w (Goes w0 w X p (.int .i64 (dupE l i)) (dupL l i)) := by
  obtain ⟨F, hN, hF, hX, hm⟩ := h
  refine (dup_any hN i).mono ?_
  rintro e w' ⟨rfl, hd⟩
  exact ⟨rfl, Own.did hF hX hm hd⟩
theorem len_own {w0 w : World} {X : Nat → Prop} {p : Nat} {l : List Pkt} (h : Own w0 w X p l) : Calls Try.prog 12 #[.pointer (some ⟨p, 0, none⟩)] w fun e w' => e = .returned (.int .i64 (l.length : Int)) ∧ w' = w := by
  obtain ⟨F, hN, hF, hX, hm⟩ := h
  exact len_any hN
/-- All, whose row is new: its block may be held. -/
theorem all_own {w0 w : World} {X : Nat → Prop} {p : Nat} {l : List Pkt} (h : Own w0 w X p l) : Calls Try.prog 16 #[.pointer (some ⟨p, 0, none⟩)] w fun e w' => ∃ a c, e = .returned (.slice a l.length c) ∧ Row w' a c l ∧ Keeps X w w' ∧ Own w0 w' (fun k => X k ∨ ∃ x, a = some x ∧ k = x.block) p l := by
  have h' := h
  obtain ⟨F, hN, hF, hX, hm⟩ := h
  refine (all_any hN).mono ?_
  rintro e w' ⟨a, c, rfl, hr, hb, hfr⟩
  have hk := (h'.below hb).2
  refine ⟨a, c, rfl, hr, hk, h'.beside (Moved.of_below (F := fun _ => False) hb) (fun _ f => f.elim) fun k hk' => ?_⟩
  rcases hk' with h1 | ⟨x, e, rfl⟩
  · exact ⟨.inl h1, Nat.lt_of_lt_of_le (hX k h1) hb.size⟩
  · exact ⟨.inr (hfr x e), hr.lt x e⟩
theorem new_own {w0 w : World} (hm : Moved (fun _ => False) w0 w) (X : Nat → Prop) (hX : ∀ k, X k → k < w.heap.size) : Calls Try.prog 8 #[] w fun e w' => ∃ p, e = .returned (.pointer (some ⟨p, 0, none⟩)) ∧ Own w0 w' X p [] ∧ Keeps X w w' := by
  refine (new_any w).mono ?_
  rintro e w' ⟨rfl, hb, F, hN, hF⟩
  refine ⟨_, rfl, ⟨F, hN, fun k hk => ⟨Nat.le_trans hm.size (hF k hk), fun hx => by have := hX k hx; have := hF k hk; omega⟩, fun k hk => Nat.lt_of_lt_of_le (hX k hk) hb.size, hm.trans (Moved.of_below (F := fun _ => False) hb) fun _ f => f.elim⟩, hb.size, fun k hk => hb.block k (hX k hk)⟩

/-- A packet that lies in a block. -/
structure PkAt (w : World) (b : Nat) (q : Pkt) : Prop where
  c0 : w.cell? ⟨b, 0, none⟩ = some (.int .i64 q.f)
  c1 : w.cell? ⟨b, 1, none⟩ = some (.int .i64 q.t)
  c2 : w.cell? ⟨b, 2, none⟩ = some (.string q.d)
theorem PkAt.new (w : World) (f t : Int) (d : ByteArray) : PkAt (w.alloc (.cells #[.int .i64 f, .int .i64 t, .string d] 25)) w.heap.size ⟨f, t, d⟩ := ⟨by simp, by simp, by simp⟩
theorem PkAt.keep {X : Nat → Prop} {w w' : World} {b : Nat} {q : Pkt} (h : PkAt w b q) (k : Keeps X w w') (hb : X b) : PkAt w' b q := ⟨(k.cell hb).trans h.c0, (k.cell hb).trans h.c1, (k.cell hb).trans h.c2⟩
theorem PkAt.lt {w : World} {b : Nat} {q : Pkt} (h : PkAt w b q) : b < w.heap.size := World.block_lt_of_cell? _ _ h.c0
theorem PkAt.alloc {w : World} {b : Nat} {q : Pkt} (h : PkAt w b q) (o : Obj) : PkAt (w.alloc o) b q :=
  ⟨(World.cell?_alloc_lt _ _ ⟨b, 0, none⟩ h.lt).trans h.c0, (World.cell?_alloc_lt _ _ ⟨b, 1, none⟩ h.lt).trans h.c1, (World.cell?_alloc_lt _ _ ⟨b, 2, none⟩ h.lt).trans h.c2⟩
theorem Own.held {w0 w : World} {L : List Nat} {p : Nat} {l : List Pkt} (h : Own w0 w (· ∈ L) p l) (o : Obj) : Own w0 (w.alloc o) (· ∈ w.heap.size :: L) p l :=
  (h.alloc o).mono fun _ hk => (List.mem_cons.1 hk).elim .inr .inl

def qa : Pkt := ⟨0, 8, ⟨#[97]⟩⟩
set_option maxHeartbeats 2000000 in
theorem awake_any (w : World) : Calls Try.prog 14 #[] w fun e w' => e = .returned (.bool true) ∧ Below w.heap.size w w' := by
  have e1 : postE [] qa = 0 ∧ postL [] qa = [qa] := by decide
  have e2 : dupE [qa] 0 = 0 ∧ dupL [qa] 0 = [qa, qa] := by decide
  have e3 : takeP [qa, qa] 1 = qa ∧ takeE [qa, qa] 1 = 0 ∧ takeL [qa, qa] 1 = [qa] := by decide
  have e4 : takeP [qa] 0 = qa ∧ takeE [qa] 0 = 0 ∧ takeL [qa] 0 = [] := by decide
  have E1 := hide e1
  have E2 := hide e2
  have E3 := hide e3
  have E4 := hide e4
  clear e1 e2 e3 e4
  go_enter Try.func14, Try.ntmps14
  go_wp2_with fail
  refine (new_own (w0 := w) (Moved.refl _ _) (fun _ => False) (fun _ f => f.elim)).mono ?_
  rintro e w1 ⟨p, rfl, o1, _⟩
  have O1 := hide o1
  clear o1
  go_wp2_with fail
  refine (post_own (unhide O1) qa).mono ?_
  rw [(unhide E1).1, (unhide E1).2]
  rintro e w2 ⟨rfl, o2, _⟩
  have O2 := hide o2
  clear o2
  go_wp2_with fail
  refine (dup_own (unhide O2) 0).mono ?_
  rw [(unhide E2).1, (unhide E2).2]
  rintro e w3 ⟨rfl, o3, _⟩
  have O3 := hide o3
  clear o3
  go_wp2_with fail
  refine (take_own (unhide O3) 1).mono ?_
  rw [(unhide E3).1, (unhide E3).2.1, (unhide E3).2.2]
  rintro e w4 ⟨rfl, o4, _⟩
  have O4 := hide (o4.alloc (.cells #[.int .i64 0, .int .i64 8, .string ⟨#[97]⟩] 25))
  clear o4
  unfold qa Pkt.val
  dsimp only
  go_wp2_with fail
  refine (take_own (unhide O4) 0).mono ?_
  rw [(unhide E4).1, (unhide E4).2.1, (unhide E4).2.2]
  rintro e w5 ⟨rfl, o5, k5⟩
  have c0 := k5.cell (b := w4.heap.size) (o := 0) (.inr rfl)
  have c1 := k5.cell (b := w4.heap.size) (o := 1) (.inr rfl)
  have c2 := k5.cell (b := w4.heap.size) (o := 2) (.inr rfl)
  have hs5 := k5.1
  simp at c0 c1 c2 hs5
  have hs5' : w4.heap.size < w5.heap.size := hs5
  have O5 := hide (o5.alloc (.cells #[.int .i64 0, .int .i64 8, .string ⟨#[97]⟩] 25))
  clear o5 k5
  unfold qa Pkt.val
  dsimp only
  go_wp2_with fail
  refine (len_own (unhide O5)).mono ?_
  rintro e w6 ⟨rfl, rfl⟩
  go_wp2_with fail
  go_ret
  exact ⟨rfl, (unhide O5).base.below (fun _ f => f.elim) (Nat.le_refl _)⟩
end Go.Proofs.Ytceepejndomfaaa

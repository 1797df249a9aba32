/- What a net's calls do. No conditions. -/
import Derived.Test.YtceepejndomfaaaRoom
import Derived.Test.YtceepejndomfaaaDelete
namespace Go.Proofs.Ytceepejndomfaaa
open Go.RowKit

/-- Block p holds a net on which l are on their way. -/
structure NetAt (w : World) (p : Nat) (a : Option Addr) (c : Nat) (l : List Pkt) (ch : Nat → Option Nat) : Prop where
  way : w.cell? ⟨p, 0, none⟩ = some (.slice a l.length c)
  free : w.frozen? ⟨p, 0, none⟩ = false
  row : Row w a c l
  off : ∀ x, a = some x → x.block ≠ p
  room : RoomAt w p ch (fun i => cnt i l)
  good : ∀ q ∈ l, q.ok
  most : ∀ i, cnt i l ≤ 64
def nfoot (p : Nat) (a : Option Addr) (ch : Nat → Option Nat) (k : Nat) : Prop := rfoot p ch k ∨ ∃ x, a = some x ∧ k = x.block
theorem NetAt.lt {w : World} {p : Nat} {a : Option Addr} {c : Nat} {l : List Pkt} {ch : Nat → Option Nat} (h : NetAt w p a c l ch) : ∀ k, nfoot p a ch k → k < w.heap.size := by
  rintro k (f | ⟨x, e, rfl⟩)
  · exact h.room.lt k f
  · exact h.row.lt x e
theorem NetAt.len {w : World} {p : Nat} {a : Option Addr} {c : Nat} {l : List Pkt} {ch : Nat → Option Nat} (h : NetAt w p a c l ch) : l.length ≤ 5184 := len_le l h.good h.most
theorem NetAt.keep {F : Nat → Prop} {w w' : World} {p : Nat} {a : Option Addr} {c : Nat} {l : List Pkt} {ch : Nat → Option Nat} (h : NetAt w p a c l ch) (m : Moved F w w') (hF : ∀ k, F k → ¬ nfoot p a ch k) : NetAt w' p a c l ch :=
  have hp : p < w.heap.size := h.lt p (.inl (.inl rfl))
  have hn : ¬ F p := fun f => hF p f (.inl (.inl rfl))
  ⟨(m.cell (p := ⟨p, 0, none⟩) hp hn).trans h.way, (m.frozen (p := ⟨p, 0, none⟩) hp hn).trans h.free, h.row.keep m fun x e f => hF _ f (.inr ⟨x, e, rfl⟩), h.off, h.room.keep m fun k f r => hF k f (.inl r), h.good, h.most⟩
/-- A net at p, of the blocks F, with l on their way. -/
def NetIs (w : World) (p : Nat) (F : Nat → Prop) (l : List Pkt) : Prop := ∃ a c ch, NetAt w p a c l ch ∧ F = nfoot p a ch
theorem NetIs.lt {w : World} {p : Nat} {F : Nat → Prop} {l : List Pkt} (h : NetIs w p F l) : ∀ k, F k → k < w.heap.size := by
  obtain ⟨a, c, ch, h, rfl⟩ := h; exact h.lt
theorem NetIs.len {w : World} {p : Nat} {F : Nat → Prop} {l : List Pkt} (h : NetIs w p F l) : l.length ≤ 5184 := by
  obtain ⟨a, c, ch, h, rfl⟩ := h; exact h.len
theorem NetIs.keep {G F : Nat → Prop} {w w' : World} {p : Nat} {l : List Pkt} (h : NetIs w p F l) (m : Moved G w w') (hF : ∀ k, G k → ¬ F k) : NetIs w' p F l := by
  obtain ⟨a, c, ch, h, rfl⟩ := h; exact ⟨a, c, ch, h.keep m hF, rfl⟩
theorem NetIs.good {w : World} {p : Nat} {F : Nat → Prop} {l : List Pkt} (h : NetIs w p F l) : (∀ q ∈ l, q.ok) ∧ ∀ i, cnt i l ≤ 64 := by
  obtain ⟨a, c, ch, h, rfl⟩ := h; exact ⟨h.good, h.most⟩
/-- A step of a net. -/
def Did (w w' : World) (p : Nat) (F : Nat → Prop) (l : List Pkt) : Prop := ∃ F', NetIs w' p F' l ∧ (∀ k, F' k → F k ∨ w.heap.size ≤ k) ∧ Moved F w w'
theorem Did.start {w w' : World} {p : Nat} {F : Nat → Prop} {l : List Pkt} (h : NetIs w p F l) (m : Moved (fun _ => False) w w') : Did w w' p F l :=
  ⟨F, h.keep m fun _ f => f.elim, fun _ f => .inl f, m.mono fun _ f => f.elim⟩
theorem Did.trans {w w1 w2 : World} {p : Nat} {F F1 : Nat → Prop} {l : List Pkt} (hf : ∀ k, F1 k → F k ∨ w.heap.size ≤ k) (m : Moved F w w1) (h : Did w1 w2 p F1 l) : Did w w2 p F l := by
  obtain ⟨F2, h2, f2, m2⟩ := h
  refine ⟨F2, h2, fun k hk => ?_, m.trans m2 hf⟩
  rcases f2 k hk with h' | h'
  · exact hf k h'
  · exact .inr (Nat.le_trans m.size h')

theorem results2_mid {P : Program} {fn : Func} {p q : Tmp} {ty : TypeId} (h : fn.results = #[.cell p ty, .tmp q]) (tmps : Array Value) (w : World) (g : Nat) (cs : List Value) (v : Value) (d : TypeDesc)
    (hp : tmps.getD p undef = .pointer (some ⟨g, 0, none⟩)) (hq : tmps.getD q undef = v) (hc : w.rangeAt g 0 cs) (hu : P.underlying ty = some d) (hd : d.isRow = true) (hi : (P.info? ty).map (·.size) = some cs.length) :
    (results fn tmps).run P w = .ok (.tuple #[.agg cs.toArray, v]) w := by
  have hp' : tmps[p]?.getD undef = .pointer (some ⟨g, 0, none⟩) := by simpa using hp
  have hq' : tmps[q]?.getD undef = v := by simpa using hq
  simp [results, h, hp', hq', asAddr, run_loadVar_mid w g 0 ty cs d hc hu hd hi]

theorem find_nil (i : Int) (w : World) : Calls Try.prog 23 #[.pointer none, .int .i64 i] w fun e w' => e = .returned (.tuple #[Pkt.zero.val, .int .i64 2]) ∧ Below w.heap.size w w' := by
  go_enter Try.func23, Try.ntmps23
  go_wp2
  exact bodyPost_ret (v := .tuple #[Pkt.zero.val, .int .i64 2]) (by simp [results, Try.results23, go_sem, Pkt.val, Pkt.zero]) rfl ⟨rfl, (Below.refl _ _).alloc (Nat.le_refl _) _⟩
theorem find_none {w : World} {p : Nat} {a : Option Addr} {c : Nat} {l : List Pkt} {ch : Nat → Option Nat} (h : NetAt w p a c l ch) (i : Int) (hi : ¬ (0 ≤ i ∧ i < l.length)) :
    Calls Try.prog 23 #[.pointer (some ⟨p, 0, none⟩), .int .i64 i] w fun e w' => e = .returned (.tuple #[Pkt.zero.val, .int .i64 4]) ∧ Below w.heap.size w w' := by
  have hw := h.way
  have hp : p < w.heap.size := h.lt p (.inl (.inl rfl))
  have hl := h.len
  clear h
  by_cases h0 : i < 0
  · go_enter Try.func23, Try.ntmps23
    go_wp2
    exact bodyPost_ret (v := .tuple #[Pkt.zero.val, .int .i64 4]) (by simp [results, Try.results23, go_sem, Pkt.val, Pkt.zero]) rfl ⟨rfl, (Below.refl _ _).alloc (Nat.le_refl _) _⟩
  · have h1 : (l.length : Int) ≤ i := by omega
    go_enter Try.func23, Try.ntmps23
    go_wp2
    exact bodyPost_ret (v := .tuple #[Pkt.zero.val, .int .i64 4]) (by simp [results, Try.results23, go_sem, Pkt.val, Pkt.zero]) rfl ⟨rfl, (Below.refl _ _).alloc (Nat.le_refl _) _⟩
/-- A packet's cells in a row. -/
theorem Row.at {w : World} {g c : Nat} {l : List Pkt} (h : Row w (some ⟨g, 0, none⟩) c l) (i : Nat) (hi : i < l.length) :
    w.cell? ⟨g, i * 3, none⟩ = some (.int .i64 (l.getD i Pkt.zero).f) ∧ w.cell? ⟨g, i * 3 + 1, none⟩ = some (.int .i64 (l.getD i Pkt.zero).t) ∧ w.cell? ⟨g, i * 3 + 2, none⟩ = some (.string (l.getD i Pkt.zero).d) := by
  have key : ∀ j u, j < 3 → (l.getD i Pkt.zero).cells[j]? = some u → w.cell? ⟨g, i * 3 + j, none⟩ = some u := fun j u hj hu => by
    have := h.cells (g := g) rfl (i * 3 + j) u ((pcells_at l i hi j hj).trans hu)
    rwa [Addr.add_lit, Nat.zero_add] at this
  exact ⟨key 0 _ (by decide) rfl, key 1 _ (by decide) rfl, key 2 _ (by decide) rfl⟩
set_option maxHeartbeats 1000000 in
theorem find_some {w : World} {p : Nat} {a : Option Addr} {c : Nat} {l : List Pkt} {ch : Nat → Option Nat} (h : NetAt w p a c l ch) (i : Nat) (hi : i < l.length) :
    Calls Try.prog 23 #[.pointer (some ⟨p, 0, none⟩), .int .i64 (i : Int)] w fun e w' => e = .returned (.tuple #[(l.getD i Pkt.zero).val, .int .i64 0]) ∧ Below w.heap.size w w' := by
  have hw := h.way
  have hp : p < w.heap.size := h.lt p (.inl (.inl rfl))
  have hl := h.len
  rcases h.row.form with ⟨_, _, rfl⟩ | ⟨g, rfl, hlt, _⟩
  · simp at hi
  · obtain ⟨c0, c1, c2⟩ := h.row.at i hi
    clear h
    unfold Pkt.val
    generalize l.getD i Pkt.zero = q at *
    go_enter Try.func23, Try.ntmps23
    go_wp2
    exact bodyPost_ret (v := .tuple #[.agg #[.int .i64 q.f, .int .i64 q.t, .string q.d], .int .i64 0]) (by simp [results, Try.results23, go_sem]) rfl ⟨rfl, (Below.refl _ _).alloc (Nat.le_refl _) _⟩
theorem len_nil (w : World) : Calls Try.prog 12 #[.pointer none] w fun e w' => e = .returned (.int .i64 0) ∧ w' = w := by
  go_enter Try.func12, Try.ntmps12
  go_wp2
  go_ret
  exact ⟨rfl, rfl⟩
theorem len_any {w : World} {p : Nat} {F : Nat → Prop} {l : List Pkt} (h : NetIs w p F l) : Calls Try.prog 12 #[.pointer (some ⟨p, 0, none⟩)] w fun e w' => e = .returned (.int .i64 (l.length : Int)) ∧ w' = w := by
  obtain ⟨a, c, ch, h, rfl⟩ := h
  have hw := h.way
  clear h
  go_enter Try.func12, Try.ntmps12
  go_wp2
  go_ret
  exact ⟨rfl, rfl⟩
theorem all_nil (w : World) : Calls Try.prog 16 #[.pointer none] w fun e w' => e = .returned (.slice none 0 0) ∧ w' = w := by
  go_enter Try.func16, Try.ntmps16
  go_wp2
  go_ret
  exact ⟨rfl, rfl⟩
theorem all_any {w : World} {p : Nat} {F : Nat → Prop} {l : List Pkt} (h : NetIs w p F l) : Calls Try.prog 16 #[.pointer (some ⟨p, 0, none⟩)] w fun e w' => ∃ a c, e = .returned (.slice a l.length c) ∧ Row w' a c l ∧ Below w.heap.size w w' ∧ ∀ x, a = some x → w.heap.size ≤ x.block := by
  obtain ⟨a, c, ch, h, rfl⟩ := h
  have hw := h.way
  have hr := hide h.row
  have hl := h.len
  clear h
  go_enter Try.func16, Try.ntmps16
  go_wp2_with fail
  refine (clone_any (unhide hr) (by omega)).mono ?_
  rintro e w' ⟨a', c', rfl, h1⟩
  have H1 := hide h1
  clear h1
  go_wp2_with fail
  go_ret
  exact ⟨a', c', rfl, unhide H1⟩
/-- The cells of a net without packets. -/
def net0 : Array Value := #[.slice none 0 0] ++ Array.replicate 81 (.chan none)
theorem zero51 (w : World) : (zeroValue 51).run Try.prog w = .ok (.agg net0) w := by
  have h : (Try.prog.info? 51).map (fun i => (i.zero, i.size)) = some (some (.agg net0), 82) := by kernel_rfl
  obtain ⟨i, hi, he⟩ := Option.map_eq_some_iff.1 h
  simp only [Prod.mk.injEq] at he
  simp [zeroValue, typeInfo, hi, he.1]
theorem net0_at (i : Nat) (h : i < 81) : net0[1 + i]? = some (.chan none) := by
  unfold net0
  rw [Array.getElem?_append_right (by simp)]
  simp [h]
theorem net_new (w : World) : NetIs (w.alloc (.cells net0 51)) w.heap.size (nfoot w.heap.size none (fun _ => none)) [] := by
  refine ⟨none, 0, fun _ => none, ⟨?_, ?_, row_nil _, fun x e => (by cases e), ⟨fun i hi => ?_, fun i hi => ?_, fun i k hi e => (by cases e), fun i hi _ => rfl, fun i j k _ _ e => (by cases e)⟩, fun q hq => (by simp at hq), fun i => by simp [cnt]⟩, rfl⟩
  · rw [World.cell?_alloc_new]; rfl
  · exact World.frozen?_alloc_new w _ _ _
  · rw [World.cell?_alloc_new]; exact net0_at i hi
  · exact World.frozen?_alloc_new w _ _ _
theorem new_any (w : World) : Calls Try.prog 8 #[] w fun e w' => e = .returned (.pointer (some ⟨w.heap.size, 0, none⟩)) ∧ Below w.heap.size w w' ∧ ∃ F, NetIs w' w.heap.size F [] ∧ ∀ k, F k → w.heap.size ≤ k := by
  have hz := zero51
  have H := hide (net_new w)
  generalize net0 = cs at *
  go_enter Try.func8, Try.ntmps8
  go_wp2
  go_ret
  refine ⟨rfl, (Below.refl _ _).alloc (Nat.le_refl _) _, _, unhide H, ?_⟩
  rintro k ((e | ⟨i, _, e⟩) | ⟨x, e, _⟩)
  · omega
  · cases e
  · cases e

/-- What Post answers, and what is on its way then. -/
def postE (l : List Pkt) (q : Pkt) : Int := if ¬ q.ok then 1 else if 64 ≤ cnt q.link l then 6 else 0
def postL (l : List Pkt) (q : Pkt) : List Pkt := if q.ok ∧ cnt q.link l < 64 then l ++ [q] else l
theorem post_nil (v0 v1 v2 : Value) (w : World) : Calls Try.prog 9 #[.pointer none, .agg #[v0, v1, v2]] w fun e w' => e = .returned (.int .i64 2) ∧ Below w.heap.size w w' := by
  go_enter Try.func9, Try.ntmps9
  go_wp2
  go_ret
  exact ⟨rfl, (Below.refl _ _).alloc (Nat.le_refl _) _⟩
theorem post_arg {w : World} {p : Nat} (q : Pkt) (hq : ¬ q.ok) :
    Calls Try.prog 9 #[.pointer (some ⟨p, 0, none⟩), q.val] w fun e w' => e = .returned (.int .i64 1) ∧ Below w.heap.size w w' := by
  unfold Pkt.ok at hq
  unfold Pkt.val
  generalize q.f = f at *
  generalize q.t = t at *
  by_cases h0 : 0 ≤ f ∧ f < 9
  · have h1 : ¬ (0 ≤ t ∧ t < 9) := by omega
    have H0 := hide h0
    have H1 := hide h1
    clear h0 h1 hq
    go_enter Try.func9, Try.ntmps9
    go_wp2_with fail
    refine (isPlace_yes f _ (unhide H0)).mono ?_
    rintro e w' ⟨rfl, rfl⟩
    go_wp2_with fail
    refine (isPlace_no t _ (unhide H1)).mono ?_
    rintro e w' ⟨rfl, rfl⟩
    go_wp2_with fail
    go_ret
    exact ⟨rfl, (Below.refl _ _).alloc (Nat.le_refl _) _⟩
  · have H0 := hide h0
    clear h0 hq
    go_enter Try.func9, Try.ntmps9
    go_wp2_with fail
    refine (isPlace_no f _ (unhide H0)).mono ?_
    rintro e w' ⟨rfl, rfl⟩
    go_wp2_with fail
    go_ret
    exact ⟨rfl, (Below.refl _ _).alloc (Nat.le_refl _) _⟩
theorem lies_one (w : World) (f t : Int) (d : ByteArray) : Lies (w.alloc (.cells #[.int .i64 f, .int .i64 t, .string d] 25)) (some ⟨w.heap.size, 0, none⟩) [⟨f, t, d⟩] := by
  refine ⟨fun e => (by cases e), fun x e j u hu => ?_⟩
  cases e
  rw [pcells_one] at hu
  rw [Addr.add_lit, Nat.zero_add, World.cell?_alloc_new, ← hu]
  simp [Pkt.cells]
theorem RoomAt.no_row {w : World} {p : Nat} {ch : Nat → Option Nat} {n : Nat → Nat} (h : RoomAt w p ch n) {a : Option Addr} {c : Nat} {l : List Pkt} (hr : Row w a c l) (hoff : ∀ x, a = some x → x.block ≠ p) : ∀ x, a = some x → ¬ rfoot p ch x.block := by
  rintro x e (f | ⟨i, hi, f⟩)
  · exact hoff x e f
  · obtain ⟨buf, s, r, hk, _⟩ := h.chan i _ hi f
    rcases hr.form with ⟨e', _⟩ | ⟨g, e', _, _, _, cur, hg, _⟩
    · rw [e] at e'; cases e'
    · rw [e] at e'; cases e'; rw [hk] at hg; cases hg

theorem after_app {w1 W w2 : World} {a : Option Addr} {n c p : Nat} {v : Value} (hW : Moved (fun _ => False) w1 W) (hg : W.grownBy w2 (Value.slice a n c).ownBlock) (hoff : ∀ x, a = some x → x.block ≠ p) (hp : p < w1.heap.size)
    (hc : w1.cell? ⟨p, 0, none⟩ = some v) (hf : w1.frozen? ⟨p, 0, none⟩ = false) : w2.cell? ⟨p, 0, none⟩ = some v ∧ w2.frozen? ⟨p, 0, none⟩ = false ∧ Moved (fun k => ∃ x, a = some x ∧ k = x.block) w1 w2 := by
  have m : Moved (fun k => ∃ x, a = some x ∧ k = x.block) w1 w2 := (hW.mono (G := fun k => ∃ x, a = some x ∧ k = x.block) fun _ f => f.elim).grown hg fun k hk => by
    cases a with
    | none => simp [Value.ownBlock] at hk
    | some x => simp [Value.ownBlock] at hk; exact .inl ⟨x, rfl, hk.symm⟩
  have hn : ¬ ∃ x, a = some x ∧ p = x.block := fun ⟨x, e, e'⟩ => hoff x e e'.symm
  exact ⟨(m.cell (p := ⟨p, 0, none⟩) hp hn).trans hc, (m.frozen (p := ⟨p, 0, none⟩) hp hn).trans hf, m⟩
theorem RoomAt.way {w : World} {p : Nat} {ch : Nat → Option Nat} {n : Nat → Nat} (h : RoomAt w p ch n) (v : Value) : RoomAt (w.setCell ⟨p, 0, none⟩ v) p ch n := by
  have m : Moved (fun j => j = p) w (w.setCell ⟨p, 0, none⟩ v) := Moved.put w p 0 v
  refine ⟨fun i hi => ?_, fun i hi => ?_, fun i k hi e => ?_, h.none_, h.inj⟩
  · rw [World.cell?_setCell_other (h := fun he => by have h' := congrArg Addr.off he; dsimp only at h'; omega)]; exact h.cell i hi
  · rw [World.frozen?_setCell]; exact h.free i hi
  · obtain ⟨buf, s, r, hk, hs⟩ := h.chan i k hi e
    exact ⟨buf, s, r, (m.block k (lt_of_heap hk) (cell_no_chan (h.cell 0 (by omega)) hk)).trans hk, hs⟩
theorem NetAt.build {w : World} {p : Nat} {a : Option Addr} {c : Nat} {l : List Pkt} {ch : Nat → Option Nat} {n : Nat → Nat} {v : Value} (hr : RoomAt w p ch n) (hn : ∀ i, n i = cnt i l) (hrow : Row w a c l) (hoff : ∀ x, a = some x → x.block ≠ p)
    (hc : w.cell? ⟨p, 0, none⟩ = some v) (hf : w.frozen? ⟨p, 0, none⟩ = false) (hg : ∀ q ∈ l, q.ok) (hm : ∀ i, cnt i l ≤ 64) : NetAt (w.setCell ⟨p, 0, none⟩ (.slice a l.length c)) p a c l ch := by
  have e : n = fun i => cnt i l := funext hn
  subst e
  exact ⟨World.cell?_setCell_same _ _ _ hc, by rw [World.frozen?_setCell]; exact hf, hrow.keep (Moved.put w p 0 _) hoff, hoff, hr.way _, hg, hm⟩

theorem post_done {w w0 w1 w2 : World} {p : Nat} {a a' : Option Addr} {c c' : Nat} {l : List Pkt} {ch ch' : Nat → Option Nat} {q : Pkt} (h0 : NetAt w0 p a c l ch) (m0 : Moved (fun _ => False) w w0) (m1 : Moved (rfoot p ch) w0 w1) (hroom : RoomAt w1 p ch' (up (fun i => cnt i l) q.link))
    (hch : ∀ j k, j < 81 → ch' j = some k → ch j = some k ∨ w0.heap.size ≤ k) (hrow : Row w1 a c l) (m2 : Moved (fun k => ∃ x, a = some x ∧ k = x.block) w1 w2) (hr2 : Row w2 a' c' (l ++ [q])) (hf2 : ∀ x, a' = some x → a = some x ∨ w1.heap.size ≤ x.block) {v : Value}
    (hc2 : w2.cell? ⟨p, 0, none⟩ = some v) (hfz2 : w2.frozen? ⟨p, 0, none⟩ = false) (hq : q.ok) (hlt : cnt q.link l < 64) :
    Did w (w2.setCell ⟨p, 0, none⟩ (.slice a' (l.length + 1) c')) p (nfoot p a ch) (l ++ [q]) := by
  have hp0 : p < w0.heap.size := h0.lt p (.inl (.inl rfl))
  have hs1 := m1.size
  have hs0 := m0.size
  have hoff' : ∀ x, a' = some x → x.block ≠ p := fun x hx => by
    rcases hf2 x hx with e | e
    · exact h0.off x e
    · omega
  have hnr1 := hroom.no_row hrow h0.off
  have hroom2 : RoomAt w2 p ch' (up (fun i => cnt i l) q.link) := hroom.keep m2 fun k ⟨x, e, e'⟩ r => hnr1 x e (e' ▸ r)
  have hcnt : ∀ i, cnt i (l ++ [q]) = up (fun i => cnt i l) q.link i := fun i => by
    rw [cnt_append, cnt_one]
    unfold up
    by_cases e : q.link = i
    · rw [if_pos e, if_pos e.symm]
    · rw [if_neg e, if_neg (Ne.symm e)]; rfl
  have hN := NetAt.build hroom2 (fun i => (hcnt i).symm) hr2 hoff' hc2 hfz2 (fun x hx => by
    rcases List.mem_append.1 hx with e | e
    · exact h0.good x e
    · rw [List.mem_singleton.1 e]; exact hq) (fun i => by
    rw [hcnt]; unfold up; split
    · rename_i e; rw [e]; show cnt q.link l + 1 ≤ 64; omega
    · exact h0.most i)
  rw [show (l ++ [q]).length = l.length + 1 by simp] at hN
  refine ⟨nfoot p a' ch', ⟨a', c', ch', hN, rfl⟩, ?_, ?_⟩
  · rintro k ((rfl | ⟨i, hi, e⟩) | ⟨x, e, rfl⟩)
    · exact .inl (.inl (.inl rfl))
    · rcases hch i k hi e with e' | e'
      · exact .inl (.inl (.inr ⟨i, hi, e'⟩))
      · exact .inr (by omega)
    · rcases hf2 x e with e' | e'
      · exact .inl (.inr ⟨x, e', rfl⟩)
      · exact .inr (by omega)
  · have A : Moved (nfoot p a ch) w w1 := (m0.mono (G := nfoot p a ch) fun _ f => f.elim).trans m1 fun k r => .inl (.inl r)
    have B : Moved (nfoot p a ch) w w2 := A.trans m2 fun k r => .inl (.inr r)
    exact B.setCell (p := ⟨p, 0, none⟩) (.inl (.inl (.inl rfl))) _

set_option maxHeartbeats 2000000 in
theorem post_ok {w : World} {p : Nat} {a : Option Addr} {c : Nat} {l : List Pkt} {ch : Nat → Option Nat} (h : NetAt w p a c l ch) (q : Pkt) (hq : q.ok) :
    Calls Try.prog 9 #[.pointer (some ⟨p, 0, none⟩), q.val] w fun e w' => e = .returned (.int .i64 (postE l q)) ∧ Did w w' p (nfoot p a ch) (postL l q) := by
  have hq' := hq
  unfold Pkt.ok at hq'
  obtain ⟨f, hf⟩ : ∃ f : Nat, q.f = f := ⟨q.f.toNat, by omega⟩
  obtain ⟨t, ht⟩ : ∃ t : Nat, q.t = t := ⟨q.t.toNat, by omega⟩
  have hlink : q.link = f * 9 + t := by unfold Pkt.link; omega
  have hv : q.val = .agg #[.int .i64 (f : Int), .int .i64 (t : Int), .string q.d] := by unfold Pkt.val; rw [hf, ht]
  have hp : p < w.heap.size := h.lt p (.inl (.inl rfl))
  rw [hv]
  have hf9 : f < 9 := by omega
  have ht9 : t < 9 := by omega
  have hl := h.len
  have hlt := hide h.lt
  obtain ⟨w0, hw0⟩ : ∃ w0, w0 = w.alloc (.cells #[.int .i64 (f : Int), .int .i64 (t : Int), .string q.d] 25) := ⟨_, rfl⟩
  have m0 : Moved (fun _ => False) w w0 := by rw [hw0]; exact (Moved.refl _ _).alloc _
  have h0 : NetAt w0 p a c l ch := h.keep m0 fun _ f => f.elim
  have b0 : w0.cell? ⟨w.heap.size, 0, none⟩ = some (.int .i64 (f : Int)) ∧ w0.cell? ⟨w.heap.size, 1, none⟩ = some (.int .i64 (t : Int)) ∧ w0.cell? ⟨w.heap.size, 2, none⟩ = some (.string q.d) := by rw [hw0]; simp
  have hs0 : w.heap.size < w0.heap.size := by rw [hw0]; simp
  have H0 := hide h0
  have M0 := hide m0
  have HW := hide hw0
  have Hlink := hide hlink
  have B0 := hide b0
  have HQ := hide (And.intro hf ht)
  have Hok := hide hq
  clear h h0 m0 hw0 hlink b0 hq hq' hv hf ht
  go_enter Try.func9, Try.ntmps9
  go_upto_region 5 with (go_at_call 21; refine (isPlace_yes _ _ (by omega)).mono ?_; rintro e w' ⟨rfl, rfl⟩)
  rw [← unhide HW]
  obtain ⟨k0, k1, k2⟩ := unhide B0
  have hsz := fun k (hk : nfoot p a ch k) => unhide hlt k hk
  go_wp2_with fail
  refine (enter_any (unhide H0).room f t hf9 ht9).mono ?_
  rintro e w1 (⟨hlt64, rfl, e0, ef0, m1, ch', hroom', hch⟩ | ⟨hge, rfl, rfl⟩)
  · have hway := (unhide H0).way
    have hfree := (unhide H0).free
    rw [← e0] at hway
    rw [← ef0] at hfree
    have hnr := (unhide H0).room.no_row (unhide H0).row (unhide H0).off
    have hrow1 : Row w1 a c l := (unhide H0).row.keep m1 hnr
    have hp1 : p < w1.heap.size := by have := m1.size; omega
    have hnB : ¬ rfoot p ch w.heap.size := fun r => by have := hsz _ (.inl r); omega
    have k0' := (m1.cell (p := ⟨w.heap.size, 0, none⟩) hs0 hnB).trans k0
    have k1' := (m1.cell (p := ⟨w.heap.size, 1, none⟩) hs0 hnB).trans k1
    have k2' := (m1.cell (p := ⟨w.heap.size, 2, none⟩) hs0 hnB).trans k2
    have hs1 : w.heap.size < w1.heap.size := by have := m1.size; omega
    have HROW := hide hrow1
    have HM1 := hide m1
    have HROOM := hide hroom'
    have HCH := hide hch
    have HNR := hide hnr
    clear hrow1 m1 hroom' hch hnr e0 ef0 k0 k1 k2 hnB
    go_wp2_with fail
    go_region_law (refine step_prow rfl (.tmp 28) (.tmp 30) rfl ((unhide HROW).keep (F := fun _ => False) (((Moved.refl _ _).drew).alloc _) (fun _ _ f => f)) (some ⟨w1.heap.size, 0, none⟩) 1 [⟨f, t, q.d⟩] (lies_one w1.drew f t q.d) (by simp only [List.length_cons, List.length_nil]; omega) (by simp [Act.eval]) (by simp [Act.eval]) ?_; intro a' c' w2 hr2 hf2 hg2; have ha := hide (after_app ((Moved.refl _ _).drew.alloc _) hg2 (unhide H0).off hp1 hway hfree); have hc2 := (unhide ha).1; have hfz2 := (unhide ha).2.1; have HR2 := hide hr2; have HF2 := hide hf2; clear hr2 hf2 hg2)
    all_goals
      go_wp2_with fail
      go_ret
      have hq := unhide Hok
      have hlk := unhide Hlink
      have eq : (⟨(f : Int), (t : Int), q.d⟩ : Pkt) = q := by
        obtain ⟨e1, e2⟩ := unhide HQ
        cases q; simp only [Pkt.mk.injEq] at e1 e2 ⊢; exact ⟨e1.symm, e2.symm, trivial⟩
      have hr2 := unhide HR2
      rw [eq] at hr2
      have eE : postE l q = 0 := by unfold postE; rw [if_neg (fun h => h hq), if_neg (by rw [hlk]; omega)]
      have eL : postL l q = l ++ [q] := by unfold postL; rw [if_pos ⟨hq, by rw [hlk]; exact hlt64⟩]
      rw [eE, eL]
      refine ⟨rfl, post_done (unhide H0) (unhide M0) (unhide HM1) (by rw [hlk]; exact unhide HROOM) (unhide HCH) (unhide HROW) (unhide ha).2.2 hr2 (fun x hx => ?_) hc2 hfz2 hq (by rw [hlk]; exact hlt64)⟩
      rcases unhide HF2 x hx with e | e
      · exact .inl e
      · have e' : w1.heap.size + 1 ≤ x.block := by simpa using e
        exact .inr (by omega)
  · go_wp2_with fail
    go_ret
    have hq := unhide Hok
    have hlk := unhide Hlink
    have eE : postE l q = 6 := by unfold postE; rw [if_neg (fun h => h hq), if_pos (by rw [hlk]; exact hge)]
    have eL : postL l q = l := by unfold postL; rw [if_neg (fun h => by have := h.2; rw [hlk] at this; omega)]
    rw [eE, eL]
    exact ⟨rfl, nfoot p a ch, ⟨a, c, ch, unhide H0, rfl⟩, fun k f => .inl f, (unhide M0).mono fun _ f => f.elim⟩
end Go.Proofs.Ytceepejndomfaaa

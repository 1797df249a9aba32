/- A slice of the statements' acts that came in: its cells, out of the row's reading; what is too great. No conditions. -/
import Derived.Test.YtceepejndomfaaaOwn
import Derived.ProofKit
import Derived.OpenShut
import Derived.Deep.Fields
namespace Go.Proofs.Ytceepejndomfaaa
open Go.RowKit Go.ChangeShapes Go.WideShapes

/-- An act's fields. -/
structure ActV where
  do_ : Int
  p : Pkt
  i : Int
  n : Nat
def i64In (x : Int) : Prop := -9223372036854775808 ≤ x ∧ x ≤ 9223372036854775807
structure ActV.Ok (p : ActV) : Prop where
  do_ : i64In p.do_
  f : i64In p.p.f
  t : i64In p.p.t
  d : p.p.d.size ≤ maxLen
  i : i64In p.i
  n : p.n < 256
def ActV.zero : ActV := ⟨0, Pkt.zero, 0, 0⟩
/-- Its cells at a place. -/
structure ActAt (w : World) (b o : Nat) (p : ActV) : Prop where
  c0 : w.cell? ⟨b, o, none⟩ = some (.int .i64 p.do_)
  c1 : w.cell? ⟨b, o + 1, none⟩ = some (.int .i64 p.p.f)
  c2 : w.cell? ⟨b, o + 2, none⟩ = some (.int .i64 p.p.t)
  c3 : w.cell? ⟨b, o + 3, none⟩ = some (.string p.p.d)
  c4 : w.cell? ⟨b, o + 4, none⟩ = some (.int .i64 p.i)
  c5 : w.cell? ⟨b, o + 5, none⟩ = some (.int .u8 (p.n : Int))
/-- A slice of acts. -/
structure IsActs (w : World) (a : Option Addr) (len cap : Nat) (z : List ActV) : Prop where
  size_ : z.length = len
  max : len ≤ maxLen
  at_ : ∀ k, k < len → ∃ b o, a = some ⟨b, o, none⟩ ∧ ActAt w b (o + k * 6) (z.getD k ActV.zero) ∧ (z.getD k ActV.zero).Ok ∧ b < w.heap.size

theorem cells40 : Try.prog.cellsOf 40 = 6 := by kernel_rfl
theorem cells25 : Try.prog.cellsOf 25 = 3 := by kernel_rfl
theorem cells3 : Try.prog.cellsOf 3 = 1 := by kernel_rfl
theorem cells9 : Try.prog.cellsOf 9 = 1 := by kernel_rfl
theorem cells5 : Try.prog.cellsOf 5 = 1 := by kernel_rfl
theorem pkt_of {H : Type} {enc : TypeId × Value → H} {w : World} {base : Nat} {spare : Nat → Bool} {held : Bool} {fuel : Nat} {cs : List Value} {x : DataW H × List MemPlace} (h : DataW.trod enc Try.prog w base spare held fuel 25 cs = some x) :
    ∃ q : Pkt, i64In q.f ∧ i64In q.t ∧ q.d.size ≤ maxLen ∧ cs = [.int .i64 q.f, .int .i64 q.t, .string q.d] := by
  obtain ⟨xs, n, rfl, rfl, hl, hxl, hf⟩ := DataW.trod_struct Try.underlying25 h
  rw [cells25] at hl
  match cs, hl, xs, hxl with
  | [v0, v1, v2], _, [y0, y1, y2], _ =>
    have g0 : DataW.trod enc Try.prog w base spare held n 3 (List.take (Try.prog.cellsOf 3) (List.drop 0 [v0, v1, v2])) = some y0 := hf 0 _ rfl
    rw [cells3] at g0
    have g1 : DataW.trod enc Try.prog w base spare held n 3 (List.take (Try.prog.cellsOf 3) (List.drop 1 [v0, v1, v2])) = some y1 := hf 1 _ rfl
    rw [cells3] at g1
    have g2 : DataW.trod enc Try.prog w base spare held n 9 (List.take (Try.prog.cellsOf 9) (List.drop 2 [v0, v1, v2])) = some y2 := hf 2 _ rfl
    rw [cells9] at g2
    obtain ⟨x0, e0, _, w0⟩ := DataW.trod_int Try.underlying3 (show DataW.trod enc Try.prog w base spare held n 3 [v0] = some y0 from g0)
    obtain ⟨x1, e1, _, w1⟩ := DataW.trod_int Try.underlying3 (show DataW.trod enc Try.prog w base spare held n 3 [v1] = some y1 from g1)
    obtain ⟨x2, e2, _, w2⟩ := DataW.trod_string Try.underlying9 (show DataW.trod enc Try.prog w base spare held n 9 [v2] = some y2 from g2)
    simp only [List.cons.injEq, and_true] at e0 e1 e2
    exact ⟨⟨x0, x1, x2⟩, bounds_i64 w0, bounds_i64 w1, w2, by rw [e0, e1, e2]⟩
theorem act_of {H : Type} {enc : TypeId × Value → H} {w : World} {base : Nat} {spare : Nat → Bool} {held : Bool} {fuel : Nat} {cs : List Value} {x : DataW H × List MemPlace} (h : DataW.trod enc Try.prog w base spare held fuel 40 cs = some x) :
    ∃ p : ActV, p.Ok ∧ cs = [.int .i64 p.do_, .int .i64 p.p.f, .int .i64 p.p.t, .string p.p.d, .int .i64 p.i, .int .u8 (p.n : Int)] := by
  obtain ⟨xs, n, rfl, rfl, hl, hxl, hf⟩ := DataW.trod_struct Try.underlying40 h
  rw [cells40] at hl
  match cs, hl, xs, hxl with
  | [v0, v1, v2, v3, v4, v5], _, [y0, y1, y2, y3], _ =>
    have g0 : DataW.trod enc Try.prog w base spare held n 3 (List.take (Try.prog.cellsOf 3) (List.drop 0 [v0, v1, v2, v3, v4, v5])) = some y0 := hf 0 _ rfl
    rw [cells3] at g0
    have g1 : DataW.trod enc Try.prog w base spare held n 25 (List.take (Try.prog.cellsOf 25) (List.drop 1 [v0, v1, v2, v3, v4, v5])) = some y1 := hf 1 _ rfl
    rw [cells25] at g1
    have g2 : DataW.trod enc Try.prog w base spare held n 3 (List.take (Try.prog.cellsOf 3) (List.drop 4 [v0, v1, v2, v3, v4, v5])) = some y2 := hf 2 _ rfl
    rw [cells3] at g2
    have g3 : DataW.trod enc Try.prog w base spare held n 5 (List.take (Try.prog.cellsOf 5) (List.drop 5 [v0, v1, v2, v3, v4, v5])) = some y3 := hf 3 _ rfl
    rw [cells5] at g3
    obtain ⟨x0, e0, _, w0⟩ := DataW.trod_int Try.underlying3 (show DataW.trod enc Try.prog w base spare held n 3 [v0] = some y0 from g0)
    obtain ⟨q, q0, q1, q2, e1⟩ := pkt_of (show DataW.trod enc Try.prog w base spare held n 25 [v1, v2, v3] = some y1 from g1)
    obtain ⟨x2, e2, _, w2⟩ := DataW.trod_int Try.underlying3 (show DataW.trod enc Try.prog w base spare held n 3 [v4] = some y2 from g2)
    obtain ⟨x3, e3, _, w3⟩ := DataW.trod_int Try.underlying5 (show DataW.trod enc Try.prog w base spare held n 5 [v5] = some y3 from g3)
    simp only [List.cons.injEq, and_true] at e0 e1 e2 e3
    obtain ⟨e1, e1', e1''⟩ := e1
    have b3 := bounds_u8 w3
    refine ⟨⟨x0, q, x2, x3.toNat⟩, ⟨bounds_i64 w0, q0, q1, q2, bounds_i64 w2, by show x3.toNat < 256; omega⟩, ?_⟩
    rw [e0, e1, e1', e1'', e2, e3]
    show [Value.int .i64 x0, .int .i64 q.f, .int .i64 q.t, .string q.d, .int .i64 x2, .int .u8 x3] = [Value.int .i64 x0, .int .i64 q.f, .int .i64 q.t, .string q.d, .int .i64 x2, .int .u8 ((x3.toNat : Nat) : Int)]
    rw [show ((x3.toNat : Nat) : Int) = x3 by omega]

theorem acts_of {H : Type} {enc : TypeId × Value → H} {w : World} {base : Nat} {spare : Nat → Bool} {held : Bool} {a : Option Addr} {len cap : Nat} {d : DataW H} {pl : List MemPlace}
    (h : DataW.Trod enc Try.prog w base spare held 33 (.slice a len cap) d pl) : ∃ z : List ActV, IsActs w a len cap z := by
  obtain ⟨fuel, hf⟩ := h
  rcases Go.Deep.open_slice Try.underlying33 hf with ⟨hcs, _⟩ | ⟨x, l, c, m, n, D, Pl, hcs, hb, hl, hm, hmm, _, hel⟩
  · simp [Value.cells] at hcs
    obtain ⟨rfl, rfl, rfl⟩ := hcs
    exact ⟨[], rfl, by unfold maxLen; omega, fun k hk => absurd hk (Nat.not_lt_zero _)⟩
  · simp [Value.cells] at hcs
    obtain ⟨rfl, rfl, rfl⟩ := hcs
    rw [cells40] at hel
    have hlm : len ≤ m := by rw [hmm]; split <;> omega
    have hp : ∀ k, k < len → ∃ p : ActV, p.Ok ∧ (∃ b o, x = ⟨b, o, none⟩ ∧ ActAt w b (o + k * 6) p ∧ b < w.heap.size) := fun k hk => by
      obtain ⟨cs', h1, h2⟩ := hel k (by omega)
      obtain ⟨p, ok, rfl⟩ := act_of h2
      obtain ⟨_, _, hc⟩ := World.cells?_some h1
      obtain ⟨b, o, spot⟩ := x
      have hspot : spot = none := by
        obtain ⟨cs0, i1, i2⟩ := hel 0 (by omega)
        obtain ⟨p0, _, rfl⟩ := act_of i2
        obtain ⟨_, _, hc'⟩ := World.cells?_some i1
        have := World.cell?_spot (w := w) (hc' 0 (by omega))
        simpa [Addr.add] using this
      subst hspot
      have cell : ∀ j, j < 6 → w.cell? ⟨b, o + k * 6 + j, none⟩ = [Value.int .i64 p.do_, .int .i64 p.p.f, .int .i64 p.p.t, .string p.p.d, .int .i64 p.i, .int .u8 (p.n : Int)][j]? := fun j hj => by
        have := hc j hj
        rwa [Go.Deep.add_add, Addr.add_lit, ← Nat.add_assoc] at this
      have k0 := cell 0 (by omega)
      exact ⟨p, ok, b, o, rfl, ⟨k0, cell 1 (by omega), cell 2 (by omega), cell 3 (by omega), cell 4 (by omega), cell 5 (by omega)⟩, World.block_lt_of_cell? _ _ k0⟩
    have ih : Inhabited ActV := ⟨ActV.zero⟩
    obtain ⟨f, hf⟩ := Go.Deep.choose_lt (p := fun k p => ActV.Ok p ∧ (∃ b o, x = ⟨b, o, none⟩ ∧ ActAt w b (o + k * 6) p ∧ b < w.heap.size)) hp
    refine ⟨(List.range len).map f, by simp, by omega, fun k hk => ?_⟩
    have e : ((List.range len).map f).getD k ActV.zero = f k := by simp [List.getD_eq_getElem?_getD, hk]
    rw [e]
    obtain ⟨ok, b, o, rfl, hat, hlt⟩ := hf k hk
    exact ⟨b, o, rfl, hat, ok, hlt⟩
theorem ActAt.keep {F : Nat → Prop} {w w' : World} {b o : Nat} {p : ActV} (h : ActAt w b o p) (m : Moved F w w') (hb : b < w.heap.size) (hF : ¬ F b) : ActAt w' b o p :=
  ⟨(m.cell (p := ⟨b, o, none⟩) hb hF).trans h.c0, (m.cell (p := ⟨b, o + 1, none⟩) hb hF).trans h.c1, (m.cell (p := ⟨b, o + 2, none⟩) hb hF).trans h.c2, (m.cell (p := ⟨b, o + 3, none⟩) hb hF).trans h.c3, (m.cell (p := ⟨b, o + 4, none⟩) hb hF).trans h.c4, (m.cell (p := ⟨b, o + 5, none⟩) hb hF).trans h.c5⟩
theorem IsActs.below {w w' : World} {a : Option Addr} {len cap : Nat} {z : List ActV} (h : IsActs w a len cap z) (hb : Below w.heap.size w w') : IsActs w' a len cap z :=
  ⟨h.size_, h.max, fun k hk => by
    obtain ⟨b, o, e, hp, ok, hlt⟩ := h.at_ k hk
    exact ⟨b, o, e, hp.keep (Moved.of_below (F := fun _ => False) hb) hlt id, ok, Nat.lt_of_lt_of_le hlt hb.size⟩⟩

/-- The acts' lengths, each held at 60001, added up. -/
def bulk (z : List ActV) : Nat → Nat
  | 0 => 0
  | k + 1 => bulk z k + min (z.getD k ActV.zero).p.d.size 60001
theorem bulk_le (z : List ActV) (k : Nat) : bulk z k ≤ 60001 * k := by
  induction k with
  | zero => simp [bulk]
  | succ k ih => simp only [bulk]; omega
theorem bulk_mono (z : List ActV) (k n : Nat) (h : k ≤ n) : bulk z k ≤ bulk z n := by
  induction n with
  | zero => have : k = 0 := by omega
            subst this; exact Nat.le_refl _
  | succ n ih =>
    by_cases e : k = n + 1
    · subst e; exact Nat.le_refl _
    · have := ih (by omega); simp only [bulk]; omega
theorem val_i64 {a b : Int} (h : a = b) : Value.int .i64 a = .int .i64 b := by rw [h]
theorem ret_bool {a b : Bool} (h : a = b) : Ending.returned (.bool a) = .returned (.bool b) := by rw [h]

/-- More than 300 acts, or 60000 bytes. -/
def great (z : List ActV) : Bool := decide (300 < z.length) || decide (60000 < bulk z z.length)
set_option maxHeartbeats 1000000 in
theorem great_any (a : Option Addr) (len cap : Nat) (z : List ActV) (w : World) (hs : IsActs w a len cap z) :
    Calls Try.prog 15 #[.slice a len cap] w fun e w' => e = .returned (.bool (great z)) ∧ w' = w := by
  have HS := hide hs
  have hl := hs.max
  have hz := hs.size_
  unfold maxLen at hl
  clear hs
  have hg : great z = (decide (300 < len) || decide (60000 < bulk z len)) := by unfold great; rw [hz]
  have Hg := hide hg
  clear hg
  go_enter Try.func15, Try.ntmps15
  go_wp2_with fail
  go_loop [3, 4] (fun n i => ∃ k : Nat, k ≤ len ∧ k ≤ 301 ∧ i = .int .i64 k ∧ n = .int .i64 ((bulk z k : Nat) : Int)) (fun _ i => len - (intOf i).toNat)
  case atStart => exact ⟨0, by omega, by omega, rfl, rfl⟩
  case round =>
    obtain ⟨k, hk, hk2, rfl, rfl⟩ := hrel
    have hb := bulk_le z k
    by_cases hlt : k < len
    · by_cases h300 : k ≤ 300
      · obtain ⟨b, o, rfl, hat, ok, _⟩ := (unhide HS).at_ k hlt
        have hsz := ok.d
        have hc3 := hat.c3
        unfold maxLen at hsz
        have hstep : bulk z (k + 1) = bulk z k + min (z.getD k ActV.zero).p.d.size 60001 := rfl
        generalize (z.getD k ActV.zero).p.d = s at *
        have Hstep := hide hstep
        clear hstep
        generalize bulk z k = m at *
        go_wp2_with fail
        go_round
        case rel =>
          refine ⟨k + 1, by omega, by omega, by go_num, val_i64 ?_⟩
          rw [unhide Hstep]
          omega
        case measure => simp [intOf]; omega
      · have hg : (300 : Int) < len := by omega
        have dg : decide ((300 : Int) < len) = true := decide_eq_true hg
        go_wp2_with fail
        go_ret
        refine ⟨ret_bool ?_, rfl⟩
        rw [unhide Hg, show decide (300 < len) = true from decide_eq_true (by omega)]
        rfl
    · have hkl : k = len := by omega
      subst hkl
      by_cases hg : (300 : Int) < k
      · have dg : decide ((300 : Int) < k) = true := decide_eq_true hg
        go_wp2_with fail
        go_ret
        refine ⟨ret_bool ?_, rfl⟩
        rw [unhide Hg, show decide (300 < k) = true from decide_eq_true (by omega)]
        rfl
      · have dg : decide ((300 : Int) < k) = false := decide_eq_false hg
        have hgg : great z = decide ((60000 : Int) < ((bulk z k : Nat) : Int)) := by
          rw [unhide Hg, show decide (300 < k) = false from decide_eq_false (by omega), Bool.false_or]
          rw [Bool.eq_iff_iff]; simp; omega
        have Hgg := hide hgg
        clear hgg
        go_wp2_with fail
        go_ret
        refine ⟨ret_bool ?_, rfl⟩
        rw [unhide Hgg]
end Go.Proofs.Ytceepejndomfaaa

/- A slice of the statements' parts that came in: its cells, out of the row's reading. No conditions. -/
import Derived.Test.YthjoojbdjinonaaAwake
import Derived.ProofKit
import Derived.OpenShut
import Derived.Deep.Fields
namespace Go.Proofs.Ythjoojbdjinonaa
open Pk Go.RowKit Go.ChangeShapes Go.WideShapes

/-- A part's six fields. -/
structure PartV where
  kind : Int
  n : Nat
  i : Int
  s : ByteArray
  b : UInt8
  most : Int
def i64In (x : Int) : Prop := -9223372036854775808 ≤ x ∧ x ≤ 9223372036854775807
structure PartV.Ok (p : PartV) : Prop where
  kind : i64In p.kind
  n : p.n < 2 ^ 64
  i : i64In p.i
  s : p.s.size ≤ maxLen
  most : i64In p.most
def PartV.zero : PartV := ⟨0, 0, 0, ⟨#[]⟩, 0, 0⟩
/-- Its cells at a place. -/
structure PartAt (w : World) (b o : Nat) (p : PartV) : Prop where
  c0 : w.cell? ⟨b, o, none⟩ = some (.int .i64 p.kind)
  c1 : w.cell? ⟨b, o + 1, none⟩ = some (.int .u64 (p.n : Int))
  c2 : w.cell? ⟨b, o + 2, none⟩ = some (.int .i64 p.i)
  c3 : w.cell? ⟨b, o + 3, none⟩ = some (.string p.s)
  c4 : w.cell? ⟨b, o + 4, none⟩ = some (.int .u8 ((p.b.toNat : Nat) : Int))
  c5 : w.cell? ⟨b, o + 5, none⟩ = some (.int .i64 p.most)
/-- A slice of parts. -/
structure IsParts (w : World) (a : Option Addr) (len cap : Nat) (z : List PartV) : Prop where
  size_ : z.length = len
  max : len ≤ maxLen
  at_ : ∀ k, k < len → ∃ b o, a = some ⟨b, o, none⟩ ∧ PartAt w b (o + k * 6) (z.getD k PartV.zero) ∧ (z.getD k PartV.zero).Ok ∧ b < w.heap.size

theorem cells47 : Try.prog.cellsOf 47 = 6 := by kernel_rfl
theorem cells3 : Try.prog.cellsOf 3 = 1 := by kernel_rfl
theorem cells26 : Try.prog.cellsOf 26 = 1 := by kernel_rfl
theorem cells2 : Try.prog.cellsOf 2 = 1 := by kernel_rfl
theorem cells9 : Try.prog.cellsOf 9 = 1 := by kernel_rfl
theorem cells5 : Try.prog.cellsOf 5 = 1 := by kernel_rfl
theorem part_of {H : Type} {enc : TypeId × Value → H} {w : World} {base : Nat} {spare : Nat → Bool} {held : Bool} {fuel : Nat} {cs : List Value} {x : DataW H × List MemPlace} (h : DataW.trod enc Try.prog w base spare held fuel 47 cs = some x) :
    ∃ p : PartV, p.Ok ∧ cs = [.int .i64 p.kind, .int .u64 (p.n : Int), .int .i64 p.i, .string p.s, .int .u8 ((p.b.toNat : Nat) : Int), .int .i64 p.most] := by
  obtain ⟨xs, n, rfl, rfl, hl, hxl, hf⟩ := DataW.trod_struct Try.underlying47 h
  rw [cells47] at hl
  match cs, hl, xs, hxl with
  | [v0, v1, v2, v3, v4, v5], _, [y0, y1, y2, y3, y4, y5], _ =>
    have g0 : DataW.trod enc Try.prog w base spare held n 3 (List.take (Try.prog.cellsOf 3) (List.drop 0 [v0, v1, v2, v3, v4, v5])) = some y0 := hf 0 _ rfl
    rw [cells3] at g0
    have g1 : DataW.trod enc Try.prog w base spare held n 26 (List.take (Try.prog.cellsOf 26) (List.drop 1 [v0, v1, v2, v3, v4, v5])) = some y1 := hf 1 _ rfl
    rw [cells26] at g1
    have g2 : DataW.trod enc Try.prog w base spare held n 2 (List.take (Try.prog.cellsOf 2) (List.drop 2 [v0, v1, v2, v3, v4, v5])) = some y2 := hf 2 _ rfl
    rw [cells2] at g2
    have g3 : DataW.trod enc Try.prog w base spare held n 9 (List.take (Try.prog.cellsOf 9) (List.drop 3 [v0, v1, v2, v3, v4, v5])) = some y3 := hf 3 _ rfl
    rw [cells9] at g3
    have g4 : DataW.trod enc Try.prog w base spare held n 5 (List.take (Try.prog.cellsOf 5) (List.drop 4 [v0, v1, v2, v3, v4, v5])) = some y4 := hf 4 _ rfl
    rw [cells5] at g4
    have g5 : DataW.trod enc Try.prog w base spare held n 3 (List.take (Try.prog.cellsOf 3) (List.drop 5 [v0, v1, v2, v3, v4, v5])) = some y5 := hf 5 _ rfl
    rw [cells3] at g5
    obtain ⟨x0, e0, _, w0⟩ := DataW.trod_int Try.underlying3 (show DataW.trod enc Try.prog w base spare held n 3 [v0] = some y0 from g0)
    obtain ⟨x1, e1, _, w1⟩ := DataW.trod_int Try.underlying26 (show DataW.trod enc Try.prog w base spare held n 26 [v1] = some y1 from g1)
    obtain ⟨x2, e2, _, w2⟩ := DataW.trod_int Try.underlying2 (show DataW.trod enc Try.prog w base spare held n 2 [v2] = some y2 from g2)
    obtain ⟨x3, e3, _, w3⟩ := DataW.trod_string Try.underlying9 (show DataW.trod enc Try.prog w base spare held n 9 [v3] = some y3 from g3)
    obtain ⟨x4, e4, _, w4⟩ := DataW.trod_int Try.underlying5 (show DataW.trod enc Try.prog w base spare held n 5 [v4] = some y4 from g4)
    obtain ⟨x5, e5, _, w5⟩ := DataW.trod_int Try.underlying3 (show DataW.trod enc Try.prog w base spare held n 3 [v5] = some y5 from g5)
    simp only [List.cons.injEq, and_true] at e0 e1 e2 e3 e4 e5
    have b0 := bounds_i64 w0
    have b1 := bounds_u64 w1
    have b2 := bounds_i64 w2
    have b4 := bounds_u8 w4
    have b5 := bounds_i64 w5
    have h4 : x4 = (((UInt8.ofNat x4.toNat).toNat : Nat) : Int) := by rw [toNat_ofNat_lt (by omega)]; omega
    refine ⟨⟨x0, x1.toNat, x2, x3, UInt8.ofNat x4.toNat, x5⟩, ⟨b0, by show x1.toNat < 2 ^ 64; omega, b2, w3, b5⟩, ?_⟩
    rw [e0, e1, e2, e3, e4, e5]
    show [Value.int .i64 x0, .int .u64 x1, .int .i64 x2, .string x3, .int .u8 x4, .int .i64 x5] = [Value.int .i64 x0, .int .u64 ((x1.toNat : Nat) : Int), .int .i64 x2, .string x3, .int .u8 (((UInt8.ofNat x4.toNat).toNat : Nat) : Int), .int .i64 x5]
    rw [← h4, show ((x1.toNat : Nat) : Int) = x1 by omega]

theorem parts_of {H : Type} {enc : TypeId × Value → H} {w : World} {base : Nat} {spare : Nat → Bool} {held : Bool} {a : Option Addr} {len cap : Nat} {d : DataW H} {pl : List MemPlace}
    (h : DataW.Trod enc Try.prog w base spare held 42 (.slice a len cap) d pl) : ∃ z : List PartV, IsParts w a len cap z := by
  obtain ⟨fuel, hf⟩ := h
  rcases Go.Deep.open_slice Try.underlying42 hf with ⟨hcs, _⟩ | ⟨x, l, c, m, n, D, Pl, hcs, hb, hl, hm, hmm, _, hel⟩
  · simp [Value.cells] at hcs
    obtain ⟨rfl, rfl, rfl⟩ := hcs
    exact ⟨[], rfl, by unfold maxLen; omega, fun k hk => absurd hk (Nat.not_lt_zero _)⟩
  · simp [Value.cells] at hcs
    obtain ⟨rfl, rfl, rfl⟩ := hcs
    rw [cells47] at hel
    have hlm : len ≤ m := by rw [hmm]; split <;> omega
    have hp : ∀ k, k < len → ∃ p : PartV, p.Ok ∧ (∃ b o, x = ⟨b, o, none⟩ ∧ PartAt w b (o + k * 6) p ∧ b < w.heap.size) := fun k hk => by
      obtain ⟨cs', h1, h2⟩ := hel k (by omega)
      obtain ⟨p, ok, rfl⟩ := part_of h2
      obtain ⟨_, _, hc⟩ := World.cells?_some h1
      obtain ⟨b, o, spot⟩ := x
      have hspot : spot = none := by
        obtain ⟨cs0, i1, i2⟩ := hel 0 (by omega)
        obtain ⟨p0, _, rfl⟩ := part_of i2
        obtain ⟨_, _, hc'⟩ := World.cells?_some i1
        have := World.cell?_spot (w := w) (hc' 0 (by omega))
        simpa [Addr.add] using this
      subst hspot
      have cell : ∀ j, j < 6 → w.cell? ⟨b, o + k * 6 + j, none⟩ = [Value.int .i64 p.kind, .int .u64 (p.n : Int), .int .i64 p.i, .string p.s, .int .u8 ((p.b.toNat : Nat) : Int), .int .i64 p.most][j]? := fun j hj => by
        have := hc j hj
        rwa [Go.Deep.add_add, Addr.add_lit, ← Nat.add_assoc] at this
      have k0 := cell 0 (by omega)
      exact ⟨p, ok, b, o, rfl, ⟨k0, cell 1 (by omega), cell 2 (by omega), cell 3 (by omega), cell 4 (by omega), cell 5 (by omega)⟩, World.block_lt_of_cell? _ _ k0⟩
    have ih : Inhabited PartV := ⟨PartV.zero⟩
    obtain ⟨f, hf⟩ := Go.Deep.choose_lt (p := fun k p => PartV.Ok p ∧ (∃ b o, x = ⟨b, o, none⟩ ∧ PartAt w b (o + k * 6) p ∧ b < w.heap.size)) hp
    refine ⟨(List.range len).map f, by simp, by omega, fun k hk => ?_⟩
    have e : ((List.range len).map f).getD k PartV.zero = f k := by simp [List.getD_eq_getElem?_getD, hk]
    rw [e]
    obtain ⟨ok, b, o, rfl, hat, hlt⟩ := hf k hk
    exact ⟨b, o, rfl, hat, ok, hlt⟩
theorem PartAt.keep {F : Nat → Prop} {w w' : World} {b o : Nat} {p : PartV} (h : PartAt w b o p) (m : Moved F w w') (hb : b < w.heap.size) (hF : ¬ F b) : PartAt w' b o p :=
  ⟨(m.cell (p := ⟨b, o, none⟩) hb hF).trans h.c0, (m.cell (p := ⟨b, o + 1, none⟩) hb hF).trans h.c1, (m.cell (p := ⟨b, o + 2, none⟩) hb hF).trans h.c2, (m.cell (p := ⟨b, o + 3, none⟩) hb hF).trans h.c3, (m.cell (p := ⟨b, o + 4, none⟩) hb hF).trans h.c4, (m.cell (p := ⟨b, o + 5, none⟩) hb hF).trans h.c5⟩
theorem IsParts.below {w w' : World} {a : Option Addr} {len cap : Nat} {z : List PartV} (h : IsParts w a len cap z) (hb : Below w.heap.size w w') : IsParts w' a len cap z :=
  ⟨h.size_, h.max, fun k hk => by
    obtain ⟨b, o, e, hp, ok, hlt⟩ := h.at_ k hk
    exact ⟨b, o, e, hp.keep (Moved.of_below (F := fun _ => False) hb) hlt id, ok, Nat.lt_of_lt_of_le hlt hb.size⟩⟩

/-- The parts' lengths, each held at 60001, added up. -/
def bulk (z : List PartV) : Nat → Nat
  | 0 => 0
  | k + 1 => bulk z k + min (z.getD k PartV.zero).s.size 60001
theorem bulk_le (z : List PartV) (k : Nat) : bulk z k ≤ 60001 * k := by
  induction k with
  | zero => simp [bulk]
  | succ k ih => simp only [bulk]; omega
theorem bulk_mono (z : List PartV) (k n : Nat) (h : k ≤ n) : bulk z k ≤ bulk z n := by
  induction n with
  | zero => have : k = 0 := by omega
            subst this; exact Nat.le_refl _
  | succ n ih =>
    by_cases e : k = n + 1
    · subst e; exact Nat.le_refl _
    · have := ih (by omega); simp only [bulk]; omega
theorem val_i64 {a b : Int} (h : a = b) : Value.int .i64 a = .int .i64 b := by rw [h]
theorem ret_bool {a b : Bool} (h : a = b) : Ending.returned (.bool a) = .returned (.bool b) := by rw [h]

/-- More than 500 parts, or 60000 bytes. -/
def great (z : List PartV) : Bool := decide (500 < z.length) || decide (60000 < bulk z z.length)
set_option maxHeartbeats 1000000 in
theorem great_any (a : Option Addr) (len cap : Nat) (z : List PartV) (w : World) (hs : IsParts w a len cap z) :
    Calls Try.prog 21 #[.slice a len cap] w fun e w' => e = .returned (.bool (great z)) ∧ w' = w := by
  have HS := hide hs
  have hl := hs.max
  have hz := hs.size_
  unfold maxLen at hl
  clear hs
  have hg : great z = (decide (500 < len) || decide (60000 < bulk z len)) := by unfold great; rw [hz]
  have Hg := hide hg
  clear hg
  go_enter Try.func21, Try.ntmps21
  go_wp2_with fail
  go_loop [3, 4] (fun n i => ∃ k : Nat, k ≤ len ∧ k ≤ 501 ∧ i = .int .i64 k ∧ n = .int .i64 ((bulk z k : Nat) : Int)) (fun _ i => len - (intOf i).toNat)
  case atStart => exact ⟨0, by omega, by omega, rfl, rfl⟩
  case round =>
    obtain ⟨k, hk, hk2, rfl, rfl⟩ := hrel
    have hb := bulk_le z k
    by_cases hlt : k < len
    · by_cases h500 : k ≤ 500
      · obtain ⟨b, o, rfl, hat, ok, _⟩ := (unhide HS).at_ k hlt
        have hsz := ok.s
        have hc3 := hat.c3
        unfold maxLen at hsz
        have hstep : bulk z (k + 1) = bulk z k + min (z.getD k PartV.zero).s.size 60001 := rfl
        generalize (z.getD k PartV.zero).s = s at *
        have Hstep := hide hstep
        clear hstep
        generalize bulk z k = m at *
        go_wp2_with fail
        go_round
        case rel =>
          refine ⟨k + 1, by omega, by omega, by go_num, val_i64 ?_⟩
          rw [unhide Hstep]
          omega
        case measure => simp [intOf]; omega
      · have hg : (500 : Int) < len := by omega
        have dg : decide ((500 : Int) < len) = true := decide_eq_true hg
        go_wp2_with fail
        go_ret
        refine ⟨ret_bool ?_, rfl⟩
        rw [unhide Hg, show decide (500 < len) = true from decide_eq_true (by omega)]
        rfl
    · have hkl : k = len := by omega
      subst hkl
      by_cases hg : (500 : Int) < k
      · have dg : decide ((500 : Int) < k) = true := decide_eq_true hg
        go_wp2_with fail
        go_ret
        refine ⟨ret_bool ?_, rfl⟩
        rw [unhide Hg, show decide (500 < k) = true from decide_eq_true (by omega)]
        rfl
      · have dg : decide ((500 : Int) < k) = false := decide_eq_false hg
        have hgg : great z = decide ((60000 : Int) < ((bulk z k : Nat) : Int)) := by
          rw [unhide Hg, show decide (500 < k) = false from decide_eq_false (by omega), Bool.false_or]
          rw [Bool.eq_iff_iff]; simp; omega
        have Hgg := hide hgg
        clear hgg
        go_wp2_with fail
        go_ret
        refine ⟨ret_bool ?_, rfl⟩
        rw [unhide Hgg]
end Go.Proofs.Ythjoojbdjinonaa

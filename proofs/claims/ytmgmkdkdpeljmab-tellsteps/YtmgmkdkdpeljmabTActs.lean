/- A slice of layer 10's acts that came in: its cells, out of the row's reading; what is too great; the acts done to a line. No conditions. -/
import Derived.Test.YtmgmkdkdpeljmabArgs
import Derived.Test.YtmgmkdkdpeljmabTHere
import Derived.Deep.Fields
namespace Go.Proofs.Ytmgmkdkdpeljmab
open Go.RowKit Go.ChangeShapes Go.WideShapes
structure ActL.Ok (p : ActL) : Prop where
  do_ : p.do_ < 256
  key : p.key.length ≤ maxLen
  at_ : i64 p.at_
  n : i64 p.n
def ActL.none_ : ActL := ⟨0, [], 0, 0⟩
structure ActLAt (w : World) (b o : Nat) (p : ActL) : Prop where
  c0 : w.cell? ⟨b, o, none⟩ = some (.int .u8 (p.do_ : Int))
  c1 : w.cell? ⟨b, o + 1, none⟩ = some (.string ⟨p.key.toArray⟩)
  c2 : w.cell? ⟨b, o + 2, none⟩ = some (.int .i64 p.at_)
  c3 : w.cell? ⟨b, o + 3, none⟩ = some (.int .i64 p.n)
structure IsActL (w : World) (a : Option Addr) (len cap : Nat) (z : List ActL) : Prop where
  size_ : z.length = len
  max : len ≤ maxLen
  at_ : ∀ k, k < len → ∃ b o, a = some ⟨b, o, none⟩ ∧ ActLAt w b (o + k * 4) (z.getD k ActL.none_) ∧ (z.getD k ActL.none_).Ok ∧ b < w.heap.size
theorem cells56 : Try.prog.cellsOf 24 = 4 := by kernel_rfl
theorem tcells5 : Try.prog.cellsOf 5 = 1 := by kernel_rfl
def actLC (p : ActL) : List Value := [.int .u8 (p.do_ : Int), .string ⟨p.key.toArray⟩, .int .i64 p.at_, .int .i64 p.n]
theorem tu8_in {x : Int} (h : (Lit.int .u8 x).wf = true) : 0 ≤ x ∧ x < 256 := by have := bounds_u8 h; omega
set_option maxRecDepth 100000 in
theorem actL_of {H : Type} {enc : TypeId × Value → H} {w : World} {base : Nat} {spare : Nat → Bool} {held : Bool} {fuel : Nat} {cs : List Value} {x : DataW H × List MemPlace} (h : DataW.trod enc Try.prog w base spare held fuel 24 cs = some x) :
    ∃ p : ActL, p.Ok ∧ cs = actLC p := by
  obtain ⟨xs, n, rfl, rfl, hl, hxl, hf⟩ := DataW.trod_struct Try.underlying24 h
  rw [cells56] at hl
  match cs, hl, xs, hxl with
  | [v0, v1, v2, v3], _, [y0, y1, y2, y3], _ =>
    have g0 : DataW.trod enc Try.prog w base spare held n 5 (List.take (Try.prog.cellsOf 5) (List.drop 0 [v0, v1, v2, v3])) = some y0 := hf 0 _ rfl
    have g1 : DataW.trod enc Try.prog w base spare held n 9 (List.take (Try.prog.cellsOf 9) (List.drop 1 [v0, v1, v2, v3])) = some y1 := hf 1 _ rfl
    have g2 : DataW.trod enc Try.prog w base spare held n 2 (List.take (Try.prog.cellsOf 2) (List.drop 2 [v0, v1, v2, v3])) = some y2 := hf 2 _ rfl
    have g3 : DataW.trod enc Try.prog w base spare held n 2 (List.take (Try.prog.cellsOf 2) (List.drop 3 [v0, v1, v2, v3])) = some y3 := hf 3 _ rfl
    rw [tcells5] at g0
    rw [mcells9] at g1
    rw [mcells2] at g2 g3
    obtain ⟨x0, e0, _, w0⟩ := DataW.trod_int Try.underlying5 (show DataW.trod enc Try.prog w base spare held n 5 [v0] = some y0 from g0)
    obtain ⟨x1, e1, _, w1⟩ := DataW.trod_string Try.underlying9 (show DataW.trod enc Try.prog w base spare held n 9 [v1] = some y1 from g1)
    obtain ⟨x2, e2, _, w2⟩ := DataW.trod_int Try.underlying2 (show DataW.trod enc Try.prog w base spare held n 2 [v2] = some y2 from g2)
    obtain ⟨x3, e3, _, w3⟩ := DataW.trod_int Try.underlying2 (show DataW.trod enc Try.prog w base spare held n 2 [v3] = some y3 from g3)
    simp only [List.cons.injEq, and_true] at e0 e1 e2 e3
    obtain ⟨b0, b0'⟩ := tu8_in w0
    refine ⟨⟨x0.toNat, x1.data.toList, x2, x3⟩, ⟨by show x0.toNat < 256; omega, by simp only [Array.length_toList]; exact w1, by have := bounds_i64 w2; unfold i64; simp only; omega, by have := bounds_i64 w3; unfold i64; simp only; omega⟩, ?_⟩
    rw [e0, e1, e2, e3]
    show [Value.int .u8 x0, _, _, _] = [Value.int .u8 ((x0.toNat : Nat) : Int), _, _, _]
    rw [show ((x0.toNat : Nat) : Int) = x0 by omega]
theorem actLs_of {H : Type} {enc : TypeId × Value → H} {w : World} {base : Nat} {spare : Nat → Bool} {held : Bool} {a : Option Addr} {len cap : Nat} {d : DataW H} {pl : List MemPlace}
    (h : DataW.Trod enc Try.prog w base spare held 22 (.slice a len cap) d pl) : ∃ z : List ActL, IsActL w a len cap z := by
  obtain ⟨fuel, hf⟩ := h
  rcases Go.Deep.open_slice Try.underlying22 hf with ⟨hcs, _⟩ | ⟨x, l, c, m, n, D, Pl, hcs, hb, hl, hm, hmm, _, hel⟩
  · simp [Value.cells] at hcs
    obtain ⟨rfl, rfl, rfl⟩ := hcs
    exact ⟨[], rfl, by unfold maxLen; omega, fun k hk => absurd hk (Nat.not_lt_zero _)⟩
  · simp [Value.cells] at hcs
    obtain ⟨rfl, rfl, rfl⟩ := hcs
    rw [cells56] at hel
    have hlm : len ≤ m := by rw [hmm]; split <;> omega
    have hp : ∀ k, k < len → ∃ p : ActL, p.Ok ∧ (∃ b o, x = ⟨b, o, none⟩ ∧ ActLAt w b (o + k * 4) p ∧ b < w.heap.size) := fun k hk => by
      obtain ⟨cs', h1, h2⟩ := hel k (by omega)
      obtain ⟨p, ok, rfl⟩ := actL_of h2
      obtain ⟨_, _, hc⟩ := World.cells?_some h1
      obtain ⟨b, o, spot⟩ := x
      have hspot : spot = none := by
        obtain ⟨cs0, i1, i2⟩ := hel 0 (by omega)
        obtain ⟨p0, _, rfl⟩ := actL_of i2
        obtain ⟨_, _, hc'⟩ := World.cells?_some i1
        have := World.cell?_spot (w := w) (hc' 0 (by omega))
        simpa [Addr.add] using this
      subst hspot
      have cell : ∀ j, j < 4 → w.cell? ⟨b, o + k * 4 + j, none⟩ = (actLC p)[j]? := fun j hj => by
        have := hc j hj
        rwa [Go.Deep.add_add, Addr.add_lit, ← Nat.add_assoc] at this
      have k0 := cell 0 (by omega)
      exact ⟨p, ok, b, o, rfl, ⟨k0, cell 1 (by omega), cell 2 (by omega), cell 3 (by omega)⟩, World.block_lt_of_cell? _ _ k0⟩
    have ih : Inhabited ActL := ⟨ActL.none_⟩
    obtain ⟨f, hf⟩ := Go.Deep.choose_lt (p := fun k p => ActL.Ok p ∧ (∃ b o, x = ⟨b, o, none⟩ ∧ ActLAt w b (o + k * 4) p ∧ b < w.heap.size)) hp
    refine ⟨(List.range len).map f, by simp, by omega, fun k hk => ?_⟩
    have e : ((List.range len).map f).getD k ActL.none_ = f k := by simp [List.getD_eq_getElem?_getD, hk]
    rw [e]
    obtain ⟨ok, b, o, rfl, hat, hlt⟩ := hf k hk
    exact ⟨b, o, rfl, hat, ok, hlt⟩
theorem ActLAt.keep {F : Nat → Prop} {w w' : World} {b o : Nat} {p : ActL} (h : ActLAt w b o p) (m : Moved F w w') (hb : b < w.heap.size) (hF : ¬ F b) : ActLAt w' b o p :=
  ⟨(m.cell (p := ⟨b, o, none⟩) hb hF).trans h.c0, (m.cell (p := ⟨b, o + 1, none⟩) hb hF).trans h.c1, (m.cell (p := ⟨b, o + 2, none⟩) hb hF).trans h.c2, (m.cell (p := ⟨b, o + 3, none⟩) hb hF).trans h.c3⟩
theorem IsActL.below {w w' : World} {a : Option Addr} {len cap : Nat} {z : List ActL} (h : IsActL w a len cap z) (hb : Below w.heap.size w w') : IsActL w' a len cap z :=
  ⟨h.size_, h.max, fun k hk => by
    obtain ⟨b, o, e, hp, ok, hlt⟩ := h.at_ k hk
    exact ⟨b, o, e, hp.keep (Moved.of_below (F := fun _ => False) hb) hlt id, ok, Nat.lt_of_lt_of_le hlt hb.size⟩⟩
theorem IsActL.ok {w : World} {a : Option Addr} {len cap : Nat} {z : List ActL} (h : IsActL w a len cap z) : ∀ p ∈ z, p.Ok := fun p hp => by
  obtain ⟨k, hk, rfl⟩ := List.mem_iff_getElem.1 hp
  obtain ⟨_, _, _, _, ok, _⟩ := h.at_ k (by rw [← h.size_]; exact hk)
  rw [List.getD_eq_getElem?_getD, List.getElem?_eq_getElem hk] at ok
  exact ok
/-- Too long a key. -/
def longL (p : ActL) : Bool := decide (100 < p.key.length)
/-- More than 200 acts, or a key of more than 100 bytes. -/
def tooGreatL (z : List ActL) : Bool := decide (200 < z.length) || z.any longL
theorem anyL_at {z : List ActL} {k : Nat} (hk : k < z.length) (h : longL (z.getD k ActL.none_) = true) : z.any longL = true := by
  rw [List.getD_eq_getElem?_getD, List.getElem?_eq_getElem hk] at h
  exact List.any_eq_true.2 ⟨_, List.getElem_mem hk, h⟩
theorem anyL_none {z : List ActL} (h : ∀ k, k < z.length → longL (z.getD k ActL.none_) = false) : z.any longL = false := by
  rw [List.any_eq_false]
  intro p hp
  obtain ⟨k, hk, rfl⟩ := List.mem_iff_getElem.1 hp
  have := h k hk
  rw [List.getD_eq_getElem?_getD, List.getElem?_eq_getElem hk] at this
  simpa using this
set_option maxRecDepth 100000 in
set_option maxHeartbeats 2000000 in
theorem greatL_any (a : Option Addr) (len cap : Nat) (z : List ActL) (w : World) (hs : IsActL w a len cap z) :
    Calls Try.prog 5 #[.slice a len cap] w fun e w' => e = .returned (.bool (tooGreatL z)) ∧ w' = w := by
  have HS := hide hs
  have hz := hs.size_
  have HZ := hide hz
  clear hs
  by_cases h200 : (200 : Int) < (len : Int)
  · have HG : Hid (tooGreatL z = true) := hide (by unfold tooGreatL; rw [hz, show decide (200 < len) = true from decide_eq_true (by omega)]; rfl)
    clear hz
    go_enter Try.func5, Try.ntmps5
    go_wp2_with fail
    go_ret
    exact ⟨by rw [unhide HG]; rfl, rfl⟩
  · have HG : Hid (tooGreatL z = z.any longL) := hide (by unfold tooGreatL; rw [hz, show decide (200 < len) = false from decide_eq_false (by omega)]; rfl)
    clear hz
    go_enter Try.func5, Try.ntmps5
    go_wp2_with fail
    go_loop [3] (fun i => ∃ k : Nat, k ≤ len ∧ i = .int .i64 k ∧ Hid (∀ j, j < k → longL (z.getD j ActL.none_) = false)) (fun i => len - (intOf i).toNat)
    case atStart => exact ⟨0, by omega, rfl, hide fun j hj => absurd hj (Nat.not_lt_zero _)⟩
    case round =>
      obtain ⟨k, hk, rfl, HA⟩ := hrel
      by_cases hlt : k < len
      · have g1 : (k : Int) < (len : Int) := by omega
        have hk0 : (0 : Int) ≤ (k : Int) := by omega
        have hwk : IntKind.i64.wrap ((k : Int) + 1) = (k : Int) + 1 := Go.IntWalk.i64_in _ (by omega)
        obtain ⟨b, o, rfl, hat, ok, _⟩ := (unhide HS).at_ k hlt
        have hc1 := hat.c1
        have HAT : Hid (longL (z.getD k ActL.none_) = true → tooGreatL z = true) := hide fun h => by rw [unhide HG]; exact anyL_at (by rw [unhide HZ]; exact hlt) h
        have HAN : Hid (longL (z.getD k ActL.none_) = false → ∀ j, j < k + 1 → longL (z.getD j ActL.none_) = false) := hide fun h j hj => by
          by_cases e : j = k
          · rw [e]; exact h
          · exact unhide HA j (by omega)
        clear hat ok HA
        generalize z.getD k ActL.none_ = y at *
        obtain ⟨yd, yk, ya, yn⟩ := y
        dsimp only at hc1
        have hz1 : (⟨yk.toArray⟩ : ByteArray).size = yk.length := by simp [ByteArray.size]
        by_cases h1 : (100 : Int) < (yk.length : Int)
        · have RR := hide (unhide HAT (by unfold longL; simp; omega))
          go_wp2_with fail
          go_ret
          exact ⟨by rw [unhide RR]; rfl, rfl⟩
        · have RR := hide (unhide HAN (by unfold longL; simp; omega))
          go_wp2_with fail
          go_round
          case rel => exact ⟨k + 1, by omega, by go_num, RR⟩
          case measure => simp [intOf]; omega
      · have g1 : ¬ (k : Int) < (len : Int) := by omega
        have hke : k = len := by omega
        have RR : Hid (tooGreatL z = false) := hide (by rw [unhide HG]; exact anyL_none (fun j hj => unhide HA j (by rw [hke, ← unhide HZ]; exact hj)))
        go_wp2_with fail
        go_ret
        exact ⟨by rw [unhide RR]; rfl, rfl⟩
theorem mild_actL {s : LineV × List (Win AggV)} (h : Mild s.1.row) {p : ActL} (hp : p.Ok) : Mild (actL s p).1.row := by
  unfold actL
  split
  · exact mild_putL h hp.n
  · split
    · exact (mild_markL h _).1
    · exact h
theorem takeL_snoc {z : List ActL} {k : Nat} (hk : k < z.length) : z.take (k + 1) = z.take k ++ [z.getD k ActL.none_] := by
  rw [List.take_add_one, List.getD_eq_getElem?_getD, List.getElem?_eq_getElem hk]; rfl
end Go.Proofs.Ytmgmkdkdpeljmab

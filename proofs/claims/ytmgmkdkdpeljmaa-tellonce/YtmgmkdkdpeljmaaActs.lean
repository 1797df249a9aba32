/- A slice of the statements' acts that came in: its cells, out of the row's reading; what is too great. No conditions. -/
import Derived.Test.YtmgmkdkdpeljmaaWakes
import Derived.Test.YtmgmkdkdpeljmaaArgs
import Derived.Test.YtmgmkdkdpeljmaaStoreSum
import Derived.Deep.Fields
namespace Go.Proofs.Ytmgmkdkdpeljmaa
open Go.RowKit Go.ChangeShapes Go.WideShapes
abbrev ActZ := ActV AggV
structure ActZ.Ok (p : ActZ) : Prop where
  do_ : p.do_ < 256
  key : p.key.length ≤ maxLen
  at_ : i64 p.at_
  n : i64 p.n
  outk : p.out.key.length ≤ maxLen
  outs : i64 p.out.start
  outa : p.out.agg.In
def ActZ.none_ : ActZ := ⟨0, [], 0, 0, ⟨[], 0, zero⟩⟩
/-- Its cells at a place. -/
structure ActAt (w : World) (b o : Nat) (p : ActZ) : Prop where
  c0 : w.cell? ⟨b, o, none⟩ = some (.int .u8 (p.do_ : Int))
  c1 : w.cell? ⟨b, o + 1, none⟩ = some (.string ⟨p.key.toArray⟩)
  c2 : w.cell? ⟨b, o + 2, none⟩ = some (.int .i64 p.at_)
  c3 : w.cell? ⟨b, o + 3, none⟩ = some (.int .i64 p.n)
  out : w.rangeAt b (o + 4) (outV p.out)
/-- A slice of acts. -/
structure IsActs (w : World) (a : Option Addr) (len cap : Nat) (z : List ActZ) : Prop where
  size_ : z.length = len
  max : len ≤ maxLen
  at_ : ∀ k, k < len → ∃ b o, a = some ⟨b, o, none⟩ ∧ ActAt w b (o + k * 14) (z.getD k ActZ.none_) ∧ (z.getD k ActZ.none_).Ok ∧ b < w.heap.size
theorem cells75 : Try.prog.cellsOf 75 = 14 := by kernel_rfl
theorem cells5 : Try.prog.cellsOf 5 = 1 := by kernel_rfl
def actC (p : ActZ) : List Value := .int .u8 (p.do_ : Int) :: .string ⟨p.key.toArray⟩ :: .int .i64 p.at_ :: .int .i64 p.n :: outV p.out
theorem u8_in {x : Int} (h : (Lit.int .u8 x).wf = true) : 0 ≤ x ∧ x < 256 := by have := bounds_u8 h; omega
set_option maxRecDepth 100000 in
theorem act_of {H : Type} {enc : TypeId × Value → H} {w : World} {base : Nat} {spare : Nat → Bool} {held : Bool} {fuel : Nat} {cs : List Value} {x : DataW H × List MemPlace} (h : DataW.trod enc Try.prog w base spare held fuel 75 cs = some x) :
    ∃ p : ActZ, p.Ok ∧ cs = actC p := by
  obtain ⟨xs, n, rfl, rfl, hl, hxl, hf⟩ := DataW.trod_struct Try.underlying75 h
  rw [cells75] at hl
  match cs, hl, xs, hxl with
  | [v0, v1, v2, v3, v4, v5, v6, v7, v8, v9, v10, v11, v12, v13], _, [y0, y1, y2, y3, y4], _ =>
    have g0 : DataW.trod enc Try.prog w base spare held n 5 (List.take (Try.prog.cellsOf 5) (List.drop 0 [v0, v1, v2, v3, v4, v5, v6, v7, v8, v9, v10, v11, v12, v13])) = some y0 := hf 0 _ rfl
    have g1 : DataW.trod enc Try.prog w base spare held n 9 (List.take (Try.prog.cellsOf 9) (List.drop 1 [v0, v1, v2, v3, v4, v5, v6, v7, v8, v9, v10, v11, v12, v13])) = some y1 := hf 1 _ rfl
    have g2 : DataW.trod enc Try.prog w base spare held n 2 (List.take (Try.prog.cellsOf 2) (List.drop 2 [v0, v1, v2, v3, v4, v5, v6, v7, v8, v9, v10, v11, v12, v13])) = some y2 := hf 2 _ rfl
    have g3 : DataW.trod enc Try.prog w base spare held n 2 (List.take (Try.prog.cellsOf 2) (List.drop 3 [v0, v1, v2, v3, v4, v5, v6, v7, v8, v9, v10, v11, v12, v13])) = some y3 := hf 3 _ rfl
    have g4 : DataW.trod enc Try.prog w base spare held n 38 (List.take (Try.prog.cellsOf 38) (List.drop 4 [v0, v1, v2, v3, v4, v5, v6, v7, v8, v9, v10, v11, v12, v13])) = some y4 := hf 4 _ rfl
    rw [cells5] at g0
    rw [mcells9] at g1
    rw [mcells2] at g2 g3
    rw [mcells38] at g4
    obtain ⟨x0, e0, _, w0⟩ := DataW.trod_int Try.underlying5 (show DataW.trod enc Try.prog w base spare held n 5 [v0] = some y0 from g0)
    obtain ⟨x1, e1, _, w1⟩ := DataW.trod_string Try.underlying9 (show DataW.trod enc Try.prog w base spare held n 9 [v1] = some y1 from g1)
    obtain ⟨x2, e2, _, w2⟩ := DataW.trod_int Try.underlying2 (show DataW.trod enc Try.prog w base spare held n 2 [v2] = some y2 from g2)
    obtain ⟨x3, e3, _, w3⟩ := DataW.trod_int Try.underlying2 (show DataW.trod enc Try.prog w base spare held n 2 [v3] = some y3 from g3)
    obtain ⟨q, q0, q1, q2, e4⟩ := out_in (show DataW.trod enc Try.prog w base spare held n 38 [v4, v5, v6, v7, v8, v9, v10, v11, v12, v13] = some y4 from g4)
    simp only [List.cons.injEq, and_true] at e0 e1 e2 e3
    obtain ⟨b0, b0'⟩ := u8_in w0
    refine ⟨⟨x0.toNat, x1.data.toList, x2, x3, q⟩, ⟨by show x0.toNat < 256; omega, by simp only [Array.length_toList]; exact w1, by have := bounds_i64 w2; unfold i64; simp only; omega, by have := bounds_i64 w3; unfold i64; simp only; omega, q2, q1, q0⟩, ?_⟩
    rw [e0, e1, e2, e3, e4]
    show Value.int .u8 x0 :: _ = Value.int .u8 ((x0.toNat : Nat) : Int) :: _
    rw [show ((x0.toNat : Nat) : Int) = x0 by omega]
theorem acts_of {H : Type} {enc : TypeId × Value → H} {w : World} {base : Nat} {spare : Nat → Bool} {held : Bool} {a : Option Addr} {len cap : Nat} {d : DataW H} {pl : List MemPlace}
    (h : DataW.Trod enc Try.prog w base spare held 22 (.slice a len cap) d pl) : ∃ z : List ActZ, IsActs w a len cap z := by
  obtain ⟨fuel, hf⟩ := h
  rcases Go.Deep.open_slice Try.underlying22 hf with ⟨hcs, _⟩ | ⟨x, l, c, m, n, D, Pl, hcs, hb, hl, hm, hmm, _, hel⟩
  · simp [Value.cells] at hcs
    obtain ⟨rfl, rfl, rfl⟩ := hcs
    exact ⟨[], rfl, by unfold maxLen; omega, fun k hk => absurd hk (Nat.not_lt_zero _)⟩
  · simp [Value.cells] at hcs
    obtain ⟨rfl, rfl, rfl⟩ := hcs
    rw [cells75] at hel
    have hlm : len ≤ m := by rw [hmm]; split <;> omega
    have hp : ∀ k, k < len → ∃ p : ActZ, p.Ok ∧ (∃ b o, x = ⟨b, o, none⟩ ∧ ActAt w b (o + k * 14) p ∧ b < w.heap.size) := fun k hk => by
      obtain ⟨cs', h1, h2⟩ := hel k (by omega)
      obtain ⟨p, ok, rfl⟩ := act_of h2
      obtain ⟨_, _, hc⟩ := World.cells?_some h1
      obtain ⟨b, o, spot⟩ := x
      have hspot : spot = none := by
        obtain ⟨cs0, i1, i2⟩ := hel 0 (by omega)
        obtain ⟨p0, _, rfl⟩ := act_of i2
        obtain ⟨_, _, hc'⟩ := World.cells?_some i1
        have := World.cell?_spot (w := w) (hc' 0 (by omega))
        simpa [Addr.add] using this
      subst hspot
      have cell : ∀ j, j < 14 → w.cell? ⟨b, o + k * 14 + j, none⟩ = (actC p)[j]? := fun j hj => by
        have := hc j hj
        rwa [Go.Deep.add_add, Addr.add_lit, ← Nat.add_assoc] at this
      have k0 := cell 0 (by omega)
      refine ⟨p, ok, b, o, rfl, ⟨k0, cell 1 (by omega), cell 2 (by omega), cell 3 (by omega), fun j u hu => ?_⟩, World.block_lt_of_cell? _ _ k0⟩
      have hj : j < 10 := by have := (List.getElem?_eq_some_iff.1 hu).1; rw [show (outV p.out).length = 10 from rfl] at this; exact this
      have := cell (4 + j) (by omega)
      rw [show o + k * 14 + 4 + j = o + k * 14 + (4 + j) by omega, this, ← hu, Nat.add_comm 4 j]
      rfl
    have ih : Inhabited ActZ := ⟨ActZ.none_⟩
    obtain ⟨f, hf⟩ := Go.Deep.choose_lt (p := fun k p => ActZ.Ok p ∧ (∃ b o, x = ⟨b, o, none⟩ ∧ ActAt w b (o + k * 14) p ∧ b < w.heap.size)) hp
    refine ⟨(List.range len).map f, by simp, by omega, fun k hk => ?_⟩
    have e : ((List.range len).map f).getD k ActZ.none_ = f k := by simp [List.getD_eq_getElem?_getD, hk]
    rw [e]
    obtain ⟨ok, b, o, rfl, hat, hlt⟩ := hf k hk
    exact ⟨b, o, rfl, hat, ok, hlt⟩
theorem ActAt.keep {F : Nat → Prop} {w w' : World} {b o : Nat} {p : ActZ} (h : ActAt w b o p) (m : Moved F w w') (hb : b < w.heap.size) (hF : ¬ F b) : ActAt w' b o p :=
  ⟨(m.cell (p := ⟨b, o, none⟩) hb hF).trans h.c0, (m.cell (p := ⟨b, o + 1, none⟩) hb hF).trans h.c1, (m.cell (p := ⟨b, o + 2, none⟩) hb hF).trans h.c2, (m.cell (p := ⟨b, o + 3, none⟩) hb hF).trans h.c3, fun j u hu => (m.cell (p := ⟨b, o + 4 + j, none⟩) hb hF).trans (h.out j u hu)⟩
theorem IsActs.below {w w' : World} {a : Option Addr} {len cap : Nat} {z : List ActZ} (h : IsActs w a len cap z) (hb : Below w.heap.size w w') : IsActs w' a len cap z :=
  ⟨h.size_, h.max, fun k hk => by
    obtain ⟨b, o, e, hp, ok, hlt⟩ := h.at_ k hk
    exact ⟨b, o, e, hp.keep (Moved.of_below (F := fun _ => False) hb) hlt id, ok, Nat.lt_of_lt_of_le hlt hb.size⟩⟩
theorem IsActs.ok {w : World} {a : Option Addr} {len cap : Nat} {z : List ActZ} (h : IsActs w a len cap z) : ∀ p ∈ z, p.Ok := fun p hp => by
  obtain ⟨k, hk, rfl⟩ := List.mem_iff_getElem.1 hp
  obtain ⟨_, _, _, _, ok, _⟩ := h.at_ k (by rw [← h.size_]; exact hk)
  rw [List.getD_eq_getElem?_getD, List.getElem?_eq_getElem hk] at ok
  exact ok
/-- Too long a key. -/
def long (p : ActZ) : Bool := decide (100 < p.key.length) || decide (100 < p.out.key.length)
/-- More than 200 acts, or a key of more than 100 bytes. -/
def tooGreat (z : List ActZ) : Bool := decide (200 < z.length) || z.any long
theorem any_at {z : List ActZ} {k : Nat} (hk : k < z.length) (h : long (z.getD k ActZ.none_) = true) : z.any long = true := by
  rw [List.getD_eq_getElem?_getD, List.getElem?_eq_getElem hk] at h
  exact List.any_eq_true.2 ⟨_, List.getElem_mem hk, h⟩
theorem any_none {z : List ActZ} (h : ∀ k, k < z.length → long (z.getD k ActZ.none_) = false) : z.any long = false := by
  rw [List.any_eq_false]
  intro p hp
  obtain ⟨k, hk, rfl⟩ := List.mem_iff_getElem.1 hp
  have := h k hk
  rw [List.getD_eq_getElem?_getD, List.getElem?_eq_getElem hk] at this
  simpa using this
set_option maxRecDepth 100000 in
set_option maxHeartbeats 2000000 in
theorem great_any (a : Option Addr) (len cap : Nat) (z : List ActZ) (w : World) (hs : IsActs w a len cap z) :
    Calls Try.prog 9 #[.slice a len cap] w fun e w' => e = .returned (.bool (tooGreat z)) ∧ w' = w := by
  have HS := hide hs
  have hz := hs.size_
  have HZ := hide hz
  clear hs
  by_cases h200 : (200 : Int) < (len : Int)
  · have HG : Hid (tooGreat z = true) := hide (by unfold tooGreat; rw [hz, show decide (200 < len) = true from decide_eq_true (by omega)]; rfl)
    clear hz
    go_enter Try.func9, Try.ntmps9
    go_wp2_with fail
    go_ret
    exact ⟨by rw [unhide HG]; rfl, rfl⟩
  · have HG : Hid (tooGreat z = z.any long) := hide (by unfold tooGreat; rw [hz, show decide (200 < len) = false from decide_eq_false (by omega)]; rfl)
    clear hz
    go_enter Try.func9, Try.ntmps9
    go_wp2_with fail
    go_loop [3] (fun i => ∃ k : Nat, k ≤ len ∧ i = .int .i64 k ∧ Hid (∀ j, j < k → long (z.getD j ActZ.none_) = false)) (fun i => len - (intOf i).toNat)
    case atStart => exact ⟨0, by omega, rfl, hide fun j hj => absurd hj (Nat.not_lt_zero _)⟩
    case round =>
      obtain ⟨k, hk, rfl, HA⟩ := hrel
      by_cases hlt : k < len
      · have g1 : (k : Int) < (len : Int) := by omega
        have hk0 : (0 : Int) ≤ (k : Int) := by omega
        have hwk : IntKind.i64.wrap ((k : Int) + 1) = (k : Int) + 1 := Go.IntWalk.i64_in _ (by omega)
        obtain ⟨b, o, rfl, hat, ok, _⟩ := (unhide HS).at_ k hlt
        have hc1 := hat.c1
        have hc4 : w.cell? ⟨b, o + k * 14 + 4, none⟩ = some (.string ⟨(z.getD k ActZ.none_).out.key.toArray⟩) := hat.out 0 _ rfl
        have HAT : Hid (long (z.getD k ActZ.none_) = true → tooGreat z = true) := hide fun h => by rw [unhide HG]; exact any_at (by rw [unhide HZ]; exact hlt) h
        have HAN : Hid (long (z.getD k ActZ.none_) = false → ∀ j, j < k + 1 → long (z.getD j ActZ.none_) = false) := hide fun h j hj => by
          by_cases e : j = k
          · rw [e]; exact h
          · exact unhide HA j (by omega)
        clear hat ok HA
        generalize z.getD k ActZ.none_ = y at *
        obtain ⟨yd, yk, ya, yn, ⟨ok_, os_, oa_⟩⟩ := y
        dsimp only at hc1 hc4
        have hz1 : (⟨yk.toArray⟩ : ByteArray).size = yk.length := by simp [ByteArray.size]
        have hz2 : (⟨ok_.toArray⟩ : ByteArray).size = ok_.length := by simp [ByteArray.size]
        by_cases h1 : (100 : Int) < (yk.length : Int)
        · have RR := hide (unhide HAT (by unfold long; simp; omega))
          go_wp2_with fail
          go_ret
          exact ⟨by rw [unhide RR]; rfl, rfl⟩
        · by_cases h2 : (100 : Int) < (ok_.length : Int)
          · have RR := hide (unhide HAT (by unfold long; simp; omega))
            go_wp2_with fail
            go_ret
            exact ⟨by rw [unhide RR]; rfl, rfl⟩
          · have RR := hide (unhide HAN (by unfold long; simp; omega))
            go_wp2_with fail
            go_round
            case rel => exact ⟨k + 1, by omega, by go_num, RR⟩
            case measure => simp [intOf]; omega
      · have g1 : ¬ (k : Int) < (len : Int) := by omega
        have hke : k = len := by omega
        have RR : Hid (tooGreat z = false) := hide (by rw [unhide HG]; exact any_none (fun j hj => unhide HA j (by rw [hke, ← unhide HZ]; exact hj)))
        go_wp2_with fail
        go_ret
        exact ⟨by rw [unhide RR]; rfl, rfl⟩
end Go.Proofs.Ytmgmkdkdpeljmaa

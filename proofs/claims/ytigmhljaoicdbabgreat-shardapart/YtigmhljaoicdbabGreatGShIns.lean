/- Items that came in: a slice of them, one by value; what is too great. No conditions. -/
import Derived.Test.YtigmhljaoicdbabGreatGShMath
import Derived.Test.YtigmhljaoicdbabGreatShApply
import Derived.Test.YtigmhljaoicdbabGreatGSnIns
import Derived.Test.YtigmhljaoicdbabGreatGWith
import Derived.Test.YtigmhljaoicdbabGreatShSame
namespace Go.Proofs.YtigmhljaoicdbabGreat
open Go.RowKit Go.ChangeShapes Go.WideShapes
def ItemK : RowK ItemV := ⟨22, 24, 8, 72, .agg #[.int .i64 0, .int .i64 0, .int .i64 0, .int .u8 0, .string ⟨#[]⟩, .int .i64 0, .int .i64 0, .int .i64 0], itemC⟩
theorem itemK_law : ItemK.Law Tryz.prog where
  und := Tryz.underlying22
  info := Sn.info_parts (by kernel_rfl)
  zc := rfl
  pos := by decide
  len := fun _ => rfl
  one := fun b u hu => by
    simp [ItemK, itemC] at hu
    rcases hu with rfl | rfl | rfl | rfl | rfl | rfl | rfl | rfl <;> rfl
  small := by decide
structure ItemV.In (p : ItemV) : Prop where
  src : i64 p.src
  seq : i64 p.seq
  low : i64 p.low
  kind : p.kind < 256
  key : p.key.length ≤ maxLen
  part : i64 p.part
  at_ : i64 p.at_
  n : i64 p.n
def item0 : ItemV := ⟨0, 0, 0, 0, [], 0, 0, 0⟩
theorem cellsI : Tryz.prog.cellsOf 24 = 8 := by kernel_rfl
theorem icells5 : Tryz.prog.cellsOf 5 = 1 := by kernel_rfl
theorem icells3 : Tryz.prog.cellsOf 3 = 1 := by kernel_rfl
theorem icells9 : Tryz.prog.cellsOf 9 = 1 := by kernel_rfl
theorem icells2 : Tryz.prog.cellsOf 2 = 1 := by kernel_rfl
section
variable {H : Type} {enc : TypeId × Value → H} {w : World} {base : Nat} {spare : Nat → Bool} {held : Bool}
set_option maxRecDepth 100000 in
set_option maxHeartbeats 1000000 in
theorem item_of {fuel : Nat} {cs : List Value} {x : DataW H × List MemPlace} (h : DataW.trod enc Tryz.prog w base spare held fuel 24 cs = some x) : ∃ p : ItemV, p.In ∧ cs = itemC p := by
  obtain ⟨xs, n, rfl, rfl, hl, hxl, hf⟩ := DataW.trod_struct Tryz.underlying24 h
  rw [cellsI] at hl
  match cs, hl, xs, hxl with
  | [v0, v1, v2, v3, v4, v5, v6, v7], _, [y0, y1, y2, y3, y4, y5, y6, y7], _ =>
    have g0 : DataW.trod enc Tryz.prog w base spare held n 3 (List.take (Tryz.prog.cellsOf 3) (List.drop 0 [v0, v1, v2, v3, v4, v5, v6, v7])) = some y0 := hf 0 _ rfl
    have g1 : DataW.trod enc Tryz.prog w base spare held n 3 (List.take (Tryz.prog.cellsOf 3) (List.drop 1 [v0, v1, v2, v3, v4, v5, v6, v7])) = some y1 := hf 1 _ rfl
    have g2 : DataW.trod enc Tryz.prog w base spare held n 3 (List.take (Tryz.prog.cellsOf 3) (List.drop 2 [v0, v1, v2, v3, v4, v5, v6, v7])) = some y2 := hf 2 _ rfl
    have g3 : DataW.trod enc Tryz.prog w base spare held n 5 (List.take (Tryz.prog.cellsOf 5) (List.drop 3 [v0, v1, v2, v3, v4, v5, v6, v7])) = some y3 := hf 3 _ rfl
    have g4 : DataW.trod enc Tryz.prog w base spare held n 9 (List.take (Tryz.prog.cellsOf 9) (List.drop 4 [v0, v1, v2, v3, v4, v5, v6, v7])) = some y4 := hf 4 _ rfl
    have g5 : DataW.trod enc Tryz.prog w base spare held n 3 (List.take (Tryz.prog.cellsOf 3) (List.drop 5 [v0, v1, v2, v3, v4, v5, v6, v7])) = some y5 := hf 5 _ rfl
    have g6 : DataW.trod enc Tryz.prog w base spare held n 2 (List.take (Tryz.prog.cellsOf 2) (List.drop 6 [v0, v1, v2, v3, v4, v5, v6, v7])) = some y6 := hf 6 _ rfl
    have g7 : DataW.trod enc Tryz.prog w base spare held n 2 (List.take (Tryz.prog.cellsOf 2) (List.drop 7 [v0, v1, v2, v3, v4, v5, v6, v7])) = some y7 := hf 7 _ rfl
    rw [icells3] at g0 g1 g2 g5
    rw [icells5] at g3
    rw [icells9] at g4
    rw [icells2] at g6 g7
    obtain ⟨x0, e0, _, w0⟩ := DataW.trod_int Tryz.underlying3 (show DataW.trod enc Tryz.prog w base spare held n 3 [v0] = some y0 from g0)
    obtain ⟨x1, e1, _, w1⟩ := DataW.trod_int Tryz.underlying3 (show DataW.trod enc Tryz.prog w base spare held n 3 [v1] = some y1 from g1)
    obtain ⟨x2, e2, _, w2⟩ := DataW.trod_int Tryz.underlying3 (show DataW.trod enc Tryz.prog w base spare held n 3 [v2] = some y2 from g2)
    obtain ⟨x3, e3, _, w3⟩ := DataW.trod_int Tryz.underlying5 (show DataW.trod enc Tryz.prog w base spare held n 5 [v3] = some y3 from g3)
    obtain ⟨x4, e4, _, w4⟩ := DataW.trod_string Tryz.underlying9 (show DataW.trod enc Tryz.prog w base spare held n 9 [v4] = some y4 from g4)
    obtain ⟨x5, e5, _, w5⟩ := DataW.trod_int Tryz.underlying3 (show DataW.trod enc Tryz.prog w base spare held n 3 [v5] = some y5 from g5)
    obtain ⟨x6, e6, _, w6⟩ := DataW.trod_int Tryz.underlying2 (show DataW.trod enc Tryz.prog w base spare held n 2 [v6] = some y6 from g6)
    obtain ⟨x7, e7, _, w7⟩ := DataW.trod_int Tryz.underlying2 (show DataW.trod enc Tryz.prog w base spare held n 2 [v7] = some y7 from g7)
    simp only [List.cons.injEq, and_true] at e0 e1 e2 e3 e4 e5 e6 e7
    have b3 := bounds_u8 w3
    have k : ∀ {z : Int}, (Lit.int .i64 z).wf = true → i64 z := fun h => by have := bounds_i64 h; unfold i64; omega
    refine ⟨⟨x0, x1, x2, x3.toNat, x4.data.toList, x5, x6, x7⟩, ⟨k w0, k w1, k w2, by show x3.toNat < 256; omega, by simp only [Array.length_toList]; exact w4, k w5, k w6, k w7⟩, ?_⟩
    rw [e0, e1, e2, e3, e4, e5, e6, e7]
    show [Value.int .i64 x0, _, _, Value.int .u8 x3, _, _, _, _] = [Value.int .i64 x0, _, _, Value.int .u8 ((x3.toNat : Nat) : Int), _, _, _, _]
    rw [show ((x3.toNat : Nat) : Int) = x3 by omega]
theorem items_of {a : Option Addr} {len cap : Nat} {d : DataW H} {pl : List MemPlace} (h : DataW.Trod enc Tryz.prog w base spare held 22 (.slice a len cap) d pl) : ∃ z : List ItemV, z.length = len ∧ len ≤ maxLen ∧ ItemK.At w a z ∧ ∀ b ∈ z, b.In :=
  Sn.slice_of (K := ItemK) Tryz.underlying22 cellsI (by decide) (fun _ => rfl) item0 ItemV.In (fun h => item_of h) h
set_option maxRecDepth 100000 in
theorem item_arg {r : Reach} {b0 : Nat} {v : Value} {d : DataW H} {pl : List MemPlace} (hv : Value.okWide Tryz.prog w r b0 24 v) (h : DataW.Trod enc Tryz.prog w base spare held 24 v d pl) :
    ∃ p : ItemV, p.In ∧ v = itemV p := by
  obtain ⟨cs, rfl, _⟩ := okWide_struct Tryz.underlying24 hv
  obtain ⟨fuel, hf⟩ := h
  obtain ⟨p, ok, hcs⟩ := item_of hf
  refine ⟨p, ok, ?_⟩
  have : cs.toList = itemC p := hcs
  unfold itemV
  rw [← this, Array.toArray_toList]
end
/-- Too long a key. -/
def longI (p : ItemV) : Bool := decide (100 < p.key.length)
/-- More than 300 items, or a key of more than 100 bytes. -/
def tooGreatI (z : List ItemV) : Bool := decide (300 < z.length) || z.any longI
theorem anyI_at {z : List ItemV} {k : Nat} {y : ItemV} (hk : z[k]? = some y) (h : longI y = true) : z.any longI = true := List.any_eq_true.2 ⟨_, List.mem_of_getElem? hk, h⟩
theorem anyI_none {z : List ItemV} (h : ∀ (k : Nat) (y : ItemV), z[k]? = some y → longI y = false) : z.any longI = false := by
  rw [List.any_eq_false]
  intro p hp
  obtain ⟨k, hk⟩ := List.getElem?_of_mem hp
  have := h k p hk
  simpa using this
theorem short_i {z : List ItemV} (h : ¬ tooGreatI z = true) : z.length ≤ 300 := Nat.le_of_not_lt fun hl => h (by unfold tooGreatI; rw [decide_eq_true hl, Bool.true_or])
set_option maxRecDepth 100000 in
set_option maxHeartbeats 2000000 in
theorem greatI_any {a : Option Addr} {cap : Nat} {z : List ItemV} {w : World} (hz : ItemK.At w a z) :
    Calls Tryz.prog 5 #[.slice a z.length cap] w fun e w' => e = .returned (.bool (tooGreatI z)) ∧ w' = w := by
  have HZ := hide hz
  clear hz
  by_cases h300 : (300 : Int) < (z.length : Int)
  · have HG : Hid (tooGreatI z = true) := hide (by unfold tooGreatI; rw [show decide (300 < z.length) = true from decide_eq_true (by omega)]; rfl)
    go_enter Tryz.func5, Tryz.ntmps5
    go_wp2_with fail
    go_ret
    exact ⟨by rw [unhide HG]; rfl, rfl⟩
  · have HG : Hid (tooGreatI z = z.any longI) := hide (by unfold tooGreatI; rw [show decide (300 < z.length) = false from decide_eq_false (by omega)]; rfl)
    go_enter Tryz.func5, Tryz.ntmps5
    go_wp2_with fail
    go_loop [3] (fun i => ∃ k : Nat, k ≤ z.length ∧ i = .int .i64 k ∧ Hid (∀ j y, j < k → z[j]? = some y → longI y = false)) (fun i => z.length - (intOf i).toNat)
    case atStart => exact ⟨0, by omega, rfl, hide fun j _ hj => absurd hj (Nat.not_lt_zero _)⟩
    case round =>
      obtain ⟨k, hk, rfl, HA⟩ := hrel
      by_cases hlt : k < z.length
      · have g1 : (k : Int) < (z.length : Int) := by omega
        have hk0 : (0 : Int) ≤ (k : Int) := by omega
        have hwk : IntKind.i64.wrap ((k : Int) + 1) = (k : Int) + 1 := Go.IntWalk.i64_in _ (by omega)
        obtain ⟨y, hy⟩ : ∃ y, z[k]? = some y := ⟨_, List.getElem?_eq_getElem hlt⟩
        obtain ⟨g, o, rfl, hg, hr⟩ := (unhide HZ).cell itemK_law hy
        have HAT : Hid (longI y = true → tooGreatI z = true) := hide fun h => by rw [unhide HG]; exact anyI_at hy h
        have HAN : Hid (longI y = false → ∀ j y, j < k + 1 → z[j]? = some y → longI y = false) := hide fun h j y' hj hy' => by
          by_cases e : j = k
          · subst e; rw [hy] at hy'; cases hy'; exact h
          · exact unhide HA j y' (by omega) hy'
        obtain ⟨ys, yq, yl, yd, yk, yp, ya, yn⟩ := y
        have hc4 : w.cell? ⟨g, o + k * 8 + 4, none⟩ = some (.string ⟨yk.toArray⟩) := hr 4 _ rfl
        have hz1 : (⟨yk.toArray⟩ : ByteArray).size = yk.length := by simp [ByteArray.size]
        clear hr hg hy HA
        by_cases h1 : (100 : Int) < (yk.length : Int)
        · have RR := hide (unhide HAT (by unfold longI; simp; omega))
          go_wp2_with fail
          go_ret
          exact ⟨by rw [unhide RR]; rfl, rfl⟩
        · have RR := hide (unhide HAN (by unfold longI; simp; omega))
          go_wp2_with fail
          go_round
          case rel => exact ⟨k + 1, by omega, by go_num, RR⟩
          case measure => simp [intOf]; omega
      · have g1 : ¬ (k : Int) < (z.length : Int) := by omega
        have hke : k = z.length := by omega
        have RR : Hid (tooGreatI z = false) := hide (by rw [unhide HG]; exact anyI_none (fun j y hy => unhide HA j y (by rw [hke]; exact (List.getElem?_eq_some_iff.1 hy).1) hy))
        go_wp2_with fail
        go_ret
        exact ⟨by rw [unhide RR]; rfl, rfl⟩
end Go.Proofs.YtigmhljaoicdbabGreat

namespace Go.Proofs.YtigmhljaoicdbabGreat
open Go.RowKit
/-- A box of an item. -/
def ItemAt (v : World) (b : Nat) (x : ItemV) : Prop := v.rangeAt b 0 (itemC x) ∧ b < v.heap.size
def hItem (b : Nat) (x : ItemV) : Sn.Held := ⟨fun k => k = b, fun v => ItemAt v b x, fun _ h k e => by rw [e]; exact h.2, fun v v' h hz hk => ⟨fun j u hu => (World.cell?_of_block (w := v) (a := ⟨b, 0 + j, none⟩) (hk b rfl)).trans (h.1 j u hu), Nat.lt_of_lt_of_le h.2 hz⟩⟩
theorem HR.item {w0 v : World} {b : Nat} {x : ItemV} {R : List Sn.Held} (h : Sn.HR w0 v R) (m : hItem b x ∈ R) : v.rangeAt b 0 (itemC x) := (h.ok _ m : ItemAt v b x).1
theorem HR.boxed {w0 v v' : World} {R : List Sn.Held} (h : Sn.HR w0 v R) (x : ItemV) (b : Below v.heap.size v v') (hr : v'.rangeAt v.heap.size 0 (itemC x)) : Sn.HR w0 v' (hItem v.heap.size x :: R) :=
  h.add (r := hItem v.heap.size x) b (show ItemAt v' v.heap.size x from ⟨hr, World.block_lt_of_cell? _ _ (hr 0 _ rfl)⟩) fun k e => by have e' : k = v.heap.size := e; omega
theorem out_row {v : World} {a : Option Addr} {c : Nat} {l : List (Win AggV)} (h : OutK.Row v 0 a c l) {j : Nat} {x : Win AggV} (hx : l[j]? = some x) : ∃ g, a = some ⟨g, 0, none⟩ ∧ v.rangeAt g (j * 10) (outV x) := by
  rcases Sn.row_shape h with ⟨g, rfl, _, _⟩ | ⟨_, rfl⟩
  · refine ⟨g, rfl, ?_⟩
    have := lies_at outK_law (row_lies h) hx
    rw [Nat.zero_add] at this; exact this
  · cases hx
def wx1 : ItemV := ⟨0, 1, 1, 1, [97], 0, 3, 5⟩
def wx2 : ItemV := ⟨0, 2, 1, 2, [], 0, 15, 0⟩
def ws1 : StV := appS newS wx1
def ws2 : StV := appS ws1 wx1
def ws3 : StV := appS ws2 wx2
theorem wx1_n : i64 wx1.n := by unfold i64 wx1; simp
theorem wx2_n : i64 wx2.n := by unfold i64 wx2; simp
theorem ws1_good : GoodS ws1 := goodS_app goodS_new wx1_n
theorem ws2_good : GoodS ws2 := goodS_app ws1_good wx1_n
theorem ws3_good : GoodS ws3 := goodS_app ws2_good wx2_n
theorem wc1 : codeS newS wx1 = 1 ∧ outsS newS wx1 = [] ∧ freshS newS wx1 = true := ⟨by kernel_rfl, by kernel_rfl, by kernel_rfl⟩
theorem wc2 : codeS ws1 wx1 = 1 ∧ outsS ws1 wx1 = [] ∧ freshS ws1 wx1 = false := ⟨by kernel_rfl, by kernel_rfl, by kernel_rfl⟩
theorem wc3 : codeS ws2 wx2 = 1 ∧ outsS ws2 wx2 = [⟨[97], 0, put zero 5⟩] ∧ freshS ws2 wx2 = true := ⟨by kernel_rfl, by kernel_rfl, by kernel_rfl⟩
theorem wm3 : ws3.line.mark = 15 := by kernel_rfl
section
variable {w0 v : World} {p : Nat} {F : Nat → Prop} {R : List Sn.Held}
theorem wk_app1 (h : Sn.HR w0 v (hState p F newS :: R)) : Calls Tryz.prog 10 #[.pointer (some ⟨p, 0, none⟩), .agg (itemC wx1).toArray] v fun e v' => ∃ a c F', e = .returned (.tuple #[.int .i64 1, .slice a 0 c, .bool true]) ∧ Sn.HR w0 v' (hState p F' ws1 :: R) := by
  have := hs_apply h goodS_new wx1 wx1_n (by decide)
  rw [wc1.1, wc1.2.1, wc1.2.2] at this
  exact this.mono fun _ _ ⟨a, c, F', h1, h2⟩ => ⟨a, c, F', h1, h2.drop1⟩
theorem wk_app2 (h : Sn.HR w0 v (hState p F ws1 :: R)) : Calls Tryz.prog 10 #[.pointer (some ⟨p, 0, none⟩), .agg (itemC wx1).toArray] v fun e v' => ∃ a c F', e = .returned (.tuple #[.int .i64 1, .slice a 0 c, .bool false]) ∧ Sn.HR w0 v' (hState p F' ws2 :: R) := by
  have := hs_apply h ws1_good wx1 wx1_n (by decide)
  rw [wc2.1, wc2.2.1, wc2.2.2] at this
  exact this.mono fun _ _ ⟨a, c, F', h1, h2⟩ => ⟨a, c, F', h1, h2.drop1⟩
theorem wk_app3 (h : Sn.HR w0 v (hState p F ws2 :: R)) : Calls Tryz.prog 10 #[.pointer (some ⟨p, 0, none⟩), .agg (itemC wx2).toArray] v fun e v' => ∃ g c F', e = .returned (.tuple #[.int .i64 1, .slice (some ⟨g, 0, none⟩) 1 c, .bool true]) ∧ Sn.HR w0 v' (hState p F' ws3 :: R) ∧ v'.cell? ⟨g, 3, none⟩ = some (.int .i64 5) := by
  have := hs_apply h ws2_good wx2 wx2_n (by decide)
  rw [wc3.1, wc3.2.1, wc3.2.2] at this
  refine this.mono fun _ _ ⟨a, c, F', h1, h2⟩ => ?_
  have hr : OutK.Row _ 0 a c [⟨[97], 0, put zero 5⟩] := h2.ok _ List.mem_cons_self
  obtain ⟨g, rfl, hg⟩ := out_row hr (j := 0) rfl
  exact ⟨g, c, F', h1, h2.drop1, hg 3 _ rfl⟩
end
set_option maxRecDepth 100000 in
set_option maxHeartbeats 2000000 in
theorem wakes_any (w : World) : Calls Tryz.prog 6 #[] w fun e w' => e = .returned (.bool true) ∧ Below w.heap.size w w' := by
  have H0 := hide (Sn.HR.start w)
  go_enter Tryz.func6, Tryz.ntmps6
  go_upto_region 2 with fail
  refine (hs_new (unhide H0)).mono ?_
  rintro e v1 ⟨p, F1, rfl, h⟩
  obtain ⟨b, hb⟩ : ∃ b, b = v1.heap.size := ⟨_, rfl⟩
  obtain ⟨V, hV⟩ : ∃ V, V = v1.alloc (.cells #[.int .i64 0, .int .i64 1, .int .i64 1, .int .u8 1, .string ⟨#[97]⟩, .int .i64 0, .int .i64 3, .int .i64 5] 24) := ⟨_, rfl⟩
  have H1 : Hid (Sn.HR w V (hState p F1 newS :: hItem b wx1 :: [])) := hide (by
    have := HR.boxed (v' := V) h wx1 (by rw [hV]; exact (Below.refl _ _).alloc (Nat.le_refl _) _) (by
      rw [hV]
      intro j u hu
      rw [Nat.zero_add, World.cell?_alloc_new]
      have : (itemC wx1).toArray[j]? = some u := by simpa using hu
      exact this)
    rw [← hb] at this
    exact this.swap)
  have HB := hide hb
  have HV := hide hV
  clear h hb hV H0
  go_upto_region 3 with fail
  rw [← unhide HV, ← unhide HB]
  clear HV HB
  have RI := hide (HR.item (unhide H1) (List.mem_cons_of_mem _ List.mem_cons_self))
  go_wp2_with (refine Sn.wpList_load_on rfl 24 (.tmp 2) rfl b 0 rfl (itemC wx1) _ (unhide RI) Tryz.underlying24 rfl (by kernel_rfl) ?_)
  refine (wk_app1 (unhide H1)).mono ?_
  rintro e v2 ⟨a2, c2, F2, rfl, h⟩
  have H2 := hide h
  have RJ := hide (HR.item h (List.mem_cons_of_mem _ List.mem_cons_self))
  clear h H1 RI
  go_wp2_with (refine Sn.wpList_load_on rfl 24 (.tmp 2) rfl b 0 rfl (itemC wx1) _ (unhide RJ) Tryz.underlying24 rfl (by kernel_rfl) ?_)
  refine (wk_app2 (unhide H2)).mono ?_
  rintro e v3 ⟨a3, c3, F3, rfl, h⟩
  have H3 := hide h
  clear h H2 RJ
  go_wp2_with fail
  refine (wk_app3 (unhide H3)).mono ?_
  rintro e v4 ⟨g, c4, F4, rfl, h, hc⟩
  have H4 := hide h
  have KM := hide (hs_mark h List.mem_cons_self)
  clear h H3
  go_wp2_with fail
  refine (unhide KM).mono ?_
  rintro e v5 ⟨rfl, hw⟩
  rw [hw, wm3]
  clear hw v5
  go_wp2_with fail
  go_ret
  exact ⟨rfl, (unhide H4).bel⟩
end Go.Proofs.YtigmhljaoicdbabGreat

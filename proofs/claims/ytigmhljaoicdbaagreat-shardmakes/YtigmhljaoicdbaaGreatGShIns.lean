/- Items that came in: a slice of them, one by value; what is too great. No conditions. -/
import Derived.Test.YtigmhljaoicdbaaGreatGShMath
import Derived.Test.YtigmhljaoicdbaaGreatShApply
import Derived.Test.YtigmhljaoicdbaaGreatGSnIns
import Derived.Test.YtigmhljaoicdbaaGreatGWith
import Derived.Test.YtigmhljaoicdbaaGreatShSame
import Derived.Test.YtigmhljaoicdbaaGreatSpCalls
import Derived.Test.YtigmhljaoicdbaaGreatGPut
namespace Go.Proofs.YtigmhljaoicdbaaGreat
open Go.RowKit Go.ChangeShapes Go.WideShapes
def ItemK : RowK ItemV := ⟨22, 42, 8, 72, .agg #[.int .i64 0, .int .i64 0, .int .i64 0, .int .u8 0, .string ⟨#[]⟩, .int .i64 0, .int .i64 0, .int .i64 0], itemC⟩
theorem itemK_law : ItemK.Law Tryz.prog where
  und := Tryz.underlying22
  info := Sn.info_parts (by kernel_rfl)
  zc := rfl
  pos := by decide
  len := fun _ => rfl
  one := fun b u hu => by
    simp [ItemK, itemC] at hu
    rcases hu with rfl | rfl | rfl | rfl | rfl | rfl | rfl | rfl <;> rfl
  small := by decide
structure ItemV.In (p : ItemV) : Prop where
  src : i64 p.src
  seq : i64 p.seq
  low : i64 p.low
  kind : p.kind < 256
  key : p.key.length ≤ maxLen
  part : i64 p.part
  at_ : i64 p.at_
  n : i64 p.n
def item0 : ItemV := ⟨0, 0, 0, 0, [], 0, 0, 0⟩
theorem cellsI : Tryz.prog.cellsOf 42 = 8 := by kernel_rfl
theorem icells5 : Tryz.prog.cellsOf 5 = 1 := by kernel_rfl
theorem icells3 : Tryz.prog.cellsOf 3 = 1 := by kernel_rfl
theorem icells9 : Tryz.prog.cellsOf 9 = 1 := by kernel_rfl
theorem icells2 : Tryz.prog.cellsOf 2 = 1 := by kernel_rfl
section
variable {H : Type} {enc : TypeId × Value → H} {w : World} {base : Nat} {spare : Nat → Bool} {held : Bool}
set_option maxRecDepth 100000 in
set_option maxHeartbeats 1000000 in
theorem item_of {fuel : Nat} {cs : List Value} {x : DataW H × List MemPlace} (h : DataW.trod enc Tryz.prog w base spare held fuel 42 cs = some x) : ∃ p : ItemV, p.In ∧ cs = itemC p := by
  obtain ⟨xs, n, rfl, rfl, hl, hxl, hf⟩ := DataW.trod_struct Tryz.underlying42 h
  rw [cellsI] at hl
  match cs, hl, xs, hxl with
  | [v0, v1, v2, v3, v4, v5, v6, v7], _, [y0, y1, y2, y3, y4, y5, y6, y7], _ =>
    have g0 : DataW.trod enc Tryz.prog w base spare held n 3 (List.take (Tryz.prog.cellsOf 3) (List.drop 0 [v0, v1, v2, v3, v4, v5, v6, v7])) = some y0 := hf 0 _ rfl
    have g1 : DataW.trod enc Tryz.prog w base spare held n 3 (List.take (Tryz.prog.cellsOf 3) (List.drop 1 [v0, v1, v2, v3, v4, v5, v6, v7])) = some y1 := hf 1 _ rfl
    have g2 : DataW.trod enc Tryz.prog w base spare held n 3 (List.take (Tryz.prog.cellsOf 3) (List.drop 2 [v0, v1, v2, v3, v4, v5, v6, v7])) = some y2 := hf 2 _ rfl
    have g3 : DataW.trod enc Tryz.prog w base spare held n 5 (List.take (Tryz.prog.cellsOf 5) (List.drop 3 [v0, v1, v2, v3, v4, v5, v6, v7])) = some y3 := hf 3 _ rfl
    have g4 : DataW.trod enc Tryz.prog w base spare held n 9 (List.take (Tryz.prog.cellsOf 9) (List.drop 4 [v0, v1, v2, v3, v4, v5, v6, v7])) = some y4 := hf 4 _ rfl
    have g5 : DataW.trod enc Tryz.prog w base spare held n 3 (List.take (Tryz.prog.cellsOf 3) (List.drop 5 [v0, v1, v2, v3, v4, v5, v6, v7])) = some y5 := hf 5 _ rfl
    have g6 : DataW.trod enc Tryz.prog w base spare held n 2 (List.take (Tryz.prog.cellsOf 2) (List.drop 6 [v0, v1, v2, v3, v4, v5, v6, v7])) = some y6 := hf 6 _ rfl
    have g7 : DataW.trod enc Tryz.prog w base spare held n 2 (List.take (Tryz.prog.cellsOf 2) (List.drop 7 [v0, v1, v2, v3, v4, v5, v6, v7])) = some y7 := hf 7 _ rfl
    rw [icells3] at g0 g1 g2 g5
    rw [icells5] at g3
    rw [icells9] at g4
    rw [icells2] at g6 g7
    obtain ⟨x0, e0, _, w0⟩ := DataW.trod_int Tryz.underlying3 (show DataW.trod enc Tryz.prog w base spare held n 3 [v0] = some y0 from g0)
    obtain ⟨x1, e1, _, w1⟩ := DataW.trod_int Tryz.underlying3 (show DataW.trod enc Tryz.prog w base spare held n 3 [v1] = some y1 from g1)
    obtain ⟨x2, e2, _, w2⟩ := DataW.trod_int Tryz.underlying3 (show DataW.trod enc Tryz.prog w base spare held n 3 [v2] = some y2 from g2)
    obtain ⟨x3, e3, _, w3⟩ := DataW.trod_int Tryz.underlying5 (show DataW.trod enc Tryz.prog w base spare held n 5 [v3] = some y3 from g3)
    obtain ⟨x4, e4, _, w4⟩ := DataW.trod_string Tryz.underlying9 (show DataW.trod enc Tryz.prog w base spare held n 9 [v4] = some y4 from g4)
    obtain ⟨x5, e5, _, w5⟩ := DataW.trod_int Tryz.underlying3 (show DataW.trod enc Tryz.prog w base spare held n 3 [v5] = some y5 from g5)
    obtain ⟨x6, e6, _, w6⟩ := DataW.trod_int Tryz.underlying2 (show DataW.trod enc Tryz.prog w base spare held n 2 [v6] = some y6 from g6)
    obtain ⟨x7, e7, _, w7⟩ := DataW.trod_int Tryz.underlying2 (show DataW.trod enc Tryz.prog w base spare held n 2 [v7] = some y7 from g7)
    simp only [List.cons.injEq, and_true] at e0 e1 e2 e3 e4 e5 e6 e7
    have b3 := bounds_u8 w3
    have k : ∀ {z : Int}, (Lit.int .i64 z).wf = true → i64 z := fun h => by have := bounds_i64 h; unfold i64; omega
    refine ⟨⟨x0, x1, x2, x3.toNat, x4.data.toList, x5, x6, x7⟩, ⟨k w0, k w1, k w2, by show x3.toNat < 256; omega, by simp only [Array.length_toList]; exact w4, k w5, k w6, k w7⟩, ?_⟩
    rw [e0, e1, e2, e3, e4, e5, e6, e7]
    show [Value.int .i64 x0, _, _, Value.int .u8 x3, _, _, _, _] = [Value.int .i64 x0, _, _, Value.int .u8 ((x3.toNat : Nat) : Int), _, _, _, _]
    rw [show ((x3.toNat : Nat) : Int) = x3 by omega]
theorem items_of {a : Option Addr} {len cap : Nat} {d : DataW H} {pl : List MemPlace} (h : DataW.Trod enc Tryz.prog w base spare held 22 (.slice a len cap) d pl) : ∃ z : List ItemV, z.length = len ∧ len ≤ maxLen ∧ ItemK.At w a z ∧ ∀ b ∈ z, b.In :=
  Sn.slice_of (K := ItemK) Tryz.underlying22 cellsI (by decide) (fun _ => rfl) item0 ItemV.In (fun h => item_of h) h
set_option maxRecDepth 100000 in
theorem item_arg {r : Reach} {b0 : Nat} {v : Value} {d : DataW H} {pl : List MemPlace} (hv : Value.okWide Tryz.prog w r b0 42 v) (h : DataW.Trod enc Tryz.prog w base spare held 42 v d pl) :
    ∃ p : ItemV, p.In ∧ v = itemV p := by
  obtain ⟨cs, rfl, _⟩ := okWide_struct Tryz.underlying42 hv
  obtain ⟨fuel, hf⟩ := h
  obtain ⟨p, ok, hcs⟩ := item_of hf
  refine ⟨p, ok, ?_⟩
  have : cs.toList = itemC p := hcs
  unfold itemV
  rw [← this, Array.toArray_toList]
end
/-- Too long a key. -/
def longI (p : ItemV) : Bool := decide (100 < p.key.length)
/-- More than 300 items, or a key of more than 100 bytes. -/
def tooGreatI (z : List ItemV) : Bool := decide (300 < z.length) || z.any longI
theorem anyI_at {z : List ItemV} {k : Nat} {y : ItemV} (hk : z[k]? = some y) (h : longI y = true) : z.any longI = true := List.any_eq_true.2 ⟨_, List.mem_of_getElem? hk, h⟩
theorem anyI_none {z : List ItemV} (h : ∀ (k : Nat) (y : ItemV), z[k]? = some y → longI y = false) : z.any longI = false := by
  rw [List.any_eq_false]
  intro p hp
  obtain ⟨k, hk⟩ := List.getElem?_of_mem hp
  have := h k p hk
  simpa using this
theorem short_i {z : List ItemV} (h : ¬ tooGreatI z = true) : z.length ≤ 300 := Nat.le_of_not_lt fun hl => h (by unfold tooGreatI; rw [decide_eq_true hl, Bool.true_or])
set_option maxRecDepth 100000 in
set_option maxHeartbeats 2000000 in
theorem greatI_any {a : Option Addr} {cap : Nat} {z : List ItemV} {w : World} (hz : ItemK.At w a z) :
    Calls Tryz.prog 8 #[.slice a z.length cap] w fun e w' => e = .returned (.bool (tooGreatI z)) ∧ w' = w := by
  have HZ := hide hz
  clear hz
  by_cases h300 : (300 : Int) < (z.length : Int)
  · have HG : Hid (tooGreatI z = true) := hide (by unfold tooGreatI; rw [show decide (300 < z.length) = true from decide_eq_true (by omega)]; rfl)
    go_enter Tryz.func8, Tryz.ntmps8
    go_wp2_with fail
    go_ret
    exact ⟨by rw [unhide HG]; rfl, rfl⟩
  · have HG : Hid (tooGreatI z = z.any longI) := hide (by unfold tooGreatI; rw [show decide (300 < z.length) = false from decide_eq_false (by omega)]; rfl)
    go_enter Tryz.func8, Tryz.ntmps8
    go_wp2_with fail
    go_loop [3] (fun i => ∃ k : Nat, k ≤ z.length ∧ i = .int .i64 k ∧ Hid (∀ j y, j < k → z[j]? = some y → longI y = false)) (fun i => z.length - (intOf i).toNat)
    case atStart => exact ⟨0, by omega, rfl, hide fun j _ hj => absurd hj (Nat.not_lt_zero _)⟩
    case round =>
      obtain ⟨k, hk, rfl, HA⟩ := hrel
      by_cases hlt : k < z.length
      · have g1 : (k : Int) < (z.length : Int) := by omega
        have hk0 : (0 : Int) ≤ (k : Int) := by omega
        have hwk : IntKind.i64.wrap ((k : Int) + 1) = (k : Int) + 1 := Go.IntWalk.i64_in _ (by omega)
        obtain ⟨y, hy⟩ : ∃ y, z[k]? = some y := ⟨_, List.getElem?_eq_getElem hlt⟩
        obtain ⟨g, o, rfl, hg, hr⟩ := (unhide HZ).cell itemK_law hy
        have HAT : Hid (longI y = true → tooGreatI z = true) := hide fun h => by rw [unhide HG]; exact anyI_at hy h
        have HAN : Hid (longI y = false → ∀ j y, j < k + 1 → z[j]? = some y → longI y = false) := hide fun h j y' hj hy' => by
          by_cases e : j = k
          · subst e; rw [hy] at hy'; cases hy'; exact h
          · exact unhide HA j y' (by omega) hy'
        obtain ⟨ys, yq, yl, yd, yk, yp, ya, yn⟩ := y
        have hc4 : w.cell? ⟨g, o + k * 8 + 4, none⟩ = some (.string ⟨yk.toArray⟩) := hr 4 _ rfl
        have hz1 : (⟨yk.toArray⟩ : ByteArray).size = yk.length := by simp [ByteArray.size]
        clear hr hg hy HA
        by_cases h1 : (100 : Int) < (yk.length : Int)
        · have RR := hide (unhide HAT (by unfold longI; simp; omega))
          go_wp2_with fail
          go_ret
          exact ⟨by rw [unhide RR]; rfl, rfl⟩
        · have RR := hide (unhide HAN (by unfold longI; simp; omega))
          go_wp2_with fail
          go_round
          case rel => exact ⟨k + 1, by omega, by go_num, RR⟩
          case measure => simp [intOf]; omega
      · have g1 : ¬ (k : Int) < (z.length : Int) := by omega
        have hke : k = z.length := by omega
        have RR : Hid (tooGreatI z = false) := hide (by rw [unhide HG]; exact anyI_none (fun j y hy => unhide HA j y (by rw [hke]; exact (List.getElem?_eq_some_iff.1 hy).1) hy))
        go_wp2_with fail
        go_ret
        exact ⟨by rw [unhide RR]; rfl, rfl⟩
end Go.Proofs.YtigmhljaoicdbaaGreat

namespace Go.Proofs.YtigmhljaoicdbaaGreat
open Go.RowKit
/-- A box of an item. -/
def ItemAt (v : World) (b : Nat) (x : ItemV) : Prop := v.rangeAt b 0 (itemC x) ∧ b < v.heap.size
def hItem (b : Nat) (x : ItemV) : Sn.Held := ⟨fun k => k = b, fun v => ItemAt v b x, fun _ h k e => by rw [e]; exact h.2, fun v v' h hz hk => ⟨fun j u hu => (World.cell?_of_block (w := v) (a := ⟨b, 0 + j, none⟩) (hk b rfl)).trans (h.1 j u hu), Nat.lt_of_lt_of_le h.2 hz⟩⟩
theorem HR.item {w0 v : World} {b : Nat} {x : ItemV} {R : List Sn.Held} (h : Sn.HR w0 v R) (m : hItem b x ∈ R) : v.rangeAt b 0 (itemC x) := (h.ok _ m : ItemAt v b x).1
theorem HR.boxed {w0 v v' : World} {R : List Sn.Held} (h : Sn.HR w0 v R) (x : ItemV) (b : Below v.heap.size v v') (hr : v'.rangeAt v.heap.size 0 (itemC x)) : Sn.HR w0 v' (hItem v.heap.size x :: R) :=
  h.add (r := hItem v.heap.size x) b (show ItemAt v' v.heap.size x from ⟨hr, World.block_lt_of_cell? _ _ (hr 0 _ rfl)⟩) fun k e => by have e' : k = v.heap.size := e; omega
theorem out_row {v : World} {a : Option Addr} {c : Nat} {l : List (Win AggV)} (h : OutK.Row v 0 a c l) {j : Nat} {x : Win AggV} (hx : l[j]? = some x) : ∃ g, a = some ⟨g, 0, none⟩ ∧ v.rangeAt g (j * 10) (outV x) := by
  rcases Sn.row_shape h with ⟨g, rfl, _, _⟩ | ⟨_, rfl⟩
  · refine ⟨g, rfl, ?_⟩
    have := lies_at outK_law (row_lies h) hx
    rw [Nat.zero_add] at this; exact this
  · cases hx
def wx1 : ItemV := ⟨0, 1, 1, 1, [97], 0, 3, 5⟩
def wx2 : ItemV := ⟨0, 2, 1, 2, [], 0, 15, 0⟩
def ws1 : StV := appS newS wx1
def ws2 : StV := appS ws1 wx1
def ws3 : StV := appS ws2 wx2
theorem wx1_n : i64 wx1.n := by unfold i64 wx1; simp
theorem wx2_n : i64 wx2.n := by unfold i64 wx2; simp
theorem ws1_good : GoodS ws1 := goodS_app goodS_new wx1_n
theorem ws2_good : GoodS ws2 := goodS_app ws1_good wx1_n
theorem ws3_good : GoodS ws3 := goodS_app ws2_good wx2_n
theorem wc1 : codeS newS wx1 = 1 ∧ outsS newS wx1 = [] ∧ freshS newS wx1 = true := ⟨by kernel_rfl, by kernel_rfl, by kernel_rfl⟩
theorem wc2 : codeS ws1 wx1 = 1 ∧ outsS ws1 wx1 = [] ∧ freshS ws1 wx1 = false := ⟨by kernel_rfl, by kernel_rfl, by kernel_rfl⟩
theorem wc3 : codeS ws2 wx2 = 1 ∧ outsS ws2 wx2 = [⟨[97], 0, put zero 5⟩] ∧ freshS ws2 wx2 = true := ⟨by kernel_rfl, by kernel_rfl, by kernel_rfl⟩
theorem wm3 : ws3.line.mark = 15 := by kernel_rfl
section
variable {w0 v : World} {p : Nat} {F : Nat → Prop} {R : List Sn.Held}
theorem wk_app1 (h : Sn.HR w0 v (hState p F newS :: R)) : Calls Tryz.prog 12 #[.pointer (some ⟨p, 0, none⟩), .agg (itemC wx1).toArray] v fun e v' => ∃ a c F', e = .returned (.tuple #[.int .i64 1, .slice a 0 c, .bool true]) ∧ Sn.HR w0 v' (hState p F' ws1 :: R) := by
  have := hs_apply h goodS_new wx1 wx1_n (by decide)
  rw [wc1.1, wc1.2.1, wc1.2.2] at this
  exact this.mono fun _ _ ⟨a, c, F', h1, h2⟩ => ⟨a, c, F', h1, h2.drop1⟩
theorem wk_app2 (h : Sn.HR w0 v (hState p F ws1 :: R)) : Calls Tryz.prog 12 #[.pointer (some ⟨p, 0, none⟩), .agg (itemC wx1).toArray] v fun e v' => ∃ a c F', e = .returned (.tuple #[.int .i64 1, .slice a 0 c, .bool false]) ∧ Sn.HR w0 v' (hState p F' ws2 :: R) := by
  have := hs_apply h ws1_good wx1 wx1_n (by decide)
  rw [wc2.1, wc2.2.1, wc2.2.2] at this
  exact this.mono fun _ _ ⟨a, c, F', h1, h2⟩ => ⟨a, c, F', h1, h2.drop1⟩
theorem wk_app3 (h : Sn.HR w0 v (hState p F ws2 :: R)) : Calls Tryz.prog 12 #[.pointer (some ⟨p, 0, none⟩), .agg (itemC wx2).toArray] v fun e v' => ∃ g c F', e = .returned (.tuple #[.int .i64 1, .slice (some ⟨g, 0, none⟩) 1 c, .bool true]) ∧ Sn.HR w0 v' (hState p F' ws3 :: R) ∧ v'.cell? ⟨g, 3, none⟩ = some (.int .i64 5) := by
  have := hs_apply h ws2_good wx2 wx2_n (by decide)
  rw [wc3.1, wc3.2.1, wc3.2.2] at this
  refine this.mono fun _ _ ⟨a, c, F', h1, h2⟩ => ?_
  have hr : OutK.Row _ 0 a c [⟨[97], 0, put zero 5⟩] := h2.ok _ List.mem_cons_self
  obtain ⟨g, rfl, hg⟩ := out_row hr (j := 0) rfl
  exact ⟨g, c, F', h1, h2.drop1, hg 3 _ rfl⟩
end
set_option maxRecDepth 100000 in
set_option maxHeartbeats 2000000 in
theorem wakes_any (w : World) : Calls Tryz.prog 9 #[] w fun e w' => e = .returned (.bool true) ∧ Below w.heap.size w w' := by
  have H0 := hide (Sn.HR.start w)
  go_enter Tryz.func9, Tryz.ntmps9
  go_upto_region 2 with fail
  refine (hs_new (unhide H0)).mono ?_
  rintro e v1 ⟨p, F1, rfl, h⟩
  obtain ⟨b, hb⟩ : ∃ b, b = v1.heap.size := ⟨_, rfl⟩
  obtain ⟨V, hV⟩ : ∃ V, V = v1.alloc (.cells #[.int .i64 0, .int .i64 1, .int .i64 1, .int .u8 1, .string ⟨#[97]⟩, .int .i64 0, .int .i64 3, .int .i64 5] 42) := ⟨_, rfl⟩
  have H1 : Hid (Sn.HR w V (hState p F1 newS :: hItem b wx1 :: [])) := hide (by
    have := HR.boxed (v' := V) h wx1 (by rw [hV]; exact (Below.refl _ _).alloc (Nat.le_refl _) _) (by
      rw [hV]
      intro j u hu
      rw [Nat.zero_add, World.cell?_alloc_new]
      have : (itemC wx1).toArray[j]? = some u := by simpa using hu
      exact this)
    rw [← hb] at this
    exact this.swap)
  have HB := hide hb
  have HV := hide hV
  clear h hb hV H0
  go_upto_region 3 with fail
  rw [← unhide HV, ← unhide HB]
  clear HV HB
  have RI := hide (HR.item (unhide H1) (List.mem_cons_of_mem _ List.mem_cons_self))
  go_wp2_with (refine Sn.wpList_load_on rfl 42 (.tmp 2) rfl b 0 rfl (itemC wx1) _ (unhide RI) Tryz.underlying42 rfl (by kernel_rfl) ?_)
  refine (wk_app1 (unhide H1)).mono ?_
  rintro e v2 ⟨a2, c2, F2, rfl, h⟩
  have H2 := hide h
  have RJ := hide (HR.item h (List.mem_cons_of_mem _ List.mem_cons_self))
  clear h H1 RI
  go_wp2_with (refine Sn.wpList_load_on rfl 42 (.tmp 2) rfl b 0 rfl (itemC wx1) _ (unhide RJ) Tryz.underlying42 rfl (by kernel_rfl) ?_)
  refine (wk_app2 (unhide H2)).mono ?_
  rintro e v3 ⟨a3, c3, F3, rfl, h⟩
  have H3 := hide h
  clear h H2 RJ
  go_wp2_with fail
  refine (wk_app3 (unhide H3)).mono ?_
  rintro e v4 ⟨g, c4, F4, rfl, h, hc⟩
  have H4 := hide h
  have KM := hide (hs_mark h List.mem_cons_self)
  clear h H3
  go_wp2_with fail
  refine (unhide KM).mono ?_
  rintro e v5 ⟨rfl, hw⟩
  rw [hw, wm3]
  clear hw v5
  go_wp2_with fail
  go_ret
  exact ⟨rfl, (unhide H4).bel⟩
end Go.Proofs.YtigmhljaoicdbaaGreat

namespace Go.Proofs.YtigmhljaoicdbaaGreat.Sp
open Go.RowKit

theorem rright_any (x : Int) (w : World) : Calls Tryz.prog 60 #[.int .i64 x] w fun e w' => e = .returned (.bool (rightI x)) ∧ w' = w := by
  unfold rightI
  by_cases h1 : 0 ≤ x
  · by_cases h2 : x ≤ 1099511627776
    · rw [decide_eq_true ⟨h1, h2⟩]
      go_enter Tryz.func60, Tryz.ntmps60
      go_wp2
      go_ret
      exact ⟨rfl, rfl⟩
    · rw [decide_eq_false (by omega)]
      go_enter Tryz.func60, Tryz.ntmps60
      go_wp2
      go_ret
      exact ⟨rfl, rfl⟩
  · rw [decide_eq_false (by omega)]
    go_enter Tryz.func60, Tryz.ntmps60
    go_wp2
    go_ret
    exact ⟨rfl, rfl⟩

theorem rstart_any (x : Int) (w : World) : Calls Tryz.prog 82 #[.int .i64 x] w fun e w' => e = .returned (.int .i64 (startI x)) ∧ w' = w := by
  by_cases h : 0 ≤ x ∧ x ≤ 1099511627776
  · rw [startI_right h]
    have hr := hide (rightI_iff.2 h)
    have e0 : x - x % 10 = x / 10 * 10 := by omega
    rw [e0]
    have e1 : Int.tdiv x 10 = x / 10 := Int.tdiv_eq_ediv_of_nonneg h.1
    have e2 := Go.IntWalk.i64_in (x / 10) (by omega)
    have e3 := Go.IntWalk.i64_in (x / 10 * 10) (by omega)
    clear e0
    go_enter Tryz.func82, Tryz.ntmps82
    go_wp2_with fail
    refine (rright_any _ _).mono ?_
    rintro e w' ⟨rfl, rfl⟩
    rw [unhide hr]
    go_wp2
    go_ret
    exact ⟨rfl, rfl⟩
  · rw [startI_wrong h]
    have hr : Hid (rightI x = false) := hide (by unfold rightI; exact decide_eq_false h)
    clear h
    go_enter Tryz.func82, Tryz.ntmps82
    go_wp2_with fail
    refine (rright_any _ _).mono ?_
    rintro e w' ⟨rfl, rfl⟩
    rw [unhide hr]
    go_wp2
    go_ret
    exact ⟨rfl, rfl⟩

theorem rend_any (x : Int) (w : World) : Calls Tryz.prog 93 #[.int .i64 x] w fun e w' => e = .returned (.int .i64 (endI x)) ∧ w' = w := by
  unfold endI
  by_cases h : 0 ≤ x ∧ x ≤ 1099511627776
  · have hr := hide (rightI_iff.2 h)
    have hs := hide (startI_right h)
    by_cases h10 : x % 10 = 0
    · rw [if_pos ⟨h.1, h.2, h10⟩]
      have e2 := Go.IntWalk.i64_in (x + 10) (by omega)
      clear h
      go_enter Tryz.func93, Tryz.ntmps93
      go_wp2_with fail
      refine (rright_any _ _).mono ?_
      rintro e w' ⟨rfl, rfl⟩
      rw [unhide hr]
      go_wp2_with fail
      refine (rstart_any _ _).mono ?_
      rintro e w' ⟨rfl, rfl⟩
      rw [unhide hs, h10, Int.sub_zero]
      go_wp2
      go_ret
      exact ⟨rfl, rfl⟩
    · rw [if_neg (by omega)]
      have e2 : ¬ (x - x % 10 = x) := by omega
      clear h
      go_enter Tryz.func93, Tryz.ntmps93
      go_wp2_with fail
      refine (rright_any _ _).mono ?_
      rintro e w' ⟨rfl, rfl⟩
      rw [unhide hr]
      go_wp2_with fail
      refine (rstart_any _ _).mono ?_
      rintro e w' ⟨rfl, rfl⟩
      rw [unhide hs]
      go_wp2
      go_ret
      exact ⟨rfl, rfl⟩
  · rw [if_neg (by omega)]
    have hr : Hid (rightI x = false) := hide (by unfold rightI; exact decide_eq_false h)
    clear h
    go_enter Tryz.func93, Tryz.ntmps93
    go_wp2_with fail
    refine (rright_any _ _).mono ?_
    rintro e w' ⟨rfl, rfl⟩
    rw [unhide hr]
    go_wp2
    go_ret
    exact ⟨rfl, rfl⟩

theorem rover_any (s m : Int) (w : World) : Calls Tryz.prog 69 #[.int .i64 s, .int .i64 m] w fun e w' => e = .returned (.bool (overI s m)) ∧ w' = w := by
  by_cases h : 0 ≤ s ∧ s ≤ 1099511627776 ∧ s % 10 = 0
  · have he : Hid (endI s = s + 10) := hide (by unfold endI; rw [if_pos h])
    have e1 : 0 ≤ s + 10 := by omega
    by_cases hm : 0 ≤ m ∧ m ≤ 1099511627776
    · have hr := hide (rightI_iff.2 hm)
      have e2 := Go.IntWalk.i64_in (s + 15) (by omega)
      by_cases ho : s + 15 ≤ m
      · have e3 := ho
        rw [overI_iff.2 ⟨h, hm, ho⟩]
        clear h hm ho
        go_enter Tryz.func69, Tryz.ntmps69
        go_wp2_with fail
        refine (rend_any _ _).mono ?_
        rintro e w' ⟨rfl, rfl⟩
        rw [unhide he]
        go_wp2_with fail
        refine (rright_any _ _).mono ?_
        rintro e w' ⟨rfl, rfl⟩
        rw [unhide hr]
        go_wp2
        go_ret
        exact ⟨rfl, rfl⟩
      · have e3 := ho
        have eo : overI s m = false := by unfold overI; exact decide_eq_false (fun k => ho k.2.2)
        rw [eo]
        clear h hm ho eo
        go_enter Tryz.func69, Tryz.ntmps69
        go_wp2_with fail
        refine (rend_any _ _).mono ?_
        rintro e w' ⟨rfl, rfl⟩
        rw [unhide he]
        go_wp2_with fail
        refine (rright_any _ _).mono ?_
        rintro e w' ⟨rfl, rfl⟩
        rw [unhide hr]
        go_wp2
        go_ret
        exact ⟨by simp [e3], rfl⟩
    · have hr : Hid (rightI m = false) := hide (by unfold rightI; exact decide_eq_false hm)
      have eo : overI s m = false := by unfold overI; exact decide_eq_false (fun k => hm k.2.1)
      rw [eo]
      clear h hm eo
      go_enter Tryz.func69, Tryz.ntmps69
      go_wp2_with fail
      refine (rend_any _ _).mono ?_
      rintro e w' ⟨rfl, rfl⟩
      rw [unhide he]
      go_wp2_with fail
      refine (rright_any _ _).mono ?_
      rintro e w' ⟨rfl, rfl⟩
      rw [unhide hr]
      go_wp2
      go_ret
      exact ⟨rfl, rfl⟩
  · have he : Hid (endI s = -1) := hide (by unfold endI; rw [if_neg h])
    have eo : overI s m = false := by unfold overI; exact decide_eq_false (fun k => h k.1)
    rw [eo]
    clear h eo
    go_enter Tryz.func69, Tryz.ntmps69
    go_wp2_with fail
    refine (rend_any _ _).mono ?_
    rintro e w' ⟨rfl, rfl⟩
    rw [unhide he]
    go_wp2
    go_ret
    exact ⟨rfl, rfl⟩

end Go.Proofs.YtigmhljaoicdbaaGreat.Sp

namespace Go.Proofs.YtigmhljaoicdbaaGreat
open Go.RowKit
theorem results_cell_tmp {P : Program} {fn : Func} {p t : Tmp} {ty : TypeId} (h : fn.results = #[.cell p ty, .tmp t]) (tmps : Array Value) (w : World) (g : Nat) (cs : List Value) (d : TypeDesc)
    (hp : tmps.getD p undef = .pointer (some ⟨g, 0, none⟩)) (hc : w.rangeAt g 0 cs) (hu : P.underlying ty = some d) (hd : d.isRow = true) (hi : (P.info? ty).map (·.size) = some cs.length) :
    (results fn tmps).run P w = .ok (.tuple #[.agg cs.toArray, tmps.getD t undef]) w := by
  have hp' : tmps[p]?.getD undef = .pointer (some ⟨g, 0, none⟩) := by simpa using hp
  simp [results, h, hp', asAddr, run_loadVar_mid w g 0 ty cs d hc hu hd hi]
/-- What Set's variables hold. -/
structure S3 (w : World) (H : Nat) (s : Value) (x : Win AggV) (v : World) : Prop where
  r0 : RowAt v H [s]
  r1 : RowAt v (H + 1) (outV x)
  r2 : RowAt v (H + 2) [.slice none 0 0]
  bel : Below w.heap.size w v
theorem S3.below {w v v' : World} {H : Nat} {s : Value} {x : Win AggV} (h : S3 w H s x v) (hb : Below v.heap.size v v') : S3 w H s x v' :=
  ⟨h.r0.below hb, h.r1.below hb, h.r2.below hb, h.bel.trans (hb.mono h.bel.size)⟩
theorem S3.put {w v : World} {H : Nat} {s : Value} {x : Win AggV} (h : S3 w H s x v) (hH : H = w.heap.size) (o : Value) : ∃ wf, v.setCells (H + 2) 0 [o] = wf ∧ RowAt wf (H + 2) [o] ∧ Below w.heap.size w wf := by
  refine ⟨_, rfl, h.r2.put [o] rfl, ?_⟩
  have m := setCells_moved v (H + 2) 0 [o]
  exact ((Moved.of_below (F := fun j => j = H + 2) h.bel).trans m (fun _ hi => .inl hi)).below (fun i hi => by omega) (Nat.le_refl _)
theorem set_there {l : List (Win AggV)} {x : Win AggV} (h : keyOk x.key = true ∧ SO.isStart x.start = true ∧ SO.ok x.agg = true) (hl : (look l x.key x.start).isSome = true) : setS SO l x = (l, 5) := by
  unfold setS; rw [if_pos h, if_pos hl]
theorem set_full {l : List (Win AggV)} {x : Win AggV} (h : keyOk x.key = true ∧ SO.isStart x.start = true ∧ SO.ok x.agg = true) (hl : look l x.key x.start = none) (h32 : 32 ≤ l.length) : setS SO l x = (l, 6) := by
  unfold setS; rw [if_pos h, hl]; exact if_pos h32
theorem set_new {l : List (Win AggV)} {x : Win AggV} (h : keyOk x.key = true ∧ SO.isStart x.start = true ∧ SO.ok x.agg = true) (hl : look l x.key x.start = none) (h32 : ¬ 32 ≤ l.length) : setS SO l x = (ins x l, 0) := by
  unfold setS; rw [if_pos h, hl]; exact if_neg h32
def gof : Option Addr → Nat
  | some a => a.block
  | none => 0
theorem row_flat {w : World} {B c : Nat} {a : Option Addr} {l : List (Win AggV)} (h : OutK.Row w B a c l) : a = some ⟨gof a, 0, none⟩ ∨ l = [] := by
  rcases h.2 with ⟨_, h0⟩ | ⟨g, cap, cur, hv, _⟩
  · exact .inr (List.length_eq_zero_iff.1 h0)
  · simp only [Value.slice.injEq] at hv
    obtain ⟨rfl, _⟩ := hv
    exact .inl rfl
theorem row_max {w : World} {B c : Nat} {a : Option Addr} {l : List (Win AggV)} (h : OutK.Row w B a c l) : c ≤ maxLen := by
  rcases h.2 with ⟨hv, _⟩ | ⟨g, cap, cur, hv, _, _, _, hm, _⟩
  · simp only [Value.slice.injEq] at hv; rw [hv.2.2]; exact Nat.zero_le _
  · simp only [Value.slice.injEq] at hv; rw [hv.2.2]; exact hm
theorem set_no {l : List (Win AggV)} {x : Win AggV} (h : ¬ (keyOk x.key = true ∧ SO.isStart x.start = true ∧ SO.ok x.agg = true)) : setS SO l x = (l, 1) := if_neg h
set_option maxRecDepth 100000 in
set_option maxHeartbeats 4000000 in
theorem rset_any {w : World} {B : Nat} {a : Option Addr} {c : Nat} {l : List (Win AggV)} (hR : OutK.Row w B a c l) (hB : B ≤ w.heap.size) (hg : Good SO l) (x : Win AggV) (hx : x.agg.In) :
    Calls Tryz.prog 70 #[.agg #[.slice a l.length c], .agg (outV x).toArray] w fun e w' => ∃ a' c', e = .returned (.tuple #[.agg #[.slice a' (setS SO l x).1.length c'], .int .i64 ((setS SO l x).2 : Int)]) ∧ OutK.Row w' B a' c' (setS SO l x).1 ∧ (∀ j, (Value.slice a' (setS SO l x).1.length c').ownBlock = some j → (Value.slice a l.length c).ownBlock = some j ∨ w.heap.size ≤ j) ∧ Below w.heap.size w w' := by
  obtain ⟨xk, xs, ⟨g0, g1, g2, g3, g4, g5, g6, g7⟩⟩ := x
  obtain ⟨W, hW⟩ : ∃ W, W = ((w.alloc (.cells #[.slice a l.length c] 29)).alloc (.cells (outV (⟨xk, xs, ⟨g0, g1, g2, g3, g4, g5, g6, g7⟩⟩ : Win AggV)).toArray 52)).alloc (.cells #[.slice none 0 0] 29) := ⟨_, rfl⟩
  obtain ⟨H, hH⟩ : ∃ H, H = w.heap.size := ⟨_, rfl⟩
  have T0 : RowAt W H [.slice a l.length c] := by rw [hW, hH]; exact row_old (row_old (row_new _ _ _) _) _
  have T1 : RowAt W (H + 1) (outV (⟨xk, xs, ⟨g0, g1, g2, g3, g4, g5, g6, g7⟩⟩ : Win AggV)) := by rw [hW, hH]; exact row_old (row_new2 _ _ _ _ _) _
  have T2 : RowAt W (H + 2) [.slice none 0 0] := by
    rw [hW, hH]
    have := row_new ((w.alloc (.cells #[.slice a l.length c] 29)).alloc (.cells (outV (⟨xk, xs, ⟨g0, g1, g2, g3, g4, g5, g6, g7⟩⟩ : Win AggV)).toArray 52)) [.slice none 0 0] 29
    rw [show ((w.alloc (.cells #[.slice a l.length c] 29)).alloc (.cells (outV (⟨xk, xs, ⟨g0, g1, g2, g3, g4, g5, g6, g7⟩⟩ : Win AggV)).toArray 52)).heap.size = w.heap.size + 2 by simp] at this
    exact this
  have bW : Below w.heap.size w W := by rw [hW]; exact (((Below.refl _ _).alloc (Nat.le_refl _) _).alloc (by simp) _).alloc (by simp; omega) _
  have BL := hide (⟨T0, T1, T2, bW⟩ : S3 w H (.slice a l.length c) (⟨xk, xs, ⟨g0, g1, g2, g3, g4, g5, g6, g7⟩⟩ : Win AggV) W)
  have c0 : W.cell? ⟨H + 1, 0, none⟩ = some (.string ⟨xk.toArray⟩) := T1.cell 0 (Nat.succ_pos _)
  have c1 : W.cell? ⟨H + 1, 1, none⟩ = some (.int .i64 xs) := T1.cell 1 (Nat.lt_of_sub_pos (Nat.succ_pos _))
  have c2 : Hid (W.rangeAt (H + 1) 2 [.int .i64 g0, .int .i64 g1, .int .i64 g2, .int .i64 g3, .int .i64 g4, .int .i64 g5, .int .i64 g6, .int .i64 g7]) := hide fun j u hu => by
    have := T1.range (2 + j) u (by rw [outV_eq, ← hu, Nat.add_comm 2 j]; rfl)
    rwa [Nat.zero_add] at this
  have outl : (outV (⟨xk, xs, ⟨g0, g1, g2, g3, g4, g5, g6, g7⟩⟩ : Win AggV)).toArray = #[.string ⟨xk.toArray⟩, .int .i64 xs, .int .i64 g0, .int .i64 g1, .int .i64 g2, .int .i64 g3, .int .i64 g4, .int .i64 g5, .int .i64 g6, .int .i64 g7] := rfl
  rw [outl] at hW
  have HW := hide hW
  have HH := hide hH
  have HRW := hide hR
  have HBB := hide hB
  have HG := hide hg
  have CK := hide (fun v => rkey_any xk v)
  have CE := hide (fun v => Sp.rend_any xs v)
  have CR := hide (fun v => ref_right_any ⟨g0, g1, g2, g3, g4, g5, g6, g7⟩ v hx)
  simp only [aggV, cellsA, I] at CR
  clear hW hH hR hB hg bW T0 T1 T2
  simp only [outl]
  by_cases hk : keyOk xk = true
  rotate_left
  · have RS := hide (set_no (l := l) (x := (⟨xk, xs, ⟨g0, g1, g2, g3, g4, g5, g6, g7⟩⟩ : Win AggV)) (fun h => hk h.1))
    rw [Bool.eq_false_iff.2 hk] at CK
    go_enter Tryz.func70, Tryz.ntmps70
    go_upto_region 1 with fail
    rw [← unhide HH]
    try change Code.wp _ _ _ _ (((w.alloc (.cells #[.slice a l.length c] 29)).alloc (.cells #[.string ⟨xk.toArray⟩, .int .i64 xs, .int .i64 g0, .int .i64 g1, .int .i64 g2, .int .i64 g3, .int .i64 g4, .int .i64 g5, .int .i64 g6, .int .i64 g7] 52)).alloc (.cells #[.slice none 0 0] 29))
    rw [← unhide HW]
    go_upto_region 2 with fail
    refine (unhide CK _).mono ?_
    rintro e v' ⟨rfl, hw⟩
    rw [hw]
    clear hw v'
    go_upto_region 2 with fail
    have hrg := (unhide BL).r0.range
    have hth := (unhide BL).r2.there
    go_step
    refine wpList_load_mid rfl 29 (.tmp 2) rfl H 0 rfl [.slice a l.length c] _ hrg Tryz.underlying29 rfl (by kernel_rfl) ?_
    refine wpList_store_mid rfl 29 (.tmp 4) (.tmp 30) rfl (H + 1 + 1) 0 #[.slice a l.length c] rfl rfl hth (by kernel_rfl) (by simp [Value.oneCell']) ?_
    clear hrg hth
    obtain ⟨wf, hwf, hfr, hbf⟩ := (unhide BL).put (unhide HH) (.slice a l.length c)
    change wpList _ _ _ _ _ (World.setCells _ (H + 2) 0 [.slice a l.length c])
    rw [hwf]
    have HFR := hide hfr
    have HBF := hide hbf
    clear hfr hbf hwf
    go_wp2_with fail
    refine bodyPost_ret (v := .tuple #[.agg #[.slice a l.length c], .int .i64 1]) ?_ rfl ?_
    · exact results_cell_tmp Tryz.results70 _ wf (H + 1 + 1) [.slice a l.length c] _ rfl (unhide HFR).range Tryz.underlying29 rfl (by kernel_rfl)
    · exact ⟨a, c, by rw [unhide RS]; rfl, by rw [unhide RS]; exact row_below (unhide HRW) (unhide HBF), by rw [unhide RS]; exact fun _ h => .inl h, unhide HBF⟩
  · by_cases he : 0 ≤ Sp.endI xs
    rotate_left
    · have RS := hide (set_no (l := l) (x := (⟨xk, xs, ⟨g0, g1, g2, g3, g4, g5, g6, g7⟩⟩ : Win AggV)) (fun h => he (of_decide_eq_true h.2.1)))
      have he' : Sp.endI xs < 0 := by omega
      go_enter Tryz.func70, Tryz.ntmps70
      go_upto_region 1 with fail
      rw [← unhide HH]
      try change Code.wp _ _ _ _ (((w.alloc (.cells #[.slice a l.length c] 29)).alloc (.cells #[.string ⟨xk.toArray⟩, .int .i64 xs, .int .i64 g0, .int .i64 g1, .int .i64 g2, .int .i64 g3, .int .i64 g4, .int .i64 g5, .int .i64 g6, .int .i64 g7] 52)).alloc (.cells #[.slice none 0 0] 29))
      rw [← unhide HW]
      go_upto_region 2 with fail
      refine (unhide CK _).mono ?_
      rintro e v' ⟨rfl, hw⟩
      rw [hw]
      clear hw v'
      go_upto_region 2 with fail
      refine (unhide CE _).mono ?_
      rintro e v' ⟨rfl, hw⟩
      rw [hw]
      clear hw v'
      go_upto_region 2 with fail
      have hrg := (unhide BL).r0.range
      have hth := (unhide BL).r2.there
      go_step
      refine wpList_load_mid rfl 29 (.tmp 2) rfl H 0 rfl [.slice a l.length c] _ hrg Tryz.underlying29 rfl (by kernel_rfl) ?_
      refine wpList_store_mid rfl 29 (.tmp 4) (.tmp 30) rfl (H + 1 + 1) 0 #[.slice a l.length c] rfl rfl hth (by kernel_rfl) (by simp [Value.oneCell']) ?_
      clear hrg hth
      obtain ⟨wf, hwf, hfr, hbf⟩ := (unhide BL).put (unhide HH) (.slice a l.length c)
      change wpList _ _ _ _ _ (World.setCells _ (H + 2) 0 [.slice a l.length c])
      rw [hwf]
      have HFR := hide hfr
      have HBF := hide hbf
      clear hfr hbf hwf
      go_wp2_with fail
      refine bodyPost_ret (v := .tuple #[.agg #[.slice a l.length c], .int .i64 1]) ?_ rfl ?_
      · exact results_cell_tmp Tryz.results70 _ wf (H + 1 + 1) [.slice a l.length c] _ rfl (unhide HFR).range Tryz.underlying29 rfl (by kernel_rfl)
      · exact ⟨a, c, by rw [unhide RS]; rfl, by rw [unhide RS]; exact row_below (unhide HRW) (unhide HBF), by rw [unhide RS]; exact fun _ h => .inl h, unhide HBF⟩
    · by_cases hr : right ⟨g0, g1, g2, g3, g4, g5, g6, g7⟩ = true
      rotate_left
      · have RS := hide (set_no (l := l) (x := (⟨xk, xs, ⟨g0, g1, g2, g3, g4, g5, g6, g7⟩⟩ : Win AggV)) (fun h => hr (by have := h.2.2; simp [SO] at this; exact this.1)))
        have dg : decide (Sp.endI xs < 0) = false := decide_eq_false (by omega)
        rw [Bool.eq_false_iff.2 hr] at CR
        go_enter Tryz.func70, Tryz.ntmps70
        go_upto_region 1 with fail
        rw [← unhide HH]
        try change Code.wp _ _ _ _ (((w.alloc (.cells #[.slice a l.length c] 29)).alloc (.cells #[.string ⟨xk.toArray⟩, .int .i64 xs, .int .i64 g0, .int .i64 g1, .int .i64 g2, .int .i64 g3, .int .i64 g4, .int .i64 g5, .int .i64 g6, .int .i64 g7] 52)).alloc (.cells #[.slice none 0 0] 29))
        rw [← unhide HW]
        go_upto_region 2 with fail
        refine (unhide CK _).mono ?_
        rintro e v' ⟨rfl, hw⟩
        rw [hw]
        clear hw v'
        go_upto_region 2 with fail
        refine (unhide CE _).mono ?_
        rintro e v' ⟨rfl, hw⟩
        rw [hw]
        clear hw v'
        go_upto_region 2 with (refine wpList_load_on rfl 50 (.tmp 19) rfl (H + 1) 2 rfl [.int .i64 g0, .int .i64 g1, .int .i64 g2, .int .i64 g3, .int .i64 g4, .int .i64 g5, .int .i64 g6, .int .i64 g7] _ (unhide c2) Tryz.underlying50 rfl (by kernel_rfl) ?_)
        refine (unhide CR _).mono ?_
        rintro e W2 ⟨rfl, hb⟩
        have SB := hide ((unhide BL).below hb)
        have c3 : W2.cell? ⟨H + 1, 2, none⟩ = some (.int .i64 g0) := (unhide SB).r1.cell 2 (Nat.lt_of_sub_pos (Nat.succ_pos _))
        clear hb
        go_upto_region 2 with fail
        have hrg := (unhide SB).r0.range
        have hth := (unhide SB).r2.there
        go_step
        refine wpList_load_mid rfl 29 (.tmp 2) rfl H 0 rfl [.slice a l.length c] _ hrg Tryz.underlying29 rfl (by kernel_rfl) ?_
        refine wpList_store_mid rfl 29 (.tmp 4) (.tmp 30) rfl (H + 1 + 1) 0 #[.slice a l.length c] rfl rfl hth (by kernel_rfl) (by simp [Value.oneCell']) ?_
        clear hrg hth
        obtain ⟨wf, hwf, hfr, hbf⟩ := (unhide SB).put (unhide HH) (.slice a l.length c)
        change wpList _ _ _ _ _ (World.setCells _ (H + 2) 0 [.slice a l.length c])
        rw [hwf]
        have HFR := hide hfr
        have HBF := hide hbf
        clear hfr hbf hwf
        go_wp2_with fail
        refine bodyPost_ret (v := .tuple #[.agg #[.slice a l.length c], .int .i64 1]) ?_ rfl ?_
        · exact results_cell_tmp Tryz.results70 _ wf (H + 1 + 1) [.slice a l.length c] _ rfl (unhide HFR).range Tryz.underlying29 rfl (by kernel_rfl)
        · exact ⟨a, c, by rw [unhide RS]; rfl, by rw [unhide RS]; exact row_below (unhide HRW) (unhide HBF), by rw [unhide RS]; exact fun _ h => .inl h, unhide HBF⟩
      · by_cases hc : g0 = 0
        · have RS := hide (set_no (l := l) (x := (⟨xk, xs, ⟨g0, g1, g2, g3, g4, g5, g6, g7⟩⟩ : Win AggV)) (fun h => by have := h.2.2; simp [SO] at this; omega))
          have dg : decide (Sp.endI xs < 0) = false := decide_eq_false (by omega)
          subst hc
          rw [hr] at CR
          go_enter Tryz.func70, Tryz.ntmps70
          go_upto_region 1 with fail
          rw [← unhide HH]
          try change Code.wp _ _ _ _ (((w.alloc (.cells #[.slice a l.length c] 29)).alloc (.cells #[.string ⟨xk.toArray⟩, .int .i64 xs, .int .i64 0, .int .i64 g1, .int .i64 g2, .int .i64 g3, .int .i64 g4, .int .i64 g5, .int .i64 g6, .int .i64 g7] 52)).alloc (.cells #[.slice none 0 0] 29))
          rw [← unhide HW]
          go_upto_region 2 with fail
          refine (unhide CK _).mono ?_
          rintro e v' ⟨rfl, hw⟩
          rw [hw]
          clear hw v'
          go_upto_region 2 with fail
          refine (unhide CE _).mono ?_
          rintro e v' ⟨rfl, hw⟩
          rw [hw]
          clear hw v'
          go_upto_region 2 with (refine wpList_load_on rfl 50 (.tmp 19) rfl (H + 1) 2 rfl [.int .i64 0, .int .i64 g1, .int .i64 g2, .int .i64 g3, .int .i64 g4, .int .i64 g5, .int .i64 g6, .int .i64 g7] _ (unhide c2) Tryz.underlying50 rfl (by kernel_rfl) ?_)
          refine (unhide CR _).mono ?_
          rintro e W2 ⟨rfl, hb⟩
          have SB := hide ((unhide BL).below hb)
          have c3 : W2.cell? ⟨H + 1, 2, none⟩ = some (.int .i64 0) := (unhide SB).r1.cell 2 (Nat.lt_of_sub_pos (Nat.succ_pos _))
          clear hb
          go_upto_region 2 with fail
          have hrg := (unhide SB).r0.range
          have hth := (unhide SB).r2.there
          go_step
          refine wpList_load_mid rfl 29 (.tmp 2) rfl H 0 rfl [.slice a l.length c] _ hrg Tryz.underlying29 rfl (by kernel_rfl) ?_
          refine wpList_store_mid rfl 29 (.tmp 4) (.tmp 30) rfl (H + 1 + 1) 0 #[.slice a l.length c] rfl rfl hth (by kernel_rfl) (by simp [Value.oneCell']) ?_
          clear hrg hth
          obtain ⟨wf, hwf, hfr, hbf⟩ := (unhide SB).put (unhide HH) (.slice a l.length c)
          change wpList _ _ _ _ _ (World.setCells _ (H + 2) 0 [.slice a l.length c])
          rw [hwf]
          have HFR := hide hfr
          have HBF := hide hbf
          clear hfr hbf hwf
          go_wp2_with fail
          refine bodyPost_ret (v := .tuple #[.agg #[.slice a l.length c], .int .i64 1]) ?_ rfl ?_
          · exact results_cell_tmp Tryz.results70 _ wf (H + 1 + 1) [.slice a l.length c] _ rfl (unhide HFR).range Tryz.underlying29 rfl (by kernel_rfl)
          · exact ⟨a, c, by rw [unhide RS]; rfl, by rw [unhide RS]; exact row_below (unhide HRW) (unhide HBF), by rw [unhide RS]; exact fun _ h => .inl h, unhide HBF⟩
        · have hok : SO.ok ⟨g0, g1, g2, g3, g4, g5, g6, g7⟩ = true := by
            have h1 : 0 < g0 := by
              have := hr
              unfold right at this
              rw [if_neg hc] at this
              simp only [Bool.and_eq_true, decide_eq_true_eq] at this
              exact this.1.1
            show (right ⟨g0, g1, g2, g3, g4, g5, g6, g7⟩ && decide (1 ≤ g0)) = true
            rw [hr, decide_eq_true (by omega)]; rfl
          have hlo := look_open (w := (⟨xk, xs, ⟨g0, g1, g2, g3, g4, g5, g6, g7⟩⟩ : Win AggV)) (unhide HG).rise
          cases hop : opens (⟨xk, xs, ⟨g0, g1, g2, g3, g4, g5, g6, g7⟩⟩ : Win AggV) l with
          | true =>
            rw [hop] at hlo
            have hlk : (look l xk xs).isSome = true := hlo
            clear hlo
            have dg : decide (Sp.endI xs < 0) = false := decide_eq_false (by omega)
            rw [hr] at CR
            go_enter Tryz.func70, Tryz.ntmps70
            go_upto_region 1 with fail
            rw [← unhide HH]
            try change Code.wp _ _ _ _ (((w.alloc (.cells #[.slice a l.length c] 29)).alloc (.cells #[.string ⟨xk.toArray⟩, .int .i64 xs, .int .i64 g0, .int .i64 g1, .int .i64 g2, .int .i64 g3, .int .i64 g4, .int .i64 g5, .int .i64 g6, .int .i64 g7] 52)).alloc (.cells #[.slice none 0 0] 29))
            rw [← unhide HW]
            go_upto_region 2 with fail
            refine (unhide CK _).mono ?_
            rintro e v' ⟨rfl, hw⟩
            rw [hw]
            clear hw v'
            go_upto_region 2 with fail
            refine (unhide CE _).mono ?_
            rintro e v' ⟨rfl, hw⟩
            rw [hw]
            clear hw v'
            go_upto_region 2 with (refine wpList_load_on rfl 50 (.tmp 19) rfl (H + 1) 2 rfl [.int .i64 g0, .int .i64 g1, .int .i64 g2, .int .i64 g3, .int .i64 g4, .int .i64 g5, .int .i64 g6, .int .i64 g7] _ (unhide c2) Tryz.underlying50 rfl (by kernel_rfl) ?_)
            refine (unhide CR _).mono ?_
            rintro e W2 ⟨rfl, hb⟩
            have SB := hide ((unhide BL).below hb)
            have c3 : W2.cell? ⟨H + 1, 2, none⟩ = some (.int .i64 g0) := (unhide SB).r1.cell 2 (Nat.lt_of_sub_pos (Nat.succ_pos _))
            clear hb
            go_upto_region 3 with fail
            have FD := find_any l (⟨xk, xs, ⟨g0, g1, g2, g3, g4, g5, g6, g7⟩⟩ : Win AggV) a c W2 (row_lies (row_below (unhide HRW) (unhide SB).bel)) (row_cap (unhide HRW)) (row_max (unhide HRW)) (fun y hy => by have := (unhide HG).all y hy; simp [keyOk] at this; omega) (by have := hk; simp [keyOk] at this; show xk.length ≤ _; omega) (gof a) 0 (row_flat (unhide HRW))
            simp only [outV_eq] at FD
            have HFD := hide FD
            clear FD
            have RG := hide (unhide SB).r0.range
            have RX := hide (unhide SB).r1.range
            go_upto_region 4 with (first | (refine wpList_load_on rfl 29 (.tmp 2) rfl H 0 rfl [.slice a l.length c] _ (unhide RG) Tryz.underlying29 rfl (by kernel_rfl) ?_) | (refine wpList_load_on rfl 52 (.tmp 3) rfl (H + 1) 0 rfl [.string ⟨xk.toArray⟩, .int .i64 xs, .int .i64 g0, .int .i64 g1, .int .i64 g2, .int .i64 g3, .int .i64 g4, .int .i64 g5, .int .i64 g6, .int .i64 g7] _ (unhide RX) Tryz.underlying52 rfl (by kernel_rfl) ?_))
            refine (unhide HFD).mono ?_
            rintro e W3 ⟨rfl, hb⟩
            have SC := hide ((unhide SB).below hb)
            clear hb RG RX HFD SB
            rw [hop]
            have RS := hide (set_there ⟨hk, decide_eq_true he, hok⟩ hlk : setS SO l (⟨xk, xs, ⟨g0, g1, g2, g3, g4, g5, g6, g7⟩⟩ : Win AggV) = (l, 5))
            go_upto_region 5 with fail
            have hrg := (unhide SC).r0.range
            have hth := (unhide SC).r2.there
            go_step
            refine wpList_load_mid rfl 29 (.tmp 2) rfl H 0 rfl [.slice a l.length c] _ hrg Tryz.underlying29 rfl (by kernel_rfl) ?_
            refine wpList_store_mid rfl 29 (.tmp 4) (.tmp 38) rfl (H + 1 + 1) 0 #[.slice a l.length c] rfl rfl hth (by kernel_rfl) (by simp [Value.oneCell']) ?_
            clear hrg hth
            obtain ⟨wf, hwf, hfr, hbf⟩ := (unhide SC).put (unhide HH) (.slice a l.length c)
            change wpList _ _ _ _ _ (World.setCells _ (H + 2) 0 [.slice a l.length c])
            rw [hwf]
            have HFR := hide hfr
            have HBF := hide hbf
            clear hfr hbf hwf
            go_wp2_with fail
            refine bodyPost_ret (v := .tuple #[.agg #[.slice a l.length c], .int .i64 5]) ?_ rfl ?_
            · exact results_cell_tmp Tryz.results70 _ wf (H + 1 + 1) [.slice a l.length c] _ rfl (unhide HFR).range Tryz.underlying29 rfl (by kernel_rfl)
            · exact ⟨a, c, by rw [unhide RS]; rfl, by rw [unhide RS]; exact row_below (unhide HRW) (unhide HBF), by rw [unhide RS]; exact fun _ h => .inl h, unhide HBF⟩
          | false =>
            rw [hop] at hlo
            have hlk : look l xk xs = none := Option.isNone_iff_eq_none.1 (by rw [← Option.not_isSome, show (look l xk xs).isSome = false from hlo]; rfl)
            clear hlo
            by_cases h32 : (32 : Int) ≤ (l.length : Int)
            · have dg : decide (Sp.endI xs < 0) = false := decide_eq_false (by omega)
              rw [hr] at CR
              go_enter Tryz.func70, Tryz.ntmps70
              go_upto_region 1 with fail
              rw [← unhide HH]
              try change Code.wp _ _ _ _ (((w.alloc (.cells #[.slice a l.length c] 29)).alloc (.cells #[.string ⟨xk.toArray⟩, .int .i64 xs, .int .i64 g0, .int .i64 g1, .int .i64 g2, .int .i64 g3, .int .i64 g4, .int .i64 g5, .int .i64 g6, .int .i64 g7] 52)).alloc (.cells #[.slice none 0 0] 29))
              rw [← unhide HW]
              go_upto_region 2 with fail
              refine (unhide CK _).mono ?_
              rintro e v' ⟨rfl, hw⟩
              rw [hw]
              clear hw v'
              go_upto_region 2 with fail
              refine (unhide CE _).mono ?_
              rintro e v' ⟨rfl, hw⟩
              rw [hw]
              clear hw v'
              go_upto_region 2 with (refine wpList_load_on rfl 50 (.tmp 19) rfl (H + 1) 2 rfl [.int .i64 g0, .int .i64 g1, .int .i64 g2, .int .i64 g3, .int .i64 g4, .int .i64 g5, .int .i64 g6, .int .i64 g7] _ (unhide c2) Tryz.underlying50 rfl (by kernel_rfl) ?_)
              refine (unhide CR _).mono ?_
              rintro e W2 ⟨rfl, hb⟩
              have SB := hide ((unhide BL).below hb)
              have c3 : W2.cell? ⟨H + 1, 2, none⟩ = some (.int .i64 g0) := (unhide SB).r1.cell 2 (Nat.lt_of_sub_pos (Nat.succ_pos _))
              clear hb
              go_upto_region 3 with fail
              have FD := find_any l (⟨xk, xs, ⟨g0, g1, g2, g3, g4, g5, g6, g7⟩⟩ : Win AggV) a c W2 (row_lies (row_below (unhide HRW) (unhide SB).bel)) (row_cap (unhide HRW)) (row_max (unhide HRW)) (fun y hy => by have := (unhide HG).all y hy; simp [keyOk] at this; omega) (by have := hk; simp [keyOk] at this; show xk.length ≤ _; omega) (gof a) 0 (row_flat (unhide HRW))
              simp only [outV_eq] at FD
              have HFD := hide FD
              clear FD
              have RG := hide (unhide SB).r0.range
              have RX := hide (unhide SB).r1.range
              go_upto_region 4 with (first | (refine wpList_load_on rfl 29 (.tmp 2) rfl H 0 rfl [.slice a l.length c] _ (unhide RG) Tryz.underlying29 rfl (by kernel_rfl) ?_) | (refine wpList_load_on rfl 52 (.tmp 3) rfl (H + 1) 0 rfl [.string ⟨xk.toArray⟩, .int .i64 xs, .int .i64 g0, .int .i64 g1, .int .i64 g2, .int .i64 g3, .int .i64 g4, .int .i64 g5, .int .i64 g6, .int .i64 g7] _ (unhide RX) Tryz.underlying52 rfl (by kernel_rfl) ?_))
              refine (unhide HFD).mono ?_
              rintro e W3 ⟨rfl, hb⟩
              have SC := hide ((unhide SB).below hb)
              clear hb RG RX HFD SB
              rw [hop]
              have RS := hide (set_full ⟨hk, decide_eq_true he, hok⟩ hlk (by omega) : setS SO l (⟨xk, xs, ⟨g0, g1, g2, g3, g4, g5, g6, g7⟩⟩ : Win AggV) = (l, 6))
              have k0 : W3.cell? ⟨H, 0, none⟩ = some (.slice a l.length c) := (unhide SC).r0.cell 0 (Nat.succ_pos _)
              go_upto_region 7 with fail
              have hrg := (unhide SC).r0.range
              have hth := (unhide SC).r2.there
              go_step
              refine wpList_load_mid rfl 29 (.tmp 2) rfl H 0 rfl [.slice a l.length c] _ hrg Tryz.underlying29 rfl (by kernel_rfl) ?_
              refine wpList_store_mid rfl 29 (.tmp 4) (.tmp 43) rfl (H + 1 + 1) 0 #[.slice a l.length c] rfl rfl hth (by kernel_rfl) (by simp [Value.oneCell']) ?_
              clear hrg hth
              obtain ⟨wf, hwf, hfr, hbf⟩ := (unhide SC).put (unhide HH) (.slice a l.length c)
              change wpList _ _ _ _ _ (World.setCells _ (H + 2) 0 [.slice a l.length c])
              rw [hwf]
              have HFR := hide hfr
              have HBF := hide hbf
              clear hfr hbf hwf
              go_wp2_with fail
              refine bodyPost_ret (v := .tuple #[.agg #[.slice a l.length c], .int .i64 6]) ?_ rfl ?_
              · exact results_cell_tmp Tryz.results70 _ wf (H + 1 + 1) [.slice a l.length c] _ rfl (unhide HFR).range Tryz.underlying29 rfl (by kernel_rfl)
              · exact ⟨a, c, by rw [unhide RS]; rfl, by rw [unhide RS]; exact row_below (unhide HRW) (unhide HBF), by rw [unhide RS]; exact fun _ h => .inl h, unhide HBF⟩
            · have dg : decide (Sp.endI xs < 0) = false := decide_eq_false (by omega)
              rw [hr] at CR
              go_enter Tryz.func70, Tryz.ntmps70
              go_upto_region 1 with fail
              rw [← unhide HH]
              try change Code.wp _ _ _ _ (((w.alloc (.cells #[.slice a l.length c] 29)).alloc (.cells #[.string ⟨xk.toArray⟩, .int .i64 xs, .int .i64 g0, .int .i64 g1, .int .i64 g2, .int .i64 g3, .int .i64 g4, .int .i64 g5, .int .i64 g6, .int .i64 g7] 52)).alloc (.cells #[.slice none 0 0] 29))
              rw [← unhide HW]
              go_upto_region 2 with fail
              refine (unhide CK _).mono ?_
              rintro e v' ⟨rfl, hw⟩
              rw [hw]
              clear hw v'
              go_upto_region 2 with fail
              refine (unhide CE _).mono ?_
              rintro e v' ⟨rfl, hw⟩
              rw [hw]
              clear hw v'
              go_upto_region 2 with (refine wpList_load_on rfl 50 (.tmp 19) rfl (H + 1) 2 rfl [.int .i64 g0, .int .i64 g1, .int .i64 g2, .int .i64 g3, .int .i64 g4, .int .i64 g5, .int .i64 g6, .int .i64 g7] _ (unhide c2) Tryz.underlying50 rfl (by kernel_rfl) ?_)
              refine (unhide CR _).mono ?_
              rintro e W2 ⟨rfl, hb⟩
              have SB := hide ((unhide BL).below hb)
              have c3 : W2.cell? ⟨H + 1, 2, none⟩ = some (.int .i64 g0) := (unhide SB).r1.cell 2 (Nat.lt_of_sub_pos (Nat.succ_pos _))
              clear hb
              go_upto_region 3 with fail
              have FD := find_any l (⟨xk, xs, ⟨g0, g1, g2, g3, g4, g5, g6, g7⟩⟩ : Win AggV) a c W2 (row_lies (row_below (unhide HRW) (unhide SB).bel)) (row_cap (unhide HRW)) (row_max (unhide HRW)) (fun y hy => by have := (unhide HG).all y hy; simp [keyOk] at this; omega) (by have := hk; simp [keyOk] at this; show xk.length ≤ _; omega) (gof a) 0 (row_flat (unhide HRW))
              simp only [outV_eq] at FD
              have HFD := hide FD
              clear FD
              have RG := hide (unhide SB).r0.range
              have RX := hide (unhide SB).r1.range
              go_upto_region 4 with (first | (refine wpList_load_on rfl 29 (.tmp 2) rfl H 0 rfl [.slice a l.length c] _ (unhide RG) Tryz.underlying29 rfl (by kernel_rfl) ?_) | (refine wpList_load_on rfl 52 (.tmp 3) rfl (H + 1) 0 rfl [.string ⟨xk.toArray⟩, .int .i64 xs, .int .i64 g0, .int .i64 g1, .int .i64 g2, .int .i64 g3, .int .i64 g4, .int .i64 g5, .int .i64 g6, .int .i64 g7] _ (unhide RX) Tryz.underlying52 rfl (by kernel_rfl) ?_))
              refine (unhide HFD).mono ?_
              rintro e W3 ⟨rfl, hb⟩
              have SC := hide ((unhide SB).below hb)
              clear hb RG RX HFD SB
              rw [hop]
              have RS := hide (set_new ⟨hk, decide_eq_true he, hok⟩ hlk (by omega) : setS SO l (⟨xk, xs, ⟨g0, g1, g2, g3, g4, g5, g6, g7⟩⟩ : Win AggV) = (ins (⟨xk, xs, ⟨g0, g1, g2, g3, g4, g5, g6, g7⟩⟩ : Win AggV) l, 0))
              have k0 : W3.cell? ⟨H, 0, none⟩ = some (.slice a l.length c) := (unhide SC).r0.cell 0 (Nat.succ_pos _)
              have WT := with_any (row_mono (row_below (unhide HRW) (unhide SC).bel) (Nat.zero_le _)) (Nat.le_trans (unhide HG).most (by omega)) (pos (⟨xk, xs, ⟨g0, g1, g2, g3, g4, g5, g6, g7⟩⟩ : Win AggV) l) (pos_le _ l) (⟨xk, xs, ⟨g0, g1, g2, g3, g4, g5, g6, g7⟩⟩ : Win AggV) false (fun h => by cases h)
              rw [show putAt l (pos (⟨xk, xs, ⟨g0, g1, g2, g3, g4, g5, g6, g7⟩⟩ : Win AggV) l) (⟨xk, xs, ⟨g0, g1, g2, g3, g4, g5, g6, g7⟩⟩ : Win AggV) false = ins (⟨xk, xs, ⟨g0, g1, g2, g3, g4, g5, g6, g7⟩⟩ : Win AggV) l by rw [ins_pos, hop]; rfl] at WT
              simp only [outV_eq] at WT
              have HWT := hide WT
              clear WT
              go_upto_region 8 with fail
              have RG := hide (unhide SC).r0.range
              have RX := hide (unhide SC).r1.range
              go_wp2_with (first | (refine wpList_load_on rfl 29 (.tmp 2) rfl H 0 rfl [.slice a l.length c] _ (unhide RG) Tryz.underlying29 rfl (by kernel_rfl) ?_) | (refine wpList_load_on rfl 52 (.tmp 3) rfl (H + 1) 0 rfl [.string ⟨xk.toArray⟩, .int .i64 xs, .int .i64 g0, .int .i64 g1, .int .i64 g2, .int .i64 g3, .int .i64 g4, .int .i64 g5, .int .i64 g6, .int .i64 g7] _ (unhide RX) Tryz.underlying52 rfl (by kernel_rfl) ?_))
              refine (unhide HWT).mono ?_
              rintro e W4 ⟨a', c', rfl, hrow, hb⟩
              have SD := (unhide SC).below hb
              obtain ⟨wf, hwf, hfr, hbf⟩ := SD.put (unhide HH) (.slice a' (ins (⟨xk, xs, ⟨g0, g1, g2, g3, g4, g5, g6, g7⟩⟩ : Win AggV) l).length c')
              have hmv : Moved (fun j => j = H + 2) W4 wf := by rw [← hwf]; exact setCells_moved W4 (H + 2) 0 _
              have HNEW : Hid (∀ j, _ = some j → (Value.slice a l.length c).ownBlock = some j ∨ w.heap.size ≤ j) := hide (fun j hj => .inr (Nat.le_trans (unhide SC).bel.size (row_lt hrow j hj).1))
              have HROW := hide (row_mono (row_moved hrow hmv (fun i hi k hk => by have := (row_lt hrow k hk).1; have := (unhide SC).r2.lt; omega)) (Nat.le_trans (unhide HBB) (unhide SC).bel.size))
              have TH := hide SD.r2.there
              have HFR := hide hfr
              have HBF := hide hbf
              have HWF := hide hwf
              clear hfr hbf hmv hwf hrow hb SD HWT RG RX
              go_wp2_with (first | (refine wpList_store_mid rfl 29 (.tmp 4) (.tmp 47) rfl (H + 1 + 1) 0 #[.slice a' (ins (⟨xk, xs, ⟨g0, g1, g2, g3, g4, g5, g6, g7⟩⟩ : Win AggV) l).length c'] rfl rfl (unhide TH) (by kernel_rfl) (by simp [Value.oneCell']) ?_; change wpList _ _ _ _ _ (World.setCells _ (H + 2) 0 [.slice a' (ins (⟨xk, xs, ⟨g0, g1, g2, g3, g4, g5, g6, g7⟩⟩ : Win AggV) l).length c']); rw [unhide HWF]))
              refine bodyPost_ret (v := .tuple #[.agg #[.slice a' (ins (⟨xk, xs, ⟨g0, g1, g2, g3, g4, g5, g6, g7⟩⟩ : Win AggV) l).length c'], .int .i64 0]) ?_ rfl ?_
              · exact results_cell_tmp Tryz.results70 _ wf (H + 1 + 1) [.slice a' (ins (⟨xk, xs, ⟨g0, g1, g2, g3, g4, g5, g6, g7⟩⟩ : Win AggV) l).length c'] _ rfl (unhide HFR).range Tryz.underlying29 rfl (by kernel_rfl)
              · exact ⟨a', c', by rw [unhide RS]; rfl, by rw [unhide RS]; exact unhide HROW, by rw [unhide RS]; exact unhide HNEW, unhide HBF⟩
end Go.Proofs.YtigmhljaoicdbaaGreat

/- Slices that came in: of numbers, of the document's entries, of acts; an act by value: out of the row's reading. No conditions. -/
import Derived.Test.YtoofaldblldncabOfd
import Derived.Deep.Fields
import Derived.OpenShut
import Derived.ChangeOld
namespace Go.Proofs.Ytoofaldblldncab
open Go.RowKit Go.ChangeShapes Go.WideShapes

def actC (p : ActV) : List Value := [.bool p.isAsk, .int .i64 p.src, .int .i64 p.seq, .int .i64 p.low, .int .i64 p.code]
def ActK : RowK ActV := ⟨22, 24, 5, 40, .agg #[.bool false, .int .i64 0, .int .i64 0, .int .i64 0, .int .i64 0], actC⟩
theorem actK_law : ActK.Law Try.prog where
  und := Try.underlying22
  info := info_parts (by kernel_rfl)
  zc := rfl
  pos := by decide
  len := fun _ => rfl
  one := fun b u hu => by
    simp [ActK, actC] at hu
    rcases hu with rfl | rfl | rfl | rfl | rfl <;> rfl
  small := by decide
def i64 (n : Int) : Prop := -9223372036854775808 ≤ n ∧ n ≤ 9223372036854775807
structure ActV.In (p : ActV) : Prop where
  src : i64 p.src
  seq : i64 p.seq
  low : i64 p.low
  code : i64 p.code
structure Ent.In (x : Ent) : Prop where
  src : i64 x.src
  seq : i64 x.seq
  code : i64 x.code
theorem cells40 : Try.prog.cellsOf 24 = 5 := by kernel_rfl
theorem cells3 : Try.prog.cellsOf 3 = 1 := by kernel_rfl
theorem cells4 : Try.prog.cellsOf 4 = 1 := by kernel_rfl
section
variable {H : Type} {enc : TypeId × Value → H} {w : World} {base : Nat} {spare : Nat → Bool} {held : Bool}
/-- A slice that came in, of whatever kind of rows. -/
theorem slice_of {β : Type} {K : RowK β} (hu : Try.prog.underlying K.t = some (.slice K.e)) (hsz : Try.prog.cellsOf K.e = K.sz) (hp : 0 < K.sz) (hlen : ∀ b, (K.f b).length = K.sz) (b0 : β) (ok : β → Prop)
    (hone : ∀ {fuel : Nat} {cs : List Value} {x : DataW H × List MemPlace}, DataW.trod enc Try.prog w base spare held fuel K.e cs = some x → ∃ b, ok b ∧ cs = K.f b)
    {a : Option Addr} {len cap : Nat} {d : DataW H} {pl : List MemPlace} (h : DataW.Trod enc Try.prog w base spare held K.t (.slice a len cap) d pl) : ∃ z : List β, z.length = len ∧ len ≤ maxLen ∧ K.At w a z ∧ ∀ b ∈ z, ok b := by
  obtain ⟨fuel, hf⟩ := h
  rcases Go.Deep.open_slice hu hf with ⟨hcs, _⟩ | ⟨x, l, c, m, n, D, Pl, hcs, hb, hl, hm, hmm, _, hel⟩
  · simp [Value.cells] at hcs
    obtain ⟨rfl, rfl, rfl⟩ := hcs
    exact ⟨[], rfl, by unfold maxLen; omega, .inl rfl, fun b hb => by cases hb⟩
  · simp [Value.cells] at hcs
    obtain ⟨rfl, rfl, rfl⟩ := hcs
    rw [hsz] at hel
    have hlm : len ≤ m := by rw [hmm]; split <;> omega
    have hq : ∀ k, k < len → ∃ p : β, ok p ∧ (∃ b o, x = ⟨b, o, none⟩ ∧ b < w.heap.size ∧ ∀ j, j < K.sz → w.cell? ⟨b, o + k * K.sz + j, none⟩ = (K.f p)[j]?) := fun k hk => by
      obtain ⟨cs', h1, h2⟩ := hel k (by omega)
      obtain ⟨p, okp, rfl⟩ := hone h2
      obtain ⟨_, _, hc⟩ := World.cells?_some h1
      obtain ⟨b, o, spot⟩ := x
      have hspot : spot = none := by
        obtain ⟨cs0, i1, i2⟩ := hel 0 (by omega)
        obtain ⟨p0, _, rfl⟩ := hone i2
        obtain ⟨_, _, hc'⟩ := World.cells?_some i1
        have h0 := hc' 0 hp
        have h1 : (K.f p0)[0]? = some (K.f p0)[0]! := by
          have : 0 < (K.f p0).length := by rw [hlen]; exact hp
          rw [List.getElem?_eq_getElem this]; simp [this]
        have := World.cell?_spot (w := w) (h0.trans h1)
        simpa [Addr.add] using this
      subst hspot
      have cell : ∀ j, j < K.sz → w.cell? ⟨b, o + k * K.sz + j, none⟩ = (K.f p)[j]? := fun j hj => by
        have := hc j hj
        rwa [Go.Deep.add_add, Addr.add_mid, ← Nat.add_assoc] at this
      have k0 := cell 0 hp
      have h1 : (K.f p)[0]? = some (K.f p)[0]! := by
        have : 0 < (K.f p).length := by rw [hlen]; exact hp
        rw [List.getElem?_eq_getElem this]; simp [this]
      exact ⟨p, okp, b, o, rfl, World.block_lt_of_cell? _ _ (k0.trans h1), cell⟩
    have ih : Inhabited β := ⟨b0⟩
    obtain ⟨f, hf⟩ := Go.Deep.choose_lt (p := fun k p => ok p ∧ (∃ b o, x = ⟨b, o, none⟩ ∧ b < w.heap.size ∧ ∀ j, j < K.sz → w.cell? ⟨b, o + k * K.sz + j, none⟩ = (K.f p)[j]?)) hq
    refine ⟨(List.range len).map f, by simp, by omega, ?_, fun b hb => ?_⟩
    · by_cases h0 : len = 0
      · exact .inl (by rw [h0]; rfl)
      · obtain ⟨_, b, o, rfl, hb, _⟩ := hf 0 (by omega)
        refine .inr ⟨b, o, rfl, hb, fun j u hu => ?_⟩
        have hcl : (K.cells ((List.range len).map f)).length = len * K.sz := by
          have : ∀ l : List β, (K.cells l).length = l.length * K.sz := fun l => by
            induction l with
            | nil => simp [RowK.cells]
            | cons b l ih =>
              have e : K.cells (b :: l) = K.f b ++ K.cells l := List.flatMap_cons
              rw [e, List.length_append, ih, hlen, List.length_cons, Nat.add_mul]; omega
          rw [this]; simp
        obtain ⟨hj, _⟩ := List.getElem?_eq_some_iff.1 hu
        rw [hcl] at hj
        have hd : j / K.sz < len := (Nat.div_lt_iff_lt_mul hp).2 hj
        have hm2 : j % K.sz < K.sz := Nat.mod_lt _ hp
        obtain ⟨_, b', o', e, _, hc⟩ := hf (j / K.sz) hd
        cases e
        have hcj := hc (j % K.sz) hm2
        have hsplit : j / K.sz * K.sz + j % K.sz = j := by rw [Nat.mul_comm]; exact Nat.div_add_mod j K.sz
        rw [Nat.add_assoc, hsplit] at hcj
        rw [hcj]
        have hat : ((List.range len).map f)[j / K.sz]? = some (f (j / K.sz)) := by simp [hd]
        have key : ∀ (l : List β) (i : Nat) (b : β), l[i]? = some b → ∀ q, q < K.sz → (K.cells l)[i * K.sz + q]? = (K.f b)[q]? := fun l => by
          induction l with
          | nil => intro i b h; simp at h
          | cons y l ih =>
            intro i b h q hq'
            have e : K.cells (y :: l) = K.f y ++ K.cells l := List.flatMap_cons
            cases i with
            | zero =>
              simp only [List.getElem?_cons_zero, Option.some.injEq] at h
              subst h
              rw [e, List.getElem?_append_left (by rw [hlen]; omega), Nat.zero_mul, Nat.zero_add]
            | succ i =>
              simp only [List.getElem?_cons_succ] at h
              rw [e, List.getElem?_append_right (by rw [hlen, Nat.add_mul]; omega), hlen, show (i + 1) * K.sz + q - K.sz = i * K.sz + q by rw [Nat.add_mul]; omega]
              exact ih i b h q hq'
        have := key _ _ _ hat _ hm2
        rw [hsplit] at this
        rw [← this]; exact hu
    · obtain ⟨k, hk, rfl⟩ := List.mem_map.1 hb
      exact (hf k (List.mem_range.1 hk)).1
theorem int_of {fuel : Nat} {cs : List Value} {x : DataW H × List MemPlace} (h : DataW.trod enc Try.prog w base spare held fuel 3 cs = some x) : ∃ n : Int, i64 n ∧ cs = [.int .i64 n] := by
  obtain ⟨n, rfl, _, hw⟩ := DataW.trod_int Try.underlying3 h
  exact ⟨n, by have := bounds_i64 hw; unfold i64; omega, rfl⟩
theorem ints_of {a : Option Addr} {len cap : Nat} {d : DataW H} {pl : List MemPlace} (h : DataW.Trod enc Try.prog w base spare held 49 (.slice a len cap) d pl) : ∃ z : List Int, z.length = len ∧ len ≤ maxLen ∧ IntK.At w a z ∧ ∀ b ∈ z, i64 b :=
  slice_of (K := IntK) Try.underlying49 cells3 (by decide) (fun _ => rfl) 0 i64 (fun h => int_of h) h
set_option maxRecDepth 100000 in
theorem act_of {fuel : Nat} {cs : List Value} {x : DataW H × List MemPlace} (h : DataW.trod enc Try.prog w base spare held fuel 24 cs = some x) : ∃ p : ActV, p.In ∧ cs = actC p := by
  obtain ⟨xs, n, rfl, rfl, hl, hxl, hf⟩ := DataW.trod_struct Try.underlying24 h
  rw [cells40] at hl
  match cs, hl, xs, hxl with
  | [v0, v1, v2, v3, v4], _, [y0, y1, y2, y3, y4], _ =>
    have g0 : DataW.trod enc Try.prog w base spare held n 4 (List.take (Try.prog.cellsOf 4) (List.drop 0 [v0, v1, v2, v3, v4])) = some y0 := hf 0 _ rfl
    have g1 : DataW.trod enc Try.prog w base spare held n 3 (List.take (Try.prog.cellsOf 3) (List.drop 1 [v0, v1, v2, v3, v4])) = some y1 := hf 1 _ rfl
    have g2 : DataW.trod enc Try.prog w base spare held n 3 (List.take (Try.prog.cellsOf 3) (List.drop 2 [v0, v1, v2, v3, v4])) = some y2 := hf 2 _ rfl
    have g3 : DataW.trod enc Try.prog w base spare held n 3 (List.take (Try.prog.cellsOf 3) (List.drop 3 [v0, v1, v2, v3, v4])) = some y3 := hf 3 _ rfl
    have g4 : DataW.trod enc Try.prog w base spare held n 3 (List.take (Try.prog.cellsOf 3) (List.drop 4 [v0, v1, v2, v3, v4])) = some y4 := hf 4 _ rfl
    rw [cells4] at g0
    rw [cells3] at g1 g2 g3 g4
    obtain ⟨b, e0, _⟩ := DataW.trod_bool Try.underlying4 (show DataW.trod enc Try.prog w base spare held n 4 [v0] = some y0 from g0)
    obtain ⟨x1, h1, e1⟩ := int_of (show DataW.trod enc Try.prog w base spare held n 3 [v1] = some y1 from g1)
    obtain ⟨x2, h2, e2⟩ := int_of (show DataW.trod enc Try.prog w base spare held n 3 [v2] = some y2 from g2)
    obtain ⟨x3, h3, e3⟩ := int_of (show DataW.trod enc Try.prog w base spare held n 3 [v3] = some y3 from g3)
    obtain ⟨x4, h4, e4⟩ := int_of (show DataW.trod enc Try.prog w base spare held n 3 [v4] = some y4 from g4)
    simp only [List.cons.injEq, and_true] at e0 e1 e2 e3 e4
    exact ⟨⟨b, x1, x2, x3, x4⟩, ⟨h1, h2, h3, h4⟩, by rw [e0, e1, e2, e3, e4]; rfl⟩
theorem acts_of {a : Option Addr} {len cap : Nat} {d : DataW H} {pl : List MemPlace} (h : DataW.Trod enc Try.prog w base spare held 22 (.slice a len cap) d pl) : ∃ z : List ActV, z.length = len ∧ len ≤ maxLen ∧ ActK.At w a z ∧ ∀ b ∈ z, b.In :=
  slice_of (K := ActK) Try.underlying22 cells40 (by decide) (fun _ => rfl) ⟨false, 0, 0, 0, 0⟩ ActV.In (fun h => act_of h) h
end
end Go.Proofs.Ytoofaldblldncab

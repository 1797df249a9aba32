/- Slices that came in: of numbers, of acts, each with a slice of its own: out of the row's reading. No conditions. -/
import Derived.Test.YtdmjkbcjljnleaaMergd
import Derived.Deep.Fields
import Derived.OpenShut
import Derived.ChangeOld
namespace Go.Proofs.Ytdmjkbcjljnleaa
open Go.RowKit Go.ChangeShapes Go.WideShapes

/-- An act, and where its slice lies. -/
structure ActM where
  act : Int
  n : Int
  set : List Int
  a : Option Addr
  c : Nat
def actC (x : ActM) : List Value := [.int .i64 x.act, .int .i64 x.n, .slice x.a x.set.length x.c]
def ActK : RowK ActM := ⟨32, 37, 3, 40, .agg #[.int .i64 0, .int .i64 0, .slice none 0 0], actC⟩
theorem actK_law : ActK.Law Try.prog where
  und := Try.underlying32
  info := info_parts (by kernel_rfl)
  zc := rfl
  pos := by decide
  len := fun _ => rfl
  one := fun b u hu => by
    simp [ActK, actC] at hu
    rcases hu with rfl | rfl | rfl <;> rfl
  small := by decide
/-- What is said of an act that came in. -/
structure ActM.In (w : World) (x : ActM) : Prop where
  act : i64 x.act
  n : i64 x.n
  at_ : IntK.At w x.a x.set
  set : ∀ y ∈ x.set, i64 y
  len : x.set.length ≤ maxLen
theorem cells3 : Try.prog.cellsOf 3 = 1 := by kernel_rfl
theorem cells27 : Try.prog.cellsOf 27 = 1 := by kernel_rfl
theorem cells37 : Try.prog.cellsOf 37 = 3 := by kernel_rfl
section
variable {H : Type} {enc : TypeId × Value → H} {w : World} {base : Nat} {spare : Nat → Bool} {held : Bool}
/-- A slice that came in, of whatever kind of rows. -/
theorem slice_of {β : Type} {K : RowK β} (hu : Try.prog.underlying K.t = some (.slice K.e)) (hsz : Try.prog.cellsOf K.e = K.sz) (hp : 0 < K.sz) (hlen : ∀ b, (K.f b).length = K.sz) (b0 : β) (ok : β → Prop)
    (hone : ∀ {fuel : Nat} {cs : List Value} {x : DataW H × List MemPlace}, DataW.trod enc Try.prog w base spare held fuel K.e cs = some x → ∃ b, ok b ∧ cs = K.f b)
    {a : Option Addr} {len cap : Nat} {d : DataW H} {pl : List MemPlace} (h : DataW.Trod enc Try.prog w base spare held K.t (.slice a len cap) d pl) : ∃ z : List β, z.length = len ∧ len ≤ maxLen ∧ K.At w a z ∧ ∀ b ∈ z, ok b := by
  obtain ⟨fuel, hf⟩ := h
  rcases Go.Deep.open_slice hu hf with ⟨hcs, _⟩ | ⟨x, l, c, m, n, D, Pl, hcs, hb, hl, hm, hmm, _, hel⟩
  · simp [Value.cells] at hcs
    obtain ⟨rfl, rfl, rfl⟩ := hcs
    exact ⟨[], rfl, by unfold maxLen; omega, .inl rfl, fun b hb => by cases hb⟩
  · simp [Value.cells] at hcs
    obtain ⟨rfl, rfl, rfl⟩ := hcs
    rw [hsz] at hel
    have hlm : len ≤ m := by rw [hmm]; split <;> omega
    have hq : ∀ k, k < len → ∃ p : β, ok p ∧ (∃ b o, x = ⟨b, o, none⟩ ∧ b < w.heap.size ∧ ∀ j, j < K.sz → w.cell? ⟨b, o + k * K.sz + j, none⟩ = (K.f p)[j]?) := fun k hk => by
      obtain ⟨cs', h1, h2⟩ := hel k (by omega)
      obtain ⟨p, okp, rfl⟩ := hone h2
      obtain ⟨_, _, hc⟩ := World.cells?_some h1
      obtain ⟨b, o, spot⟩ := x
      have hspot : spot = none := by
        obtain ⟨cs0, i1, i2⟩ := hel 0 (by omega)
        obtain ⟨p0, _, rfl⟩ := hone i2
        obtain ⟨_, _, hc'⟩ := World.cells?_some i1
        have h0 := hc' 0 hp
        have h1 : (K.f p0)[0]? = some (K.f p0)[0]! := by
          have : 0 < (K.f p0).length := by rw [hlen]; exact hp
          rw [List.getElem?_eq_getElem this]; simp [this]
        have := World.cell?_spot (w := w) (h0.trans h1)
        simpa [Addr.add] using this
      subst hspot
      have cell : ∀ j, j < K.sz → w.cell? ⟨b, o + k * K.sz + j, none⟩ = (K.f p)[j]? := fun j hj => by
        have := hc j hj
        rwa [Go.Deep.add_add, Addr.add_mid, ← Nat.add_assoc] at this
      have k0 := cell 0 hp
      have h1 : (K.f p)[0]? = some (K.f p)[0]! := by
        have : 0 < (K.f p).length := by rw [hlen]; exact hp
        rw [List.getElem?_eq_getElem this]; simp [this]
      exact ⟨p, okp, b, o, rfl, World.block_lt_of_cell? _ _ (k0.trans h1), cell⟩
    have ih : Inhabited β := ⟨b0⟩
    obtain ⟨f, hf⟩ := Go.Deep.choose_lt (p := fun k p => ok p ∧ (∃ b o, x = ⟨b, o, none⟩ ∧ b < w.heap.size ∧ ∀ j, j < K.sz → w.cell? ⟨b, o + k * K.sz + j, none⟩ = (K.f p)[j]?)) hq
    refine ⟨(List.range len).map f, by simp, by omega, ?_, fun b hb => ?_⟩
    · by_cases h0 : len = 0
      · exact .inl (by rw [h0]; rfl)
      · obtain ⟨_, b, o, rfl, hb, _⟩ := hf 0 (by omega)
        refine .inr ⟨b, o, rfl, hb, fun j u hu => ?_⟩
        have hcl : (K.cells ((List.range len).map f)).length = len * K.sz := by
          have : ∀ l : List β, (K.cells l).length = l.length * K.sz := fun l => by
            induction l with
            | nil => simp [RowK.cells]
            | cons b l ih =>
              have e : K.cells (b :: l) = K.f b ++ K.cells l := List.flatMap_cons
              rw [e, List.length_append, ih, hlen, List.length_cons, Nat.add_mul]; omega
          rw [this]; simp
        obtain ⟨hj, _⟩ := List.getElem?_eq_some_iff.1 hu
        rw [hcl] at hj
        have hd : j / K.sz < len := (Nat.div_lt_iff_lt_mul hp).2 hj
        have hm2 : j % K.sz < K.sz := Nat.mod_lt _ hp
        obtain ⟨_, b', o', e, _, hc⟩ := hf (j / K.sz) hd
        cases e
        have hcj := hc (j % K.sz) hm2
        have hsplit : j / K.sz * K.sz + j % K.sz = j := by rw [Nat.mul_comm]; exact Nat.div_add_mod j K.sz
        rw [Nat.add_assoc, hsplit] at hcj
        rw [hcj]
        have hat : ((List.range len).map f)[j / K.sz]? = some (f (j / K.sz)) := by simp [hd]
        have key : ∀ (l : List β) (i : Nat) (b : β), l[i]? = some b → ∀ q, q < K.sz → (K.cells l)[i * K.sz + q]? = (K.f b)[q]? := fun l => by
          induction l with
          | nil => intro i b h; simp at h
          | cons y l ih =>
            intro i b h q hq'
            have e : K.cells (y :: l) = K.f y ++ K.cells l := List.flatMap_cons
            cases i with
            | zero =>
              simp only [List.getElem?_cons_zero, Option.some.injEq] at h
              subst h
              rw [e, List.getElem?_append_left (by rw [hlen]; omega), Nat.zero_mul, Nat.zero_add]
            | succ i =>
              simp only [List.getElem?_cons_succ] at h
              rw [e, List.getElem?_append_right (by rw [hlen, Nat.add_mul]; omega), hlen, show (i + 1) * K.sz + q - K.sz = i * K.sz + q by rw [Nat.add_mul]; omega]
              exact ih i b h q hq'
        have := key _ _ _ hat _ hm2
        rw [hsplit] at this
        rw [← this]; exact hu
    · obtain ⟨k, hk, rfl⟩ := List.mem_map.1 hb
      exact (hf k (List.mem_range.1 hk)).1
theorem int_of {fuel : Nat} {cs : List Value} {x : DataW H × List MemPlace} (h : DataW.trod enc Try.prog w base spare held fuel 3 cs = some x) : ∃ n : Int, i64 n ∧ cs = [.int .i64 n] := by
  obtain ⟨n, rfl, _, hw⟩ := DataW.trod_int Try.underlying3 h
  exact ⟨n, by have := bounds_i64 hw; unfold i64; omega, rfl⟩
theorem ints_of {a : Option Addr} {len cap : Nat} {d : DataW H} {pl : List MemPlace} (h : DataW.Trod enc Try.prog w base spare held 27 (.slice a len cap) d pl) : ∃ z : List Int, z.length = len ∧ len ≤ maxLen ∧ IntK.At w a z ∧ ∀ b ∈ z, i64 b :=
  slice_of (K := IntK) Try.underlying27 cells3 (by decide) (fun _ => rfl) 0 i64 (fun h => int_of h) h
theorem ints_in {fuel : Nat} {v : Value} {x : DataW H × List MemPlace} (h : DataW.trod enc Try.prog w base spare held fuel 27 [v] = some x) : ∃ (a : Option Addr) (c : Nat) (z : List Int), v = .slice a z.length c ∧ z.length ≤ maxLen ∧ IntK.At w a z ∧ ∀ b ∈ z, i64 b := by
  obtain ⟨a, len, c, rfl⟩ : ∃ a len c, v = .slice a len c := by
    rcases Go.Deep.open_slice Try.underlying27 h with ⟨hcs, _⟩ | ⟨x, l, c, m, n, D, Pl, hcs, _⟩
    · simp at hcs
      exact ⟨_, _, _, hcs⟩
    · simp at hcs
      exact ⟨_, _, _, hcs⟩
  obtain ⟨d, pl⟩ := x
  obtain ⟨z, rfl, h2, h3, h4⟩ := ints_of (cap := c) (a := a) (len := len) (d := d) (pl := pl) ⟨fuel, h⟩
  exact ⟨a, c, z, rfl, h2, h3, h4⟩
set_option maxRecDepth 100000 in
theorem act_of {fuel : Nat} {cs : List Value} {x : DataW H × List MemPlace} (h : DataW.trod enc Try.prog w base spare held fuel 37 cs = some x) : ∃ p : ActM, p.In w ∧ cs = actC p := by
  obtain ⟨xs, n, rfl, rfl, hl, hxl, hf⟩ := DataW.trod_struct Try.underlying37 h
  rw [cells37] at hl
  match cs, hl, xs, hxl with
  | [v0, v1, v2], _, [y0, y1, y2], _ =>
    have g0 : DataW.trod enc Try.prog w base spare held n 3 (List.take (Try.prog.cellsOf 3) (List.drop 0 [v0, v1, v2])) = some y0 := hf 0 _ rfl
    have g1 : DataW.trod enc Try.prog w base spare held n 3 (List.take (Try.prog.cellsOf 3) (List.drop 1 [v0, v1, v2])) = some y1 := hf 1 _ rfl
    have g2 : DataW.trod enc Try.prog w base spare held n 27 (List.take (Try.prog.cellsOf 27) (List.drop 2 [v0, v1, v2])) = some y2 := hf 2 _ rfl
    rw [cells3] at g0 g1
    rw [cells27] at g2
    obtain ⟨x0, h0, e0⟩ := int_of (show DataW.trod enc Try.prog w base spare held n 3 [v0] = some y0 from g0)
    obtain ⟨x1, h1, e1⟩ := int_of (show DataW.trod enc Try.prog w base spare held n 3 [v1] = some y1 from g1)
    obtain ⟨a, c, z, rfl, h2, h3, h4⟩ := ints_in (show DataW.trod enc Try.prog w base spare held n 27 [v2] = some y2 from g2)
    simp only [List.cons.injEq, and_true] at e0 e1
    exact ⟨⟨x0, x1, z, a, c⟩, ⟨h0, h1, h3, h4, h2⟩, by rw [e0, e1]; rfl⟩
theorem acts_of {a : Option Addr} {len cap : Nat} {d : DataW H} {pl : List MemPlace} (h : DataW.Trod enc Try.prog w base spare held 32 (.slice a len cap) d pl) : ∃ z : List ActM, z.length = len ∧ len ≤ maxLen ∧ ActK.At w a z ∧ ∀ b ∈ z, b.In w :=
  slice_of (K := ActK) Try.underlying32 cells37 (by decide) (fun _ => rfl) ⟨0, 0, [], none, 0⟩ (ActM.In w) (fun h => act_of h) h
end
theorem ActM.In.below {w w' : World} {B : Nat} {x : ActM} (h : x.In w) (hB : w.heap.size ≤ B) (b : Below B w w') : x.In w' := ⟨h.act, h.n, h.at_.below hB b, h.set, h.len⟩
end Go.Proofs.Ytdmjkbcjljnleaa

/- Slices that came in: of numbers, of the document's entries, of acts; an act by value: out of the row's reading. No conditions. -/
import Derived.Test.YtigmhljaoicdbaaGreatSnOfd
import Derived.Deep.Fields
import Derived.OpenShut
import Derived.ChangeOld
import Derived.Test.YtigmhljaoicdbaaGreatGEqW
import Derived.Test.YtigmhljaoicdbaaGreatGSnTwind
namespace Go.Proofs.YtigmhljaoicdbaaGreat.Sn
open Go.RowKit Go.ChangeShapes Go.WideShapes

def actC (p : ActV) : List Value := [.bool p.isAsk, .int .i64 p.src, .int .i64 p.seq, .int .i64 p.low, .int .i64 p.code]
def ActK : RowK ActV := ⟨24, 40, 5, 40, .agg #[.bool false, .int .i64 0, .int .i64 0, .int .i64 0, .int .i64 0], actC⟩
def i64 (n : Int) : Prop := -9223372036854775808 ≤ n ∧ n ≤ 9223372036854775807
structure ActV.In (p : ActV) : Prop where
  src : i64 p.src
  seq : i64 p.seq
  low : i64 p.low
  code : i64 p.code
structure Ent.In (x : Ent) : Prop where
  src : i64 x.src
  seq : i64 x.seq
  code : i64 x.code
theorem cells68 : Tryz.prog.cellsOf 100 = 3 := by kernel_rfl
theorem cells3 : Tryz.prog.cellsOf 3 = 1 := by kernel_rfl
theorem cells4 : Tryz.prog.cellsOf 4 = 1 := by kernel_rfl
section
variable {H : Type} {enc : TypeId × Value → H} {w : World} {base : Nat} {spare : Nat → Bool} {held : Bool}
/-- A slice that came in, of whatever kind of rows. -/
theorem slice_of {β : Type} {K : RowK β} (hu : Tryz.prog.underlying K.t = some (.slice K.e)) (hsz : Tryz.prog.cellsOf K.e = K.sz) (hp : 0 < K.sz) (hlen : ∀ b, (K.f b).length = K.sz) (b0 : β) (ok : β → Prop)
    (hone : ∀ {fuel : Nat} {cs : List Value} {x : DataW H × List MemPlace}, DataW.trod enc Tryz.prog w base spare held fuel K.e cs = some x → ∃ b, ok b ∧ cs = K.f b)
    {a : Option Addr} {len cap : Nat} {d : DataW H} {pl : List MemPlace} (h : DataW.Trod enc Tryz.prog w base spare held K.t (.slice a len cap) d pl) : ∃ z : List β, z.length = len ∧ len ≤ maxLen ∧ K.At w a z ∧ ∀ b ∈ z, ok b := by
  obtain ⟨fuel, hf⟩ := h
  rcases Go.Deep.open_slice hu hf with ⟨hcs, _⟩ | ⟨x, l, c, m, n, D, Pl, hcs, hb, hl, hm, hmm, _, hel⟩
  · simp [Value.cells] at hcs
    obtain ⟨rfl, rfl, rfl⟩ := hcs
    exact ⟨[], rfl, by unfold maxLen; omega, .inl rfl, fun b hb => by cases hb⟩
  · simp [Value.cells] at hcs
    obtain ⟨rfl, rfl, rfl⟩ := hcs
    rw [hsz] at hel
    have hlm : len ≤ m := by rw [hmm]; split <;> omega
    have hq : ∀ k, k < len → ∃ p : β, ok p ∧ (∃ b o, x = ⟨b, o, none⟩ ∧ b < w.heap.size ∧ ∀ j, j < K.sz → w.cell? ⟨b, o + k * K.sz + j, none⟩ = (K.f p)[j]?) := fun k hk => by
      obtain ⟨cs', h1, h2⟩ := hel k (by omega)
      obtain ⟨p, okp, rfl⟩ := hone h2
      obtain ⟨_, _, hc⟩ := World.cells?_some h1
      obtain ⟨b, o, spot⟩ := x
      have hspot : spot = none := by
        obtain ⟨cs0, i1, i2⟩ := hel 0 (by omega)
        obtain ⟨p0, _, rfl⟩ := hone i2
        obtain ⟨_, _, hc'⟩ := World.cells?_some i1
        have h0 := hc' 0 hp
        have h1 : (K.f p0)[0]? = some (K.f p0)[0]! := by
          have : 0 < (K.f p0).length := by rw [hlen]; exact hp
          rw [List.getElem?_eq_getElem this]; simp [this]
        have := World.cell?_spot (w := w) (h0.trans h1)
        simpa [Addr.add] using this
      subst hspot
      have cell : ∀ j, j < K.sz → w.cell? ⟨b, o + k * K.sz + j, none⟩ = (K.f p)[j]? := fun j hj => by
        have := hc j hj
        rwa [Go.Deep.add_add, Addr.add_mid, ← Nat.add_assoc] at this
      have k0 := cell 0 hp
      have h1 : (K.f p)[0]? = some (K.f p)[0]! := by
        have : 0 < (K.f p).length := by rw [hlen]; exact hp
        rw [List.getElem?_eq_getElem this]; simp [this]
      exact ⟨p, okp, b, o, rfl, World.block_lt_of_cell? _ _ (k0.trans h1), cell⟩
    have ih : Inhabited β := ⟨b0⟩
    obtain ⟨f, hf⟩ := Go.Deep.choose_lt (p := fun k p => ok p ∧ (∃ b o, x = ⟨b, o, none⟩ ∧ b < w.heap.size ∧ ∀ j, j < K.sz → w.cell? ⟨b, o + k * K.sz + j, none⟩ = (K.f p)[j]?)) hq
    refine ⟨(List.range len).map f, by simp, by omega, ?_, fun b hb => ?_⟩
    · by_cases h0 : len = 0
      · exact .inl (by rw [h0]; rfl)
      · obtain ⟨_, b, o, rfl, hb, _⟩ := hf 0 (by omega)
        refine .inr ⟨b, o, rfl, hb, fun j u hu => ?_⟩
        have hcl : (K.cells ((List.range len).map f)).length = len * K.sz := by
          have : ∀ l : List β, (K.cells l).length = l.length * K.sz := fun l => by
            induction l with
            | nil => simp [RowK.cells]
            | cons b l ih =>
              have e : K.cells (b :: l) = K.f b ++ K.cells l := List.flatMap_cons
              rw [e, List.length_append, ih, hlen, List.length_cons, Nat.add_mul]; omega
          rw [this]; simp
        obtain ⟨hj, _⟩ := List.getElem?_eq_some_iff.1 hu
        rw [hcl] at hj
        have hd : j / K.sz < len := (Nat.div_lt_iff_lt_mul hp).2 hj
        have hm2 : j % K.sz < K.sz := Nat.mod_lt _ hp
        obtain ⟨_, b', o', e, _, hc⟩ := hf (j / K.sz) hd
        cases e
        have hcj := hc (j % K.sz) hm2
        have hsplit : j / K.sz * K.sz + j % K.sz = j := by rw [Nat.mul_comm]; exact Nat.div_add_mod j K.sz
        rw [Nat.add_assoc, hsplit] at hcj
        rw [hcj]
        have hat : ((List.range len).map f)[j / K.sz]? = some (f (j / K.sz)) := by simp [hd]
        have key : ∀ (l : List β) (i : Nat) (b : β), l[i]? = some b → ∀ q, q < K.sz → (K.cells l)[i * K.sz + q]? = (K.f b)[q]? := fun l => by
          induction l with
          | nil => intro i b h; simp at h
          | cons y l ih =>
            intro i b h q hq'
            have e : K.cells (y :: l) = K.f y ++ K.cells l := List.flatMap_cons
            cases i with
            | zero =>
              simp only [List.getElem?_cons_zero, Option.some.injEq] at h
              subst h
              rw [e, List.getElem?_append_left (by rw [hlen]; omega), Nat.zero_mul, Nat.zero_add]
            | succ i =>
              simp only [List.getElem?_cons_succ] at h
              rw [e, List.getElem?_append_right (by rw [hlen, Nat.add_mul]; omega), hlen, show (i + 1) * K.sz + q - K.sz = i * K.sz + q by rw [Nat.add_mul]; omega]
              exact ih i b h q hq'
        have := key _ _ _ hat _ hm2
        rw [hsplit] at this
        rw [← this]; exact hu
    · obtain ⟨k, hk, rfl⟩ := List.mem_map.1 hb
      exact (hf k (List.mem_range.1 hk)).1
theorem int_of {fuel : Nat} {cs : List Value} {x : DataW H × List MemPlace} (h : DataW.trod enc Tryz.prog w base spare held fuel 3 cs = some x) : ∃ n : Int, i64 n ∧ cs = [.int .i64 n] := by
  obtain ⟨n, rfl, _, hw⟩ := DataW.trod_int Tryz.underlying3 h
  exact ⟨n, by have := bounds_i64 hw; unfold i64; omega, rfl⟩
theorem ints_of {a : Option Addr} {len cap : Nat} {d : DataW H} {pl : List MemPlace} (h : DataW.Trod enc Tryz.prog w base spare held 47 (.slice a len cap) d pl) : ∃ z : List Int, z.length = len ∧ len ≤ maxLen ∧ IntK.At w a z ∧ ∀ b ∈ z, i64 b :=
  slice_of (K := IntK) Tryz.underlying47 cells3 (by decide) (fun _ => rfl) 0 i64 (fun h => int_of h) h
set_option maxRecDepth 100000 in
theorem ent_of {fuel : Nat} {cs : List Value} {x : DataW H × List MemPlace} (h : DataW.trod enc Tryz.prog w base spare held fuel 100 cs = some x) : ∃ y : Ent, y.In ∧ cs = entV y := by
  obtain ⟨xs, n, rfl, rfl, hl, hxl, hf⟩ := DataW.trod_struct Tryz.underlying100 h
  rw [cells68] at hl
  match cs, hl, xs, hxl with
  | [v0, v1, v2], _, [y0, y1, y2], _ =>
    have g0 : DataW.trod enc Tryz.prog w base spare held n 3 (List.take (Tryz.prog.cellsOf 3) (List.drop 0 [v0, v1, v2])) = some y0 := hf 0 _ rfl
    have g1 : DataW.trod enc Tryz.prog w base spare held n 3 (List.take (Tryz.prog.cellsOf 3) (List.drop 1 [v0, v1, v2])) = some y1 := hf 1 _ rfl
    have g2 : DataW.trod enc Tryz.prog w base spare held n 3 (List.take (Tryz.prog.cellsOf 3) (List.drop 2 [v0, v1, v2])) = some y2 := hf 2 _ rfl
    rw [cells3] at g0 g1 g2
    obtain ⟨x0, h0, e0⟩ := int_of (show DataW.trod enc Tryz.prog w base spare held n 3 [v0] = some y0 from g0)
    obtain ⟨x1, h1, e1⟩ := int_of (show DataW.trod enc Tryz.prog w base spare held n 3 [v1] = some y1 from g1)
    obtain ⟨x2, h2, e2⟩ := int_of (show DataW.trod enc Tryz.prog w base spare held n 3 [v2] = some y2 from g2)
    simp only [List.cons.injEq, and_true] at e0 e1 e2
    exact ⟨⟨x0, x1, x2⟩, ⟨h0, h1, h2⟩, by rw [e0, e1, e2]; rfl⟩
theorem ents_of {a : Option Addr} {len cap : Nat} {d : DataW H} {pl : List MemPlace} (h : DataW.Trod enc Tryz.prog w base spare held 33 (.slice a len cap) d pl) : ∃ z : List Ent, z.length = len ∧ len ≤ maxLen ∧ RefK.At w a z ∧ ∀ b ∈ z, b.In :=
  slice_of (K := RefK) Tryz.underlying33 cells68 (by decide) (fun _ => rfl) e0 Ent.In (fun h => ent_of h) h
end
end Go.Proofs.YtigmhljaoicdbaaGreat.Sn

namespace Go.Proofs.YtigmhljaoicdbaaGreat.Sn
open Go.RowKit

/-- Something in memory: the blocks that are its own, and what it says of a world. -/
structure Held where
  own : Nat → Prop
  ok : World → Prop
  lt : ∀ v, ok v → ∀ k, own k → k < v.heap.size
  stay : ∀ v v', ok v → v.heap.size ≤ v'.heap.size → (∀ k, own k → v'.heap[k]? = v.heap[k]?) → ok v'
/-- All of R is there, apart, made since w0. -/
structure HR (w0 v : World) (R : List Held) : Prop where
  bel : Below w0.heap.size w0 v
  ok : ∀ r ∈ R, r.ok v
  big : ∀ r ∈ R, ∀ k, r.own k → w0.heap.size ≤ k
  apart : R.Pairwise (fun r s => ∀ k, r.own k → ¬ s.own k)
section
variable {w0 v v' : World} {r r' : Held} {R S : List Held}
theorem HR.start (w0 : World) : HR w0 w0 [] := ⟨Below.refl _ _, fun _ h => by (cases h), fun _ h => by (cases h), List.Pairwise.nil⟩
theorem HR.turn (h : HR w0 v (r :: R)) (m : Moved r.own v v') (hr : r'.ok v') (hn : ∀ k, r'.own k → r.own k ∨ v.heap.size ≤ k) : HR w0 v' (r' :: R) := by
  obtain ⟨a1, a2⟩ := List.pairwise_cons.1 h.apart
  have hz := h.bel.size
  refine ⟨h.bel.trans (m.below (h.big r List.mem_cons_self) hz), fun s hs => ?_, fun s hs k hk => ?_, List.pairwise_cons.2 ⟨fun s hs k hk hsk => ?_, a2⟩⟩
  · rcases List.mem_cons.1 hs with rfl | hs
    · exact hr
    · have o := h.ok s (List.mem_cons_of_mem _ hs)
      exact s.stay v v' o m.size fun k hk => m.block k (s.lt v o k hk) fun f => a1 s hs k f hk
  · rcases List.mem_cons.1 hs with rfl | hs
    · exact (hn k hk).elim (h.big r List.mem_cons_self k) (fun g => Nat.le_trans hz g)
    · exact h.big s (List.mem_cons_of_mem _ hs) k hk
  · rcases hn k hk with g | g
    · exact a1 s hs k g hsk
    · have := s.lt v (h.ok s (List.mem_cons_of_mem _ hs)) k hsk; omega
theorem HR.below (h : HR w0 v R) (b : Below v.heap.size v v') : HR w0 v' R :=
  ⟨h.bel.trans (b.mono h.bel.size), fun s hs => s.stay v v' (h.ok s hs) b.size fun k hk => b.block k (s.lt v (h.ok s hs) k hk), h.big, h.apart⟩
theorem HR.add (h : HR w0 v R) (b : Below v.heap.size v v') (hr : r.ok v') (hn : ∀ k, r.own k → v.heap.size ≤ k) : HR w0 v' (r :: R) := by
  have h' := h.below b
  refine ⟨h'.bel, fun s hs => ?_, fun s hs k hk => ?_, List.pairwise_cons.2 ⟨fun s hs k hk hsk => ?_, h.apart⟩⟩
  · rcases List.mem_cons.1 hs with rfl | hs
    · exact hr
    · exact h'.ok s hs
  · rcases List.mem_cons.1 hs with rfl | hs
    · exact Nat.le_trans h.bel.size (hn k hk)
    · exact h.big s hs k hk
  · have h1 := hn k hk
    have h2 := s.lt v (h.ok s hs) k hsk
    omega
theorem HR.perm (h : HR w0 v R) (p : R.Perm S) : HR w0 v S :=
  ⟨h.bel, fun s hs => h.ok s (p.mem_iff.2 hs), fun s hs => h.big s (p.mem_iff.2 hs), (p.pairwise_iff (fun {a b} (h : ∀ k, a.own k → ¬ b.own k) k hb ha => h k ha hb)).1 h.apart⟩
theorem HR.sub (h : HR w0 v R) (p : List.Sublist S R) : HR w0 v S :=
  ⟨h.bel, fun s hs => h.ok s (p.subset hs), fun s hs => h.big s (p.subset hs), h.apart.sublist p⟩
theorem HR.swap (h : HR w0 v (r :: r' :: R)) : HR w0 v (r' :: r :: R) := h.perm (List.Perm.swap _ _ _)
theorem HR.drop1 (h : HR w0 v (r :: R)) : HR w0 v R := h.sub (List.sublist_cons_self _ _)
end
/-- A table. -/
def hTab (p : Nat) (F : Nat → Prop) (T : Tab) : Held := ⟨F, fun v => TIs v p F T, fun _ h => h.lt, fun v v' h hz hk => by
  obtain ⟨M, h, rfl⟩ := h
  have key : ∀ i, i < 4 → SrcAt v' p (i * 2) (M i) (T i) := fun i hi => by
    have s := h.src i hi
    have hp := hk p (.inl rfl)
    exact ⟨(World.cell?_of_block (w := v) hp).trans s.c0, (World.cell?_of_block (w := v) hp).trans s.c1, (World.frozen?_of_block (w := v) hp).trans s.f0, (World.frozen?_of_block (w := v) hp).trans s.f1, s.mo.keep fun b e => hk b (.inr ⟨i, hi, e⟩), s.fine⟩
  exact ⟨M, ⟨key, h.apart⟩, rfl⟩⟩
/-- A row. -/
def hRow {β : Type} (K : RowK β) (a : Option Addr) (c : Nat) (l : List β) : Held := ⟨fun k => own a l.length c = some k, fun v => K.Row v 0 a c l, fun v h k e => (row_lt h k e).2, fun v v' h hz hk => by
  refine ⟨h.1, h.2.imp id ?_⟩
  rintro ⟨g, cap, cur, e1, e2, e3, e4⟩
  exact ⟨g, cap, cur, e1, e2, (hk g (by show (Value.slice a l.length c).ownBlock = some g; rw [e1]; rfl)).trans e3, e4⟩⟩
section
variable {w0 v : World} {p : Nat} {F : Nat → Prop} {T : Tab} {R : List Held}
theorem HR.tab (h : HR w0 v R) (m : hTab p F T ∈ R) : TIs v p F T := h.ok _ m
theorem HR.row {β : Type} {K : RowK β} {a : Option Addr} {c : Nat} {l : List β} (h : HR w0 v R) (m : hRow K a c l ∈ R) : K.At v a l := (h.ok _ m : K.Row v 0 a c l).at_
theorem HR.new (h : HR w0 v R) : Calls Tryz.prog 28 #[] v fun e v' => ∃ q F, e = .returned (.pointer (some ⟨q, 0, none⟩)) ∧ HR w0 v' (hTab q F new_ :: R) :=
  (new_any v).mono fun _ _ ⟨h1, h2, h3⟩ => ⟨_, _, h1, h.add h2 h3 (foot_none _)⟩
theorem HR.note (h : HR w0 v (hTab p F T :: R)) (hT : T.Ok) (src seq low code : Int) :
    Calls Tryz.prog 32 #[.pointer (some ⟨p, 0, none⟩), .int .i64 src, .int .i64 seq, .int .i64 low, .int .i64 code] v fun e v' => e = .returned (.int .i64 (noteE T src seq low code)) ∧ ∃ F', HR w0 v' (hTab p F' (note T src seq low code) :: R) :=
  (tnote_any (h.tab List.mem_cons_self) hT src seq low code).mono fun _ _ ⟨h1, F', d1, d2, d3⟩ => ⟨h1, F', h.turn (r := hTab p F T) d3 d1 d2⟩
theorem HR.ask (h : HR w0 v R) (m : hTab p F T ∈ R) (src seq low : Int) :
    Calls Tryz.prog 30 #[.pointer (some ⟨p, 0, none⟩), .int .i64 src, .int .i64 seq, .int .i64 low] v fun e v' => e = .returned (.tuple #[.int .i64 (YtigmhljaoicdbaaGreat.Sn.ask T src seq low).1, .int .i64 (YtigmhljaoicdbaaGreat.Sn.ask T src seq low).2]) ∧ v' = v := task_any (h.tab m) src seq low
theorem HR.lows (h : HR w0 v R) (m : hTab p F T ∈ R) : Calls Tryz.prog 44 #[.pointer (some ⟨p, 0, none⟩)] v fun e v' => ∃ a c, e = .returned (.slice a 4 c) ∧ HR w0 v' (hRow IntK a c (YtigmhljaoicdbaaGreat.Sn.lows T) :: R) :=
  (lows_any (h.tab m)).mono fun _ _ ⟨a, c, h1, h2, h3⟩ => ⟨a, c, h1, h.add h3 (row_base h2 (Nat.zero_le _)) fun k e => (row_lt h2 k e).1⟩
theorem HR.all (h : HR w0 v R) (m : hTab p F T ∈ R) (hT : T.Ok) : Calls Tryz.prog 45 #[.pointer (some ⟨p, 0, none⟩)] v fun e v' => ∃ a c, e = .returned (.slice a (YtigmhljaoicdbaaGreat.Sn.all T).length c) ∧ HR w0 v' (hRow EntK a c (YtigmhljaoicdbaaGreat.Sn.all T) :: R) :=
  (all_any (h.tab m) hT).mono fun _ _ ⟨a, c, h1, h2, h3⟩ => ⟨a, c, h1, h.add h3 (row_base h2 (Nat.zero_le _)) fun k e => (row_lt h2 k e).1⟩
theorem HR.twin (h : HR w0 v R) (m : hTab p F T ∈ R) : Calls Tryz.prog 47 #[.pointer (some ⟨p, 0, none⟩)] v fun e v' => ∃ q F', e = .returned (.pointer (some ⟨q, 0, none⟩)) ∧ HR w0 v' (hTab q F' T :: R) :=
  (twin_any (h.tab m)).mono fun _ _ ⟨q, F', h1, h2, h3, h4⟩ => ⟨q, F', h1, h.add h4 h2 h3⟩
theorem HR.of (h : HR w0 v R) {a b : Option Addr} {c d : Nat} {lows : List Int} {l : List Ent} (ha : IntK.At v a lows) (hb : EntK.At v b l) (hl : l.length ≤ 100) :
    Calls Tryz.prog 39 #[.slice a lows.length c, .slice b l.length d] v fun e v' =>
      ((good lows l = true ∧ ∃ q F, e = .returned (.tuple #[.pointer (some ⟨q, 0, none⟩), .int .i64 0]) ∧ HR w0 v' (hTab q F (keeps (tab0 lows) l) :: R)) ∨ (good lows l = false ∧ e = .returned (.tuple #[.pointer none, .int .i64 1]) ∧ HR w0 v' R)) :=
  (of_any ha hb hl).mono fun _ _ ⟨h1, h2⟩ => h2.imp (fun ⟨g, q, F, e1, e2, e3⟩ => ⟨g, q, F, e1, h.add h1 e2 e3⟩) (fun ⟨g, e1⟩ => ⟨g, e1, h.below h1⟩)
/-- An append to a row. -/
theorem HR.grow {β : Type} {K : RowK β} {a : Option Addr} {c : Nat} {l : List β} (hK : K.Law Tryz.prog) (h : HR w0 v (hRow K a c l :: R)) (z : β) (ty : TypeId) (hl : l.length ≤ 100000) :
    ∃ a' c' w', (Builtin.append_ #[K.t, K.t] K.t #[.slice a l.length c, .slice (some ⟨v.heap.size, 0, none⟩) 1 1]).run Tryz.prog (v.alloc (.cells (K.f z).toArray ty)) = .ok (.slice a' (l.length + 1) c') w' ∧ HR w0 w' (hRow K a' c' (l ++ [z]) :: R) := by
  obtain ⟨a', c', w', h1, h2, h3, h4, h5⟩ := grow_one hK (h.ok _ List.mem_cons_self : K.Row v 0 a c l) z ty hl (Nat.zero_le _)
  refine ⟨a', c', w', h1, h.turn (r := hRow K a c l) h4 h2 fun k e => ?_⟩
  have e' : own a' (l.length + 1) c' = some k := by
    have : own a' (l ++ [z]).length c' = some k := e
    rwa [List.length_append] at this
  rcases h5 with h5 | h5
  · rw [h5] at e'; exact .inl e'
  · rw [h5] at e'; cases e'; exact .inr (by omega)
/-- A row without data. -/
theorem HR.none {β : Type} (K : RowK β) (h : HR w0 v R) : HR w0 v (hRow K none 0 [] :: R) := h.add (Below.refl _ _) (row_none _ _) fun k e => by cases e
end
end Go.Proofs.YtigmhljaoicdbaaGreat.Sn

namespace Go.Proofs.YtigmhljaoicdbaaGreat.Sn
open Go.RowKit

/-- Whether two rows are the same. -/
def sameX (x y : Ent) : Bool := decide (x.src = y.src ∧ x.seq = y.seq ∧ x.code = y.code)
def sameL : List Ent → List Ent → Bool
  | [], [] => true
  | a :: l, b :: m => sameX a b && sameL l m
  | _, _ => false
theorem sameX_iff {x y : Ent} : sameX x y = true ↔ x = y := by
  unfold sameX
  rw [decide_eq_true_eq]
  exact ⟨fun h => ent_ext h.1 h.2.1 h.2.2, fun e => by rw [e]; exact ⟨rfl, rfl, rfl⟩⟩
theorem sameL_iff : ∀ {l m : List Ent}, sameL l m = true ↔ l = m
  | [], [] => by simp [sameL]
  | [], _ :: _ => by simp [sameL]
  | _ :: _, [] => by simp [sameL]
  | a :: l, b :: m => by
    rw [sameL, Bool.and_eq_true, sameX_iff, sameL_iff]
    simp
theorem sameL_false {l m : List Ent} (h : l ≠ m) : sameL l m = false := Bool.eq_false_iff.2 fun e => h (sameL_iff.1 e)
def wk1 : Tab := note new_ 0 1 1 2
def wk2 : Tab := note wk1 0 3 2 1
theorem wk1_ok : wk1.Ok := note_ok new_ok _ _ _ _
theorem wk2_ok : wk2.Ok := note_ok wk1_ok _ _ _ _
theorem wk_a : ask new_ 0 1 1 = (3, 0) := by decide
theorem wk_e : noteE new_ 0 1 1 2 = 0 := by decide
theorem wk_b : ask wk1 0 1 1 = (2, 2) := by decide
theorem wk_c : ask wk2 0 1 1 = (1, 0) := by decide
theorem wk_d : ask wk2 4 1 1 = (0, 0) := by decide
end Go.Proofs.YtigmhljaoicdbaaGreat.Sn

namespace Go.Proofs.YtigmhljaoicdbaaGreat.Sn
open Go.RowKit

theorem take_eq_succ {l m : List Ent} {k : Nat} (h : l.take k = m.take k) {x y : Ent} (hx : l[k]? = some x) (hy : m[k]? = some y) : l.take (k + 1) = m.take (k + 1) ↔ x = y := by
  rw [take_snoc hx, take_snoc hy, h]
  simp
theorem entV_inj {x y : Ent} (h : entV x = entV y) : x = y := by
  simp [entV] at h
  exact ent_ext h.1 h.2.1 h.2.2
theorem eq53 (x0 x1 x2 y0 y1 y2 : Int) (w : World) : (Op.equalIn 10000 99 (.agg #[.int .i64 x0, .int .i64 x1, .int .i64 x2]) (.agg #[.int .i64 y0, .int .i64 y1, .int .i64 y2])).run Tryz.prog w = .ok (decide (x0 = y0 ∧ x1 = y1 ∧ x2 = y2)) w := by
  have u3 := Tryz.underlying3
  have a3 := Tryz.isAgg3
  have z3 := Tryz.sizeOf3
  have hS : Tryz.prog.underlying 99 = some (.struct (Tryz.prog.fieldsOf 99)) := by kernel_rfl
  have hp : Tryz.prog.stoodInHeld 99 = false := by kernel_rfl
  rw [show (10000 : Nat) = 9999 + 1 from rfl, run_equalIn_agg w 9999 99 _ _ hS hp]
  simp only [Program.fieldsOf, Tryz.underlying99]
  go_simp
  by_cases h0 : x0 = y0 <;> by_cases h1 : x1 = y1 <;> by_cases h2 : x2 = y2 <;> simp [h0, h1, h2]
end Go.Proofs.YtigmhljaoicdbaaGreat.Sn

namespace Go.Proofs.YtigmhljaoicdbaaGreat
open Go.RowKit
theorem list_no {α : Type} [DecidableEq α] {l m : List α} {j : Nat} {x y : α} (hx : l[j]? = some x) (hy : m[j]? = some y) (h : decide (x = y) = false) : decide (l = m) = false := by
  refine decide_eq_false fun e => ?_
  subst e
  rw [hx] at hy; cases hy
  simp at h
theorem list_yes {α : Type} {l m : List α} (hl : l.length = m.length) (h : ∀ (j : Nat) (x y : α), l[j]? = some x → m[j]? = some y → x = y) : l = m := by
  refine List.ext_getElem? fun j => ?_
  by_cases hj : j < l.length
  · rw [List.getElem?_eq_getElem hj, List.getElem?_eq_getElem (hl ▸ hj)]
    exact congrArg some (h j _ _ (List.getElem?_eq_getElem hj) (List.getElem?_eq_getElem (hl ▸ hj)))
  · rw [List.getElem?_eq_none (by omega), List.getElem?_eq_none (by omega)]
deriving instance DecidableEq for Sn.Ent
def sameE (x y : Sn.Ent) : Bool := decide (x = y)
@[go_sem high] theorem neqE (x0 x1 x2 y0 y1 y2 : Int) (w : World) : (binOp .neq 99 (.agg #[.int .i64 x0, .int .i64 x1, .int .i64 x2]) (.agg #[.int .i64 y0, .int .i64 y1, .int .i64 y2])).run Tryz.prog w = .ok (.bool (!sameE ⟨x0, x1, x2⟩ ⟨y0, y1, y2⟩)) w := by
  rw [run_neq_struct, Sn.eq53]
  unfold sameE
  simp only [Sn.Ent.mk.injEq]
  rfl
@[go_sem] theorem guardE (op : BinOp) (x y : Operand) (xs ys : Array Value) (w : World) : (eqGuard op 99 x y (.agg xs) (.agg ys)).run Tryz.prog w = .ok () w := run_eqGuard_agg w op 99 x y _ _ (by kernel_rfl)
set_option maxRecDepth 100000 in
set_option maxHeartbeats 4000000 in
theorem eqOut_any {w : World} {a b : Option Addr} {c d : Nat} {l m : List (Win AggV)} (hl : OutK.At w a l) (hm : OutK.At w b m) (hs : l.length ≤ 1000) :
    Calls Tryz.prog 48 #[.slice a l.length c, .slice b m.length d] w fun e w' => e = .returned (.bool (decide (l = m))) ∧ Moved (fun _ => False) w w' := by
  have HL := hide hl
  have HM := hide hm
  clear hl hm
  by_cases hn : ((l.length : Nat) : Int) = ((m.length : Nat) : Int)
  · have hnn : l.length = m.length := by omega
    have HNN := hide hnn
    rw [← hnn]
    obtain ⟨CL, hCL⟩ : ∃ CL : World → Prop, CL = fun v => Moved (fun _ => False) w v := ⟨_, rfl⟩
    have un : ∀ v, CL v → Moved (fun _ => False) w v := fun v k => by rw [hCL] at k; exact k
    have drew : ∀ v, CL v → CL v.drew := fun v k => by rw [hCL] at k ⊢; exact k.drew
    have BS : Hid (CL w) := hide (by rw [hCL]; exact Moved.refl _ _)
    have ne : Nonempty (SX CL) := ⟨⟨w, unhide BS⟩⟩
    clear hn hnn hCL
    go_enter Tryz.func48, Tryz.ntmps48
    go_wp2_with fail
    go_loopw [13] (fun i wr => ∃ k : Nat, i = .int .i64 (k : Int) ∧ k ≤ l.length ∧ CL wr ∧ Hid (∀ j x y, j < k → l[j]? = some x → m[j]? = some y → x = y)) (fun i _ => l.length - (intOf i).toNat)
    case atStart => exact ⟨0, rfl, Nat.zero_le _, unhide BS, hide fun j _ _ hj => absurd hj (Nat.not_lt_zero _)⟩
    case round =>
      obtain ⟨k, rfl, hk, hmv, HA⟩ := hrel
      by_cases hlt : k < l.length
      · have g1 : (k : Int) < (l.length : Int) := by omega
        have hk0 : (0 : Int) ≤ (k : Int) := by omega
        have hwk : IntKind.i64.wrap ((k : Int) + 1) = (k : Int) + 1 := Go.IntWalk.i64_in _ (by omega)
        obtain ⟨x, hx⟩ : ∃ x, l[k]? = some x := ⟨_, List.getElem?_eq_getElem hlt⟩
        obtain ⟨y, hy⟩ : ∃ y, m[k]? = some y := ⟨_, List.getElem?_eq_getElem (by rw [← unhide HNN]; exact hlt)⟩
        obtain ⟨ga, oa, rfl, hga, hra⟩ := (unhide HL).cell outK_law hx
        obtain ⟨gb, ob, rfl, hgb, hrb⟩ := (unhide HM).cell outK_law hy
        have SNO : Hid (decide (x = y) = false → decide (l = m) = false) := hide (fun h => list_no hx hy h)
        have SYES : Hid (decide (x = y) = true → ∀ j x y, j < k + 1 → l[j]? = some x → m[j]? = some y → x = y) := hide fun h j x' y' hj hx' hy' => by
          by_cases e : j = k
          · subst e
            rw [hx] at hx'; cases hx'
            rw [hy] at hy'; cases hy'
            exact of_decide_eq_true h
          · exact unhide HA j x' y' (by omega) hx' hy'
        have RA0 : w.heap.size = w.heap.size := rfl
        have RY : Hid (∀ v, (∃ p : SX CL, v = p.w) → v.rangeAt ga (oa + k * 10) (OutK.f x)) := hide (by rintro v ⟨p, rfl⟩; exact range_keep hra hga (un _ p.ok))
        have RZ : Hid (∀ v, (∃ p : SX CL, v = p.w) → v.rangeAt gb (ob + k * 10) (OutK.f y)) := hide (by rintro v ⟨p, rfl⟩; exact range_keep hrb hgb (un _ p.ok))
        clear hra hrb hga hgb hx hy HA
        obtain ⟨pk, ps, ⟨p0, p1, p2, p3, p4, p5, p6, p7⟩⟩ := x
        obtain ⟨qk, qs, ⟨q0, q1, q2, q3, q4, q5, q6, q7⟩⟩ := y
        simp only [OutK, outV_eq] at RY RZ
        go_upto_region 6 with fail
        refine wp_region_sx (St := CL) (by kernel_rfl) (by kernel_rfl) (drew _ hmv) ?_
        go_big_quiet_step (fail)
        go_big_quiet_step (fail)
        go_big_quiet_step (fail)
        refine wpQuiet_load_onx rfl 52 (.tmp 18) rfl ga (oa + k * 10) (by simp [go_sem]) [.string ⟨pk.toArray⟩, .int .i64 ps, .int .i64 p0, .int .i64 p1, .int .i64 p2, .int .i64 p3, .int .i64 p4, .int .i64 p5, .int .i64 p6, .int .i64 p7] _ (unhide RY) Tryz.underlying52 rfl (by kernel_rfl) ?_
        go_simp
        go_big_quiet_step (fail)
        go_big_quiet_step (fail)
        go_big_quiet_step (fail)
        refine wpQuiet_load_onx rfl 52 (.tmp 22) rfl gb (ob + k * 10) (by simp [go_sem]) [.string ⟨qk.toArray⟩, .int .i64 qs, .int .i64 q0, .int .i64 q1, .int .i64 q2, .int .i64 q3, .int .i64 q4, .int .i64 q5, .int .i64 q6, .int .i64 q7] _ (unhide RZ) Tryz.underlying52 rfl (by kernel_rfl) ?_
        go_simp
        repeat (go_big_quiet_step (fail))
        refine wpQuiet_nil ?_
        intro pw
        have OK1 := pw.ok
        generalize pw.w = v1 at OK1 ⊢
        clear RY RZ hmv
        try dsimp only
        by_cases e : sameW ⟨pk, ps, ⟨p0, p1, p2, p3, p4, p5, p6, p7⟩⟩ ⟨qk, qs, ⟨q0, q1, q2, q3, q4, q5, q6, q7⟩⟩ = true
        · have SY := hide (unhide SYES e)
          rw [e]
          clear SNO SYES e
          go_wp2_with fail
          go_roundw
          case rel => exact ⟨k + 1, rfl, by omega, OK1, SY⟩
          case measure => simp [intOf]; omega
        · have e' := Bool.eq_false_iff.2 e
          have SN := hide (unhide SNO e')
          rw [e']
          clear SNO SYES e e'
          go_wp2_with fail
          go_ret
          exact ⟨by rw [unhide SN]; rfl, un _ OK1⟩
      · have g1 : ¬ (k : Int) < (l.length : Int) := by omega
        have hke : k = l.length := by omega
        have SY : Hid (decide (l = m) = true) := hide (decide_eq_true (list_yes (unhide HNN) (fun j x y hx hy => unhide HA j x y (by rw [hke]; exact (List.getElem?_eq_some_iff.1 hx).1) hx hy)))
        go_wp2_with fail
        go_ret
        exact ⟨by rw [unhide SY]; rfl, un _ hmv⟩
  · have SN : Hid (decide (l = m) = false) := hide (decide_eq_false fun e => hn (by rw [e]))
    go_enter Tryz.func48, Tryz.ntmps48
    go_wp2_with fail
    go_ret
    exact ⟨by rw [unhide SN]; rfl, Moved.refl _ _⟩
set_option maxRecDepth 100000 in
set_option maxHeartbeats 4000000 in
theorem eqInt_any {w : World} {a b : Option Addr} {c d : Nat} {l m : List Int} (hl : Sn.IntK.At w a l) (hm : Sn.IntK.At w b m) (hs : l.length ≤ 1000) :
    Calls Tryz.prog 49 #[.slice a l.length c, .slice b m.length d] w fun e w' => e = .returned (.bool (decide (l = m))) ∧ Moved (fun _ => False) w w' := by
  have HL := hide hl
  have HM := hide hm
  clear hl hm
  by_cases hn : ((l.length : Nat) : Int) = ((m.length : Nat) : Int)
  · have hnn : l.length = m.length := by omega
    have HNN := hide hnn
    rw [← hnn]
    obtain ⟨CL, hCL⟩ : ∃ CL : World → Prop, CL = fun v => Moved (fun _ => False) w v := ⟨_, rfl⟩
    have un : ∀ v, CL v → Moved (fun _ => False) w v := fun v k => by rw [hCL] at k; exact k
    have drew : ∀ v, CL v → CL v.drew := fun v k => by rw [hCL] at k ⊢; exact k.drew
    have BS : Hid (CL w) := hide (by rw [hCL]; exact Moved.refl _ _)
    have ne : Nonempty (SX CL) := ⟨⟨w, unhide BS⟩⟩
    clear hn hnn hCL
    go_enter Tryz.func49, Tryz.ntmps49
    go_wp2_with fail
    go_loopw [13] (fun i wr => ∃ k : Nat, i = .int .i64 (k : Int) ∧ k ≤ l.length ∧ CL wr ∧ Hid (∀ j x y, j < k → l[j]? = some x → m[j]? = some y → x = y)) (fun i _ => l.length - (intOf i).toNat)
    case atStart => exact ⟨0, rfl, Nat.zero_le _, unhide BS, hide fun j _ _ hj => absurd hj (Nat.not_lt_zero _)⟩
    case round =>
      obtain ⟨k, rfl, hk, hmv, HA⟩ := hrel
      by_cases hlt : k < l.length
      · have g1 : (k : Int) < (l.length : Int) := by omega
        have hk0 : (0 : Int) ≤ (k : Int) := by omega
        have hwk : IntKind.i64.wrap ((k : Int) + 1) = (k : Int) + 1 := Go.IntWalk.i64_in _ (by omega)
        obtain ⟨x, hx⟩ : ∃ x, l[k]? = some x := ⟨_, List.getElem?_eq_getElem hlt⟩
        obtain ⟨y, hy⟩ : ∃ y, m[k]? = some y := ⟨_, List.getElem?_eq_getElem (by rw [← unhide HNN]; exact hlt)⟩
        obtain ⟨ga, oa, rfl, hga, hra⟩ := (unhide HL).cell Sn.intK_law hx
        obtain ⟨gb, ob, rfl, hgb, hrb⟩ := (unhide HM).cell Sn.intK_law hy
        have SNO : Hid (decide (x = y) = false → decide (l = m) = false) := hide (fun h => list_no hx hy h)
        have SYES : Hid (decide (x = y) = true → ∀ j x y, j < k + 1 → l[j]? = some x → m[j]? = some y → x = y) := hide fun h j x' y' hj hx' hy' => by
          by_cases e : j = k
          · subst e
            rw [hx] at hx'; cases hx'
            rw [hy] at hy'; cases hy'
            exact of_decide_eq_true h
          · exact unhide HA j x' y' (by omega) hx' hy'
        have RA0 : w.heap.size = w.heap.size := rfl
        have RY : ∀ p : SX CL, p.w.cell? ⟨ga, oa + k, none⟩ = some (.int .i64 x) := fun p => ((un _ p.ok).cell (p := ⟨ga, oa + k, none⟩) hga id).trans (by have := hra 0 _ rfl; simpa [Sn.IntK] using this)
        have RZ : ∀ p : SX CL, p.w.cell? ⟨gb, ob + k, none⟩ = some (.int .i64 y) := fun p => ((un _ p.ok).cell (p := ⟨gb, ob + k, none⟩) hgb id).trans (by have := hrb 0 _ rfl; simpa [Sn.IntK] using this)
        clear hra hrb hga hgb hx hy HA
        by_cases e : x = y
        · have SY := hide (unhide SYES (decide_eq_true e))
          have e1 : (x == y) = true := by rw [e]; exact beq_self_eq_true _
          have e2 : decide (x = y) = true := decide_eq_true e
          clear SNO SYES e
          go_upto_region 6 with fail
          refine wp_region_sx (St := CL) (by kernel_rfl) (by kernel_rfl) (drew _ hmv) ?_
          repeat (go_big_quiet_step (fail))
          refine wpQuiet_nil ?_
          rintro _ ⟨pw, rfl⟩
          have OK1 := pw.ok
          generalize pw.w = v1 at OK1 ⊢
          clear RY RZ hmv
          try dsimp only
          go_wp2_with fail
          go_roundw
          case rel => exact ⟨k + 1, rfl, by omega, OK1, SY⟩
          case measure => simp [intOf]; omega
        · have e2 : decide (x = y) = false := decide_eq_false e
          have SN := hide (unhide SNO e2)
          have e1 : (x == y) = false := Bool.eq_false_iff.2 fun h => e (eq_of_beq h)
          clear SNO SYES e
          go_upto_region 6 with fail
          refine wp_region_sx (St := CL) (by kernel_rfl) (by kernel_rfl) (drew _ hmv) ?_
          repeat (go_big_quiet_step (fail))
          refine wpQuiet_nil ?_
          rintro _ ⟨pw, rfl⟩
          have OK1 := pw.ok
          generalize pw.w = v1 at OK1 ⊢
          clear RY RZ hmv
          try dsimp only
          go_wp2_with fail
          go_ret
          exact ⟨by rw [unhide SN]; rfl, un _ OK1⟩
      · have g1 : ¬ (k : Int) < (l.length : Int) := by omega
        have hke : k = l.length := by omega
        have SY : Hid (decide (l = m) = true) := hide (decide_eq_true (list_yes (unhide HNN) (fun j x y hx hy => unhide HA j x y (by rw [hke]; exact (List.getElem?_eq_some_iff.1 hx).1) hx hy)))
        go_wp2_with fail
        go_ret
        exact ⟨by rw [unhide SY]; rfl, un _ hmv⟩
  · have SN : Hid (decide (l = m) = false) := hide (decide_eq_false fun e => hn (by rw [e]))
    go_enter Tryz.func49, Tryz.ntmps49
    go_wp2_with fail
    go_ret
    exact ⟨by rw [unhide SN]; rfl, Moved.refl _ _⟩
set_option maxRecDepth 100000 in
set_option maxHeartbeats 4000000 in
theorem eqEnt_any {w : World} {a b : Option Addr} {c d : Nat} {l m : List Sn.Ent} (hl : Sn.EntK.At w a l) (hm : Sn.EntK.At w b m) (hs : l.length ≤ 1000) :
    Calls Tryz.prog 50 #[.slice a l.length c, .slice b m.length d] w fun e w' => e = .returned (.bool (decide (l = m))) ∧ Moved (fun _ => False) w w' := by
  have HL := hide hl
  have HM := hide hm
  clear hl hm
  by_cases hn : ((l.length : Nat) : Int) = ((m.length : Nat) : Int)
  · have hnn : l.length = m.length := by omega
    have HNN := hide hnn
    rw [← hnn]
    obtain ⟨CL, hCL⟩ : ∃ CL : World → Prop, CL = fun v => Moved (fun _ => False) w v := ⟨_, rfl⟩
    have un : ∀ v, CL v → Moved (fun _ => False) w v := fun v k => by rw [hCL] at k; exact k
    have drew : ∀ v, CL v → CL v.drew := fun v k => by rw [hCL] at k ⊢; exact k.drew
    have BS : Hid (CL w) := hide (by rw [hCL]; exact Moved.refl _ _)
    have ne : Nonempty (SX CL) := ⟨⟨w, unhide BS⟩⟩
    clear hn hnn hCL
    go_enter Tryz.func50, Tryz.ntmps50
    go_wp2_with fail
    go_loopw [13] (fun i wr => ∃ k : Nat, i = .int .i64 (k : Int) ∧ k ≤ l.length ∧ CL wr ∧ Hid (∀ j x y, j < k → l[j]? = some x → m[j]? = some y → x = y)) (fun i _ => l.length - (intOf i).toNat)
    case atStart => exact ⟨0, rfl, Nat.zero_le _, unhide BS, hide fun j _ _ hj => absurd hj (Nat.not_lt_zero _)⟩
    case round =>
      obtain ⟨k, rfl, hk, hmv, HA⟩ := hrel
      by_cases hlt : k < l.length
      · have g1 : (k : Int) < (l.length : Int) := by omega
        have hk0 : (0 : Int) ≤ (k : Int) := by omega
        have hwk : IntKind.i64.wrap ((k : Int) + 1) = (k : Int) + 1 := Go.IntWalk.i64_in _ (by omega)
        obtain ⟨x, hx⟩ : ∃ x, l[k]? = some x := ⟨_, List.getElem?_eq_getElem hlt⟩
        obtain ⟨y, hy⟩ : ∃ y, m[k]? = some y := ⟨_, List.getElem?_eq_getElem (by rw [← unhide HNN]; exact hlt)⟩
        obtain ⟨ga, oa, rfl, hga, hra⟩ := (unhide HL).cell Sn.entK_law hx
        obtain ⟨gb, ob, rfl, hgb, hrb⟩ := (unhide HM).cell Sn.entK_law hy
        have SNO : Hid (decide (x = y) = false → decide (l = m) = false) := hide (fun h => list_no hx hy h)
        have SYES : Hid (decide (x = y) = true → ∀ j x y, j < k + 1 → l[j]? = some x → m[j]? = some y → x = y) := hide fun h j x' y' hj hx' hy' => by
          by_cases e : j = k
          · subst e
            rw [hx] at hx'; cases hx'
            rw [hy] at hy'; cases hy'
            exact of_decide_eq_true h
          · exact unhide HA j x' y' (by omega) hx' hy'
        have RA0 : w.heap.size = w.heap.size := rfl
        have RY : Hid (∀ v, (∃ p : SX CL, v = p.w) → v.rangeAt ga (oa + k * 3) (Sn.EntK.f x)) := hide (by rintro v ⟨p, rfl⟩; exact range_keep hra hga (un _ p.ok))
        have RZ : Hid (∀ v, (∃ p : SX CL, v = p.w) → v.rangeAt gb (ob + k * 3) (Sn.EntK.f y)) := hide (by rintro v ⟨p, rfl⟩; exact range_keep hrb hgb (un _ p.ok))
        clear hra hrb hga hgb hx hy HA
        obtain ⟨x0, x1, x2⟩ := x
        obtain ⟨y0, y1, y2⟩ := y
        simp only [Sn.EntK, Sn.entV] at RY RZ
        go_upto_region 6 with fail
        refine wp_region_sx (St := CL) (by kernel_rfl) (by kernel_rfl) (drew _ hmv) ?_
        go_big_quiet_step (fail)
        go_big_quiet_step (fail)
        go_big_quiet_step (fail)
        refine wpQuiet_load_onx rfl 99 (.tmp 18) rfl ga (oa + k * 3) (by simp [go_sem]) [.int .i64 x0, .int .i64 x1, .int .i64 x2] _ (unhide RY) Tryz.underlying99 rfl (by kernel_rfl) ?_
        go_simp
        go_big_quiet_step (fail)
        go_big_quiet_step (fail)
        go_big_quiet_step (fail)
        refine wpQuiet_load_onx rfl 99 (.tmp 22) rfl gb (ob + k * 3) (by simp [go_sem]) [.int .i64 y0, .int .i64 y1, .int .i64 y2] _ (unhide RZ) Tryz.underlying99 rfl (by kernel_rfl) ?_
        go_simp
        repeat (go_big_quiet_step (fail))
        refine wpQuiet_nil ?_
        intro pw
        have OK1 := pw.ok
        generalize pw.w = v1 at OK1 ⊢
        clear RY RZ hmv
        try dsimp only
        by_cases e : sameE ⟨x0, x1, x2⟩ ⟨y0, y1, y2⟩ = true
        · have SY := hide (unhide SYES e)
          rw [e]
          clear SNO SYES e
          go_wp2_with fail
          go_roundw
          case rel => exact ⟨k + 1, rfl, by omega, OK1, SY⟩
          case measure => simp [intOf]; omega
        · have e' := Bool.eq_false_iff.2 e
          have SN := hide (unhide SNO e')
          rw [e']
          clear SNO SYES e e'
          go_wp2_with fail
          go_ret
          exact ⟨by rw [unhide SN]; rfl, un _ OK1⟩
      · have g1 : ¬ (k : Int) < (l.length : Int) := by omega
        have hke : k = l.length := by omega
        have SY : Hid (decide (l = m) = true) := hide (decide_eq_true (list_yes (unhide HNN) (fun j x y hx hy => unhide HA j x y (by rw [hke]; exact (List.getElem?_eq_some_iff.1 hx).1) hx hy)))
        go_wp2_with fail
        go_ret
        exact ⟨by rw [unhide SY]; rfl, un _ hmv⟩
  · have SN : Hid (decide (l = m) = false) := hide (decide_eq_false fun e => hn (by rw [e]))
    go_enter Tryz.func50, Tryz.ntmps50
    go_wp2_with fail
    go_ret
    exact ⟨by rw [unhide SN]; rfl, Moved.refl _ _⟩
end Go.Proofs.YtigmhljaoicdbaaGreat

namespace Go.Proofs.YtigmhljaoicdbaaGreat
open Go.RowKit
/-- What Of's line is on the way. -/
structure OfS (v wr : World) (p q : Nat) (G : Nat → Prop) (L : LineV) : Prop where
  line : LineF wr p q G L
  big : ∀ k, k = p ∨ G k → v.heap.size ≤ k
  bel : Below v.heap.size v wr
theorem OfS.below {v wr w' : World} {p q : Nat} {G : Nat → Prop} {L : LineV} (h : OfS v wr p q G L) (hb : Below wr.heap.size wr w') : OfS v w' p q G L :=
  ⟨⟨h.line.row.below hb, h.line.st.keep (Moved.of_below (F := fun _ => False) hb) (fun _ f => f.elim), h.line.off⟩, h.big, h.bel.trans (hb.mono h.bel.size)⟩
theorem OfS.did {v wr w' : World} {p q : Nat} {G : Nat → Prop} {L : LineV} {l : List (Win AggV)} (h : OfS v wr p q G L) (hd : Did wr w' q G l) : ∃ G', OfS v w' p q G' ⟨L.mark, l⟩ := by
  obtain ⟨G', h1, h2, h3⟩ := hd
  refine ⟨G', ⟨h.line.row.keep h3 h.line.off, h1, fun f => ?_⟩, ?_, below_of_moved h.bel (fun k g => h.big k (.inr g)) h3⟩
  · rcases h2 p f with f | f
    · exact h.line.off f
    · have := h.line.row.lt; omega
  · rintro k (rfl | f)
    · exact h.big k (.inl rfl)
    · exact (h2 k f).elim (fun g => h.big k (.inr g)) (fun e => Nat.le_trans h.bel.size e)
theorem OfS.hl {v wr : World} {p q : Nat} {G : Nat → Prop} {L : LineV} (h : OfS v wr p q G L) : HL v wr p L [] := ⟨_, ⟨q, G, h.line, rfl⟩, h.big, h.bel, fun r hr => by cases hr⟩
theorem setAll_over {m : Int} {r xs : List (Win AggV)} {x : Win AggV} (h : Sp.overI x.start m = true) : setAll m r (x :: xs) = (r, 12) := by rw [setAll, if_pos h]
theorem setAll_set {m : Int} {r xs : List (Win AggV)} {x : Win AggV} (h : Sp.overI x.start m = false) (h0 : (setS SO r x).2 = 0) : setAll m r (x :: xs) = setAll m (setS SO r x).1 xs := by
  rw [setAll, if_neg (by rw [h]; simp), if_pos h0]
theorem setAll_no {m : Int} {r xs : List (Win AggV)} {x : Win AggV} (h : Sp.overI x.start m = false) (h0 : ¬ (setS SO r x).2 = 0) : setAll m r (x :: xs) = (r, (setS SO r x).2) := by
  rw [setAll, if_neg (by rw [h]; simp), if_neg h0]
set_option maxRecDepth 100000 in
set_option maxHeartbeats 8000000 in
theorem tof_any {v : World} {a : Option Addr} {c : Nat} {o : List (Win AggV)} (m : Int) (hlay : ∀ u, Below v.heap.size v u → Lay u a o) (hx : ∀ x ∈ o, x.agg.In ∧ okk x.key x.start) :
    Calls Tryz.prog 38 #[.int .i64 m, .slice a o.length c] v fun e v' => ∃ pt, e = .returned (.tuple #[.pointer pt, .int .i64 ((ofL m o).2 : Int)]) ∧ Below v.heap.size v v' ∧
      ((ofL m o).2 = 0 → ∃ p, pt = some ⟨p, 0, none⟩ ∧ HL v v' p (ofL m o).1 [] ∧ Mild (ofL m o).1.row) ∧ (¬ (ofL m o).2 = 0 → pt = none) := by
  have CR := hide (fun u => Sp.right_any m u)
  have LAY := hide hlay
  have HX := hide hx
  have hmost : o.length ≤ 1000 := (hlay v (Below.refl _ _)).most
  clear hlay hx
  cases hr : Sp.rightI m with
  | false =>
    have HO : Hid (ofL m o = (newL, 1)) := hide (by unfold ofL; rw [hr]; rfl)
    rw [hr] at CR
    clear hr
    go_enter Tryz.func38, Tryz.ntmps38
    go_wp2_with fail
    refine (unhide CR _).mono ?_
    rintro e v' ⟨rfl, hw⟩
    rw [hw]
    clear hw v'
    go_wp2_with fail
    go_ret2
    exact ⟨none, by rw [unhide HO]; rfl, Below.refl _ _, fun h => (by rw [unhide HO] at h; cases h), fun _ => rfl⟩
  | true =>
    have HO : Hid (ofL m o = (⟨m, (setAll m [] o).1⟩, (setAll m [] o).2)) := hide (by unfold ofL; rw [hr]; rfl)
    rw [unhide HO]
    rw [hr] at CR
    have CN := hide (tnew_any v)
    clear hr HO
    go_enter Tryz.func38, Tryz.ntmps38
    go_upto_region 3 with fail
    refine (unhide CR _).mono ?_
    rintro e v' ⟨rfl, hw⟩
    rw [hw]
    clear hw v' CR
    go_upto_region 4 with fail
    refine (unhide CN).mono ?_
    rintro e u1 ⟨p, F, rfl, hl, hbig, hb⟩
    obtain ⟨q, G, hf, rfl⟩ := hl
    have k1 : u1.cell? ⟨p, 1, none⟩ = some (.int .i64 0) := hf.row.cell 1 (Nat.lt_of_sub_pos (Nat.succ_pos _))
    have f1 : u1.frozen? ⟨p, 1, none⟩ = false := hf.row.free 1 (Nat.lt_of_sub_pos (Nat.succ_pos _))
    obtain ⟨u2, hu2⟩ : ∃ u2, u2 = u1.setCell ⟨p, 1, none⟩ (.int .i64 m) := ⟨_, rfl⟩
    have m2 : Moved (fun k => k = p) u1 u2 := by rw [hu2]; exact moved_set u1 p 1 _
    have START : Hid (OfS v u2 p q G ⟨m, []⟩) := hide ⟨⟨by rw [hu2]; exact hf.row.set 1 (Nat.lt_of_sub_pos (Nat.succ_pos _)) _, hf.st.keep m2 (fun i hi g => hf.off (hi ▸ g)), hf.off⟩, hbig, ((Moved.of_below (F := fun k => k = p) hb).trans m2 (fun _ hi => .inl hi)).below (fun i hi => hbig i (.inl hi)) (Nat.le_refl _)⟩
    have HU2 := hide hu2
    clear hf hbig hb m2 hu2 CN
    go_upto_region 5 with fail
    rw [← unhide HU2]
    clear HU2 k1 f1
    have ho0 : (0 : Int) ≤ (o.length : Int) := by omega
    go_wp2_with fail
    go_loopw [20] (fun i wr => ∃ (k : Nat) (r : List (Win AggV)), i = .int .i64 (k : Int) ∧ k ≤ o.length ∧ (∃ G, OfS v wr p q G ⟨m, r⟩) ∧ Mild r ∧ Hid (setAll m [] o = setAll m r (o.drop k))) (fun i _ => o.length - (intOf i).toNat)
    case atStart => exact ⟨0, [], rfl, Nat.zero_le _, ⟨G, unhide START⟩, mild_nil, hide (by rw [List.drop_zero])⟩
    case round =>
      obtain ⟨k, r, rfl, hk, hs, hmm, HA⟩ := hrel
      have HS := hide hs
      have HMM := hide hmm
      clear hs hmm START
      by_cases hlt : k < o.length
      · have g1 : (k : Int) < (o.length : Int) := by omega
        have hk0 : (0 : Int) ≤ (k : Int) := by omega
        have hwk : IntKind.i64.wrap ((k : Int) + 1) = (k : Int) + 1 := Go.IntWalk.i64_in _ (by omega)
        obtain ⟨x, hx⟩ : ∃ x, o[k]? = some x := ⟨_, List.getElem?_eq_getElem hlt⟩
        have HXX := hide (unhide HX x (List.mem_of_getElem? hx))
        have hdrop : o.drop k = x :: o.drop (k + 1) := by rw [List.drop_eq_getElem_cons hlt, (List.getElem?_eq_some_iff.1 hx).2]
        rw [hdrop] at HA
        obtain ⟨G1, hs⟩ := unhide HS
        obtain ⟨g, rfl, hra, _⟩ := (unhide LAY wr hs.bel).at hx
        have HRA := hide hra
        clear hx hdrop hra HS
        obtain ⟨xk, xs, ⟨g0, g1', g2, g3, g4, g5, g6, g7⟩⟩ := x
        simp only [outV_eq] at HRA
        obtain ⟨w1, hw1⟩ : ∃ w1, w1 = wr.alloc (.cells #[.string ⟨xk.toArray⟩, .int .i64 xs, .int .i64 g0, .int .i64 g1', .int .i64 g2, .int .i64 g3, .int .i64 g4, .int .i64 g5, .int .i64 g6, .int .i64 g7] 52) := ⟨_, rfl⟩
        obtain ⟨b, hb⟩ : ∃ b, b = wr.heap.size := ⟨_, rfl⟩
        have S1 := hide (hs.below (by rw [hw1]; exact (Below.refl _ _).alloc (Nat.le_refl _) _) : OfS v w1 p q G1 ⟨m, r⟩)
        have R1 : Hid (RowAt w1 b [.string ⟨xk.toArray⟩, .int .i64 xs, .int .i64 g0, .int .i64 g1', .int .i64 g2, .int .i64 g3, .int .i64 g4, .int .i64 g5, .int .i64 g6, .int .i64 g7]) := hide (by rw [hw1, hb]; exact row_new _ _ _)
        have hnb : ¬ (b = p ∨ G1 b) := fun h => by
          rw [hb] at h
          rcases h with h | h
          · have := hs.line.row.lt; omega
          · have := hs.line.st.lt _ h; omega
        have HNB := hide hnb
        have HW1 := hide hw1
        have HBB := hide hb
        clear hs hw1 hb hnb
        have CO := hide (fun u => Sp.over_any xs m u)
        go_upto_region 8 with (refine wpList_load_on rfl 52 (.tmp 22) rfl g (k * 10) rfl [.string ⟨xk.toArray⟩, .int .i64 xs, .int .i64 g0, .int .i64 g1', .int .i64 g2, .int .i64 g3, .int .i64 g4, .int .i64 g5, .int .i64 g6, .int .i64 g7] _ (unhide HRA) Tryz.underlying52 rfl (by kernel_rfl) ?_)
        rw [← unhide HBB]
        try change Code.wp _ _ _ _ (wr.alloc (.cells #[.string ⟨xk.toArray⟩, .int .i64 xs, .int .i64 g0, .int .i64 g1', .int .i64 g2, .int .i64 g3, .int .i64 g4, .int .i64 g5, .int .i64 g6, .int .i64 g7] 52))
        rw [← unhide HW1]
        clear HRA
        have k1 : w1.cell? ⟨b, 1, none⟩ = some (.int .i64 xs) := (unhide R1).cell 1 (by simp)
        go_upto_region 9 with fail
        refine (unhide CO _).mono ?_
        rintro e v' ⟨rfl, hw⟩
        rw [hw]
        clear hw v' CO k1
        cases hov : Sp.overI xs m with
        | true =>
          have HE := hide ((unhide HA).trans (setAll_over hov))
          have BB := hide (unhide S1).bel
          clear HA hov S1
          go_wp2_with fail
          go_ret2
          exact ⟨none, by rw [unhide HE]; rfl, unhide BB, fun h => (by rw [unhide HE] at h; cases h), fun _ => rfl⟩
        | false =>
          have CS := hide (set_any ((unhide S1).line.st.keep ((Moved.refl (fun _ => False) w1).drew) (fun _ f => f.elim)) (unhide HMM).most ⟨xk, xs, ⟨g0, g1', g2, g3, g4, g5, g6, g7⟩⟩ (unhide HXX).1 (unhide HXX).2)
          simp only [outV_eq] at CS
          obtain ⟨CL, hCL⟩ : ∃ CL : World → Prop, CL = fun u => Moved G1 w1 u := ⟨_, rfl⟩
          have un : ∀ u, CL u → Moved G1 w1 u := fun u k => by rw [hCL] at k; exact k
          have TO : Hid (∀ u, Moved G1 w1 u → CL u) := hide fun u k => by rw [hCL]; exact k
          have base : CL w1.drew := unhide TO _ ((Moved.refl _ _).drew)
          have q0 : ∀ u : SW CL, u.w.cell? ⟨p, 0, none⟩ = some (.pointer (some ⟨q, 0, none⟩)) := fun u => ((unhide S1).line.row.keep (un _ u.ok) (unhide S1).line.off).cell 0 (Nat.succ_pos _)
          have RB : Hid (∀ u, (∃ y : SW CL, u = y.w) → u.rangeAt b 0 [.string ⟨xk.toArray⟩, .int .i64 xs, .int .i64 g0, .int .i64 g1', .int .i64 g2, .int .i64 g3, .int .i64 g4, .int .i64 g5, .int .i64 g6, .int .i64 g7]) := hide (by rintro u ⟨y, rfl⟩; exact ((unhide R1).keep (un _ y.ok) (fun g => unhide HNB (.inr g))).range)
          have HOV := hide hov
          clear hCL un hov
          go_upto_region 10 with fail
          refine wp_region_chain (S := CL) [true, true, true, true, true, false, false] [false, false, false, false, false, true, true] (by kernel_rfl) (by kernel_rfl) (by kernel_rfl) base ?_
          apply Exists.intro
          apply And.intro
          · intro u
            have n0 : Nonempty (SK CL u.w) := ⟨⟨u, rfl⟩⟩
            simp only [pickM]
            repeat (go_big_quiet_step (fail))
            refine wpQuiet_load_onx rfl 52 (.tmp 8) rfl b 0 rfl [.string ⟨xk.toArray⟩, .int .i64 xs, .int .i64 g0, .int .i64 g1', .int .i64 g2, .int .i64 g3, .int .i64 g4, .int .i64 g5, .int .i64 g6, .int .i64 g7] _ (fun y ⟨q1, hq⟩ => by rw [hq]; exact unhide RB _ ⟨q1.s, rfl⟩) Tryz.underlying52 rfl (by kernel_rfl) ?_
            go_simp
            exact wpQuiet_nil rfl
          · simp only [pickZ]
            refine chain_call 66 #[.pointer (some ⟨q, 0, none⟩), .agg #[.string ⟨xk.toArray⟩, .int .i64 xs, .int .i64 g0, .int .i64 g1', .int .i64 g2, .int .i64 g3, .int .i64 g4, .int .i64 g5, .int .i64 g6, .int .i64 g7]] rfl (by simp [go_sem]) ?_
            refine (unhide CS).mono ?_
            rintro e w2 ⟨rfl, hd⟩
            have hd' : Did w1 w2 q G1 (setS SO r ⟨xk, xs, ⟨g0, g1', g2, g3, g4, g5, g6, g7⟩⟩).1 := Did.trans (fun _ f => .inl f) ((Moved.refl _ w1).drew) hd
            refine ⟨_, rfl, unhide TO _ (by obtain ⟨_, _, _, mm⟩ := hd'; exact mm), ?_⟩
            have S2 := hide ((unhide S1).did hd')
            have CL2 := hide (unhide TO w2 (by obtain ⟨_, _, _, mm⟩ := hd'; exact mm))
            have HM2 := hide (mild_set (unhide HMM) (x := ⟨xk, xs, ⟨g0, g1', g2, g3, g4, g5, g6, g7⟩⟩) (unhide HXX).1)
            clear hd hd' CS q0 base
            by_cases h0 : (setS SO r ⟨xk, xs, ⟨g0, g1', g2, g3, g4, g5, g6, g7⟩⟩).2 = 0
            · have HA2 := hide ((unhide HA).trans (setAll_set (unhide HOV) h0))
              rw [h0]
              clear HA h0
              go_simp
              refine chain_step (.int .i64 0) w2 rfl (by simp [go_sem]) (unhide CL2) ?_
              simp only [chainM]
              go_simp
              go_wp2_with fail
              exact ⟨⟨k + 1, _, rfl, by omega, unhide S2, unhide HM2, HA2⟩, by simp [intOf]; omega⟩
            · have HE := hide ((unhide HA).trans (setAll_no (unhide HOV) h0))
              have hz : ¬ (((setS SO r ⟨xk, xs, ⟨g0, g1', g2, g3, g4, g5, g6, g7⟩⟩).2 : Nat) : Int) = 0 := by omega
              have HZ := hide h0
              obtain ⟨ec, hec⟩ : ∃ ec : Int, ec = (((setS SO r ⟨xk, xs, ⟨g0, g1', g2, g3, g4, g5, g6, g7⟩⟩).2 : Nat) : Int) := ⟨_, rfl⟩
              rw [← hec] at hz ⊢
              have HEC := hide hec
              clear HA h0 hec
              go_simp
              refine chain_step (.int .i64 ec) w2 rfl (by simp [go_sem]) (unhide CL2) ?_
              simp only [chainM]
              go_simp
              go_wp2_with fail
              go_ret2
              obtain ⟨_, s2⟩ := unhide S2
              exact ⟨none, by rw [unhide HE, unhide HEC]; rfl, s2.bel, fun h => (by rw [unhide HE] at h; exact absurd h (unhide HZ)), fun _ => rfl⟩
      · have g1 : ¬ (k : Int) < (o.length : Int) := by omega
        have hke : k = o.length := by omega
        subst hke
        obtain ⟨G1, hs⟩ := unhide HS
        have HE : Hid (setAll m [] o = (r, 0)) := hide (by rw [unhide HA, List.drop_length]; rfl)
        have S1 := hide hs
        clear hs HS HA
        go_wp2_with fail
        go_ret2
        exact ⟨_, by rw [unhide HE]; rfl, (unhide S1).bel, fun _ => ⟨p, rfl, by rw [unhide HE]; exact (unhide S1).hl, by rw [unhide HE]; exact unhide HMM⟩, fun h => (by rw [unhide HE] at h; exact absurd rfl h)⟩
end Go.Proofs.YtigmhljaoicdbaaGreat

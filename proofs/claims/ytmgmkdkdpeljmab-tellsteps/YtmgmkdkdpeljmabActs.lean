/- A slice of the statements' acts that came in: its cells, out of the row's reading; what is too great. No conditions. -/
import Derived.Test.YtmgmkdkdpeljmabWakes
import Derived.Test.YtmgmkdkdpeljmabArgs
import Derived.Test.YtmgmkdkdpeljmabStoreSum
import Derived.Deep.Fields
namespace Go.Proofs.Ytmgmkdkdpeljmab
open Go.RowKit Go.ChangeShapes Go.WideShapes
abbrev ActZ := ActV AggV
structure ActZ.Ok (p : ActZ) : Prop where
  do_ : p.do_ < 256
  key : p.key.length ≤ maxLen
  at_ : i64 p.at_
  n : i64 p.n
  outk : p.out.key.length ≤ maxLen
  outs : i64 p.out.start
  outa : p.out.agg.In
def ActZ.none_ : ActZ := ⟨0, [], 0, 0, ⟨[], 0, zero⟩⟩
/-- Its cells at a place. -/
structure ActAt (w : World) (b o : Nat) (p : ActZ) : Prop where
  c0 : w.cell? ⟨b, o, none⟩ = some (.int .u8 (p.do_ : Int))
  c1 : w.cell? ⟨b, o + 1, none⟩ = some (.string ⟨p.key.toArray⟩)
  c2 : w.cell? ⟨b, o + 2, none⟩ = some (.int .i64 p.at_)
  c3 : w.cell? ⟨b, o + 3, none⟩ = some (.int .i64 p.n)
  out : w.rangeAt b (o + 4) (outV p.out)
/-- A slice of acts. -/
structure IsActs (w : World) (a : Option Addr) (len cap : Nat) (z : List ActZ) : Prop where
  size_ : z.length = len
  max : len ≤ maxLen
  at_ : ∀ k, k < len → ∃ b o, a = some ⟨b, o, none⟩ ∧ ActAt w b (o + k * 14) (z.getD k ActZ.none_) ∧ (z.getD k ActZ.none_).Ok ∧ b < w.heap.size
theorem cells5 : Try.prog.cellsOf 5 = 1 := by kernel_rfl
def actC (p : ActZ) : List Value := .int .u8 (p.do_ : Int) :: .string ⟨p.key.toArray⟩ :: .int .i64 p.at_ :: .int .i64 p.n :: outV p.out
theorem u8_in {x : Int} (h : (Lit.int .u8 x).wf = true) : 0 ≤ x ∧ x < 256 := by have := bounds_u8 h; omega
theorem ActAt.keep {F : Nat → Prop} {w w' : World} {b o : Nat} {p : ActZ} (h : ActAt w b o p) (m : Moved F w w') (hb : b < w.heap.size) (hF : ¬ F b) : ActAt w' b o p :=
  ⟨(m.cell (p := ⟨b, o, none⟩) hb hF).trans h.c0, (m.cell (p := ⟨b, o + 1, none⟩) hb hF).trans h.c1, (m.cell (p := ⟨b, o + 2, none⟩) hb hF).trans h.c2, (m.cell (p := ⟨b, o + 3, none⟩) hb hF).trans h.c3, fun j u hu => (m.cell (p := ⟨b, o + 4 + j, none⟩) hb hF).trans (h.out j u hu)⟩
theorem IsActs.below {w w' : World} {a : Option Addr} {len cap : Nat} {z : List ActZ} (h : IsActs w a len cap z) (hb : Below w.heap.size w w') : IsActs w' a len cap z :=
  ⟨h.size_, h.max, fun k hk => by
    obtain ⟨b, o, e, hp, ok, hlt⟩ := h.at_ k hk
    exact ⟨b, o, e, hp.keep (Moved.of_below (F := fun _ => False) hb) hlt id, ok, Nat.lt_of_lt_of_le hlt hb.size⟩⟩
theorem IsActs.ok {w : World} {a : Option Addr} {len cap : Nat} {z : List ActZ} (h : IsActs w a len cap z) : ∀ p ∈ z, p.Ok := fun p hp => by
  obtain ⟨k, hk, rfl⟩ := List.mem_iff_getElem.1 hp
  obtain ⟨_, _, _, _, ok, _⟩ := h.at_ k (by rw [← h.size_]; exact hk)
  rw [List.getD_eq_getElem?_getD, List.getElem?_eq_getElem hk] at ok
  exact ok
/-- Too long a key. -/
def long (p : ActZ) : Bool := decide (100 < p.key.length) || decide (100 < p.out.key.length)
/-- More than 200 acts, or a key of more than 100 bytes. -/
def tooGreat (z : List ActZ) : Bool := decide (200 < z.length) || z.any long
theorem any_at {z : List ActZ} {k : Nat} (hk : k < z.length) (h : long (z.getD k ActZ.none_) = true) : z.any long = true := by
  rw [List.getD_eq_getElem?_getD, List.getElem?_eq_getElem hk] at h
  exact List.any_eq_true.2 ⟨_, List.getElem_mem hk, h⟩
theorem any_none {z : List ActZ} (h : ∀ k, k < z.length → long (z.getD k ActZ.none_) = false) : z.any long = false := by
  rw [List.any_eq_false]
  intro p hp
  obtain ⟨k, hk, rfl⟩ := List.mem_iff_getElem.1 hp
  have := h k hk
  rw [List.getD_eq_getElem?_getD, List.getElem?_eq_getElem hk] at this
  simpa using this
end Go.Proofs.Ytmgmkdkdpeljmab

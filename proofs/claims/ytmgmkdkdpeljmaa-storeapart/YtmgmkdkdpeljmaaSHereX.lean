/- A store that a law made itself, beside rows that the law holds and blocks that are to stay: what its calls do to all three. No conditions. -/
import Derived.Test.YtmgmkdkdpeljmaaTwinH
namespace Go.Proofs.Ytmgmkdkdpeljmaa
open Go.RowKit
structure HereXF (w0 z : World) (X : Nat → Prop) (v : World) (p : Nat) (F : Nat → Prop) (l : List (Win AggV)) (R : List Held) : Prop where
  here : HereF w0 v p F l R
  apart : ∀ k, X k → k < z.heap.size ∧ ¬ F k
  stay : Moved (fun k => ¬ X k) z v
def HereX (w0 z : World) (X : Nat → Prop) (v : World) (p : Nat) (l : List (Win AggV)) (R : List Held) : Prop := ∃ F, HereXF w0 z X v p F l R
variable {w0 z v v' : World} {X : Nat → Prop} {p : Nat} {F F' : Nat → Prop} {l l' : List (Win AggV)} {R R' : List Held}
theorem HereX.hl (h : HereX w0 z X v p l R) : Here w0 v p l R := by obtain ⟨F, h⟩ := h; exact ⟨F, h.here⟩
theorem HereX.bel (h : HereX w0 z X v p l R) : Below w0.heap.size w0 v := h.hl.bel
theorem HereX.start (h : HereF w0 v p F l R) (hX : ∀ k, X k → k < v.heap.size ∧ ¬ F k) : HereX w0 v X v p l R := ⟨F, h, hX, Moved.refl _ _⟩
theorem HereXF.step (h : HereXF w0 z X v p F l R) (hs : StIs v' p F' l') (hf : ∀ k, F' k → F k ∨ v.heap.size ≤ k) (m : Moved F v v') : HereXF w0 z X v' p F' l' R := by
  refine ⟨h.here.step hs hf m, fun k hk => ⟨(h.apart k hk).1, fun f => ?_⟩, h.stay.trans m (fun i hi => .inl fun hx => (h.apart i hx).2 hi)⟩
  rcases hf k f with f | f
  · exact (h.apart k hk).2 f
  · have := (h.apart k hk).1; have := h.stay.size; omega
theorem HereXF.did (h : HereXF w0 z X v p F l R) (hd : Did v v' p F l') : HereX w0 z X v' p l' R := by
  obtain ⟨F', h1, h2, h3⟩ := hd
  exact ⟨F', h.step h1 h2 h3⟩
theorem HereX.below (h : HereX w0 z X v p l R) (hb : Below v.heap.size v v') : HereX w0 z X v' p l R := by
  obtain ⟨F, h⟩ := h
  exact ⟨F, h.step (h.here.below hb).st (fun _ f => .inl f) (Moved.of_below hb)⟩
theorem HereX.drop (h : HereX w0 z X v p l R) (hR : ∀ r ∈ R', r ∈ R) : HereX w0 z X v p l R' := by
  obtain ⟨F, h⟩ := h
  exact ⟨F, ⟨h.here.st, h.here.big, h.here.bel, fun r hr => h.here.rows r (hR r hr)⟩, h.apart, h.stay⟩
theorem HereX.put (h : HereX w0 z X v p l R) (hm : Mild l) (k : List UInt8) (at_ n : Int) (hn : i64 n) :
    Calls Try.prog 15 #[.pointer (some ⟨p, 0, none⟩), .string ⟨k.toArray⟩, .int .i64 at_, .int .i64 n] v fun e v' => e = .returned (.int .i64 ((putS SO l k at_ n).2 : Int)) ∧ HereX w0 z X v' p (putS SO l k at_ n).1 R := by
  obtain ⟨F, h⟩ := h
  exact (sput_any h.here.st hm.most hm.ins_ k at_ n hn).mono fun e v' ⟨h1, h2⟩ => ⟨h1, h.did h2⟩
theorem HereX.get (h : HereX w0 z X v p l R) {k : List UInt8} {s : Int} (hk : okk k s) :
    Calls Try.prog 16 #[.pointer (some ⟨p, 0, none⟩), .string ⟨k.toArray⟩, .int .i64 s] v fun e v' => e = .returned (.tuple #[aggV ((look l k s).getD zero), .bool (look l k s).isSome]) ∧ HereX w0 z X v' p l R ∧ Below v.heap.size v v' := by
  obtain ⟨F, h⟩ := h
  exact (get_any h.here.st hk).mono fun e v' ⟨h1, h2⟩ => ⟨h1, HereX.below ⟨F, h⟩ h2, h2⟩
theorem HereX.all (h : HereX w0 z X v p l R) (hl : l.length ≤ 1000) :
    Calls Try.prog 14 #[.pointer (some ⟨p, 0, none⟩)] v fun e v' => ∃ a c, e = .returned (.slice a l.length c) ∧ HereX w0 z X v' p l ((a, c, l) :: R) ∧ Below v.heap.size v v' := by
  obtain ⟨F, h⟩ := h
  refine (all_any h.here.st hl).mono fun e v' ⟨a, c, h1, h2, h3⟩ => ⟨a, c, h1, ⟨F, ?_⟩, h3⟩
  have h' := h.step (h.here.below h3).st (fun _ f => .inl f) (Moved.of_below h3)
  exact ⟨h.here.take (h.here.below h3).st (fun _ f => f) (Moved.of_below h3) h2, h'.apart, h'.stay⟩
theorem wpQuiet_load_aggx {P : Program} {ops : Array Oper} {C : World → Prop} {Q : Act → Prop} {rest : List Oper} {op : Oper} {a : Act} (hw : Region.wanted op (yielded ops a.tmps) = true) (ty : TypeId) (x : Operand) (ho : op.op = .load ty x)
    (b o : Nat) (hx : a.eval x = .pointer (some ⟨b, o, none⟩)) (z : AggV) (d : TypeDesc) (hc : ∀ v, C v → v.rangeAt b o (cellsA z))
    (hu : P.underlying ty = some d) (hd : d.isRow = true) (hi : (P.info? ty).map (·.size) = some (cellsA z).length)
    (h : wpQuiet P ops C Q rest (a.put op.dst (aggV z))) : wpQuiet P ops C Q (op :: rest) a := wpQuiet_load_onx hw ty x ho b o hx (cellsA z) d hc hu hd hi h
end Go.Proofs.Ytmgmkdkdpeljmaa

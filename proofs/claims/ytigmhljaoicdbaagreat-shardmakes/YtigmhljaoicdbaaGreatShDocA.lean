/- The document's own state and its Apply, beside a shard's state that has the same. Conditions: at most 9000 answers were given; an item's numbers are a machine's. -/
import Derived.Test.YtigmhljaoicdbaaGreatShSame
import Derived.Test.YtigmhljaoicdbaaGreatGShIns
import Derived.Test.YtigmhljaoicdbaaGreatGRTell
import Derived.Test.YtigmhljaoicdbaaGreatGRPut
import Derived.Test.YtigmhljaoicdbaaGreatGSnRefB
namespace Go.Proofs.YtigmhljaoicdbaaGreat
open Go.RowKit
/-- The cells of the document's state: its mark and row, its low marks and list. -/
def docC (m : Int) (a : Option Addr) (n c : Nat) (low : Nat → Int) (a2 : Option Addr) (n2 c2 : Nat) : List Value := .int .i64 m :: .slice a n c :: Sn.refC low a2 n2 c2
theorem results_cell_tmp3 {P : Program} {fn : Func} {p t t2 t3 : Tmp} {ty : TypeId} (h : fn.results = #[.cell p ty, .tmp t, .tmp t2, .tmp t3]) (tmps : Array Value) (w : World) (g : Nat) (cs : List Value) (d : TypeDesc)
    (hp : tmps.getD p undef = .pointer (some ⟨g, 0, none⟩)) (hc : w.rangeAt g 0 cs) (hu : P.underlying ty = some d) (hd : d.isRow = true) (hi : (P.info? ty).map (·.size) = some cs.length) :
    (results fn tmps).run P w = .ok (.tuple #[.agg cs.toArray, tmps.getD t undef, tmps.getD t2 undef, tmps.getD t3 undef]) w := by
  have hp' : tmps[p]?.getD undef = .pointer (some ⟨g, 0, none⟩) := by simpa using hp
  simp [results, h, hp', asAddr, run_loadVar_mid w g 0 ty cs d hc hu hd hi]
theorem range_part {w : World} {B : Nat} {p q : Value} {vs : List Value} (h : RowAt w B (p :: q :: vs)) : w.rangeAt B 2 vs := fun j u hu => by
  obtain ⟨hj, e⟩ := List.getElem?_eq_some_iff.1 hu
  have := h.cell (j + 2) (by simpa using hj)
  rw [Nat.add_comm 2 j, this]
  simp [List.getD_eq_getElem?_getD, hu]
theorem range_two {w : World} {B : Nat} {p q : Value} {vs : List Value} (h : RowAt w B (p :: q :: vs)) : w.rangeAt B 0 [p, q] := fun j u hu => by
  rw [Nat.zero_add]
  match j, hu with
  | 0, hu => cases hu; exact h.cell 0 (by simp)
  | 1, hu => cases hu; exact h.cell 1 (by simp)
theorem there_two {w : World} {B : Nat} {p q : Value} {vs : List Value} (h : RowAt w B (p :: q :: vs)) : w.there B 0 2 := fun j hj => by
  rw [Nat.zero_add]
  match j, hj with
  | 0, _ => exact ⟨by rw [h.cell 0 (by simp)]; rfl, h.free 0 (by simp)⟩
  | 1, _ => exact ⟨by rw [h.cell 1 (by simp)]; rfl, h.free 1 (by simp)⟩
theorem RowAt.two {w : World} {B : Nat} {p q : Value} {vs : List Value} (h : RowAt w B (p :: q :: vs)) (p' q' : Value) : RowAt (w.setCells B 0 [p', q']) B (p' :: q' :: vs) := by
  have := (h.set 0 (by simp) p').set 1 (by simp) q'
  exact this
/-- What Apply's boxes hold: the state, the item, the answer's room. -/
structure DB (w : World) (H : Nat) (d x r : List Value) (v : World) : Prop where
  r0 : RowAt v H d
  r1 : RowAt v (H + 1) x
  r2 : RowAt v (H + 1 + 1) r
  bel : Below w.heap.size w v
theorem DB.below {w v v' : World} {H : Nat} {d x r : List Value} (h : DB w H d x r v) (hb : Below v.heap.size v v') : DB w H d x r v' := ⟨h.r0.below hb, h.r1.below hb, h.r2.below hb, h.bel.trans (hb.mono h.bel.size)⟩
theorem DB.out {w v : World} {H : Nat} {d x r : List Value} (h : DB w H d x r v) (hH : H = w.heap.size) (z : List Value) (hz : r.length = z.length) : ∃ wf, v.setCells (H + 1 + 1) 0 z = wf ∧ DB w H d x z wf ∧ Moved (fun j => j = H + 1 + 1) v wf := by
  have m := setCells_moved v (H + 1 + 1) 0 z
  exact ⟨_, rfl, ⟨h.r0.keep m (by omega), h.r1.keep m (by omega), h.r2.put z hz, ((Moved.of_below (F := fun j => j = H + 1 + 1) h.bel).trans m (fun _ hi => .inl hi)).below (fun i hi => by omega) (Nat.le_refl _)⟩, m⟩
theorem DB.line {w v : World} {H : Nat} {p q : Value} {d x r : List Value} (h : DB w H (p :: q :: d) x r v) (hH : H = w.heap.size) (p' q' : Value) : ∃ wf, v.setCells H 0 [p', q'] = wf ∧ DB w H (p' :: q' :: d) x r wf ∧ Moved (fun j => j = H) v wf := by
  have m := setCells_moved v H 0 [p', q']
  exact ⟨_, rfl, ⟨h.r0.two p' q', h.r1.keep m (by omega), h.r2.keep m (by omega), ((Moved.of_below (F := fun j => j = H) h.bel).trans m (fun _ hi => .inl hi)).below (fun i hi => by omega) (Nat.le_refl _)⟩, m⟩
theorem DB.seen {w v : World} {H : Nat} {p q : Value} {d x r : List Value} (h : DB w H (p :: q :: d) x r v) (hH : H = w.heap.size) (d' : List Value) (hd : d.length = d'.length) : ∃ wf, v.setCells H 2 d' = wf ∧ DB w H (p :: q :: d') x r wf ∧ Moved (fun j => j = H) v wf := by
  have m := setCells_moved v H 2 d'
  exact ⟨_, rfl, ⟨h.r0.part hd, h.r1.keep m (by omega), h.r2.keep m (by omega), ((Moved.of_below (F := fun j => j = H) h.bel).trans m (fun _ hi => .inl hi)).below (fun i hi => by omega) (Nat.le_refl _)⟩, m⟩
def zeroD : List Value := [.int .i64 0, .slice none 0 0, .int .i64 0, .int .i64 0, .int .i64 0, .int .i64 0, .slice none 0 0]
set_option maxRecDepth 100000 in
theorem rnew13_any (w : World) : Calls Tryz.prog 11 #[] w fun e w' => e = .returned (.agg (docC 0 none 0 0 (fun _ => 1) none 0 0).toArray) ∧ Below w.heap.size w w' := by
  obtain ⟨W, hW⟩ : ∃ W, W = w.alloc (.cells #[.int .i64 0, .slice none 0 0, .int .i64 0, .int .i64 0, .int .i64 0, .int .i64 0, .slice none 0 0] 37) := ⟨_, rfl⟩
  obtain ⟨H, hH⟩ : ∃ H, H = w.heap.size := ⟨_, rfl⟩
  have bW : Below w.heap.size w W := by rw [hW]; exact (Below.refl _ _).alloc (Nat.le_refl _) _
  have R0 : RowAt W H zeroD := by rw [hW, hH]; exact row_new _ _ _
  have C := hide (Sn.rnew_any W)
  have HW := hide hW
  have HH := hide hH
  have HR := hide R0
  have HB := hide bW
  clear hW hH R0 bW
  go_enter Tryz.func11, Tryz.ntmps11
  go_upto_region 1 with fail
  rw [← unhide HH, ← unhide HW]
  go_wp2_with fail
  refine (unhide C).mono ?_
  rintro e v1 ⟨rfl, b1⟩
  have R1 := hide ((unhide HR).below b1)
  have B1 := hide ((unhide HB).trans (b1.mono (unhide HB).size))
  clear b1 C
  obtain ⟨wf, hwf⟩ : ∃ wf, wf = v1.setCells H 0 [.int .i64 0, .slice none 0 0, .int .i64 1, .int .i64 1, .int .i64 1, .int .i64 1, .slice none 0 0] := ⟨_, rfl⟩
  have TH := hide (unhide R1).there
  have R2 : Hid (RowAt wf H (docC 0 none 0 0 (fun _ => 1) none 0 0)) := hide (by rw [hwf]; exact (unhide R1).put (docC 0 none 0 0 (fun _ => 1) none 0 0) rfl)
  have m := setCells_moved v1 H 0 [.int .i64 0, .slice none 0 0, .int .i64 1, .int .i64 1, .int .i64 1, .int .i64 1, .slice none 0 0]
  have B2 : Hid (Below w.heap.size w wf) := hide (by
    rw [hwf]
    exact ((Moved.of_below (F := fun j => j = H) (unhide B1)).trans m (fun _ hi => .inl hi)).below (fun i hi => by have := unhide HH; omega) (Nat.le_refl _))
  have EQ := hide hwf.symm
  clear m hwf
  simp only [Sn.refC]
  go_wp2_with (refine wpList_store_mid rfl 37 (.tmp 0) (.tmp 2) rfl H 0 #[.int .i64 0, .slice none 0 0, .int .i64 1, .int .i64 1, .int .i64 1, .int .i64 1, .slice none 0 0] rfl rfl (unhide TH) (by kernel_rfl) (by simp [Value.oneCell']) ?_; change wpList _ _ _ _ _ (World.setCells _ H 0 [.int .i64 0, .slice none 0 0, .int .i64 1, .int .i64 1, .int .i64 1, .int .i64 1, .slice none 0 0]); rw [unhide EQ])
  refine bodyPost_ret (v := .agg (docC 0 none 0 0 (fun _ => 1) none 0 0).toArray) ?_ rfl ⟨rfl, unhide B2⟩
  exact results_cell_mid Tryz.results11 _ wf H _ _ rfl (unhide R2).range Tryz.underlying37 rfl (by kernel_rfl)
end Go.Proofs.YtigmhljaoicdbaaGreat

/- What a table's Twin does. No conditions. -/
import Derived.Test.YtigmhljaoicdbaaGreatGSnTabs
import Derived.Test.YtigmhljaoicdbaaGreatGEqW
import Derived.Test.YtigmhljaoicdbaaGreatGSnSeenMath
namespace Go.Proofs.YtigmhljaoicdbaaGreat.Sn
open Go.RowKit Go.Maps

theorem exec_store {P : Program} {op : Oper} {a : Go.Act} {w : World} (ty : TypeId) (x y : Operand) (ho : op.op = .store ty x y) (b o : Nat) (hx : a.eval x = .pointer (some ⟨b, o, none⟩)) (cells : Array Value) (hy : a.eval y = .agg cells)
    (ht : w.there b o cells.size) (hi : (P.info? ty).map (·.size) = some cells.size) (h1 : cells.all (·.oneCell') = true) : (execOp a.eval op).run P w = .ok .skip (w.setCells b o cells.toList) := by
  unfold execOp
  simp only [ho, hx, hy, Instr.storeAt, Instr.sureAddr, Sem.run_bind, Sem.run_pure, Result.andThen_ok, run_storeVar_mid w b o ty cells ht hi h1]
theorem clone_any {w : World} {m : Option Nat} {l : Codes} (h : MO w m l) : Calls Tryz.prog 76 #[.map m] w fun e w' => ∃ m', e = .returned (.map m') ∧ MO w' m' l ∧ Below w.heap.size w w' ∧ ∀ b, m' = some b → w.heap.size ≤ b := by
  rcases h with ⟨rfl, rfl⟩ | ⟨b, rfl, D, h, hD⟩
  · exact (AnyW.maps_Clone_nil (P := Tryz.prog) (ρ := cloneL_ren) cloneL w).mono fun e w' ⟨h1, h2⟩ => ⟨none, h1, .inl ⟨rfl, rfl⟩, by rw [h2]; exact Below.refl _ _, fun b e => by cases e⟩
  · exact (AnyW.maps_Clone_owns (P := Tryz.prog) (ρ := cloneL_ren) cloneL 3 _ b l.length D w h).mono fun e w' ⟨h1, h2, _, h4⟩ => ⟨_, h1, .inr ⟨_, rfl, D, h2, hD⟩, h4, fun b e => by cases e; exact Nat.le_refl _⟩
/-- A table whose first k sources are T's. -/
def twinTo (T : Tab) (k : Nat) : Tab := fun i => if i < k then T i else ⟨1, []⟩
theorem twinTo_zero (T : Tab) : twinTo T 0 = new_ := by funext i; rfl
theorem twinTo_succ (T : Tab) (k : Nat) : twinTo T (k + 1) = upd (twinTo T k) k (T k) := by
  funext i
  unfold twinTo upd
  by_cases e : i = k
  · subst e; rw [if_pos (by omega), if_pos rfl]
  · rw [if_neg e]
    show (if i < k + 1 then T i else ⟨1, []⟩) = if i < k then T i else ⟨1, []⟩
    by_cases h : i < k
    · rw [if_pos h, if_pos (by omega)]
    · rw [if_neg h, if_neg (by omega)]
theorem TIs.congr {w : World} {p : Nat} {F : Nat → Prop} {T U : Tab} (h : TIs w p F T) (e : ∀ i, i < 4 → T i = U i) : TIs w p F U := by
  obtain ⟨M, h, rfl⟩ := h
  exact ⟨M, ⟨fun i hi => by rw [← e i hi]; exact h.src i hi, h.apart⟩, rfl⟩
/-- A source set whole. -/
theorem set_src {w : World} {B o : Nat} {m m' : Option Nat} {s s' : Src} (h : SrcAt w B o m s) (hm : MO w m' s'.codes) (hf : s'.Fine) (hne : m' ≠ some B) :
    SrcAt (w.setCells B o [.int .i64 (s'.low - 1), .map m']) B o m' s' ∧ Others w (w.setCells B o [.int .i64 (s'.low - 1), .map m']) B o ∧ Moved (fun k => k = B) w (w.setCells B o [.int .i64 (s'.low - 1), .map m']) := by
  have mv := setCells_moved w B o [.int .i64 (s'.low - 1), .map m']
  have ht : w.there B o 2 := fun j hj => by
    match j, hj with
    | 0, _ => exact ⟨by rw [Nat.add_zero, h.c0]; rfl, h.f0⟩
    | 1, _ => exact ⟨by rw [h.c1]; rfl, h.f1⟩
  have hr := World.rangeAt_setCells_same w B o [.int .i64 (s'.low - 1), .map m'] ht
  refine ⟨⟨hr 0 _ rfl, hr 1 _ rfl, ?_, ?_, hm.keep fun b e => mv.block b (hm.lt b e) (fun e' => hne (by rw [e, e'])), hf⟩, ?_, mv⟩
  · rw [World.frozen?_setCells]; exact h.f0
  · rw [World.frozen?_setCells]; exact h.f1
  · exact Others.trans (b := w.setCell ⟨B, o, none⟩ (.int .i64 (s'.low - 1))) (Others.setCell (.inl rfl) _) (Others.setCell (.inr rfl) _)
theorem foot_none (B : Nat) : ∀ i, foot B (fun _ => none) i → B ≤ i := fun i f => by
  rcases f with rfl | ⟨_, _, e⟩
  · exact Nat.le_refl _
  · cases e
theorem twin_nil (w : World) : Calls Tryz.prog 47 #[.pointer none] w fun e w' => e = .returned (.pointer none) ∧ w' = w := by
  go_enter Tryz.func47, Tryz.ntmps47
  go_wp2
  go_ret
  exact ⟨rfl, rfl⟩
set_option maxRecDepth 100000 in
set_option maxHeartbeats 4000000 in
theorem twin_any {w : World} {p : Nat} {F : Nat → Prop} {T : Tab} (h : TIs w p F T) :
    Calls Tryz.prog 47 #[.pointer (some ⟨p, 0, none⟩)] w fun e w' => ∃ q F', e = .returned (.pointer (some ⟨q, 0, none⟩)) ∧ TIs w' q F' T ∧ (∀ k, F' k → w.heap.size ≤ k) ∧ Below w.heap.size w w' := by
  obtain ⟨M, hA, _⟩ := h
  have hpl := hA.plt
  have HR := hide hA.range
  have HF : Hid (∀ k, k < 4 → (T k).Fine) := hide (fun k hk => (hA.src k hk).fine)
  have HM : Hid (∀ k, k < 4 → ∀ v, Below w.heap.size w v → MO v (M k) (T k).codes) := hide (fun k hk v hb => (hA.src k hk).mo.keep fun b e => hb.block b ((hA.src k hk).mo.lt b e))
  obtain ⟨B, hB⟩ : ∃ B, B = w.heap.size := ⟨_, rfl⟩
  rw [← hB] at HM
  have HB := hide hB
  clear hA
  go_enter Tryz.func47, Tryz.ntmps47
  go_wp2_with fail
  refine (new_any w).mono ?_
  rintro e w1 ⟨rfl, hb1, ht1⟩
  rw [← hB] at hb1 ht1 ⊢
  have RG : Hid (w1.rangeAt p 0 (cells8 M T)) := hide fun j v hv => (hb1.cell (p := ⟨p, 0 + j, none⟩) (by rw [hB]; exact hpl)).trans (unhide HR j v hv)
  have START : Hid (TIs w1 B (foot B fun _ => none) (twinTo T 0) ∧ (∀ i, foot B (fun _ => none) i → B ≤ i) ∧ Below B w w1) := hide ⟨by rw [twinTo_zero]; exact ht1, foot_none B, hb1⟩
  clear hb1 ht1 hB hpl
  go_wp2_with (refine wpList_load_on rfl 82 (.tmp 11) rfl p 0 rfl (cells8 M T) _ (unhide RG) Tryz.underlying82 rfl (by kernel_rfl) ?_)
  go_loopw [13] (fun i wr => ∃ (k : Nat) (F' : Nat → Prop), i = .int .i64 (k : Int) ∧ k ≤ 4 ∧ TIs wr B F' (twinTo T k) ∧ (∀ i, F' i → B ≤ i) ∧ Below B w wr) (fun i _ => 4 - (intOf i).toNat)
  case atStart => exact ⟨0, _, rfl, by decide, unhide START⟩
  case round =>
    obtain ⟨k, F', rfl, hk, hti, hF', hbl⟩ := hrel
    clear START
    have hbz : B ≤ wr.heap.size := by rw [unhide HB]; exact hbl.size
    by_cases hlt : k < 4
    · have g0 : (0 : Int) ≤ (k : Int) := by omega
      have g1 : (k : Int) < 4 := by omega
      have hwk : IntKind.i64.wrap ((k : Int) + 1) = (k : Int) + 1 := Go.IntWalk.i64_in _ (by omega)
      have ix := fun W => idx61 M T hlt W
      obtain ⟨W1, hW1⟩ : ∃ W1, W1 = wr.alloc (.cells #[.int .i64 ((T k).low - 1), .map (M k)] 81) := ⟨_, rfl⟩
      obtain ⟨H, hH⟩ : ∃ H, H = wr.heap.size := ⟨_, rfl⟩
      have b1 : Below wr.heap.size wr W1 := by rw [hW1]; exact (Below.refl _ _).alloc (Nat.le_refl _) _
      have bw1 : Below B w W1 := hbl.trans (b1.mono hbz)
      have hs1 : W1.heap.size = H + 1 := by rw [hW1, hH]; simp
      have t1 : TIs W1 B F' (twinTo T k) := hti.keep (Moved.of_below (F := fun _ => False) b1) (fun _ f => f.elim)
      obtain ⟨CL, hCL⟩ : ∃ CL : World → Prop, CL = fun v => Moved (fun i => i = B) W1 v := ⟨_, rfl⟩
      have hBH : ¬ H = B := by have := hti.lt B hti.self; omega
      have un : ∀ v, CL v → Moved (fun i => i = B) W1 v := fun v k => by rw [hCL] at k; exact k
      have base : CL W1.drew := by rw [hCL]; exact (Moved.refl _ _).drew
      have c0 : W1.cell? ⟨H, 0, none⟩ = some (.int .i64 ((T k).low - 1)) := by rw [hW1, hH, World.cell?_alloc_new]; rfl
      have c1 : W1.cell? ⟨H, 1, none⟩ = some (.map (M k)) := by rw [hW1, hH, World.cell?_alloc_new]; rfl
      have q0 : ∀ q : SW CL, q.w.cell? ⟨H, 0, none⟩ = some (.int .i64 ((T k).low - 1)) := fun q => ((un _ q.ok).cell (p := ⟨H, 0, none⟩) (by show H < _; omega) hBH).trans c0
      have q1 : ∀ q : SW CL, q.w.cell? ⟨H, 1, none⟩ = some (.map (M k)) := fun q => ((un _ q.ok).cell (p := ⟨H, 1, none⟩) (by show H < _; omega) hBH).trans c1
      have CC := hide (clone_any (w := W1.drew) (unhide HM k hlt W1.drew bw1.drew))
      have CLH : Hid (∀ v, Below W1.drew.heap.size W1.drew v → CL v) := hide fun v hb => by
        rw [hCL]
        exact ⟨hb.os, hb.tape, hb.output, hb.size, fun k hk _ => hb.block k hk⟩
      have CLS : Hid (∀ v, CL v → CL (v.setCells B (k * 2) [.int .i64 ((T k).low - 1), .map none]) ∧ ∀ m', CL (v.setCells B (k * 2) [.int .i64 ((T k).low - 1), .map m'])) := hide fun v hv => by
        rw [hCL] at hv ⊢
        exact ⟨hv.trans (setCells_moved v B (k * 2) _) (fun i e => .inl e), fun m' => hv.trans (setCells_moved v B (k * 2) _) (fun i e => .inl e)⟩
      have FIN : Hid (∀ v m', MO v m' (T k).codes → Below W1.drew.heap.size W1.drew v → (∀ b, m' = some b → W1.drew.heap.size ≤ b) →
          v.there B (k * 2) 2 ∧ ∃ F'', TIs (v.setCells B (k * 2) [.int .i64 ((T k).low - 1), .map m']) B F'' (twinTo T (k + 1)) ∧ (∀ i, F'' i → B ≤ i) ∧ Below B w (v.setCells B (k * 2) [.int .i64 ((T k).low - 1), .map m'])) := hide fun v m' hm hb hnew => by
        have hb' : Below W1.heap.size W1 v := ⟨hb.os, hb.tape, hb.output, hb.size, hb.block⟩
        have tv : TIs v B F' (twinTo T k) := t1.keep (Moved.of_below (F := fun _ => False) hb') (fun _ f => f.elim)
        have hBv : B < v.heap.size := tv.lt B tv.self
        have hne : m' ≠ some B := fun e => by
          have h1 := hnew B e
          have h2 := t1.lt B t1.self
          have h3 : W1.heap.size ≤ B := h1
          omega
        obtain ⟨M2, ta, hF2⟩ := id tv
        have sa := ta.src k hlt
        refine ⟨fun j hj => ?_, ?_⟩
        · match j, hj with
          | 0, _ => exact ⟨by rw [Nat.add_zero, sa.c0]; rfl, sa.f0⟩
          | 1, _ => exact ⟨by rw [sa.c1]; rfl, sa.f1⟩
        · obtain ⟨s1, s2, s3⟩ := set_src sa hm (unhide HF k hlt) hne
          have D : Did W1 (v.setCells B (k * 2) [.int .i64 ((T k).low - 1), .map m']) B F' (twinTo T (k + 1)) := by
            rw [twinTo_succ]
            have hB1 : B < W1.heap.size := t1.lt B t1.self
            exact t1.step hlt fun m hm0 => ⟨m', ⟨s1, fun b e => .inr (hnew b e), ((Moved.of_below (F := SFoot B m) hb').trans (s3.mono (G := SFoot B m) (fun i e => .inl (.inl e))) (fun i e => .inl e)), Others.trans (Others.of_block (hb'.block B hB1)) s2⟩⟩
          obtain ⟨F3, d1, d2, d3⟩ := D
          refine ⟨F3, d1, fun i hi => ?_, (bw1.trans (hb'.mono (by omega))).trans (s3.below (fun i e => by rw [e]; exact Nat.le_refl _) (by omega))⟩
          rcases d2 i hi with h | h
          · exact hF' i h
          · have := bw1.size; omega
      have HW1 := hide hW1
      have HH := hide hH
      have BS := hide base
      clear hti hF' hbl b1 bw1 hW1 hH t1 hCL un base c0 c1 hs1 hBH
      go_upto_region 7 with fail
      rw [← unhide HH, ← unhide HW1]
      refine wp_region_chain (S := CL) [true, true, true, true, true, true, false, false, true, true, false, false] [false, false, false, false, false, false, true, true, false, false, true, true] (by kernel_rfl) (by kernel_rfl) (by kernel_rfl) (unhide BS) ?_
      apply Exists.intro
      apply And.intro
      · intro q
        have n0 : Nonempty (SK CL q.w) := ⟨⟨q, rfl⟩⟩
        simp only [pickM]
        repeat (go_big_quiet_step (fail))
        exact wpQuiet_nil rfl
      · simp only [pickZ]
        refine chain_call 76 #[.map (M k)] rfl (by simp [go_sem]) ?_
        refine (unhide CC).mono ?_
        rintro e v ⟨m', rfl, hm, hb, hnew⟩
        refine ⟨_, rfl, unhide CLH v hb, ?_⟩
        have F := hide (unhide FIN v m' hm hb hnew)
        have HBV := hide (unhide CLH v hb)
        clear hm hb hnew q0 q1 CC FIN
        refine chain_step (.agg #[.int .i64 ((T k).low - 1), .map m']) v rfl (by simp [go_sem]) (unhide HBV) ?_
        refine chain_step (.pointer (some ⟨B, k * 2, none⟩)) v rfl (by simp [go_sem, g0, g1]) (unhide HBV) ?_
        refine chain_skip _ rfl (exec_store 81 (.tmp 27) (.tmp 24) rfl B (k * 2) rfl #[.int .i64 ((T k).low - 1), .map m'] rfl (unhide F).1 (by kernel_rfl) (by simp [Value.oneCell'])) ((unhide CLS v (unhide HBV)).2 m') ?_
        simp only [chainM]
        obtain ⟨F'', hF''⟩ := (unhide F).2
        have HF2 := hide hF''
        clear hF'' F
        go_simp
        go_wp2_with fail
        exact ⟨⟨k + 1, F'', rfl, by omega, unhide HF2⟩, by simp [intOf]; omega⟩
    · have hk4 : k = 4 := by omega
      subst hk4
      have REL := hide (⟨hti.congr (U := T) (fun i hi => if_pos hi), hF', hbl⟩ : TIs wr B F' T ∧ (∀ i, F' i → B ≤ i) ∧ Below B w wr)
      clear hti hF' hbl
      go_wp2_with fail
      go_ret
      exact ⟨B, F', rfl, (unhide REL).1, fun i hi => by rw [← unhide HB]; exact (unhide REL).2.1 i hi, by rw [← unhide HB]; exact (unhide REL).2.2⟩
end Go.Proofs.YtigmhljaoicdbaaGreat.Sn

namespace Go.Proofs.YtigmhljaoicdbaaGreat.Sn.B
open Go.RowKit Go.Maps
/-- Block p is a table; M: where its sources' maps lie. -/
structure TabAt (w : World) (p : Nat) (M : Nat → Option Nat) (T : Tab) : Prop where
  src : ∀ i, i < 4 → SrcAt w p (2 + i * 2) (M i) (T i)
  apart : ∀ i j b, i < 4 → j < 4 → M i = some b → M j = some b → i = j
def foot (p : Nat) (M : Nat → Option Nat) (k : Nat) : Prop := k = p ∨ ∃ i, i < 4 ∧ M i = some k
theorem TabAt.plt {w : World} {p : Nat} {M : Nat → Option Nat} {T : Tab} (h : TabAt w p M T) : p < w.heap.size := (h.src 0 (by decide)).lt
theorem TabAt.lt {w : World} {p : Nat} {M : Nat → Option Nat} {T : Tab} (h : TabAt w p M T) : ∀ k, foot p M k → k < w.heap.size := by
  rintro k (rfl | ⟨i, hi, e⟩)
  · exact h.plt
  · exact (h.src i hi).mo.lt k e
theorem TabAt.keep {G : Nat → Prop} {w w' : World} {p : Nat} {M : Nat → Option Nat} {T : Tab} (h : TabAt w p M T) (k : Moved G w w') (hG : ∀ i, G i → ¬ foot p M i) : TabAt w' p M T :=
  ⟨fun i hi => (h.src i hi).keep k (fun g => hG p g (.inl rfl)) (fun b e g => hG b g (.inr ⟨i, hi, e⟩)), h.apart⟩
/-- A table at p, of the blocks F. -/
def TIs (w : World) (p : Nat) (F : Nat → Prop) (T : Tab) : Prop := ∃ M, TabAt w p M T ∧ F = foot p M
theorem TIs.lt {w : World} {p : Nat} {F : Nat → Prop} {T : Tab} (h : TIs w p F T) : ∀ k, F k → k < w.heap.size := by obtain ⟨M, h, rfl⟩ := h; exact h.lt
theorem TIs.self {w : World} {p : Nat} {F : Nat → Prop} {T : Tab} (h : TIs w p F T) : F p := by obtain ⟨M, h, rfl⟩ := h; exact .inl rfl
theorem TIs.keep {G F : Nat → Prop} {w w' : World} {p : Nat} {T : Tab} (h : TIs w p F T) (k : Moved G w w') (hG : ∀ i, G i → ¬ F i) : TIs w' p F T := by
  obtain ⟨M, h, rfl⟩ := h; exact ⟨M, h.keep k hG, rfl⟩
/-- A step of a table. -/
def Did (w w' : World) (p : Nat) (F : Nat → Prop) (T : Tab) : Prop := ∃ F', TIs w' p F' T ∧ (∀ k, F' k → F k ∨ w.heap.size ≤ k) ∧ Moved F w w'
theorem Did.start {w w' : World} {p : Nat} {F : Nat → Prop} {T : Tab} (h : TIs w p F T) (k : Moved (fun _ => False) w w') : Did w w' p F T :=
  ⟨F, h.keep k fun _ f => f.elim, fun _ f => .inl f, k.mono fun _ f => f.elim⟩
theorem Did.trans {w w1 w2 : World} {p : Nat} {F F1 : Nat → Prop} {T : Tab} (hf : ∀ k, F1 k → F k ∨ w.heap.size ≤ k) (k : Moved F w w1) (h : Did w1 w2 p F1 T) : Did w w2 p F T := by
  obtain ⟨F2, h2, f2, m2⟩ := h
  refine ⟨F2, h2, fun i hi => ?_, k.trans m2 hf⟩
  rcases f2 i hi with h' | h'
  · exact hf i h'
  · exact .inr (Nat.le_trans k.size h')
/-- Cells 0 and 1 are as they were. -/
def Ahead (w w' : World) (p : Nat) : Prop := ∀ n, n < 2 → w'.cell? ⟨p, n, none⟩ = w.cell? ⟨p, n, none⟩ ∧ w'.frozen? ⟨p, n, none⟩ = w.frozen? ⟨p, n, none⟩
theorem ahead_of {w w' : World} {p o : Nat} (ho : 2 ≤ o) (h : Others w w' p o) : Ahead w w' p := fun n hn => h n (by omega) (by omega)
/-- A step of one source is a step of the table. -/
theorem TIs.step {w w' : World} {p : Nat} {F : Nat → Prop} {T : Tab} (h : TIs w p F T) {i : Nat} (hi : i < 4) {s' : Src}
    (hs : ∀ m, SrcAt w p (2 + i * 2) m (T i) → ∃ m', SDid w w' p (2 + i * 2) m s' m') : Did w w' p F (upd T i s') := by
  obtain ⟨M, h, rfl⟩ := h
  obtain ⟨m', d⟩ := hs (M i) (h.src i hi)
  have hM : ∀ j, j < 4 → j ≠ i → ∀ b, M j = some b → ¬ SFoot p (M i) b := fun j hj hji b e f => by
    rcases f with f | f
    · exact (h.src j hj).ne (by rw [e, f])
    · exact hji (h.apart j i b hj hi e f)
  have hnew : ∀ b, m' = some b → foot p M b ∨ w.heap.size ≤ b := fun b e => (d.new_ b e).imp (fun e => .inr ⟨i, hi, e⟩) id
  refine ⟨foot p (fun j => if j = i then m' else M j), ⟨_, ⟨fun j hj => ?_, fun j k b hj hk e1 e2 => ?_⟩, rfl⟩, fun k f => ?_, d.moved.mono fun k f => .inl (f.imp id fun e => ⟨i, hi, e⟩)⟩
  · unfold upd
    by_cases e : j = i
    · subst e; rw [if_pos rfl, if_pos rfl]; exact d.at_
    · rw [if_neg e, if_neg e]
      have o := h.src j hj
      have a0 := d.others (2 + j * 2) (by omega) (by omega)
      have a1 := d.others (2 + j * 2 + 1) (by omega) (by omega)
      exact ⟨a0.1.trans o.c0, a1.1.trans o.c1, a0.2.trans o.f0, a1.2.trans o.f1, o.mo.keep fun b eb => d.moved.block b (o.mo.lt b eb) (hM j hj e b eb), o.fine⟩
  · replace e1 : (if j = i then m' else M j) = some b := e1
    replace e2 : (if k = i then m' else M k) = some b := e2
    by_cases ej : j = i
    · by_cases ek : k = i
      · rw [ej, ek]
      · rw [if_pos ej] at e1
        rw [if_neg ek] at e2
        exfalso
        rcases d.new_ b e1 with g | g
        · exact ek (h.apart k i b hk hi e2 g)
        · have := (h.src k hk).mo.lt b e2; omega
    · by_cases ek : k = i
      · rw [if_neg ej] at e1
        rw [if_pos ek] at e2
        exfalso
        rcases d.new_ b e2 with g | g
        · exact ej (h.apart j i b hj hi e1 g)
        · have := (h.src j hj).mo.lt b e1; omega
      · rw [if_neg ej] at e1
        rw [if_neg ek] at e2
        exact h.apart j k b hj hk e1 e2
  · rcases f with rfl | ⟨j, hj, e⟩
    · exact .inl (.inl rfl)
    · replace e : (if j = i then m' else M j) = some k := e
      by_cases ej : j = i
      · rw [if_pos ej] at e; exact hnew k e
      · rw [if_neg ej] at e; exact .inl (.inr ⟨j, hj, e⟩)
set_option maxRecDepth 100000 in
theorem task_any {w : World} {p : Nat} {F : Nat → Prop} {T : Tab} (h : TIs w p F T) (src seq low : Int) :
    Calls Tryz.prog 30 #[.pointer (some ⟨p, 2, none⟩), .int .i64 src, .int .i64 seq, .int .i64 low] w fun e w' => e = .returned (.tuple #[.int .i64 (ask T src seq low).1, .int .i64 (ask T src seq low).2]) ∧ w' = w := by
  have hmay := fun W => may_any src seq low W
  cases hm : may src seq low with
  | false =>
    have hd : Hid (ask T src seq low = (0, 0)) := hide (by unfold ask; rw [hm]; rfl)
    rw [hm] at hmay
    clear h hm
    go_enter Tryz.func30, Tryz.ntmps30
    go_wp2_with fail
    refine (hmay w).mono ?_
    rintro e w' ⟨rfl, hw'⟩
    rw [hw']
    go_wp2_with fail
    go_ret2
    exact ⟨by rw [unhide hd]; rfl, rfl⟩
  | true =>
    have hr := may_iff.1 hm
    obtain ⟨k, rfl⟩ : ∃ k : Nat, src = k := ⟨src.toNat, by omega⟩
    have hd : Hid (ask T (k : Int) seq low = (T k).ask seq) := hide (by unfold ask; rw [hm, if_pos rfl]; rfl)
    have hk : k < 4 := by omega
    obtain ⟨M, hA, _⟩ := h
    have cA := ask_any (hA.src k hk) (q := seq) (by omega)
    rw [hm] at hmay
    have g0 : (0 : Int) ≤ (k : Int) := by omega
    have g1 : (k : Int) < 4 := by omega
    clear hA hm hr
    go_enter Tryz.func30, Tryz.ntmps30
    go_wp2_with fail
    refine (hmay w).mono ?_
    rintro e w' ⟨rfl, hw'⟩
    rw [hw']
    go_wp2_with fail
    refine cA.mono ?_
    rintro e w' ⟨rfl, hw'⟩
    rw [hw']
    go_wp2_with fail
    go_ret2
    exact ⟨by rw [unhide hd]; rfl, rfl⟩
theorem TIs.drew {w : World} {p : Nat} {F : Nat → Prop} {T : Tab} (h : TIs w p F T) : TIs w.drew p F T := h.keep ((Moved.refl (fun _ => False) w).drew) fun _ f => f.elim
set_option maxRecDepth 100000 in
set_option maxHeartbeats 2000000 in
theorem tnote_any {w : World} {p : Nat} {F : Nat → Prop} {T : Tab} (h : TIs w p F T) (hT : T.Ok) (src seq low code : Int) :
    Calls Tryz.prog 32 #[.pointer (some ⟨p, 2, none⟩), .int .i64 src, .int .i64 seq, .int .i64 low, .int .i64 code] w fun e w' => e = .returned (.int .i64 (noteE T src seq low code)) ∧ Did w w' p F (note T src seq low code) ∧ Ahead w w' p := by
  have cA := task_any h src seq low
  have cC := fun W => code_any code W
  have SAME : Hid (noteE T src seq low code ≠ 0 → Did w w p F (note T src seq low code) ∧ Ahead w w p) := hide fun hn => by
    have : note T src seq low code = T := if_neg hn
    rw [this]
    exact ⟨Did.start h (Moved.refl _ _), fun _ _ => ⟨rfl, rfl⟩⟩
  rcases ask_state T src seq low with ⟨hs, hm⟩ | ⟨hm, hst⟩
  · have hd : Hid (noteE T src seq low code = 1) := hide (by unfold noteE; rw [hs]; simp)
    clear hm
    go_enter Tryz.func32, Tryz.ntmps32
    go_wp2_with fail
    refine cA.mono ?_
    rintro e w' ⟨rfl, hw'⟩
    rw [hw', hs]
    generalize (ask T src seq low).2 = c2
    clear cA hw'
    go_wp2_with fail
    go_ret
    exact ⟨by rw [unhide hd]; rfl, unhide SAME (by rw [unhide hd]; decide)⟩
  · cases hc : isCode code with
    | false =>
      have hd : Hid (noteE T src seq low code = 1) := hide (by unfold noteE; rw [hc]; simp)
      rw [hc] at cC
      clear hm hc
      rcases hst with ⟨hs, _⟩ | ⟨hs, _⟩ | ⟨hs, _⟩
      · skip
        go_enter Tryz.func32, Tryz.ntmps32
        go_wp2_with fail
        refine cA.mono ?_
        rintro e w' ⟨rfl, hw'⟩
        rw [hw', hs]
        generalize (ask T src seq low).2 = c2
        clear cA hw'
        go_wp2_with fail
        refine (cC w).mono ?_
        rintro e w' ⟨rfl, hw'⟩
        rw [hw']
        clear hw'
        go_wp2_with fail
        go_ret
        exact ⟨by rw [unhide hd]; rfl, unhide SAME (by rw [unhide hd]; decide)⟩
      · skip
        go_enter Tryz.func32, Tryz.ntmps32
        go_wp2_with fail
        refine cA.mono ?_
        rintro e w' ⟨rfl, hw'⟩
        rw [hw', hs]
        generalize (ask T src seq low).2 = c2
        clear cA hw'
        go_wp2_with fail
        refine (cC w).mono ?_
        rintro e w' ⟨rfl, hw'⟩
        rw [hw']
        clear hw'
        go_wp2_with fail
        go_ret
        exact ⟨by rw [unhide hd]; rfl, unhide SAME (by rw [unhide hd]; decide)⟩
      · skip
        go_enter Tryz.func32, Tryz.ntmps32
        go_wp2_with fail
        refine cA.mono ?_
        rintro e w' ⟨rfl, hw'⟩
        rw [hw', hs]
        generalize (ask T src seq low).2 = c2
        clear cA hw'
        go_wp2_with fail
        refine (cC w).mono ?_
        rintro e w' ⟨rfl, hw'⟩
        rw [hw']
        clear hw'
        go_wp2_with fail
        go_ret
        exact ⟨by rw [unhide hd]; rfl, unhide SAME (by rw [unhide hd]; decide)⟩
    | true =>
      rw [hc] at cC
      rcases hst with ⟨hs, _⟩ | ⟨hs, _⟩ | ⟨hs, h1, h2⟩
      · have hd : Hid (noteE T src seq low code = 12) := hide (by unfold noteE; rw [hc, hs]; simp)
        clear hm hc
        go_enter Tryz.func32, Tryz.ntmps32
        go_wp2_with fail
        refine cA.mono ?_
        rintro e w' ⟨rfl, hw'⟩
        rw [hw', hs]
        generalize (ask T src seq low).2 = c2
        clear cA hw'
        go_wp2_with fail
        refine (cC w).mono ?_
        rintro e w' ⟨rfl, hw'⟩
        rw [hw']
        clear hw'
        go_wp2_with fail
        go_ret
        exact ⟨by rw [unhide hd]; rfl, unhide SAME (by rw [unhide hd]; decide)⟩
      · have hd : Hid (noteE T src seq low code = 5) := hide (by unfold noteE; rw [hc, hs]; simp)
        clear hm hc
        go_enter Tryz.func32, Tryz.ntmps32
        go_wp2_with fail
        refine cA.mono ?_
        rintro e w' ⟨rfl, hw'⟩
        rw [hw', hs]
        generalize (ask T src seq low).2 = c2
        clear cA hw'
        go_wp2_with fail
        refine (cC w).mono ?_
        rintro e w' ⟨rfl, hw'⟩
        rw [hw']
        clear hw'
        go_wp2_with fail
        go_ret
        exact ⟨by rw [unhide hd]; rfl, unhide SAME (by rw [unhide hd]; decide)⟩
      · have hd : Hid (noteE T src seq low code = 0) := hide (by unfold noteE; rw [hc, hs]; simp)
        have hn : Hid (note T src seq low code = noted T src seq low code) := hide (if_pos (unhide hd))
        have hr := may_iff.1 hm
        obtain ⟨k, rfl⟩ : ∃ k : Nat, src = k := ⟨src.toNat, by omega⟩
        have hk : k < 4 := by omega
        have g0 : (0 : Int) ≤ (k : Int) := by omega
        have g1 : (k : Int) < 4 := by omega
        have hl16 := (hT k).len16
        have hcd := code_iff.1 hc
        have K1 : Hid (∀ M, TabAt w p M T → Calls Tryz.prog 57 #[.pointer (some ⟨p, 2 + k * 2, none⟩), .int .i64 seq, .int .i64 code] w fun e w' => e = .returned (.tuple #[]) ∧ ∃ m', SDid w w' p (2 + k * 2) (M k) ((T k).keep seq code) m') :=
          hide fun M hA => keep_any (hA.src k hk) (by omega) hcd (by omega)
        have K2 : Hid (∀ (v : World) m', SrcAt v p (2 + k * 2) m' ((T k).keep seq code) → Calls Tryz.prog 58 #[.pointer (some ⟨p, 2 + k * 2, none⟩), .int .i64 low] v fun e w' => e = .returned (.tuple #[]) ∧ SDid v w' p (2 + k * 2) m' (((T k).keep seq code).rise_ low) m') :=
          hide fun v m' hA => rise_any hA (by omega)
        have hh := h
        obtain ⟨M, hA, hF⟩ := h
        have HA := hide hA
        have HH := hide hh
        clear hm hc hr hl16 hcd h1 h2 hA hh SAME
        go_enter Tryz.func32, Tryz.ntmps32
        go_wp2_with fail
        refine cA.mono ?_
        rintro e w' ⟨rfl, hw'⟩
        rw [hw', hs]
        generalize (ask T (k : Int) seq low).2 = c2
        clear cA hw'
        go_wp2_with fail
        refine (cC w).mono ?_
        rintro e w' ⟨rfl, hw'⟩
        rw [hw']
        clear hw'
        go_wp2_with fail
        refine (unhide K1 M (unhide HA)).mono ?_
        rintro e v ⟨rfl, m', d1⟩
        have D1 := hide d1
        clear d1
        go_wp2_with fail
        refine (unhide K2 v m' (unhide D1).at_).mono ?_
        rintro e v2 ⟨rfl, d2⟩
        have D2 := hide d2
        clear d2
        go_wp2_with fail
        go_ret
        refine ⟨by rw [unhide hd]; rfl, ?_⟩
        rw [unhide hn]
        refine ⟨(unhide HH).step hk fun m hm => ?_, ahead_of (o := 2 + k * 2) (by omega) ((unhide D1).trans (unhide D2)).others⟩
        · have e : m = M k := by
            have := hm.c1.symm.trans ((unhide HA).src k hk).c1
            simpa using this
          rw [e]
          exact ⟨m', (unhide D1).trans (unhide D2)⟩
theorem TabAt.range {w : World} {p : Nat} {M : Nat → Option Nat} {T : Tab} (h : TabAt w p M T) : w.rangeAt p 2 (cells8 M T) := fun j v hv => by
  have s0 := h.src 0 (by decide)
  have s1 := h.src 1 (by decide)
  have s2 := h.src 2 (by decide)
  have s3 := h.src 3 (by decide)
  match j, hv with
  | 0, hv => cases hv; exact s0.c0
  | 1, hv => cases hv; exact s0.c1
  | 2, hv => cases hv; exact s1.c0
  | 3, hv => cases hv; exact s1.c1
  | 4, hv => cases hv; exact s2.c0
  | 5, hv => cases hv; exact s2.c1
  | 6, hv => cases hv; exact s3.c0
  | 7, hv => cases hv; exact s3.c1
  | n + 8, hv => cases hv
set_option maxRecDepth 100000 in
set_option maxHeartbeats 2000000 in
theorem lows_any {w : World} {p : Nat} {F : Nat → Prop} {T : Tab} (h : TIs w p F T) :
    Calls Tryz.prog 44 #[.pointer (some ⟨p, 2, none⟩)] w fun e w' => ∃ a c, e = .returned (.slice a 4 c) ∧ IntK.Row w' w.heap.size a c (lows T) ∧ Below w.heap.size w w' := by
  obtain ⟨M, hA, _⟩ := h
  have HR := hide hA.range
  have HF := hide (fun k hk => (hA.src k hk).fine)
  obtain ⟨B, hB⟩ : ∃ B, B = w.heap.size := ⟨_, rfl⟩
  have HB := hide hB
  clear hA
  go_enter Tryz.func44, Tryz.ntmps44
  go_wp2_with (refine wpList_load_on rfl 82 (.tmp 10) rfl p 2 rfl (cells8 M T) _ (unhide HR) Tryz.underlying82 rfl (by kernel_rfl) ?_)
  go_loopw [3, 12] (fun lv i wr => ∃ (k : Nat) (a : Option Addr) (c : Nat), i = .int .i64 (k : Int) ∧ k ≤ 4 ∧ lv = .slice a (lowsTo T k).length c ∧ IntK.Row wr B a c (lowsTo T k) ∧ Below B w wr) (fun _ i _ => 4 - (intOf i).toNat)
  case atStart => exact ⟨0, none, 0, rfl, by decide, rfl, row_none _ _, by rw [unhide HB]; exact Below.refl _ _⟩
  case round =>
    obtain ⟨k, a, c, rfl, hk, rfl, hrow, hbl⟩ := hrel
    by_cases hlt : k < 4
    · have g0 : (0 : Int) ≤ (k : Int) := by omega
      have g1 : (k : Int) < 4 := by omega
      have hwk : IntKind.i64.wrap ((k : Int) + 1) = (k : Int) + 1 := Go.IntWalk.i64_in _ (by omega)
      have ix := fun W => idx61 M T hlt W
      have ll := lowsTo_len T k
      have hbz : B ≤ wr.heap.size := by rw [unhide HB]; exact hbl.size
      obtain ⟨W1, hW1⟩ : ∃ W1, W1 = wr.alloc (.cells #[.int .i64 ((T k).low - 1), .map (M k)] 81) := ⟨_, rfl⟩
      have b1 : Below B wr W1 := by rw [hW1]; exact (Below.refl _ _).alloc hbz _
      have r1 : IntK.Row W1 B a c (lowsTo T k) := by rw [hW1]; exact hrow.alloc _
      have lw : Calls Tryz.prog 72 #[.pointer (some ⟨wr.heap.size, 0, none⟩)] W1 fun e w' => e = .returned (.int .i64 (T k).low) ∧ w' = W1 := by
        have F := unhide HF k hlt
        have h1 := F.lo
        have h2 := F.hi
        have c0 : W1.cell? ⟨wr.heap.size, 0, none⟩ = some (.int .i64 ((T k).low - 1)) := by rw [hW1, World.cell?_alloc_new]; rfl
        have := low_any c0 (Go.IntWalk.i64_in _ (by omega))
        rw [show (T k).low - 1 + 1 = (T k).low by omega] at this
        exact this
      have hB1 : B ≤ W1.heap.size := by have := b1.size; have := hbz; omega
      obtain ⟨a', c', w9, happ, row9, bel9, _, _⟩ := grow_one intK_law r1 (T k).low 3 (by rw [ll]; omega) hB1
      rw [← lowsTo_succ] at row9
      rw [ll] at happ
      have REL := hide (⟨row9, hbl.trans (b1.trans bel9)⟩ : IntK.Row w9 B a' c' (lowsTo T (k + 1)) ∧ Below B w w9)
      have HW1 := hide hW1
      have HAP : Hid ((Builtin.append_ #[47, 47] 47 #[.slice a (k : Nat) c, .slice (some ⟨W1.heap.size, 0, none⟩) 1 1]).run Tryz.prog (W1.alloc (.cells #[.int .i64 (T k).low] 3)) = .ok (.slice a' ((k + 1 : Nat)) c') w9) := hide happ
      have HLL := hide (lowsTo_len T (k + 1))
      rw [ll]
      clear hrow hbl r1 b1 hB1 happ row9 bel9 ll hW1
      go_upto_region 7 with fail
      rw [← unhide HW1]
      go_wp2_with fail
      refine lw.mono ?_
      rintro e w' ⟨rfl, hw'⟩
      rw [hw']
      clear lw
      go_wp2_with (at_builtin; refine wpList_app rfl _ _ 47 47 47 rfl rfl rfl rfl (unhide HAP) ?_)
      exact ⟨⟨k + 1, a', c', rfl, by omega, by rw [unhide HLL], (unhide REL).1, (unhide REL).2⟩, by simp [intOf]; omega⟩
    · have hk4 : k = 4 := by omega
      subst hk4
      have ll := lowsTo_len T 4
      have REL := hide (⟨hrow, hbl⟩ : IntK.Row wr B a c (lowsTo T 4) ∧ Below B w wr)
      rw [ll]
      clear hrow hbl ll
      go_wp2_with fail
      go_ret
      exact ⟨a, c, rfl, by rw [← unhide HB]; exact (unhide REL).1, by rw [← unhide HB]; exact (unhide REL).2⟩
set_option maxRecDepth 100000 in
set_option maxHeartbeats 4000000 in
theorem all_any {w : World} {p : Nat} {F : Nat → Prop} {T : Tab} (h : TIs w p F T) (hT : T.Ok) :
    Calls Tryz.prog 45 #[.pointer (some ⟨p, 2, none⟩)] w fun e w' => ∃ a c, e = .returned (.slice a (all T).length c) ∧ EntK.Row w' w.heap.size a c (all T) ∧ Below w.heap.size w w' := by
  obtain ⟨M, hA, _⟩ := h
  have HR := hide hA.range
  have HM : Hid (∀ k, k < 4 → ∀ v, Below w.heap.size w v → MO v (M k) (T k).codes) := hide (fun k hk v hb => (hA.src k hk).mo.keep fun b e => hb.block b ((hA.src k hk).mo.lt b e))
  obtain ⟨B, hB⟩ : ∃ B, B = w.heap.size := ⟨_, rfl⟩
  rw [← hB] at HM
  have HB := hide hB
  clear hA
  go_enter Tryz.func45, Tryz.ntmps45
  go_wp2_with (refine wpList_load_on rfl 82 (.tmp 12) rfl p 2 rfl (cells8 M T) _ (unhide HR) Tryz.underlying82 rfl (by kernel_rfl) ?_)
  go_loopw [3, 14] (fun lv i wr => ∃ (k : Nat) (a : Option Addr) (c : Nat), i = .int .i64 (k : Int) ∧ k ≤ 4 ∧ lv = .slice a (allTo T k).length c ∧ EntK.Row wr B a c (allTo T k) ∧ Below B w wr) (fun _ i _ => 4 - (intOf i).toNat)
  case atStart => exact ⟨0, none, 0, rfl, by decide, rfl, row_none _ _, by rw [unhide HB]; exact Below.refl _ _⟩
  case round =>
    obtain ⟨k, a, c, rfl, hk, rfl, hrow, hbl⟩ := hrel
    have hbz : B ≤ wr.heap.size := by rw [unhide HB]; exact hbl.size
    by_cases hlt : k < 4
    · have g0 : (0 : Int) ≤ (k : Int) := by omega
      have g1 : (k : Int) < 4 := by omega
      have hwk : IntKind.i64.wrap ((k : Int) + 1) = (k : Int) + 1 := Go.IntWalk.i64_in _ (by omega)
      have ix := fun W => idx61 M T hlt W
      obtain ⟨W1, hW1⟩ : ∃ W1, W1 = wr.alloc (.cells #[.int .i64 ((T k).low - 1), .map (M k)] 81) := ⟨_, rfl⟩
      obtain ⟨H, hH⟩ : ∃ H, H = wr.heap.size := ⟨_, rfl⟩
      have b1 : Below B wr W1 := by rw [hW1]; exact (Below.refl _ _).alloc hbz _
      have r1 : EntK.Row W1 B a c (allTo T k) := by rw [hW1]; exact hrow.alloc _
      have c1 : W1.cell? ⟨H, 1, none⟩ = some (.map (M k)) := by rw [hW1, hH, World.cell?_alloc_new]; rfl
      have hs1 : W1.heap.size = H + 1 := by rw [hW1, hH]; simp
      have mo1 : MO W1 (M k) (T k).codes := unhide HM k hlt W1 (hbl.trans b1)
      have bw1 : Below B w W1 := hbl.trans b1
      have hlen := (hT k).len16
      have CK := hide (keys_call (M k) W1)
      have CS := hide (sorted_any mo1 (hT k).rise (by omega))
      have HW1 := hide hW1
      have HH := hide hH
      have HS1 := hide hs1
      have R1 := hide r1
      have BW1 := hide bw1
      have C1 := hide c1
      have HK := hide hlt
      have HO : Hid (∀ i, own a (allTo T k).length c = some i → i < H) := hide (fun i e => by rw [hH]; exact (row_lt hrow i e).2)
      have HTN := hide (all_len_to hT k)
      have HL16 := hide hlen
      clear hrow hbl b1 r1 mo1 bw1 hW1 hH hs1 hlen c1
      go_upto_region 7 with fail
      rw [← unhide HW1]
      rw [← unhide HH]
      have c1 := unhide C1
      go_wp2_with fail
      refine (unhide CK).mono ?_
      rintro e w' ⟨rfl, hw'⟩
      rw [hw']
      clear CK
      go_wp2_with fail
      refine (unhide CS).mono ?_
      rintro e v2 ⟨a2, c2, rfl, hi2, hb2⟩
      have START : Hid (EntK.Row v2 B a c (allTo T k) ∧ Below B w v2 ∧ IntK.Row v2 (H + 1) a2 c2 ((T k).codes.map (·.1)) ∧ v2.cell? ⟨H, 1, none⟩ = some (.map (M k)) ∧ (∀ i, own a (allTo T k).length c = some i → i ≠ H ∧ own a2 ((T k).codes.map (·.1)).length c2 ≠ some i)) := hide (by
        have hs := unhide HS1
        refine ⟨row_keep (unhide R1) (Moved.of_below (F := fun _ => False) hb2) (fun _ f => f.elim), (unhide BW1).trans (hb2.mono (by have := unhide HH; omega)), by rw [← hs]; exact hi2, (hb2.cell (p := ⟨H, 1, none⟩) (by show H < _; omega)).trans c1, fun i e => ?_⟩
        have h1 := unhide HO i e
        refine ⟨by omega, fun e2 => ?_⟩
        have := (row_lt hi2 i e2).1
        omega)
      clear CS hi2 hb2 hw' c1 HO R1 BW1 C1
      go_wp2_with fail
      go_loopw [3, 23] (fun lv i wr => ∃ (j : Nat) (a : Option Addr) (c : Nat), i = .int .i64 (j : Int) ∧ j ≤ (T k).codes.length ∧ lv = .slice a (allTo T k ++ ents k ((T k).codes.take j)).length c ∧ EntK.Row wr B a c (allTo T k ++ ents k ((T k).codes.take j)) ∧ Below B w wr ∧ IntK.Row wr (H + 1) a2 c2 ((T k).codes.map (·.1)) ∧ wr.cell? ⟨H, 1, none⟩ = some (.map (M k)) ∧ (∀ i, own a (allTo T k ++ ents k ((T k).codes.take j)).length c = some i → i ≠ H ∧ own a2 ((T k).codes.map (·.1)).length c2 ≠ some i)) (fun _ i _ => (T k).codes.length - (intOf i).toNat)
      case atStart =>
        have e0 : allTo T k ++ ents k ((T k).codes.take 0) = allTo T k := by rw [List.take_zero]; exact List.append_nil _
        refine ⟨0, a, c, rfl, Nat.zero_le _, by rw [e0], ?_⟩
        rw [e0]
        exact unhide START
      case round =>
        obtain ⟨j, a, c, rfl, hj, rfl, hrow, hbl, hi2, hc1, hown⟩ := hrel
        clear START
        have hbz : B ≤ wr.heap.size := by rw [unhide HB]; exact hbl.size
        have hen : (allTo T k ++ ents k ((T k).codes.take j)).length = (allTo T k).length + j := by simp [ents]; omega
        by_cases hjl : j < (T k).codes.length
        · have gj : (j : Int) < ((T k).codes.length : Int) := by omega
          have gj0 : (0 : Int) ≤ (j : Int) := by omega
          have hwj : IntKind.i64.wrap ((j : Int) + 1) = (j : Int) + 1 := Go.IntWalk.i64_in _ (by have := unhide HL16; omega)
          obtain ⟨x, hx⟩ : ∃ x, (T k).codes[j]? = some x := ⟨_, List.getElem?_eq_getElem hjl⟩
          have hmem := List.mem_of_getElem? hx
          obtain ⟨q, cd⟩ := x
          obtain ⟨g, rfl, hcq⟩ := ints_at hi2 (j := j) (n := q) (by rw [List.getElem?_map, hx]; rfl)
          have hq := (hT k).num _ hmem
          have hlk := (unhide HM k (unhide HK) wr hbl).get (hT k).rise (q := q) (by simp only at hq; omega)
          rw [show look (T k).codes q = some cd from look_mem (a := (q, cd)) (hT k).rise hmem] at hlk
          simp only [Option.getD_some] at hlk
          obtain ⟨a', c', w9, happ, row9, bel9, mv9, own9⟩ := grow_one entK_law hrow ⟨(k : Int), q, cd⟩ 99 (by rw [hen]; have := unhide HTN; have := unhide HL16; omega) hbz
          have hsn : allTo T k ++ ents k ((T k).codes.take j) ++ [(⟨(k : Int), q, cd⟩ : Ent)] = allTo T k ++ ents k ((T k).codes.take (j + 1)) := by
            rw [take_snoc hx, ents_append, List.append_assoc]; rfl
          have hen2 : (allTo T k ++ ents k ((T k).codes.take (j + 1))).length = (allTo T k).length + j + 1 := by rw [← hsn, List.length_append, hen]; rfl
          rw [hsn] at row9
          have REL : Hid (EntK.Row w9 B a' c' (allTo T k ++ ents k ((T k).codes.take (j + 1))) ∧ Below B w w9 ∧ IntK.Row w9 (H + 1) (some ⟨g, 0, none⟩) c2 ((T k).codes.map (·.1)) ∧ w9.cell? ⟨H, 1, none⟩ = some (.map (M k)) ∧ (∀ i, own a' (allTo T k ++ ents k ((T k).codes.take (j + 1))).length c' = some i → i ≠ H ∧ own (some ⟨g, 0, none⟩) ((T k).codes.map (·.1)).length c2 ≠ some i)) := hide (by
            have hHl : H < wr.heap.size := World.block_lt_of_cell? _ _ hc1
            refine ⟨row9, hbl.trans bel9, row_keep hi2 mv9 (fun i e f => (hown i e).2 f.2), (mv9.cell (p := ⟨H, 1, none⟩) hHl (fun e => (hown H e).1 rfl)).trans hc1, fun i e => ?_⟩
            rw [hen2, ← hen] at e
            rcases own9 with e9 | e9
            · rw [e9] at e; exact hown i e
            · rw [e9] at e
              cases e
              refine ⟨by omega, fun e2 => ?_⟩
              have := (row_lt hi2 _ e2).2
              omega)
          have HAP : Hid ((Builtin.append_ #[56, 56] 56 #[.slice a (allTo T k ++ ents k ((T k).codes.take j)).length c, .slice (some ⟨wr.heap.size, 0, none⟩) 1 1]).run Tryz.prog (wr.alloc (.cells #[.int .i64 (k : Int), .int .i64 q, .int .i64 cd] 99)) = .ok (.slice a' ((allTo T k ++ ents k ((T k).codes.take j)).length + 1) c') w9) := hide happ
          have HE2 : Hid ((allTo T k ++ ents k ((T k).codes.take (j + 1))).length = (allTo T k ++ ents k ((T k).codes.take j)).length + 1) := hide (by rw [hen2, hen])
          clear hrow hbl hi2 hown hx hmem hq happ row9 bel9 mv9 own9 hsn hen2 hen hbz
          generalize (allTo T k ++ ents k ((T k).codes.take j)).length = n0 at *
          go_wp2_with (at_builtin; refine wpList_app rfl _ _ 56 56 56 rfl rfl rfl rfl (unhide HAP) ?_)
          exact ⟨⟨j + 1, a', c', rfl, by omega, by rw [unhide HE2], unhide REL⟩, by simp [intOf]; omega⟩
        · have hje : j = (T k).codes.length := by omega
          have REL : Hid (EntK.Row wr B a c (allTo T (k + 1)) ∧ Below B w wr) := hide ⟨by rw [allTo]; rw [hje, List.take_length] at hrow; exact hrow, hbl⟩
          have HE2 : Hid ((allTo T k ++ ents k ((T k).codes.take j)).length = (allTo T (k + 1)).length) := hide (by rw [hje, List.take_length]; rfl)
          clear hrow hbl hi2 hown hen hbz hje
          generalize (allTo T k ++ ents k ((T k).codes.take j)).length = n0 at *
          go_wp2_with fail
          exact ⟨⟨k + 1, a, c, rfl, by omega, by rw [unhide HE2], unhide REL⟩, by simp [intOf]; omega⟩
    · have hk4 : k = 4 := by omega
      subst hk4
      have REL := hide (⟨hrow, hbl⟩ : EntK.Row wr B a c (allTo T 4) ∧ Below B w wr)
      clear hrow hbl
      go_wp2_with fail
      go_ret
      exact ⟨a, c, rfl, by rw [← unhide HB]; exact (unhide REL).1, by rw [← unhide HB]; exact (unhide REL).2⟩
set_option maxRecDepth 100000 in
set_option maxHeartbeats 4000000 in
theorem twin_any {w : World} {p : Nat} {F : Nat → Prop} {T : Tab} (h : TIs w p F T) :
    Calls Tryz.prog 47 #[.pointer (some ⟨p, 2, none⟩)] w fun e w' => ∃ q F', e = .returned (.pointer (some ⟨q, 0, none⟩)) ∧ Sn.TIs w' q F' T ∧ (∀ k, F' k → w.heap.size ≤ k) ∧ Below w.heap.size w w' := by
  obtain ⟨M, hA, _⟩ := h
  have hpl := hA.plt
  have HR := hide hA.range
  have HF : Hid (∀ k, k < 4 → (T k).Fine) := hide (fun k hk => (hA.src k hk).fine)
  have HM : Hid (∀ k, k < 4 → ∀ v, Below w.heap.size w v → MO v (M k) (T k).codes) := hide (fun k hk v hb => (hA.src k hk).mo.keep fun b e => hb.block b ((hA.src k hk).mo.lt b e))
  obtain ⟨B, hB⟩ : ∃ B, B = w.heap.size := ⟨_, rfl⟩
  rw [← hB] at HM
  have HB := hide hB
  clear hA
  go_enter Tryz.func47, Tryz.ntmps47
  go_wp2_with fail
  refine (new_any w).mono ?_
  rintro e w1 ⟨rfl, hb1, ht1⟩
  rw [← hB] at hb1 ht1 ⊢
  have RG : Hid (w1.rangeAt p 2 (cells8 M T)) := hide fun j v hv => (hb1.cell (p := ⟨p, 2 + j, none⟩) (by rw [hB]; exact hpl)).trans (unhide HR j v hv)
  have START : Hid (Sn.TIs w1 B (Sn.foot B fun _ => none) (twinTo T 0) ∧ (∀ i, Sn.foot B (fun _ => none) i → B ≤ i) ∧ Below B w w1) := hide ⟨by rw [twinTo_zero]; exact ht1, foot_none B, hb1⟩
  clear hb1 ht1 hB hpl
  go_wp2_with (refine wpList_load_on rfl 82 (.tmp 11) rfl p 2 rfl (cells8 M T) _ (unhide RG) Tryz.underlying82 rfl (by kernel_rfl) ?_)
  go_loopw [13] (fun i wr => ∃ (k : Nat) (F' : Nat → Prop), i = .int .i64 (k : Int) ∧ k ≤ 4 ∧ Sn.TIs wr B F' (twinTo T k) ∧ (∀ i, F' i → B ≤ i) ∧ Below B w wr) (fun i _ => 4 - (intOf i).toNat)
  case atStart => exact ⟨0, _, rfl, by decide, unhide START⟩
  case round =>
    obtain ⟨k, F', rfl, hk, hti, hF', hbl⟩ := hrel
    clear START
    have hbz : B ≤ wr.heap.size := by rw [unhide HB]; exact hbl.size
    by_cases hlt : k < 4
    · have g0 : (0 : Int) ≤ (k : Int) := by omega
      have g1 : (k : Int) < 4 := by omega
      have hwk : IntKind.i64.wrap ((k : Int) + 1) = (k : Int) + 1 := Go.IntWalk.i64_in _ (by omega)
      have ix := fun W => idx61 M T hlt W
      obtain ⟨W1, hW1⟩ : ∃ W1, W1 = wr.alloc (.cells #[.int .i64 ((T k).low - 1), .map (M k)] 81) := ⟨_, rfl⟩
      obtain ⟨H, hH⟩ : ∃ H, H = wr.heap.size := ⟨_, rfl⟩
      have b1 : Below wr.heap.size wr W1 := by rw [hW1]; exact (Below.refl _ _).alloc (Nat.le_refl _) _
      have bw1 : Below B w W1 := hbl.trans (b1.mono hbz)
      have hs1 : W1.heap.size = H + 1 := by rw [hW1, hH]; simp
      have t1 : Sn.TIs W1 B F' (twinTo T k) := hti.keep (Moved.of_below (F := fun _ => False) b1) (fun _ f => f.elim)
      obtain ⟨CL, hCL⟩ : ∃ CL : World → Prop, CL = fun v => Moved (fun i => i = B) W1 v := ⟨_, rfl⟩
      have hBH : ¬ H = B := by have := hti.lt B hti.self; omega
      have un : ∀ v, CL v → Moved (fun i => i = B) W1 v := fun v k => by rw [hCL] at k; exact k
      have base : CL W1.drew := by rw [hCL]; exact (Moved.refl _ _).drew
      have c0 : W1.cell? ⟨H, 0, none⟩ = some (.int .i64 ((T k).low - 1)) := by rw [hW1, hH, World.cell?_alloc_new]; rfl
      have c1 : W1.cell? ⟨H, 1, none⟩ = some (.map (M k)) := by rw [hW1, hH, World.cell?_alloc_new]; rfl
      have q0 : ∀ q : SW CL, q.w.cell? ⟨H, 0, none⟩ = some (.int .i64 ((T k).low - 1)) := fun q => ((un _ q.ok).cell (p := ⟨H, 0, none⟩) (by show H < _; omega) hBH).trans c0
      have q1 : ∀ q : SW CL, q.w.cell? ⟨H, 1, none⟩ = some (.map (M k)) := fun q => ((un _ q.ok).cell (p := ⟨H, 1, none⟩) (by show H < _; omega) hBH).trans c1
      have CC := hide (clone_any (w := W1.drew) (unhide HM k hlt W1.drew bw1.drew))
      have CLH : Hid (∀ v, Below W1.drew.heap.size W1.drew v → CL v) := hide fun v hb => by
        rw [hCL]
        exact ⟨hb.os, hb.tape, hb.output, hb.size, fun k hk _ => hb.block k hk⟩
      have CLS : Hid (∀ v, CL v → CL (v.setCells B (k * 2) [.int .i64 ((T k).low - 1), .map none]) ∧ ∀ m', CL (v.setCells B (k * 2) [.int .i64 ((T k).low - 1), .map m'])) := hide fun v hv => by
        rw [hCL] at hv ⊢
        exact ⟨hv.trans (setCells_moved v B (k * 2) _) (fun i e => .inl e), fun m' => hv.trans (setCells_moved v B (k * 2) _) (fun i e => .inl e)⟩
      have FIN : Hid (∀ v m', MO v m' (T k).codes → Below W1.drew.heap.size W1.drew v → (∀ b, m' = some b → W1.drew.heap.size ≤ b) →
          v.there B (k * 2) 2 ∧ ∃ F'', Sn.TIs (v.setCells B (k * 2) [.int .i64 ((T k).low - 1), .map m']) B F'' (twinTo T (k + 1)) ∧ (∀ i, F'' i → B ≤ i) ∧ Below B w (v.setCells B (k * 2) [.int .i64 ((T k).low - 1), .map m'])) := hide fun v m' hm hb hnew => by
        have hb' : Below W1.heap.size W1 v := ⟨hb.os, hb.tape, hb.output, hb.size, hb.block⟩
        have tv : Sn.TIs v B F' (twinTo T k) := t1.keep (Moved.of_below (F := fun _ => False) hb') (fun _ f => f.elim)
        have hBv : B < v.heap.size := tv.lt B tv.self
        have hne : m' ≠ some B := fun e => by
          have h1 := hnew B e
          have h2 := t1.lt B t1.self
          have h3 : W1.heap.size ≤ B := h1
          omega
        obtain ⟨M2, ta, hF2⟩ := id tv
        have sa := ta.src k hlt
        refine ⟨fun j hj => ?_, ?_⟩
        · match j, hj with
          | 0, _ => exact ⟨by rw [Nat.add_zero, sa.c0]; rfl, sa.f0⟩
          | 1, _ => exact ⟨by rw [sa.c1]; rfl, sa.f1⟩
        · obtain ⟨s1, s2, s3⟩ := set_src sa hm (unhide HF k hlt) hne
          have D : Sn.Did W1 (v.setCells B (k * 2) [.int .i64 ((T k).low - 1), .map m']) B F' (twinTo T (k + 1)) := by
            rw [twinTo_succ]
            have hB1 : B < W1.heap.size := t1.lt B t1.self
            exact t1.step hlt fun m hm0 => ⟨m', ⟨s1, fun b e => .inr (hnew b e), ((Moved.of_below (F := SFoot B m) hb').trans (s3.mono (G := SFoot B m) (fun i e => .inl (.inl e))) (fun i e => .inl e)), Others.trans (Others.of_block (hb'.block B hB1)) s2⟩⟩
          obtain ⟨F3, d1, d2, d3⟩ := D
          refine ⟨F3, d1, fun i hi => ?_, (bw1.trans (hb'.mono (by omega))).trans (s3.below (fun i e => by rw [e]; exact Nat.le_refl _) (by omega))⟩
          rcases d2 i hi with h | h
          · exact hF' i h
          · have := bw1.size; omega
      have HW1 := hide hW1
      have HH := hide hH
      have BS := hide base
      clear hti hF' hbl b1 bw1 hW1 hH t1 hCL un base c0 c1 hs1 hBH
      go_upto_region 7 with fail
      rw [← unhide HH, ← unhide HW1]
      refine wp_region_chain (S := CL) [true, true, true, true, true, true, false, false, true, true, false, false] [false, false, false, false, false, false, true, true, false, false, true, true] (by kernel_rfl) (by kernel_rfl) (by kernel_rfl) (unhide BS) ?_
      apply Exists.intro
      apply And.intro
      · intro q
        have n0 : Nonempty (SK CL q.w) := ⟨⟨q, rfl⟩⟩
        simp only [pickM]
        repeat (go_big_quiet_step (fail))
        exact wpQuiet_nil rfl
      · simp only [pickZ]
        refine chain_call 76 #[.map (M k)] rfl (by simp [go_sem]) ?_
        refine (unhide CC).mono ?_
        rintro e v ⟨m', rfl, hm, hb, hnew⟩
        refine ⟨_, rfl, unhide CLH v hb, ?_⟩
        have F := hide (unhide FIN v m' hm hb hnew)
        have HBV := hide (unhide CLH v hb)
        clear hm hb hnew q0 q1 CC FIN
        refine chain_step (.agg #[.int .i64 ((T k).low - 1), .map m']) v rfl (by simp [go_sem]) (unhide HBV) ?_
        refine chain_step (.pointer (some ⟨B, k * 2, none⟩)) v rfl (by simp [go_sem, g0, g1]) (unhide HBV) ?_
        refine chain_skip _ rfl (exec_store 81 (.tmp 27) (.tmp 24) rfl B (k * 2) rfl #[.int .i64 ((T k).low - 1), .map m'] rfl (unhide F).1 (by kernel_rfl) (by simp [Value.oneCell'])) ((unhide CLS v (unhide HBV)).2 m') ?_
        simp only [chainM]
        obtain ⟨F'', hF''⟩ := (unhide F).2
        have HF2 := hide hF''
        clear hF'' F
        go_simp
        go_wp2_with fail
        exact ⟨⟨k + 1, F'', rfl, by omega, unhide HF2⟩, by simp [intOf]; omega⟩
    · have hk4 : k = 4 := by omega
      subst hk4
      have REL := hide (⟨hti.congr (U := T) (fun i hi => if_pos hi), hF', hbl⟩ : Sn.TIs wr B F' T ∧ (∀ i, F' i → B ≤ i) ∧ Below B w wr)
      clear hti hF' hbl
      go_wp2_with fail
      go_ret
      exact ⟨B, F', rfl, (unhide REL).1, fun i hi => by rw [← unhide HB]; exact (unhide REL).2.1 i hi, by rw [← unhide HB]; exact (unhide REL).2.2⟩
end Go.Proofs.YtigmhljaoicdbaaGreat.Sn.B

namespace Go.Proofs.YtigmhljaoicdbaaGreat
open Go.RowKit
structure HLF (w0 v : World) (p : Nat) (F : Nat → Prop) (L : LineV) (R : List Held) : Prop where
  st : LineIs v p F L
  big : ∀ k, F k → w0.heap.size ≤ k
  bel : Below w0.heap.size w0 v
  rows : ∀ r ∈ R, r.is w0 v ∧ ∀ k, r.at k → ¬ F k
def HL (w0 v : World) (p : Nat) (L : LineV) (R : List Held) : Prop := ∃ F, HLF w0 v p F L R
variable {w0 v v' : World} {p : Nat} {F F' : Nat → Prop} {L L' : LineV} {R R' : List Held}
theorem HLF.step (h : HLF w0 v p F L R) (hs : LineIs v' p F' L') (hf : ∀ k, F' k → F k ∨ v.heap.size ≤ k) (m : Moved F v v') : HLF w0 v' p F' L' R := by
  refine ⟨hs, fun k hk => (hf k hk).elim (h.big k) (fun e => Nat.le_trans h.bel.size e), below_of_moved h.bel h.big m, fun r hr => ?_⟩
  obtain ⟨h1, h2⟩ := h.rows r hr
  refine ⟨row_moved h1 m (fun i hi k hk e => h2 k hk (e ▸ hi)), fun k hk f => ?_⟩
  rcases hf k f with f | f
  · exact h2 k hk f
  · have := (row_lt h1 k hk).2; omega
theorem HLF.did (h : HLF w0 v p F L R) (hd : DidL v v' p F L') : HL w0 v' p L' R := by
  obtain ⟨F', h1, h2, h3⟩ := hd
  exact ⟨F', h.step h1 h2 h3⟩
theorem HLF.below (h : HLF w0 v p F L R) (hb : Below v.heap.size v v') : HLF w0 v' p F L R :=
  h.step (h.st.keep (Moved.of_below (F := fun _ => False) hb) (fun _ f => f.elim)) (fun _ f => .inl f) (Moved.of_below hb)
theorem HL.below (h : HL w0 v p L R) (hb : Below v.heap.size v v') : HL w0 v' p L R := by obtain ⟨F, h⟩ := h; exact ⟨F, h.below hb⟩
theorem HL.bel (h : HL w0 v p L R) : Below w0.heap.size w0 v := by obtain ⟨F, h⟩ := h; exact h.bel
theorem HL.fine (h : HL w0 v p L R) : Fine L.row := by obtain ⟨F, h⟩ := h; exact h.st.fine
theorem HL.row (h : HL w0 v p L R) {r : Held} (hr : r ∈ R) : r.is w0 v := by obtain ⟨F, h⟩ := h; exact (h.rows r hr).1
theorem HL.drop (h : HL w0 v p L R) (hR : ∀ r ∈ R', r ∈ R) : HL w0 v p L R' := by obtain ⟨F, h⟩ := h; exact ⟨F, h.st, h.big, h.bel, fun r hr => h.rows r (hR r hr)⟩
/-- A row more in hand, made in memory of its own. -/
theorem HLF.take {a : Option Addr} {c : Nat} {x : List (Win AggV)} (h : HLF w0 v p F L R) (hs : LineIs v' p F L') (m : Moved F v v') (hx : OutK.Row v' v.heap.size a c x) : HLF w0 v' p F L' ((a, c, x) :: R) := by
  have h' := h.step hs (fun _ f => .inl f) m
  refine ⟨h'.st, h'.big, h'.bel, fun r hr => ?_⟩
  rcases List.mem_cons.1 hr with rfl | hr
  · refine ⟨row_mono hx h.bel.size, fun k hk f => ?_⟩
    have h1 : v.heap.size ≤ k := (row_lt hx k hk).1
    have h2 : k < v.heap.size := h.st.lt k f
    omega
  · exact h'.rows r hr
theorem HL.new (hb : Below w0.heap.size w0 v) : Calls Tryz.prog 27 #[] v fun e v' => ∃ p, e = .returned (.pointer (some ⟨p, 0, none⟩)) ∧ HL w0 v' p newL [] :=
  (tnew_any v).mono fun e v' ⟨p, F, h1, h2, h3, h4⟩ => ⟨p, h1, F, h2, fun k hk => Nat.le_trans hb.size (h3 k hk), hb.trans (h4.mono hb.size), fun r hr => by cases hr⟩
theorem HL.put (h : HL w0 v p L R) (hm : Mild L.row) (k : List UInt8) (a n : Int) (hn : i64 n) :
    Calls Tryz.prog 54 #[.pointer (some ⟨p, 0, none⟩), .string ⟨k.toArray⟩, .int .i64 a, .int .i64 n] v fun e v' => e = .returned (.int .i64 ((putL L k a n).2 : Int)) ∧ HL w0 v' p (putL L k a n).1 R := by
  obtain ⟨F, h⟩ := h
  exact (tput_any h.st hm.most hm.ins_ k a n hn).mono fun e v' ⟨h1, h2⟩ => ⟨h1, h.did h2⟩
theorem HL.mark (h : HL w0 v p L R) (hm : Mild L.row) (a : Int) :
    Calls Tryz.prog 55 #[.pointer (some ⟨p, 0, none⟩), .int .i64 a] v fun e v' => ∃ a1 c1, e = .returned (.tuple #[.int .i64 ((markL L a).2.1 : Int), .slice a1 (markL L a).2.2.length c1]) ∧ HL w0 v' p (markL L a).1 ((a1, c1, (markL L a).2.2) :: R) := by
  obtain ⟨F, h⟩ := h
  exact (tmark_any h.st (Nat.le_trans hm.most (by omega)) a).mono fun e v' ⟨a1, c1, h1, h2, h3, h4⟩ => ⟨a1, c1, h1, F, h.take h3 h4 h2⟩
theorem HL.at_ (h : HL w0 v p L R) : Calls Tryz.prog 42 #[.pointer (some ⟨p, 0, none⟩)] v fun e v' => e = .returned (.int .i64 L.mark) ∧ v' = v := by
  obtain ⟨F, h⟩ := h
  exact tat_any h.st
theorem HL.open_ (h : HL w0 v p L R) (hm : Mild L.row) :
    Calls Tryz.prog 43 #[.pointer (some ⟨p, 0, none⟩)] v fun e v' => ∃ a c, e = .returned (.slice a L.row.length c) ∧ HL w0 v' p L ((a, c, L.row) :: R) ∧ Below v.heap.size v v' := by
  obtain ⟨F, h⟩ := h
  exact (topen_any h.st (Nat.le_trans hm.most (by omega))).mono fun e v' ⟨a, c, h1, h2, h3⟩ => ⟨a, c, h1, ⟨F, h.take (h.below h3).st (Moved.of_below h3) h2⟩, h3⟩
theorem HL.twin (h : HL w0 v p L R) :
    Calls Tryz.prog 46 #[.pointer (some ⟨p, 0, none⟩)] v fun e v' => ∃ q, e = .returned (.pointer (some ⟨q, 0, none⟩)) ∧ HL v v' q L [] ∧ Below v.heap.size v v' := by
  obtain ⟨F, h⟩ := h
  exact (ttwin_any h.st).mono fun e v' ⟨q, F2, h1, h2, h3, h4⟩ => ⟨q, h1, ⟨F2, h2, h3, h4, fun r hr => by cases hr⟩, h4⟩
/-- The last row is appended to the one behind it. -/
theorem HL.grow {a b : Option Addr} {c cb : Nat} {x y : List (Win AggV)} (h : HL w0 v p L [(b, cb, y), (a, c, x)]) (hl : x.length + y.length ≤ 1000000000000) (ty : TypeId) :
    ∃ a' c' v', (Builtin.append_ #[27, 27] ty #[.slice a x.length c, .slice b y.length cb]).run Tryz.prog v = .ok (.slice a' (x ++ y).length c') v' ∧ HL w0 v' p L [(a', c', x ++ y)] := by
  obtain ⟨F, h⟩ := h
  obtain ⟨ry, _⟩ := h.rows _ List.mem_cons_self
  obtain ⟨rx, nx⟩ := h.rows (a, c, x) (List.mem_cons_of_mem _ List.mem_cons_self)
  have ry' : OutK.Row v w0.heap.size b cb y := ry
  have rx' : OutK.Row v w0.heap.size a c x := rx
  obtain ⟨a', c', v', h1, h2, h3⟩ := grow_app outK_law rx' b cb y (row_lies ry') hl h.bel.size ty
  have hown : ∀ k, (Value.slice a' (x ++ y).length c').ownBlock = some k → (Value.slice a x.length c).ownBlock = some k ∨ v.heap.size ≤ k := fun k hk => by
    cases b with
    | none =>
      have hy : y = [] := (row_lies ry').1 rfl
      subst hy
      obtain ⟨i0, hi, _⟩ := outK_law.info
      have e := run_append_nothing (P := Tryz.prog) v OutK.t OutK.t ty OutK.e i0 outK_law.und hi a x.length c (row_cap rx') _ (Src.ofNil v outK_law.und cb)
      have h1' : (Builtin.append_ #[OutK.t, OutK.t] ty #[.slice a x.length c, .slice none ([] : List (Win AggV)).length cb]).run Tryz.prog v = .ok (.slice a' (x ++ []).length c') v' := h1
      rw [show ([] : List (Win AggV)).length = 0 from rfl] at h1'
      rw [e] at h1'
      rw [List.append_nil] at h1' hk
      cases h1'
      exact .inl hk
    | some z =>
      rcases append_block outK_law rx' z cb y (row_lies ry') hl ty h1 with e | e
      · exact .inl (e ▸ hk)
      · rw [e] at hk; cases hk; exact .inr (Nat.le_refl _)
  have mm : Moved (fun k => (Value.slice a x.length c).ownBlock = some k) v v' := (Moved.refl _ _).grown h3 (fun k e => .inl e)
  refine ⟨a', c', v', h1, F, h.st.keep mm (fun i hi f => nx i hi f), h.big, ((Moved.of_below (F := fun k => (Value.slice a x.length c).ownBlock = some k) h.bel).trans mm (fun _ e => .inl e)).below (fun i hi => (row_lt rx' i hi).1) (Nat.le_refl _), fun r hr => ?_⟩
  have : r = (a', c', x ++ y) := by simpa using hr
  subst this
  refine ⟨h2, fun k hk f => ?_⟩
  rcases hown k hk with e | e
  · exact nx k e f
  · have := h.st.lt k f; omega
/-- No windows at all, as a row in hand. -/
theorem HL.nil (h : HL w0 v p L R) : HL w0 v p L ((none, 0, []) :: R) := by
  obtain ⟨F, h⟩ := h
  refine ⟨F, h.st, h.big, h.bel, fun r hr => ?_⟩
  rcases List.mem_cons.1 hr with rfl | hr
  · exact ⟨row_none _ _, fun k hk => by cases hk⟩
  · exact h.rows r hr
theorem mild_putL (h : Mild L.row) {k : List UInt8} {a n : Int} (hn : i64 n) : Mild (putL L k a n).1.row := by
  rcases putL_ways L k a n with ⟨_, e⟩ | ⟨_, ⟨_, e⟩ | ⟨hl, ⟨_, e⟩ | ⟨_, e⟩⟩⟩
  · rw [e]; exact h
  · rw [e]; exact h
  · rw [e]; exact mild_put h hn
  · rw [e]; exact h
theorem mild_markL (h : Mild L.row) (a : Int) : Mild (markL L a).1.row ∧ (markL L a).2.2.length ≤ 32 := by
  rcases markL_ways L a with ⟨_, e⟩ | ⟨hr, ⟨_, e⟩ | ⟨_, e⟩⟩
  · rw [e]; exact ⟨h, Nat.zero_le _⟩
  · rw [e]; exact ⟨h, Nat.zero_le _⟩
  · rw [e]
    refine ⟨mild_take h a, ?_⟩
    have h1 := take_len (O := SO) L.row a
    have h2 := h.most
    show (takeS SO L.row a).2.length ≤ 32
    omega
end Go.Proofs.YtigmhljaoicdbaaGreat

namespace Go.Proofs.YtigmhljaoicdbaaGreat.Sn

/-- Whether a table may have an entry, beside its low marks. -/
def rightE (low : Nat → Int) (x : Ent) : Bool := isSrc x.src && isCode x.code && decide (low x.src.toNat ≤ x.seq) && decide (x.seq < low x.src.toNat + 16)
theorem rightE_iff {low : Nat → Int} {x : Ent} : rightE low x = true ↔ (0 ≤ x.src ∧ x.src < 4) ∧ (1 ≤ x.code ∧ x.code ≤ 4) ∧ low x.src.toNat ≤ x.seq ∧ x.seq < low x.src.toNat + 16 := by
  unfold rightE isSrc isCode
  simp only [Bool.and_eq_true, decide_eq_true_eq, and_assoc]
def e0 : Ent := ⟨0, 0, 0⟩
/-- The low mark of a row at a place. -/
def lowf (lows : List Int) (i : Nat) : Int := lows.getD i 1
def lowOk (n : Int) : Bool := decide (1 ≤ n) && decide (n ≤ 1099511627776)
theorem lowOk_iff {n : Int} : lowOk n = true ↔ 1 ≤ n ∧ n ≤ 1099511627776 := by unfold lowOk; simp
/-- Whether the entry at a place may stand there. -/
def goodB (low : Nat → Int) (l : List Ent) (i : Nat) : Bool := rightE low (l.getD i e0) && (decide (i = 0) || ahead (l.getD (i - 1) e0) (l.getD i e0))
def good (lows : List Int) (l : List Ent) : Bool := decide (lows.length = 4) && lows.all lowOk && (List.range l.length).all (goodB (lowf lows) l)
def keepE (T : Tab) (x : Ent) : Tab := upd T x.src.toNat ((T x.src.toNat).keep x.seq x.code)
def keeps (T : Tab) (l : List Ent) : Tab := l.foldl keepE T
/-- A table of these low marks, without codes; the first k alone. -/
def tabTo (lows : List Int) (k : Nat) : Tab := fun i => if i < k then ⟨lowf lows i, []⟩ else ⟨1, []⟩
def tab0 (lows : List Int) : Tab := tabTo lows 4
theorem tabTo_zero (lows : List Int) : tabTo lows 0 = new_ := rfl
theorem tabTo_succ (lows : List Int) (k : Nat) : tabTo lows (k + 1) = upd (tabTo lows k) k ⟨lowf lows k, []⟩ := by
  funext i
  unfold tabTo upd
  by_cases e : i = k
  · subst e; rw [if_pos (by omega), if_pos rfl]
  · rw [if_neg e]
    show (if i < k + 1 then (⟨lowf lows i, []⟩ : Src) else ⟨1, []⟩) = if i < k then ⟨lowf lows i, []⟩ else ⟨1, []⟩
    by_cases h : i < k
    · rw [if_pos h, if_pos (by omega)]
    · rw [if_neg h, if_neg (by omega)]
theorem tabTo_at (lows : List Int) (k : Nat) : tabTo lows k k = ⟨1, []⟩ := if_neg (Nat.lt_irrefl k)
theorem rise_new {n : Int} (h : 1 ≤ n) : (⟨1, []⟩ : Src).rise_ n = ⟨n, []⟩ := by
  unfold Src.rise_
  by_cases e : n ≤ 1
  · rw [if_pos e]
    have : n = 1 := by omega
    rw [this]
  · rw [if_neg e]; rfl
theorem tab0_ok {lows : List Int} (hl : lows.length = 4) (h : ∀ n ∈ lows, lowOk n = true) : (tab0 lows).Ok := fun i => by
  unfold tab0 tabTo
  split
  · rename_i hi
    have hm : lowf lows i ∈ lows := by
      unfold lowf
      rw [List.getD_eq_getElem?_getD, List.getElem?_eq_getElem (by omega)]
      exact List.getElem_mem _
    obtain ⟨h1, h2⟩ := lowOk_iff.1 (h _ hm)
    exact ⟨⟨h1, h2, List.Pairwise.nil, fun _ h => (by cases h), fun _ h => (by cases h), Nat.zero_le _⟩, fun _ h => (by cases h)⟩
  · exact Src.Ok.new
theorem tab0_low (lows : List Int) {i : Nat} (h : i < 4) : (tab0 lows i).low = lowf lows i := by unfold tab0 tabTo; rw [if_pos h]
theorem keepE_low (T : Tab) (x : Ent) (i : Nat) : (keepE T x i).low = (T i).low := by
  unfold keepE upd
  split
  · rename_i e
    rw [e]; rfl
  · rfl
theorem keeps_low (T : Tab) (l : List Ent) (i : Nat) : (keeps T l i).low = (T i).low := by
  unfold keeps
  induction l generalizing T with
  | nil => rfl
  | cons x l ih => rw [List.foldl_cons, ih, keepE_low]
theorem keeps_snoc (T : Tab) (l : List Ent) (x : Ent) : keeps T (l ++ [x]) = keepE (keeps T l) x := by unfold keeps; rw [List.foldl_append]; rfl
theorem keepE_ok {T : Tab} (h : T.Ok) {x : Ent} (hx : rightE (fun i => (T i).low) x = true) : (keepE T x).Ok := by
  obtain ⟨h1, h2, h3, h4⟩ := rightE_iff.1 hx
  have o := h x.src.toNat
  have lo := o.lo
  have hi := o.hi
  refine h.upd ⟨o.keep ⟨by omega, by omega⟩ h2 (by have := o.len16; omega), fun a ha => ?_⟩
  show (T x.src.toNat).low ≤ a.1 ∧ a.1 < (T x.src.toNat).low + 16
  rcases ins_mem ha with rfl | ha
  · exact ⟨h3, h4⟩
  · exact o.near a ha
theorem keeps_ok {T : Tab} (h : T.Ok) {l : List Ent} (hl : ∀ x ∈ l, rightE (fun i => (T i).low) x = true) : (keeps T l).Ok := by
  unfold keeps
  induction l generalizing T with
  | nil => exact h
  | cons x l ih =>
    rw [List.foldl_cons]
    refine ih (keepE_ok h (hl x List.mem_cons_self)) fun y hy => ?_
    have e : (fun i => (keepE T x i).low) = fun i => (T i).low := funext (keepE_low T x)
    rw [e]
    exact hl y (List.mem_cons_of_mem _ hy)
theorem goodB_low {low low' : Nat → Int} (h : ∀ i, i < 4 → low i = low' i) (x : Ent) : rightE low x = rightE low' x := by
  cases hs : isSrc x.src with
  | false => unfold rightE; rw [hs]; simp
  | true =>
    have := of_decide_eq_true hs
    have e := h x.src.toNat (by omega)
    unfold rightE
    rw [e]
/-- What one source's entries, one behind the other, come to. -/
theorem keeps_ents {U : Tab} {k : Nat} {l : Codes} : ∀ {m : Codes}, Rise (m ++ l) → (U k).codes = m → keeps U (ents k l) = upd U k ⟨(U k).low, m ++ l⟩ := by
  induction l generalizing U with
  | nil =>
    intro m _ hm
    rw [List.append_nil, ← hm]
    show U = _
    exact (upd_self U k).symm
  | cons a l ih =>
    intro m hr hm
    have e : ents k (a :: l) = ⟨(k : Int), a.1, a.2⟩ :: ents k l := rfl
    rw [e]
    show keeps (keepE U ⟨(k : Int), a.1, a.2⟩) (ents k l) = _
    have hk : keepE U ⟨(k : Int), a.1, a.2⟩ = upd U k ⟨(U k).low, m ++ [a]⟩ := by
      unfold keepE
      show upd U k ((U k).keep a.1 a.2) = _
      unfold Src.keep
      rw [hm, ins_last fun b hb => (List.pairwise_append.1 hr).2.2 b hb a List.mem_cons_self]
    have hr2 : Rise ((m ++ [a]) ++ l) := by rw [List.append_assoc]; exact hr
    rw [hk, ih hr2 (by rw [upd_same]), upd_upd, upd_same, List.append_assoc]
    rfl
theorem keeps_allTo {T : Tab} (h : T.Ok) {U : Tab} (hU : ∀ i, i < 4 → U i = ⟨(T i).low, []⟩) : ∀ {n : Nat}, n ≤ 4 → ∀ i, i < 4 → keeps U (allTo T n) i = if i < n then T i else ⟨(T i).low, []⟩
  | 0, _, i, hi => by rw [if_neg (by omega)]; exact hU i hi
  | n + 1, hn, i, hi => by
    have ih := keeps_allTo h hU (n := n) (by omega)
    have e : keeps U (allTo T (n + 1)) = keeps (keeps U (allTo T n)) (ents n (T n).codes) := by unfold keeps; rw [allTo, List.foldl_append]
    have hn' := ih n (by omega)
    rw [if_neg (Nat.lt_irrefl n)] at hn'
    rw [e, keeps_ents (m := []) (by rw [List.nil_append]; exact (h n).rise) (by rw [hn'])]
    unfold upd
    by_cases hin : i = n
    · subst hin
      rw [if_pos rfl, if_pos (by omega), hn', List.nil_append]
    · rw [if_neg hin, ih i hi]
      by_cases hl : i < n
      · rw [if_pos hl, if_pos (by omega)]
      · rw [if_neg hl, if_neg (by omega)]
theorem lowf_lows (T : Tab) {i : Nat} (h : i < 4) : lowf (lows T) i = (T i).low := by
  match i, h with
  | 0, _ => rfl
  | 1, _ => rfl
  | 2, _ => rfl
  | 3, _ => rfl
/-- A table made of a table's low marks and codes is that table. -/
theorem keeps_all {T : Tab} (h : T.Ok) {i : Nat} (hi : i < 4) : keeps (tab0 (lows T)) (all T) i = T i := by
  have := keeps_allTo h (U := tab0 (lows T)) (fun i hi => by unfold tab0 tabTo; rw [if_pos hi, lowf_lows T hi]) (n := 4) (Nat.le_refl 4) i hi
  rw [if_pos hi] at this
  exact this
theorem lows_length (T : Tab) : (lows T).length = 4 := rfl
theorem mem_lows {T : Tab} {n : Int} (h : n ∈ lows T) : ∃ i, i < 4 ∧ n = (T i).low := by
  unfold lows at h
  obtain ⟨i, hi, rfl⟩ := List.mem_map.1 h
  exact ⟨i, List.mem_range.1 hi, rfl⟩
theorem good_all {T : Tab} (h : T.Ok) : good (lows T) (all T) = true := by
  unfold good
  rw [lows_length]
  simp only [decide_true, Bool.true_and, Bool.and_eq_true, List.all_eq_true, List.mem_range]
  refine ⟨fun n hn => ?_, fun i hi => ?_⟩
  · obtain ⟨i, hi, rfl⟩ := mem_lows hn
    exact lowOk_iff.2 ⟨(h i).lo, (h i).hi⟩
  · have hm : ∀ j, j < (all T).length → (all T).getD j e0 ∈ all T := fun j hj => by
      rw [List.getD_eq_getElem?_getD, List.getElem?_eq_getElem hj]
      exact List.getElem_mem hj
    unfold goodB
    rw [Bool.and_eq_true]
    refine ⟨?_, ?_⟩
    · have hx := mem_allTo.1 (hm i hi)
      generalize (all T).getD i e0 = x at *
      have hs : x.src.toNat < 4 := by omega
      have o := h x.src.toNat
      have hn := o.near _ hx.2.2
      have hc := o.code _ hx.2.2
      refine rightE_iff.2 ⟨⟨hx.1, by omega⟩, hc, ?_, ?_⟩
      · rw [lowf_lows T hs]; exact hn.1
      · rw [lowf_lows T hs]; exact hn.2
    · rw [Bool.or_eq_true, decide_eq_true_eq]
      by_cases e : i = 0
      · exact .inl e
      · refine .inr ?_
        have hr := all_rise h
        rw [List.getD_eq_getElem?_getD, List.getElem?_eq_getElem (by omega), List.getD_eq_getElem?_getD, List.getElem?_eq_getElem hi]
        exact List.pairwise_iff_getElem.1 hr (i - 1) i (by omega) hi (by omega)
end Go.Proofs.YtigmhljaoicdbaaGreat.Sn

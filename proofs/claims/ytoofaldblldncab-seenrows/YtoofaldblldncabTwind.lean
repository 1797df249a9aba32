/- What a table's Twin does. No conditions. -/
import Derived.Test.YtoofaldblldncabAlld
namespace Go.Proofs.Ytoofaldblldncab
open Go.RowKit Go.Maps

theorem exec_store {P : Program} {op : Oper} {a : Go.Act} {w : World} (ty : TypeId) (x y : Operand) (ho : op.op = .store ty x y) (b o : Nat) (hx : a.eval x = .pointer (some ⟨b, o, none⟩)) (cells : Array Value) (hy : a.eval y = .agg cells)
    (ht : w.there b o cells.size) (hi : (P.info? ty).map (·.size) = some cells.size) (h1 : cells.all (·.oneCell') = true) : (execOp a.eval op).run P w = .ok .skip (w.setCells b o cells.toList) := by
  unfold execOp
  simp only [ho, hx, hy, Instr.storeAt, Instr.sureAddr, Sem.run_bind, Sem.run_pure, Result.andThen_ok, run_storeVar_mid w b o ty cells ht hi h1]
theorem clone_any {w : World} {m : Option Nat} {l : Codes} (h : MO w m l) : Calls Try.prog 12 #[.map m] w fun e w' => ∃ m', e = .returned (.map m') ∧ MO w' m' l ∧ Below w.heap.size w w' ∧ ∀ b, m' = some b → w.heap.size ≤ b := by
  rcases h with ⟨rfl, rfl⟩ | ⟨b, rfl, D, h, hD⟩
  · exact (AnyW.maps_Clone_nil (P := Try.prog) (ρ := cloneL_ren) cloneL w).mono fun e w' ⟨h1, h2⟩ => ⟨none, h1, .inl ⟨rfl, rfl⟩, by rw [h2]; exact Below.refl _ _, fun b e => by cases e⟩
  · exact (AnyW.maps_Clone_owns (P := Try.prog) (ρ := cloneL_ren) cloneL 3 _ b l.length D w h).mono fun e w' ⟨h1, h2, _, h4⟩ => ⟨_, h1, .inr ⟨_, rfl, D, h2, hD⟩, h4, fun b e => by cases e; exact Nat.le_refl _⟩
/-- A table whose first k sources are T's. -/
def twinTo (T : Tab) (k : Nat) : Tab := fun i => if i < k then T i else ⟨1, []⟩
theorem twinTo_zero (T : Tab) : twinTo T 0 = new_ := by funext i; rfl
theorem twinTo_succ (T : Tab) (k : Nat) : twinTo T (k + 1) = upd (twinTo T k) k (T k) := by
  funext i
  unfold twinTo upd
  by_cases e : i = k
  · subst e; rw [if_pos (by omega), if_pos rfl]
  · rw [if_neg e]
    show (if i < k + 1 then T i else ⟨1, []⟩) = if i < k then T i else ⟨1, []⟩
    by_cases h : i < k
    · rw [if_pos h, if_pos (by omega)]
    · rw [if_neg h, if_neg (by omega)]
theorem TIs.congr {w : World} {p : Nat} {F : Nat → Prop} {T U : Tab} (h : TIs w p F T) (e : ∀ i, i < 4 → T i = U i) : TIs w p F U := by
  obtain ⟨M, h, rfl⟩ := h
  exact ⟨M, ⟨fun i hi => by rw [← e i hi]; exact h.src i hi, h.apart⟩, rfl⟩
/-- A source set whole. -/
theorem set_src {w : World} {B o : Nat} {m m' : Option Nat} {s s' : Src} (h : SrcAt w B o m s) (hm : MO w m' s'.codes) (hf : s'.Fine) (hne : m' ≠ some B) :
    SrcAt (w.setCells B o [.int .i64 (s'.low - 1), .map m']) B o m' s' ∧ Others w (w.setCells B o [.int .i64 (s'.low - 1), .map m']) B o ∧ Moved (fun k => k = B) w (w.setCells B o [.int .i64 (s'.low - 1), .map m']) := by
  have mv := setCells_moved w B o [.int .i64 (s'.low - 1), .map m']
  have ht : w.there B o 2 := fun j hj => by
    match j, hj with
    | 0, _ => exact ⟨by rw [Nat.add_zero, h.c0]; rfl, h.f0⟩
    | 1, _ => exact ⟨by rw [h.c1]; rfl, h.f1⟩
  have hr := World.rangeAt_setCells_same w B o [.int .i64 (s'.low - 1), .map m'] ht
  refine ⟨⟨hr 0 _ rfl, hr 1 _ rfl, ?_, ?_, hm.keep fun b e => mv.block b (hm.lt b e) (fun e' => hne (by rw [e, e'])), hf⟩, ?_, mv⟩
  · rw [World.frozen?_setCells]; exact h.f0
  · rw [World.frozen?_setCells]; exact h.f1
  · exact Others.trans (b := w.setCell ⟨B, o, none⟩ (.int .i64 (s'.low - 1))) (Others.setCell (.inl rfl) _) (Others.setCell (.inr rfl) _)
theorem foot_none (B : Nat) : ∀ i, foot B (fun _ => none) i → B ≤ i := fun i f => by
  rcases f with rfl | ⟨_, _, e⟩
  · exact Nat.le_refl _
  · cases e
theorem twin_nil (w : World) : Calls Try.prog 7 #[.pointer none] w fun e w' => e = .returned (.pointer none) ∧ w' = w := by
  go_enter Try.func7, Try.ntmps7
  go_wp2
  go_ret
  exact ⟨rfl, rfl⟩
set_option maxRecDepth 100000 in
set_option maxHeartbeats 4000000 in
theorem twin_any {w : World} {p : Nat} {F : Nat → Prop} {T : Tab} (h : TIs w p F T) :
    Calls Try.prog 7 #[.pointer (some ⟨p, 0, none⟩)] w fun e w' => ∃ q F', e = .returned (.pointer (some ⟨q, 0, none⟩)) ∧ TIs w' q F' T ∧ (∀ k, F' k → w.heap.size ≤ k) ∧ Below w.heap.size w w' := by
  obtain ⟨M, hA, _⟩ := h
  have hpl := hA.plt
  have HR := hide hA.range
  have HF : Hid (∀ k, k < 4 → (T k).Fine) := hide (fun k hk => (hA.src k hk).fine)
  have HM : Hid (∀ k, k < 4 → ∀ v, Below w.heap.size w v → MO v (M k) (T k).codes) := hide (fun k hk v hb => (hA.src k hk).mo.keep fun b e => hb.block b ((hA.src k hk).mo.lt b e))
  obtain ⟨B, hB⟩ : ∃ B, B = w.heap.size := ⟨_, rfl⟩
  rw [← hB] at HM
  have HB := hide hB
  clear hA
  go_enter Try.func7, Try.ntmps7
  go_wp2_with fail
  refine (new_any w).mono ?_
  rintro e w1 ⟨rfl, hb1, ht1⟩
  rw [← hB] at hb1 ht1 ⊢
  have RG : Hid (w1.rangeAt p 0 (cells8 M T)) := hide fun j v hv => (hb1.cell (p := ⟨p, 0 + j, none⟩) (by rw [hB]; exact hpl)).trans (unhide HR j v hv)
  have START : Hid (TIs w1 B (foot B fun _ => none) (twinTo T 0) ∧ (∀ i, foot B (fun _ => none) i → B ≤ i) ∧ Below B w w1) := hide ⟨by rw [twinTo_zero]; exact ht1, foot_none B, hb1⟩
  clear hb1 ht1 hB hpl
  go_wp2_with (refine wpList_load_on rfl 40 (.tmp 11) rfl p 0 rfl (cells8 M T) _ (unhide RG) Try.underlying40 rfl (by kernel_rfl) ?_)
  go_loopw [13] (fun i wr => ∃ (k : Nat) (F' : Nat → Prop), i = .int .i64 (k : Int) ∧ k ≤ 4 ∧ TIs wr B F' (twinTo T k) ∧ (∀ i, F' i → B ≤ i) ∧ Below B w wr) (fun i _ => 4 - (intOf i).toNat)
  case atStart => exact ⟨0, _, rfl, by decide, unhide START⟩
  case round =>
    obtain ⟨k, F', rfl, hk, hti, hF', hbl⟩ := hrel
    clear START
    have hbz : B ≤ wr.heap.size := by rw [unhide HB]; exact hbl.size
    by_cases hlt : k < 4
    · have g0 : (0 : Int) ≤ (k : Int) := by omega
      have g1 : (k : Int) < 4 := by omega
      have hwk : IntKind.i64.wrap ((k : Int) + 1) = (k : Int) + 1 := Go.IntWalk.i64_in _ (by omega)
      have ix := fun W => idx61 M T hlt W
      obtain ⟨W1, hW1⟩ : ∃ W1, W1 = wr.alloc (.cells #[.int .i64 ((T k).low - 1), .map (M k)] 39) := ⟨_, rfl⟩
      obtain ⟨H, hH⟩ : ∃ H, H = wr.heap.size := ⟨_, rfl⟩
      have b1 : Below wr.heap.size wr W1 := by rw [hW1]; exact (Below.refl _ _).alloc (Nat.le_refl _) _
      have bw1 : Below B w W1 := hbl.trans (b1.mono hbz)
      have hs1 : W1.heap.size = H + 1 := by rw [hW1, hH]; simp
      have t1 : TIs W1 B F' (twinTo T k) := hti.keep (Moved.of_below (F := fun _ => False) b1) (fun _ f => f.elim)
      obtain ⟨CL, hCL⟩ : ∃ CL : World → Prop, CL = fun v => Moved (fun i => i = B) W1 v := ⟨_, rfl⟩
      have hBH : ¬ H = B := by have := hti.lt B hti.self; omega
      have un : ∀ v, CL v → Moved (fun i => i = B) W1 v := fun v k => by rw [hCL] at k; exact k
      have base : CL W1.drew := by rw [hCL]; exact (Moved.refl _ _).drew
      have c0 : W1.cell? ⟨H, 0, none⟩ = some (.int .i64 ((T k).low - 1)) := by rw [hW1, hH, World.cell?_alloc_new]; rfl
      have c1 : W1.cell? ⟨H, 1, none⟩ = some (.map (M k)) := by rw [hW1, hH, World.cell?_alloc_new]; rfl
      have q0 : ∀ q : SW CL, q.w.cell? ⟨H, 0, none⟩ = some (.int .i64 ((T k).low - 1)) := fun q => ((un _ q.ok).cell (p := ⟨H, 0, none⟩) (by show H < _; omega) hBH).trans c0
      have q1 : ∀ q : SW CL, q.w.cell? ⟨H, 1, none⟩ = some (.map (M k)) := fun q => ((un _ q.ok).cell (p := ⟨H, 1, none⟩) (by show H < _; omega) hBH).trans c1
      have CC := hide (clone_any (w := W1.drew) (unhide HM k hlt W1.drew bw1.drew))
      have CLH : Hid (∀ v, Below W1.drew.heap.size W1.drew v → CL v) := hide fun v hb => by
        rw [hCL]
        exact ⟨hb.os, hb.tape, hb.output, hb.size, fun k hk _ => hb.block k hk⟩
      have CLS : Hid (∀ v, CL v → CL (v.setCells B (k * 2) [.int .i64 ((T k).low - 1), .map none]) ∧ ∀ m', CL (v.setCells B (k * 2) [.int .i64 ((T k).low - 1), .map m'])) := hide fun v hv => by
        rw [hCL] at hv ⊢
        exact ⟨hv.trans (setCells_moved v B (k * 2) _) (fun i e => .inl e), fun m' => hv.trans (setCells_moved v B (k * 2) _) (fun i e => .inl e)⟩
      have FIN : Hid (∀ v m', MO v m' (T k).codes → Below W1.drew.heap.size W1.drew v → (∀ b, m' = some b → W1.drew.heap.size ≤ b) →
          v.there B (k * 2) 2 ∧ ∃ F'', TIs (v.setCells B (k * 2) [.int .i64 ((T k).low - 1), .map m']) B F'' (twinTo T (k + 1)) ∧ (∀ i, F'' i → B ≤ i) ∧ Below B w (v.setCells B (k * 2) [.int .i64 ((T k).low - 1), .map m'])) := hide fun v m' hm hb hnew => by
        have hb' : Below W1.heap.size W1 v := ⟨hb.os, hb.tape, hb.output, hb.size, hb.block⟩
        have tv : TIs v B F' (twinTo T k) := t1.keep (Moved.of_below (F := fun _ => False) hb') (fun _ f => f.elim)
        have hBv : B < v.heap.size := tv.lt B tv.self
        have hne : m' ≠ some B := fun e => by
          have h1 := hnew B e
          have h2 := t1.lt B t1.self
          have h3 : W1.heap.size ≤ B := h1
          omega
        obtain ⟨M2, ta, hF2⟩ := id tv
        have sa := ta.src k hlt
        refine ⟨fun j hj => ?_, ?_⟩
        · match j, hj with
          | 0, _ => exact ⟨by rw [Nat.add_zero, sa.c0]; rfl, sa.f0⟩
          | 1, _ => exact ⟨by rw [sa.c1]; rfl, sa.f1⟩
        · obtain ⟨s1, s2, s3⟩ := set_src sa hm (unhide HF k hlt) hne
          have D : Did W1 (v.setCells B (k * 2) [.int .i64 ((T k).low - 1), .map m']) B F' (twinTo T (k + 1)) := by
            rw [twinTo_succ]
            have hB1 : B < W1.heap.size := t1.lt B t1.self
            exact t1.step hlt fun m hm0 => ⟨m', ⟨s1, fun b e => .inr (hnew b e), ((Moved.of_below (F := SFoot B m) hb').trans (s3.mono (G := SFoot B m) (fun i e => .inl (.inl e))) (fun i e => .inl e)), Others.trans (Others.of_block (hb'.block B hB1)) s2⟩⟩
          obtain ⟨F3, d1, d2, d3⟩ := D
          refine ⟨F3, d1, fun i hi => ?_, (bw1.trans (hb'.mono (by omega))).trans (s3.below (fun i e => by rw [e]; exact Nat.le_refl _) (by omega))⟩
          rcases d2 i hi with h | h
          · exact hF' i h
          · have := bw1.size; omega
      have HW1 := hide hW1
      have HH := hide hH
      have BS := hide base
      clear hti hF' hbl b1 bw1 hW1 hH t1 hCL un base c0 c1 hs1 hBH
      go_upto_region 7 with fail
      rw [← unhide HH, ← unhide HW1]
      refine wp_region_chain (S := CL) [true, true, true, true, true, true, false, false, true, true, false, false] [false, false, false, false, false, false, true, true, false, false, true, true] (by kernel_rfl) (by kernel_rfl) (by kernel_rfl) (unhide BS) ?_
      apply Exists.intro
      apply And.intro
      · intro q
        have n0 : Nonempty (SK CL q.w) := ⟨⟨q, rfl⟩⟩
        simp only [pickM]
        repeat (go_big_quiet_step (fail))
        exact wpQuiet_nil rfl
      · simp only [pickZ]
        refine chain_call 12 #[.map (M k)] rfl (by simp [go_sem]) ?_
        refine (unhide CC).mono ?_
        rintro e v ⟨m', rfl, hm, hb, hnew⟩
        refine ⟨_, rfl, unhide CLH v hb, ?_⟩
        have F := hide (unhide FIN v m' hm hb hnew)
        have HBV := hide (unhide CLH v hb)
        clear hm hb hnew q0 q1 CC FIN
        refine chain_step (.agg #[.int .i64 ((T k).low - 1), .map m']) v rfl (by simp [go_sem]) (unhide HBV) ?_
        refine chain_step (.pointer (some ⟨B, k * 2, none⟩)) v rfl (by simp [go_sem, g0, g1]) (unhide HBV) ?_
        refine chain_skip _ rfl (exec_store 39 (.tmp 27) (.tmp 24) rfl B (k * 2) rfl #[.int .i64 ((T k).low - 1), .map m'] rfl (unhide F).1 (by kernel_rfl) (by simp [Value.oneCell'])) ((unhide CLS v (unhide HBV)).2 m') ?_
        simp only [chainM]
        obtain ⟨F'', hF''⟩ := (unhide F).2
        have HF2 := hide hF''
        clear hF'' F
        go_simp
        go_wp2_with fail
        exact ⟨⟨k + 1, F'', rfl, by omega, unhide HF2⟩, by simp [intOf]; omega⟩
    · have hk4 : k = 4 := by omega
      subst hk4
      have REL := hide (⟨hti.congr (U := T) (fun i hi => if_pos hi), hF', hbl⟩ : TIs wr B F' T ∧ (∀ i, F' i → B ≤ i) ∧ Below B w wr)
      clear hti hF' hbl
      go_wp2_with fail
      go_ret
      exact ⟨B, F', rfl, (unhide REL).1, fun i hi => by rw [← unhide HB]; exact (unhide REL).2.1 i hi, by rw [← unhide HB]; exact (unhide REL).2.2⟩
end Go.Proofs.Ytoofaldblldncab

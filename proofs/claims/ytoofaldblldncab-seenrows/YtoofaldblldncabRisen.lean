/- What a source's rise does: its low mark rises, codes below it are forgotten. Conditions: numbers are a machine's. -/
import Derived.Test.YtoofaldblldncabKeep
namespace Go.Proofs.Ytoofaldblldncab
open Go.RowKit Go.Maps

/-- What is left of codes while they are gone through. -/
def stay (low : Int) (left : Lit → Bool) (l : Codes) : Codes := l.filter fun a => decide (low ≤ a.1) || left (kz a.1)
theorem stay_start {D : DataW Unit} {l : Codes} (h : DIs D l) (hr : Rise l) (low : Int) : stay low (has D) l = l := List.filter_eq_self.2 fun a ha => by
  rw [dis_has h, look_mem hr ha]; simp
theorem stay_end (low : Int) {left : Lit → Bool} (l : Codes) (h : ∀ q, left q = false) : stay low left l = l.filter fun a => decide (low ≤ a.1) := by
  unfold stay
  exact List.filter_congr fun a _ => by rw [h]; simp
theorem stay_keep {low : Int} {left : Lit → Bool} {l : Codes} {q : Int} (h : low ≤ q) : stay low (fun z => left z && !z.sameKey (kz q)) l = stay low left l := by
  unfold stay
  refine List.filter_congr fun a _ => ?_
  dsimp only
  rw [same_kz]
  by_cases e : a.1 = q
  · rw [e, decide_eq_true h]; simp
  · rw [decide_eq_false e]; simp
theorem stay_drop {low : Int} {left : Lit → Bool} {l : Codes} {q : Int} (h : q < low) : (stay low left l).filter (fun a => !decide (a.1 = q)) = stay low (fun z => left z && !z.sameKey (kz q)) l := by
  unfold stay
  rw [List.filter_filter]
  refine List.filter_congr fun a _ => ?_
  dsimp only
  rw [same_kz]
  by_cases e : a.1 = q
  · rw [e, decide_eq_false (show ¬ low ≤ q by omega)]; simp
  · rw [decide_eq_false e]; simp

theorem rise_low {w : World} {B o : Nat} {m : Option Nat} {s : Src} (h : SrcAt w B o m s) {low : Int} (hl : low ≤ s.low) :
    Calls Try.prog 15 #[.pointer (some ⟨B, o, none⟩), .int .i64 low] w fun e w' => e = .returned (.tuple #[]) ∧ w' = w := by
  have hlow := h.low
  clear h
  go_enter Try.func15, Try.ntmps15
  go_wp2_with fail
  refine hlow.mono ?_
  rintro e w' ⟨rfl, hw'⟩
  rw [hw']
  go_wp2_with fail
  refine bodyPost_ret (v := .tuple #[]) (by simp [results, Try.results15, go_sem]) rfl ⟨rfl, rfl⟩
/-- The source's low mark is set. -/
theorem set_low {w : World} {B o : Nat} {m : Option Nat} {s : Src} (h : SrcAt w B o m s) {low : Int} (h1 : 1 ≤ low) (h2 : low ≤ 1099511627776) :
    SDid w (w.setCell ⟨B, o, none⟩ (.int .i64 (low - 1))) B o m ⟨low, s.codes⟩ m := by
  have mv : Moved (fun k => k = B) w (w.setCell ⟨B, o, none⟩ (.int .i64 (low - 1))) := (Moved.refl (fun k => k = B) w).setCell (p := ⟨B, o, none⟩) (.inl rfl) _
  have hne : ∀ b, m = some b → b ≠ B := fun b e e' => h.ne (by rw [e, e'])
  refine ⟨⟨?_, ?_, ?_, ?_, ?_, ⟨h1, h2, h.fine.rise, h.fine.num, h.fine.code, h.fine.len⟩⟩, fun b e => .inl e, mv.mono fun k e => .inl (.inl e), Others.setCell (.inl rfl) _⟩
  · rw [World.cell?_setCell_same (h := h.c0)]
  · rw [World.cell?_setCell_other (h := fun e => by have := congrArg Addr.off e; simp only at this; omega)]; exact h.c1
  · rw [World.frozen?_setCell]; exact h.f0
  · rw [World.frozen?_setCell]; exact h.f1
  · exact h.mo.keep fun b e => Below.heap_setCell _ _ _ _ (hne b e)
theorem SDid.trans {a b c : World} {B o : Nat} {m m' m'' : Option Nat} {s s' : Src} (h : SDid a b B o m s m') (k : SDid b c B o m' s' m'') : SDid a c B o m s' m'' :=
  ⟨k.at_, fun x e => by
    rcases k.new_ x e with e | e
    · exact h.new_ x e
    · exact .inr (Nat.le_trans h.moved.size e), h.moved.trans k.moved fun i e => by
    rcases e with e | e
    · exact .inl (.inl e)
    · rcases h.new_ i e with e | e
      · exact .inl (.inr e)
      · exact .inr e, h.others.trans k.others⟩
set_option maxRecDepth 100000 in
set_option maxHeartbeats 2000000 in
theorem rise_nil {w : World} {B o : Nat} {s : Src} (h : SrcAt w B o none s) {low : Int} (hl : ¬ low ≤ s.low) (h2 : low ≤ 1099511627776) :
    Calls Try.prog 15 #[.pointer (some ⟨B, o, none⟩), .int .i64 low] w fun e w' => e = .returned (.tuple #[]) ∧ SDid w w' B o none ⟨low, s.codes⟩ none := by
  have hlow := h.low
  have h1 := h.fine.lo
  have hw1 : IntKind.i64.wrap (low - 1) = low - 1 := Go.IntWalk.i64_in _ (by omega)
  obtain ⟨W, hW⟩ : ∃ W, W = w.setCell ⟨B, o, none⟩ (.int .i64 (low - 1)) := ⟨_, rfl⟩
  have D1 := set_low h (by omega) h2
  rw [← hW] at D1
  have c0 := h.c0
  have f0 := h.f0
  have d1 := D1.at_.c1
  have hrun := fun W => run_range_nilMap W 37 3 3 Try.underlying37
  have hnx := fun W => @run_next_nilMap Try.prog W
  have HD := hide D1
  have HA := hide (fun (V : World) (hb : Below W.heap.size W V) => (D1.trans ⟨D1.at_.keep (Moved.of_below (F := fun _ => False) hb) id (fun _ _ => id), fun b e => .inl e, (Moved.of_below (F := fun _ => False) hb).mono fun _ f => f.elim, Others.of_block (hb.block B D1.at_.lt)⟩ : SDid w V B o none ⟨low, s.codes⟩ none))
  have HW := hide hW
  clear h D1 hW
  go_enter Try.func15, Try.ntmps15
  go_wp2_with fail
  refine hlow.mono ?_
  rintro e w' ⟨rfl, hw'⟩
  rw [hw']
  clear hlow
  go_upto_region 2 with fail
  rw [← unhide HW]
  go_wp2_with fail
  refine wp_loop_rounds 1 ?_
  rw [rounds_succ]
  go_wp2_with fail
  go_end0
  exact ⟨rfl, unhide HA _ ((Below.refl _ _).alloc (Nat.le_refl _) _)⟩
theorem grown_moved {F : Nat → Prop} {a b c : World} {row : Option Nat} (h : Moved F a b) (hg : b.grownBy c row) (hr : ∀ k, row = some k → F k ∨ a.heap.size ≤ k) : Moved F a c := h.grown hg hr
set_option maxRecDepth 100000 in
set_option maxHeartbeats 2000000 in
theorem rise_some {w : World} {B o b : Nat} {s : Src} (h : SrcAt w B o (some b) s) {low : Int} (hl : ¬ low ≤ s.low) (h2 : low ≤ 1099511627776) :
    Calls Try.prog 15 #[.pointer (some ⟨B, o, none⟩), .int .i64 low] w fun e w' => e = .returned (.tuple #[]) ∧ SDid w w' B o (some b) ⟨low, s.codes.filter (fun a => decide (low ≤ a.1))⟩ (some b) := by
  have hlow := h.low
  have h1 := h.fine.lo
  have hw1 : IntKind.i64.wrap (low - 1) = low - 1 := Go.IntWalk.i64_in _ (by omega)
  obtain ⟨W, hW⟩ : ∃ W, W = w.setCell ⟨B, o, none⟩ (.int .i64 (low - 1)) := ⟨_, rfl⟩
  have D1 := set_low h (by omega) h2
  rw [← hW] at D1
  obtain ⟨D, ho, hD⟩ : ∃ D : DataW Unit, W.ownsMap Try.prog 3 (plainElem Try.prog 3) b s.codes.length D ∧ DIs D s.codes := by
    rcases D1.at_.mo with ⟨h0, _⟩ | ⟨b', h0, hm⟩
    · cases h0
    · cases h0; exact hm
  have hbB : b ≠ B := fun e => D1.at_.ne (by rw [e])
  have hr := h.fine.rise
  obtain ⟨w0, hrun, hrg, hg, hs⟩ := ho.range key3 Try.underlying37
  obtain ⟨r, hre⟩ : ∃ r, r = W.heap.size := ⟨_, rfl⟩
  rw [← hre] at hrun hrg
  have c0 := h.c0
  have f0 := h.f0
  have d1 := D1.at_.c1
  have hBr : B < r := by rw [hre]; exact D1.at_.lt
  have hbr : b < r := by rw [hre]; exact ho.lt
  have m0 : Moved (SFoot B (some b)) W w0 := (Moved.refl _ _).grown hg (fun k e => by cases e)
  have o0 : Others W w0 B o := Others.of_block (hg.block B (by omega) (by simp))
  have START : Hid (w0.ranges Try.prog 3 (plainElem Try.prog 3) b r s.codes.length D (has D) (size D) ∧ DIs D (stay low (has D) s.codes) ∧ Moved (SFoot B (some b)) W w0 ∧ w0.heap[B]? = W.heap[B]?) :=
    hide ⟨hrg, by rw [stay_start hD hr]; exact hD, m0, hg.block B (by omega) (by simp)⟩
  have HD := hide D1
  have HW := hide hW
  have HR := hide hr
  have HNE := hide hbB
  have HBr := hide hBr
  have Hbr := hide hbr
  have HRE := hide hre
  have HL := hide hl
  clear h D1 hW hrg hg hs ho hD m0 o0 hbB hBr hbr hre
  go_enter Try.func15, Try.ntmps15
  go_wp2_with fail
  refine hlow.mono ?_
  rintro e w' ⟨rfl, hw'⟩
  rw [hw']
  clear hlow
  go_upto_region 2 with fail
  rw [← unhide HW]
  go_wp2_with fail
  clear hrun
  go_loopw [4] (fun _ wr => ∃ (left : Lit → Bool) (cnt : Nat) (D : DataW Unit), wr.ranges Try.prog 3 (plainElem Try.prog 3) b r s.codes.length D left cnt ∧ DIs D (stay low left s.codes) ∧ Moved (SFoot B (some b)) W wr ∧ wr.heap[B]? = W.heap[B]?) (fun _ wr => wr.rangeLeft b r)
  case atStart => exact ⟨_, _, _, unhide START⟩
  case round =>
    obtain ⟨left, cnt, D', hrg, hdi, hmv, hbk⟩ := hrel
    clear START
    have HRG := hide hrg
    have HDI := hide hdi
    have HMV := hide hmv
    have HBK := hide hbk
    have hd1 : wr.cell? ⟨B, o + 1, none⟩ = some (.map (some b)) := (World.cell?_of_block (w := W) hbk).trans d1
    clear hrg hdi hmv hbk
    rcases (unhide HRG).next key3 0 with ⟨_, hl0, hnx⟩ | ⟨key, v, kl, y, w2, cnt2, hkey, hlk, hv, hat, hnx, hrg2, hlt, hg2, hs2, hen⟩
    · have HE := hide hl0
      clear hl0
      go_wp2_with fail
      go_end0
      have hst := stay_end low s.codes (unhide HE)
      have hdi := unhide HDI
      rw [hst] at hdi
      have D1 := unhide HD
      have ow := (unhide HRG).owns
      have mv := unhide HMV
      have hbk := unhide HBK
      refine ⟨rfl, D1.trans ⟨⟨(World.cell?_of_block (w := W) hbk).trans D1.at_.c0, (World.cell?_of_block (w := W) hbk).trans D1.at_.c1, (World.frozen?_of_block (w := W) hbk).trans D1.at_.f0, (World.frozen?_of_block (w := W) hbk).trans D1.at_.f1, .inr ⟨b, rfl, MIs.of ow hdi⟩, ?_⟩, fun b e => .inl e, mv, Others.of_block hbk⟩⟩
      have F := D1.at_.fine
      exact ⟨F.lo, F.hi, filter_rise F.rise _, fun a ha => F.num a (List.mem_filter.1 ha).1, fun a ha => F.code a (List.mem_filter.1 ha).1, Nat.le_trans (List.length_filter_le _ _) F.len⟩
    · obtain ⟨q, rfl, rfl, hwf⟩ := keyOf_int_inv Try.underlying3 hkey
      obtain ⟨c, rfl, _⟩ := plainElem_int_inv Try.underlying3 hv
      have M2 : Moved (SFoot B (some b)) W w2 := (unhide HMV).grown hg2 (fun k e => by cases e; exact .inr (by have := unhide HRE; omega))
      have hbk2 : w2.heap[B]? = W.heap[B]? := (hg2.block B (by have := unhide HBr; have := (unhide HRG).lt; omega) (by have := unhide HBr; simp; omega)).trans (unhide HBK)
      have hd2 : w2.cell? ⟨B, o + 1, none⟩ = some (.map (some b)) := (World.cell?_of_block (w := W) hbk2).trans d1
      have LF := hide (unhide HRG).left_eq
      have HCNT := hide hlt
      by_cases hq : q < low
      · obtain ⟨w3, cnt3, hdel, hrg3, hle, hT⟩ := hrg2.drop key3 Try.underlying37 (keyOf_int_mk Try.underlying3 hwf) 0
        rw [strike_twice] at hrg3
        have mv3 := turned_moved hT
        have hB2 : B < w2.heap.size := by have := unhide HBr; have := hrg2.lt; omega
        have hd3 := dis_del (unhide HDI) q
        rw [stay_drop hq] at hd3
        have REL := hide (⟨hrg3, hd3, M2.trans mv3 (fun i e => .inl (.inr (by rw [e]))), (mv3.block B hB2 (fun e => unhide HNE e.symm)).trans hbk2⟩ : w3.ranges Try.prog 3 (plainElem Try.prog 3) b r s.codes.length (D'.del (kz q)) (fun z => left z && !z.sameKey (kz q)) cnt3 ∧ DIs (D'.del (kz q)) (stay low (fun z => left z && !z.sameKey (kz q)) s.codes) ∧ Moved (SFoot B (some b)) W w3 ∧ w3.heap[B]? = W.heap[B]?)
        have L3 := hide hrg3.left_eq
        have HLE := hide hle
        clear hkey hlk hv hat hrg2 hg2 hs2 hwf hrg3 hle hT mv3 hd3 M2 hbk2 hB2
        go_wp2_with fail
        exact ⟨⟨_, _, _, unhide REL⟩, by rw [unhide L3, unhide LF]; have := unhide HCNT; have := unhide HLE; omega⟩
      · have hd3 : DIs D' (stay low (fun z => left z && !z.sameKey (kz q)) s.codes) := by rw [stay_keep (by omega)]; exact unhide HDI
        have REL := hide (⟨hrg2, hd3, M2, hbk2⟩ : w2.ranges Try.prog 3 (plainElem Try.prog 3) b r s.codes.length D' (fun z => left z && !z.sameKey (kz q)) cnt2 ∧ DIs D' (stay low (fun z => left z && !z.sameKey (kz q)) s.codes) ∧ Moved (SFoot B (some b)) W w2 ∧ w2.heap[B]? = W.heap[B]?)
        have L2 := hide hrg2.left_eq
        clear hkey hlk hv hat hrg2 hg2 hs2 hwf hd3 M2 hbk2
        go_wp2_with fail
        exact ⟨⟨_, _, _, unhide REL⟩, by rw [unhide L2, unhide LF]; exact unhide HCNT⟩
theorem rise_any {w : World} {B o : Nat} {m : Option Nat} {s : Src} (h : SrcAt w B o m s) {low : Int} (h2 : low ≤ 1099511627776) :
    Calls Try.prog 15 #[.pointer (some ⟨B, o, none⟩), .int .i64 low] w fun e w' => e = .returned (.tuple #[]) ∧ SDid w w' B o m (s.rise_ low) m := by
  unfold Src.rise_
  by_cases hl : low ≤ s.low
  · rw [if_pos hl]
    exact (rise_low h hl).mono fun e w' ⟨h1, hw⟩ => ⟨h1, by rw [hw]; exact ⟨h, fun b e => .inl e, Moved.refl _ _, Others.refl _ _ _⟩⟩
  · rw [if_neg hl]
    cases m with
    | none =>
      have h0 : s.codes = [] := by
        rcases h.mo with ⟨_, h0⟩ | ⟨b', h0, _⟩
        · exact h0
        · cases h0
      have := rise_nil h hl h2
      rw [h0] at this ⊢
      exact this
    | some b => exact rise_some h hl h2
end Go.Proofs.Ytoofaldblldncab

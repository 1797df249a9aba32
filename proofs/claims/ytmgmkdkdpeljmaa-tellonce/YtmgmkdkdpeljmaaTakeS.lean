/- What the store's Take does. Conditions: the store has at most 1000 windows; its keys are no longer than a machine's texts. -/
import Derived.Test.YtmgmkdkdpeljmaaAllS
namespace Go.Proofs.Ytmgmkdkdpeljmaa
open Go.RowKit Go.Maps

/-- What is left, and what was over, behind the first j of a row. -/
def leftT (m : Int) (l : List (Win AggV)) (j : Nat) : List (Win AggV) := (l.take j).filter (fun a => !Sp.overI a.start m) ++ l.drop j
def overT (m : Int) (l : List (Win AggV)) (j : Nat) : List (Win AggV) := (l.take j).filter (fun a => Sp.overI a.start m)
theorem leftT_zero (m : Int) (l : List (Win AggV)) : leftT m l 0 = l := by simp [leftT]
theorem leftT_end (m : Int) (l : List (Win AggV)) : leftT m l l.length = (takeS SO l m).1 := by simp [leftT, takeS, SO]
theorem overT_end (m : Int) (l : List (Win AggV)) : overT m l l.length = (takeS SO l m).2 := by simp [overT, takeS, SO]
theorem overT_len (m : Int) (l : List (Win AggV)) (j : Nat) : (overT m l j).length ≤ l.length := by
  unfold overT
  have h1 := List.length_filter_le (fun a : Win AggV => Sp.overI a.start m) (l.take j)
  have h2 : (l.take j).length ≤ l.length := by rw [List.length_take]; omega
  omega
theorem overT_yes {m : Int} {l : List (Win AggV)} {j : Nat} {x : Win AggV} (hx : l[j]? = some x) (h : Sp.overI x.start m = true) : overT m l (j + 1) = overT m l j ++ [x] := by
  obtain ⟨hj, rfl⟩ := List.getElem?_eq_some_iff.1 hx
  unfold overT
  rw [List.take_succ_eq_append_getElem hj, List.filter_append]
  simp [h]
theorem overT_no {m : Int} {l : List (Win AggV)} {j : Nat} {x : Win AggV} (hx : l[j]? = some x) (h : Sp.overI x.start m = false) : overT m l (j + 1) = overT m l j := by
  obtain ⟨hj, rfl⟩ := List.getElem?_eq_some_iff.1 hx
  unfold overT
  rw [List.take_succ_eq_append_getElem hj, List.filter_append]
  simp [h]
theorem leftT_no {m : Int} {l : List (Win AggV)} {j : Nat} {x : Win AggV} (hx : l[j]? = some x) (h : Sp.overI x.start m = false) : leftT m l (j + 1) = leftT m l j := by
  obtain ⟨hj, rfl⟩ := List.getElem?_eq_some_iff.1 hx
  unfold leftT
  rw [List.take_succ_eq_append_getElem hj, List.filter_append, List.drop_eq_getElem_cons hj]
  simp [h]
theorem leftT_yes {m : Int} {l : List (Win AggV)} (hr : Rise l) {j : Nat} {x : Win AggV} (hx : l[j]? = some x) (h : Sp.overI x.start m = true) : (leftT m l j).filter (fun a => !decide (at_ x.key x.start a)) = leftT m l (j + 1) := by
  obtain ⟨hj, rfl⟩ := List.getElem?_eq_some_iff.1 hx
  have hsplit : l = l.take j ++ l[j] :: l.drop (j + 1) := by rw [← List.drop_eq_getElem_cons hj, List.take_append_drop]
  have hr' := hr
  rw [hsplit] at hr'
  obtain ⟨_, r2, r3⟩ := List.pairwise_append.1 hr'
  obtain ⟨r4, _⟩ := List.pairwise_cons.1 r2
  unfold leftT
  rw [List.take_succ_eq_append_getElem hj, List.filter_append, List.filter_append, List.drop_eq_getElem_cons hj]
  have e1 : ((l.take j).filter (fun a => !Sp.overI a.start m)).filter (fun a => !decide (at_ l[j].key l[j].start a)) = (l.take j).filter (fun a => !Sp.overI a.start m) := List.filter_eq_self.2 fun a ha => by
    have := ahead_not (r3 a (List.mem_filter.1 ha).1 l[j] List.mem_cons_self)
    simp [this]
  have e2 : (l.drop (j + 1)).filter (fun a => !decide (at_ l[j].key l[j].start a)) = l.drop (j + 1) := List.filter_eq_self.2 fun a ha => by
    have h0 := ahead_not (r4 a ha)
    have : ¬ at_ l[j].key l[j].start a := fun k => h0 ⟨k.1.symm, k.2.symm⟩
    simp [this]
  rw [e1, List.filter_cons, if_neg (by simp [at_]), e2]
  simp [h]
theorem leftT_sub {m : Int} {l : List (Win AggV)} {j : Nat} : ∀ a ∈ leftT m l j, a ∈ l := fun a ha => by
  rcases List.mem_append.1 ha with h | h
  · exact List.mem_of_mem_take (List.mem_filter.1 h).1
  · exact List.mem_of_mem_drop h
theorem take_nil (m : Int) (w : World) : Calls Try.prog 35 #[.pointer none, .int .i64 m] w fun e w' => e = .returned (.slice none 0 0) ∧ w' = w := by
  go_enter Try.func35, Try.ntmps35
  go_wp2_with fail
  refine (all_nil w).mono ?_
  rintro e w' ⟨rfl, hw⟩
  rw [hw]
  go_wp2_with fail
  refine wp_loop_rounds 1 ?_
  rw [rounds_succ]
  go_wp2
  go_ret
  exact ⟨rfl, rfl⟩
set_option maxRecDepth 100000 in
set_option maxHeartbeats 4000000 in
theorem take_any {w : World} {p : Nat} {F : Nat → Prop} {l : List (Win AggV)} (h : StIs w p F l) (hl : l.length ≤ 1000) (m : Int) :
    Calls Try.prog 35 #[.pointer (some ⟨p, 0, none⟩), .int .i64 m] w fun e w' => ∃ a cp, e = .returned (.slice a (takeS SO l m).2.length cp) ∧ OutK.Row w' w.heap.size a cp (takeS SO l m).2 ∧ StIs w' p F (takeS SO l m).1 ∧ Moved F w w' := by
  obtain ⟨mp, hS, hF⟩ := id h
  have hr := hide hS.fine.rise
  have hok := hide hS.fine.oks
  have FL : ∀ i, F i → i < w.heap.size := h.lt
  go_enter Try.func35, Try.ntmps35
  go_wp2_with fail
  refine (all_any h hl).mono ?_
  rintro e v0 ⟨al, cl, rfl, hrow, hb⟩
  obtain ⟨B1, hB1⟩ : ∃ B1, B1 = v0.heap.size := ⟨_, rfl⟩
  have S0 := hS.keep (Moved.of_below (F := fun _ => False) hb) (fun _ f => f.elim)
  have M0 : Moved F w v0 := (Moved.of_below (F := fun _ => False) hb).mono fun _ f => f.elim
  have AL : Hid (∀ wr, Moved F v0 wr → OutK.Lies wr al l) := hide fun wr hm => by
    have h1 := row_lies hrow
    refine ⟨h1.1, fun x e j u hu => ?_⟩
    subst e
    have hc := h1.2 x rfl j u hu
    rcases hrow.2 with ⟨hv, _⟩ | ⟨g, cap, cur, hv, hbase, hbk, _⟩
    · simp at hv
    · simp only [Value.slice.injEq, Option.some.injEq] at hv
      obtain ⟨rfl, _⟩ := hv
      rw [Addr.add_mid] at hc ⊢
      exact (hm.cell (p := ⟨g, 0 + j, none⟩) (World.block_lt_of_cell? _ _ hc) (fun f => by have : g < w.heap.size := FL g f; omega)).trans hc
  have SHAPE : Hid ((∃ g, al = some ⟨g, 0, none⟩) ∨ l = []) := hide (by
    rcases hrow.2 with ⟨hv, h0⟩ | ⟨g, cap, cur, hv, _⟩
    · exact .inr (List.length_eq_zero_iff.1 h0)
    · simp only [Value.slice.injEq] at hv
      exact .inl ⟨g, hv.1⟩)
  have MPB : Hid ((∃ b, mp = some b) ∨ l = []) := hide (by
    rcases hS.what with ⟨_, h0⟩ | ⟨b, h0, _⟩
    · exact .inr h0
    · exact .inl ⟨b, h0⟩)
  have M0h := hide M0
  have S0h := hide S0
  have FLh := hide FL
  have WB := hide hb.size
  have HF := hide hF
  have HB1 := hide hB1
  have BB : Hid (∀ i, F i → i < B1) := hide (fun i hi => by have := FL i hi; have := hb.size; omega)
  clear hS hrow hb M0 S0 FL h hF
  go_wp2_with fail
  go_loopw [5, 11] (fun ov i wr => ∃ (j : Nat) (a : Option Addr) (cp : Nat), i = .int .i64 (j : Int) ∧ j ≤ l.length ∧ ov = .slice a (overT m l j).length cp ∧ OutK.Row wr B1 a cp (overT m l j) ∧ StAt wr p mp (leftT m l j) ∧ Moved F v0 wr) (fun _ i _ => l.length - (intOf i).toNat)
  case atStart => exact ⟨0, none, 0, rfl, Nat.zero_le _, rfl, row_none _ _, by rw [leftT_zero]; exact unhide S0h, Moved.refl _ _⟩
  case round =>
    obtain ⟨j, a, cp, rfl, hj, rfl, hrw, hst, hmv⟩ := hrel
    have HRW := hide hrw
    have HST := hide hst
    have HMV := hide hmv
    clear hrw hst hmv
    by_cases h1 : j < l.length
    · have g1 : (j : Int) < (l.length : Int) := by omega
      have hj0 : (0 : Int) ≤ (j : Int) := by omega
      have hwj : IntKind.i64.wrap ((j : Int) + 1) = (j : Int) + 1 := Go.IntWalk.i64_in _ (by omega)
      obtain ⟨x, hx⟩ : ∃ x, l[j]? = some x := ⟨_, List.getElem?_eq_getElem h1⟩
      have hmem : x ∈ l := List.mem_of_getElem? hx
      obtain ⟨g, rfl⟩ : ∃ g, al = some ⟨g, 0, none⟩ := by
        rcases unhide SHAPE with h | h
        · exact h
        · rw [h] at h1; simp at h1
      obtain ⟨b, hmpb⟩ : ∃ b, mp = some b := by
        rcases unhide MPB with h | h
        · exact h
        · rw [h] at h1; simp at h1
      have ry := lies_at outK_law (unhide AL _ (unhide HMV)) hx
      have OKX := unhide hok x hmem
      have HXj := hide hx
      have HBj : Hid (B1 ≤ wr.heap.size) := hide (by rw [unhide HB1]; exact (unhide HMV).size)
      have hov : ∀ W : World, Calls Try.prog 32 #[.int .i64 x.start, .int .i64 m] W fun e w' => e = .returned (.bool (Sp.overI x.start m)) ∧ w' = W := fun W => Sp.over_any x.start m W
      have HOV := hide hov
      clear hx hov
      obtain ⟨xk, xs, a0, a1, a2, a3, a4, a5, a6, a7⟩ := x
      have RY : Hid (wr.rangeAt g (j * 10) [.string ⟨xk.toArray⟩, .int .i64 xs, .int .i64 a0, .int .i64 a1, .int .i64 a2, .int .i64 a3, .int .i64 a4, .int .i64 a5, .int .i64 a6, .int .i64 a7]) := hide (by have := ry; rw [Nat.zero_add] at this; exact this)
      obtain ⟨W1, hW1⟩ : ∃ W1, W1 = wr.alloc (.cells #[.string ⟨xk.toArray⟩, .int .i64 xs, .int .i64 a0, .int .i64 a1, .int .i64 a2, .int .i64 a3, .int .i64 a4, .int .i64 a5, .int .i64 a6, .int .i64 a7] 38) := ⟨_, rfl⟩
      obtain ⟨H, hH⟩ : ∃ H, H = wr.heap.size := ⟨_, rfl⟩
      have b1 : Below wr.heap.size wr W1 := by rw [hW1]; exact (Below.refl _ _).alloc (Nat.le_refl _) _
      have R1 : RowAt W1 H [.string ⟨xk.toArray⟩, .int .i64 xs, .int .i64 a0, .int .i64 a1, .int .i64 a2, .int .i64 a3, .int .i64 a4, .int .i64 a5, .int .i64 a6, .int .i64 a7] := by rw [hW1, hH]; exact row_new _ _ _
      have c0 : W1.cell? ⟨H, 0, none⟩ = some (.string ⟨xk.toArray⟩) := R1.cell 0 (Nat.succ_pos _)
      have c1 : W1.cell? ⟨H, 1, none⟩ = some (.int .i64 xs) := R1.cell 1 (Nat.lt_of_sub_pos (Nat.succ_pos _))
      have S1 : StAt W1 p mp (leftT m l j) := (unhide HST).keep (Moved.of_below (F := fun _ => False) b1) (fun _ f => f.elim)
      have w1 : OutK.Row W1 B1 a cp (overT m l j) := by rw [hW1]; exact (unhide HRW).alloc _
      have m1 : Moved F v0 W1 := by rw [hW1]; exact (unhide HMV).alloc _
      have hsz1 : W1.heap.size = H + 1 := by rw [hW1, hH]; simp
      have HW1 := hide hW1
      have HH := hide hH
      have HR1 := hide R1
      have HS1 := hide S1
      have Hw1 := hide w1
      have Hm1 := hide m1
      have HSZ1 := hide hsz1
      subst hmpb
      clear hW1 hH R1 S1 w1 m1 b1 ry hsz1 hmem
      go_upto_region 4 with fail
      go_wp2_with (first | (refine wpList_load_on rfl 38 (.tmp 13) rfl g (j * 10) rfl [.string ⟨xk.toArray⟩, .int .i64 xs, .int .i64 a0, .int .i64 a1, .int .i64 a2, .int .i64 a3, .int .i64 a4, .int .i64 a5, .int .i64 a6, .int .i64 a7] _ (unhide RY) Try.underlying38 rfl (by kernel_rfl) ?_))
      rw [← unhide HH, ← unhide HW1]
      refine (unhide HOV _).mono ?_
      rintro e w' ⟨rfl, hw'⟩
      rw [hw']
      by_cases ho : Sp.overI xs m = true
      · rw [ho]
        have hbp : b ≠ p := (unhide HS1).off b rfl
        have hbF : b < B1 := unhide BB b (by rw [unhide HF]; exact .inr rfl)
        have hpF : p < B1 := unhide BB p (by rw [unhide HF]; exact .inl rfl)
        have hBH : B1 ≤ H := by rw [unhide HH]; exact unhide HBj
        obtain ⟨CL, hCL⟩ : ∃ CL : World → Prop, CL = fun v => Moved (fun i => i = b) W1 v := ⟨_, rfl⟩
        have un : ∀ v, CL v → Moved (fun i => i = b) W1 v := fun v k => by rw [hCL] at k; exact k
        have base : CL W1.drew := by rw [hCL]; exact (Moved.refl _ _).drew
        have q0 : ∀ q : SW CL, q.w.cell? ⟨p, 0, none⟩ = some (.map (some b)) := fun q => ((un _ q.ok).cell (p := ⟨p, 0, none⟩) ((unhide HS1).lt p (.inl rfl)) (Ne.symm hbp)).trans (unhide HS1).way
        have q1 : ∀ q : SW CL, q.w.cell? ⟨H, 0, none⟩ = some (.string ⟨xk.toArray⟩) := fun q => ((un _ q.ok).cell (p := ⟨H, 0, none⟩) (unhide HR1).lt (by show ¬ H = b; omega)).trans c0
        have q2 : ∀ q : SW CL, q.w.cell? ⟨H, 1, none⟩ = some (.int .i64 xs) := fun q => ((un _ q.ok).cell (p := ⟨H, 1, none⟩) (unhide HR1).lt (by show ¬ H = b; omega)).trans c1
        have hM : MapIs W1 b (leftT m l j) := by
          rcases (unhide HS1).what with ⟨h0, _⟩ | ⟨b', h1, h2⟩
          · cases h0
          · cases h1; exact h2
        obtain ⟨w6, hrun, hM6, hT⟩ := MapIs.drop (w := W1.drew) (hM.keep rfl) (unhide HS1).fine (k := xk) (s := xs) OKX 0
        have M6 : Moved (fun i => i = b) W1 w6 := moved_turned ((Moved.refl _ _).drew) hT (.inl rfl)
        have CL6 : Hid (CL w6) := hide (by rw [hCL]; exact M6)
        have hlft : (leftT m l j).filter (fun a => !decide (at_ xk xs a)) = leftT m l (j + 1) := leftT_yes (unhide hr) (unhide HXj) ho
        rw [hlft] at hM6
        have S6 : StAt w6 p (some b) (leftT m l (j + 1)) :=
          ⟨(M6.cell (p := ⟨p, 0, none⟩) ((unhide HS1).lt p (.inl rfl)) (Ne.symm hbp)).trans (unhide HS1).way, (M6.frozen (p := ⟨p, 0, none⟩) ((unhide HS1).lt p (.inl rfl)) (Ne.symm hbp)).trans (unhide HS1).free, .inr ⟨b, rfl, hM6⟩, (unhide HS1).off, hlft ▸ (unhide HS1).fine.filter _⟩
        have R6 := (unhide HR1).keep M6 (by omega)
        have w6r : OutK.Row w6 B1 a cp (overT m l j) := World.ownsRow.kept (w := W1.drew) (unhide Hw1) hT.grown (.inr (row_ne_low (unhide Hw1) hbF).symm)
        have m6 : Moved F v0 w6 := (unhide Hm1).trans M6 (fun i e => .inl (by rw [e, unhide HF]; exact .inr rfl))
        have rV := w6r.alloc (.cells #[.string ⟨xk.toArray⟩, .int .i64 xs, .int .i64 a0, .int .i64 a1, .int .i64 a2, .int .i64 a3, .int .i64 a4, .int .i64 a5, .int .i64 a6, .int .i64 a7] 38)
        have hB6 : B1 ≤ w6.heap.size := by rw [unhide HB1]; exact m6.size
        obtain ⟨a', c', w9, happ, row9, grow9⟩ := grow_app outK_law rV (some ⟨w6.heap.size, 0, none⟩) 1 [⟨xk, xs, ⟨a0, a1, a2, a3, a4, a5, a6, a7⟩⟩] (lies_new w6 _) (by have := overT_len m l j; simp; omega) (by simp; omega) 28
        have M9 : Moved (fun i => B1 ≤ i) (w6.alloc (.cells #[.string ⟨xk.toArray⟩, .int .i64 xs, .int .i64 a0, .int .i64 a1, .int .i64 a2, .int .i64 a3, .int .i64 a4, .int .i64 a5, .int .i64 a6, .int .i64 a7] 38)) w9 := (Moved.refl _ _).grown grow9 (fun k e => .inl (by have := (rV.lt k e).1; exact this))
        have S9 : StAt w9 p (some b) (leftT m l (j + 1)) := (S6.keep ((Moved.refl (fun _ => False) w6).alloc _) (fun _ f => f.elim)).keep M9 (fun i hi f => by
          rcases f with f | f
          · omega
          · cases f; omega)
        have m9 : Moved F v0 w9 := (m6.alloc _).trans M9 (fun i hi => .inr (by rw [← unhide HB1]; exact hi))
        have hov9 : overT m l j ++ [⟨xk, xs, ⟨a0, a1, a2, a3, a4, a5, a6, a7⟩⟩] = overT m l (j + 1) := (overT_yes (unhide HXj) ho).symm
        have hlen9 : (overT m l (j + 1)).length = (overT m l j).length + 1 := by rw [← hov9]; simp
        rw [hov9] at row9
        rw [show (overT m l j ++ [(⟨xk, xs, ⟨a0, a1, a2, a3, a4, a5, a6, a7⟩⟩ : Win AggV)]).length = (overT m l j).length + 1 by simp] at happ
        have HAP : Hid ((Builtin.append_ #[28, 28] 28 #[.slice a (overT m l j).length cp, .slice (some ⟨w6.heap.size, 0, none⟩) 1 1]).run Try.prog (w6.alloc (.cells #[.string ⟨xk.toArray⟩, .int .i64 xs, .int .i64 a0, .int .i64 a1, .int .i64 a2, .int .i64 a3, .int .i64 a4, .int .i64 a5, .int .i64 a6, .int .i64 a7] 38)) = .ok (.slice a' ((overT m l j).length + 1) c') w9) := hide happ
        have REL := hide (⟨row9, S9, m9⟩ : OutK.Row w9 B1 a' c' (overT m l (j + 1)) ∧ StAt w9 p (some b) (leftT m l (j + 1)) ∧ Moved F v0 w9)
        have R6r := hide R6.range
        have HL9 := hide hlen9
        have BS := hide base
        have hrun' : (Builtin.delete_ #[78, 84] 0 #[.map (some b), .agg #[.int .i64 xs, .string ⟨xk.toArray⟩]]).run Try.prog W1.drew = .ok (.tuple #[]) w6 := hrun
        have HRUN := hide hrun'
        clear hrun hrun' hM hM6 hT M6 hlft S6 R6 w6r m6 rV hB6 happ row9 grow9 M9 S9 m9 hov9 hlen9 base un hCL hbp hbF hpF hBH c0 c1
        go_upto_region 6 with fail
        refine wp_region_chain (S := CL) [true, true, true, true, true, true, true, true, true, false] [false, false, false, false, false, false, false, false, false, true] (by kernel_rfl) (by kernel_rfl) (by kernel_rfl) (unhide BS) ?_
        apply Exists.intro
        apply And.intro
        · intro q
          have n0 : Nonempty (SK CL q.w) := ⟨⟨q, rfl⟩⟩
          simp only [pickM]
          repeat (go_big_quiet_step (fail))
          exact wpQuiet_nil rfl
        · simp only [pickZ]
          have hrn := unhide HRUN
          refine chain_step (.tuple #[]) w6 rfl (by simp [go_sem, hrn, Result.andThen]) (unhide CL6) ?_
          simp only [chainM]
          clear hrn q0 q1 q2
          go_wp2_with (first | (refine wpList_load_on rfl 38 (.tmp 7) rfl H 0 rfl [.string ⟨xk.toArray⟩, .int .i64 xs, .int .i64 a0, .int .i64 a1, .int .i64 a2, .int .i64 a3, .int .i64 a4, .int .i64 a5, .int .i64 a6, .int .i64 a7] _ (unhide R6r) Try.underlying38 rfl (by kernel_rfl) ?_) | (at_builtin; refine wpList_app rfl _ _ 28 28 28 rfl rfl rfl rfl (unhide HAP) ?_))
          exact ⟨⟨j + 1, a', c', rfl, by omega, by rw [unhide HL9], (unhide REL).1, (unhide REL).2.1, (unhide REL).2.2⟩, by simp [intOf]; omega⟩
      · replace ho := Bool.eq_false_iff.2 ho
        rw [ho]
        have HO9 := hide (overT_no (unhide HXj) ho)
        have HL9 := hide (leftT_no (unhide HXj) ho)
        clear ho c0 c1
        go_wp2_with fail
        exact ⟨⟨j + 1, a, cp, rfl, by omega, by rw [unhide HO9], by rw [unhide HO9]; exact unhide Hw1, by rw [unhide HL9]; exact unhide HS1, unhide Hm1⟩, by simp [intOf]; omega⟩
    · have g1 : ¬ (j : Int) < (l.length : Int) := by omega
      have hje : j = l.length := by omega
      have E1 := hide (overT_end m l)
      have E2 := hide (leftT_end m l)
      rw [hje] at HRW HST
      rw [unhide E1] at HRW
      rw [unhide E2] at HST
      have HLE := hide (by rw [hje, unhide E1] : (overT m l j).length = (takeS SO l m).2.length)
      clear hje
      go_wp2_with fail
      go_ret
      refine ⟨a, cp, by rw [← unhide HLE]; rfl, ⟨(unhide HRW).1, (unhide HRW).2.imp id ?_⟩, ⟨mp, unhide HST, unhide HF⟩, (unhide M0h).trans (unhide HMV) (fun i hi => .inl hi)⟩
      rintro ⟨g, cap, cur, e1, e2, e3⟩
      exact ⟨g, cap, cur, e1, by have := unhide WB; have := unhide HB1; omega, e3⟩
end Go.Proofs.Ytmgmkdkdpeljmaa

/- Which of two entries stands ahead, as the program tells. No conditions. -/
import Derived.Test.YtigmhljaoicdbaaGreatGSnTwind
namespace Go.Proofs.YtigmhljaoicdbaaGreat.Sn
open Go.RowKit

theorem nan_any (x : Int) (w : World) : Calls Tryz.prog 111 #[.int .i64 x] w fun e w' => e = .returned (.bool false) ∧ w' = w := by
  go_enter Tryz.func111, Tryz.ntmps111
  go_wp2
  go_ret
  exact ⟨rfl, rfl⟩
def cmpI (x y : Int) : Int := if x < y then -1 else if y < x then 1 else 0
theorem compare_any (x y : Int) (w : World) : Calls Tryz.prog 92 #[.int .i64 x, .int .i64 y] w fun e w' => e = .returned (.int .i64 (cmpI x y)) ∧ w' = w := by
  have go : ∀ (h : x < y ∨ y < x ∨ x = y), Calls Tryz.prog 92 #[.int .i64 x, .int .i64 y] w fun e w' => e = .returned (.int .i64 (cmpI x y)) ∧ w' = w := by
    rintro (h | h | h)
    · have hd : Hid (cmpI x y = -1) := hide (if_pos h)
      go_enter Tryz.func92, Tryz.ntmps92
      go_wp2_with fail
      refine (nan_any x w).mono ?_
      rintro e w' ⟨rfl, hw'⟩
      rw [hw']
      go_wp2_with fail
      refine (nan_any y w).mono ?_
      rintro e w' ⟨rfl, hw'⟩
      rw [hw']
      go_wp2_with fail
      go_ret
      exact ⟨by rw [unhide hd]; rfl, rfl⟩
    · have h1 : ¬ x < y := by omega
      have hd : Hid (cmpI x y = 1) := hide ((if_neg h1).trans (if_pos h))
      go_enter Tryz.func92, Tryz.ntmps92
      go_wp2_with fail
      refine (nan_any x w).mono ?_
      rintro e w' ⟨rfl, hw'⟩
      rw [hw']
      go_wp2_with fail
      refine (nan_any y w).mono ?_
      rintro e w' ⟨rfl, hw'⟩
      rw [hw']
      go_wp2_with fail
      go_ret
      exact ⟨by rw [unhide hd]; rfl, rfl⟩
    · subst h
      have h1 : ¬ x < x := by omega
      have hd : Hid (cmpI x x = 0) := hide ((if_neg h1).trans (if_neg h1))
      go_enter Tryz.func92, Tryz.ntmps92
      go_wp2_with fail
      refine (nan_any x w).mono ?_
      rintro e w' ⟨rfl, hw'⟩
      rw [hw']
      go_wp2_with fail
      refine (nan_any x w).mono ?_
      rintro e w' ⟨rfl, hw'⟩
      rw [hw']
      go_wp2_with fail
      go_ret
      exact ⟨by rw [unhide hd]; rfl, rfl⟩
  exact go (by omega)
def orI (x y : Int) : Int := if x ≠ 0 then x else if y ≠ 0 then y else 0
theorem or_any {w : World} {g c : Nat} {x y : Int} (h0 : w.cell? ⟨g, 0, none⟩ = some (.int .i64 x)) (h1 : w.cell? ⟨g, 1, none⟩ = some (.int .i64 y)) :
    Calls Tryz.prog 91 #[.slice (some ⟨g, 0, none⟩) 2 c] w fun e w' => e = .returned (.int .i64 (orI x y)) ∧ w' = w := by
  by_cases hx : x = 0
  · by_cases hy : y = 0
    · have hd : Hid (orI x y = 0) := hide (by unfold orI; rw [if_neg (by simp [hx]), if_neg (by simp [hy])])
      subst hx
      subst hy
      go_enter Tryz.func91, Tryz.ntmps91
      go_wp2_with fail
      refine wp_loop_rounds 3 ?_
      rw [rounds_succ]
      go_wp2_with fail
      rw [rounds_succ]
      go_wp2_with fail
      rw [rounds_succ]
      go_wp2_with fail
      go_ret
      exact ⟨by rw [unhide hd]; rfl, rfl⟩
    · have hd : Hid (orI x y = y) := hide (by unfold orI; rw [if_neg (by simp [hx]), if_pos hy])
      subst hx
      go_enter Tryz.func91, Tryz.ntmps91
      go_wp2_with fail
      refine wp_loop_rounds 3 ?_
      rw [rounds_succ]
      go_wp2_with fail
      rw [rounds_succ]
      go_wp2_with fail
      go_ret
      exact ⟨by rw [unhide hd]; rfl, rfl⟩
  · have hd : Hid (orI x y = x) := hide (by unfold orI; rw [if_pos hx])
    go_enter Tryz.func91, Tryz.ntmps91
    go_wp2_with fail
    refine wp_loop_rounds 3 ?_
    rw [rounds_succ]
    go_wp2_with fail
    go_ret
    exact ⟨by rw [unhide hd]; rfl, rfl⟩
theorem or_cmp (x y : Ent) : decide (orI (cmpI x.src y.src) (cmpI x.seq y.seq) < 0) = ahead x y := by
  unfold ahead
  rw [decide_eq_decide]
  unfold orI cmpI
  by_cases h1 : x.src < y.src
  · simp [h1]
  · by_cases h2 : y.src < x.src
    · simp [h1, h2]; omega
    · have e : x.src = y.src := by omega
      rw [e]
      by_cases h3 : x.seq < y.seq
      · simp [h3]
      · by_cases h4 : y.seq < x.seq
        · simp [h3, h4]
        · simp [h3, h4]
set_option maxRecDepth 100000 in
set_option maxHeartbeats 2000000 in
theorem rises_any (x y : Ent) (w : World) : Calls Tryz.prog 68 #[.agg (entV x).toArray, .agg (entV y).toArray] w fun e w' => e = .returned (.bool (ahead x y)) ∧ Below w.heap.size w w' := by
  have hoc := hide (or_cmp x y)
  obtain ⟨xs, xq, xc⟩ := x
  obtain ⟨ys, yq, yc⟩ := y
  simp only at hoc
  obtain ⟨W, hW⟩ : ∃ W, W = (w.alloc (.cells #[.int .i64 xs, .int .i64 xq, .int .i64 xc] 99)).alloc (.cells #[.int .i64 ys, .int .i64 yq, .int .i64 yc] 99) := ⟨_, rfl⟩
  obtain ⟨H, hH⟩ : ∃ H, H = w.heap.size := ⟨_, rfl⟩
  have bW : Below w.heap.size w W := by rw [hW]; exact ((Below.refl _ _).alloc (Nat.le_refl _) _).alloc (by simp) _
  have R0 : RowAt W H [.int .i64 xs, .int .i64 xq, .int .i64 xc] := by rw [hW, hH]; exact row_old (row_new _ _ _) _
  have R1 : RowAt W (H + 1) [.int .i64 ys, .int .i64 yq, .int .i64 yc] := by rw [hW, hH]; exact row_new2 _ _ _ _ _
  obtain ⟨CL, hCL⟩ : ∃ CL : World → Prop, CL = fun v => Below W.heap.size W v := ⟨_, rfl⟩
  have un : ∀ v, CL v → Below W.heap.size W v := fun v k => by rw [hCL] at k; exact k
  have base : CL W.drew := by rw [hCL]; exact (Below.refl _ _).drew
  have kc : ∀ (q : SW CL) (b i : Nat) (v : Value), W.cell? ⟨b, i, none⟩ = some v → q.w.cell? ⟨b, i, none⟩ = some v := fun q b i v hv => ((un _ q.ok).cell (p := ⟨b, i, none⟩) (World.block_lt_of_cell? _ _ hv)).trans hv
  have x0 : ∀ q : SW CL, q.w.cell? ⟨H, 0, none⟩ = some (.int .i64 xs) := fun q => kc q _ _ _ (R0.cell 0 (by simp))
  have x1 : ∀ q : SW CL, q.w.cell? ⟨H, 1, none⟩ = some (.int .i64 xq) := fun q => kc q _ _ _ (R0.cell 1 (by simp))
  have y0 : ∀ q : SW CL, q.w.cell? ⟨H + 1, 0, none⟩ = some (.int .i64 ys) := fun q => kc q _ _ _ (R1.cell 0 (by simp))
  have y1 : ∀ q : SW CL, q.w.cell? ⟨H + 1, 1, none⟩ = some (.int .i64 yq) := fun q => kc q _ _ _ (R1.cell 1 (by simp))
  obtain ⟨W2, hW2⟩ : ∃ W2, W2 = W.drew.alloc (.cells #[.int .i64 (cmpI xs ys), .int .i64 (cmpI xq yq)] 3) := ⟨_, rfl⟩
  have b2 : Below W.heap.size W W2 := by rw [hW2]; exact ((Below.refl _ W).drew).alloc (Nat.le_refl _) _
  have CO : Hid (Calls Tryz.prog 91 #[.slice (some ⟨W.drew.heap.size, 0, none⟩) 2 2] W2 fun e w' => e = .returned (.int .i64 (orI (cmpI xs ys) (cmpI xq yq))) ∧ w' = W2) := hide (or_any (by rw [hW2, World.cell?_alloc_new]; rfl) (by rw [hW2, World.cell?_alloc_new]; rfl))
  have CL2 : Hid (CL W2) := hide (by rw [hCL]; exact b2)
  have FIN : Hid (Below w.heap.size w W2) := hide (bW.trans (b2.mono bW.size))
  have RES : Hid (decide (orI (cmpI xs ys) (cmpI xq yq) < 0) = ahead ⟨xs, xq, xc⟩ ⟨ys, yq, yc⟩) := hoc
  have HW := hide hW
  have HH := hide hH
  have HW2 := hide hW2
  have BS := hide base
  clear hoc hW hH bW R0 R1 hCL un base kc hW2 b2
  simp only [entV]
  go_enter Tryz.func68, Tryz.ntmps68
  go_upto_region 1 with fail
  rw [← unhide HH]
  try change Code.wp _ _ _ _ ((w.alloc (.cells #[.int .i64 xs, .int .i64 xq, .int .i64 xc] 99)).alloc (.cells #[.int .i64 ys, .int .i64 yq, .int .i64 yc] 99))
  rw [← unhide HW]
  refine wp_region_chain (S := CL) [true, true, true, true, true, true, true, true, true, true, false, false, false, false] [false, false, false, false, false, false, false, false, false, false, true, true, true, true] (by kernel_rfl) (by kernel_rfl) (by kernel_rfl) (unhide BS) ?_
  apply Exists.intro
  apply And.intro
  · intro q
    have n0 : Nonempty (SK CL q.w) := ⟨⟨q, rfl⟩⟩
    simp only [pickM]
    repeat (go_big_quiet_step (first | (go_at_call 92; exact (compare_any _ _ _).mono fun e w' ⟨he, hw⟩ => ⟨he, _, hw⟩)))
    exact wpQuiet_nil rfl
  · simp only [pickZ]
    refine chain_step (.slice (some ⟨W.drew.heap.size, 0, none⟩) 2 2) W2 rfl (by rw [unhide HW2]; simp [go_sem, Result.andThen]) (unhide CL2) ?_
    refine chain_call 91 #[.slice (some ⟨W.drew.heap.size, 0, none⟩) 2 2] rfl (by simp [go_sem]) ?_
    refine (unhide CO).mono ?_
    rintro e v ⟨rfl, hv⟩
    rw [hv]
    refine ⟨_, rfl, unhide CL2, ?_⟩
    refine chain_step (.bool (decide (orI (cmpI xs ys) (cmpI xq yq) < 0))) W2 rfl (by simp [go_sem]) (unhide CL2) ?_
    refine chain_step (.bool (decide (orI (cmpI xs ys) (cmpI xq yq) < 0))) W2 rfl (by simp [go_sem]) (unhide CL2) ?_
    simp only [chainM]
    go_simp
    go_wp2_with fail
    go_ret
    exact ⟨by rw [← unhide RES]; rfl, unhide FIN⟩
set_option maxRecDepth 100000 in
set_option maxHeartbeats 2000000 in
theorem right_any {w : World} {p : Nat} {F : Nat → Prop} {T : Tab} (h : TIs w p F T) (x : Ent) :
    Calls Tryz.prog 67 #[.pointer (some ⟨p, 0, none⟩), .agg (entV x).toArray] w fun e w' => e = .returned (.bool (rightE (fun i => (T i).low) x)) ∧ Below w.heap.size w w' := by
  obtain ⟨xs, xq, xc⟩ := x
  obtain ⟨W, hW⟩ : ∃ W, W = w.alloc (.cells #[.int .i64 xs, .int .i64 xq, .int .i64 xc] 99) := ⟨_, rfl⟩
  obtain ⟨H, hH⟩ : ∃ H, H = w.heap.size := ⟨_, rfl⟩
  have bW : Below w.heap.size w W := by rw [hW]; exact (Below.refl _ _).alloc (Nat.le_refl _) _
  have R0 : RowAt W H [.int .i64 xs, .int .i64 xq, .int .i64 xc] := by rw [hW, hH]; exact row_new _ _ _
  have HT : TIs W p F T := h.keep (Moved.of_below (F := fun _ => False) bW) (fun _ f => f.elim)
  have c0 : W.cell? ⟨H, 0, none⟩ = some (.int .i64 xs) := R0.cell 0 (by simp)
  have c1 : W.cell? ⟨H, 1, none⟩ = some (.int .i64 xq) := R0.cell 1 (by simp)
  have c2 : W.cell? ⟨H, 2, none⟩ = some (.int .i64 xc) := R0.cell 2 (by simp)
  have FIN := hide bW
  have HW := hide hW
  have HH := hide hH
  have HTT := hide HT
  have sS := fun v => source_any xs v
  have sC := fun v => code_any xc v
  have RE : Hid (rightE (fun i => (T i).low) ⟨xs, xq, xc⟩ = (isSrc xs && isCode xc && decide ((T xs.toNat).low ≤ xq) && decide (xq < (T xs.toNat).low + 16))) := hide rfl
  clear hW hH bW R0 HT h
  simp only [entV]
  cases hs : isSrc xs with
  | false =>
    rw [hs] at sS
    go_enter Tryz.func67, Tryz.ntmps67
    go_upto_region 1 with fail
    rw [← unhide HH]
    rw [← unhide HW]
    go_wp2_with fail
    refine (sS _).mono ?_
    rintro e w' ⟨rfl, hw'⟩
    rw [hw']
    go_wp2_with fail
    go_ret
    exact ⟨by rw [unhide RE, hs]; rfl, unhide FIN⟩
  | true =>
    rw [hs] at sS
    cases hc : isCode xc with
    | false =>
      rw [hc] at sC
      go_enter Tryz.func67, Tryz.ntmps67
      go_upto_region 1 with fail
      rw [← unhide HH]
      rw [← unhide HW]
      go_wp2_with fail
      refine (sS _).mono ?_
      rintro e w' ⟨rfl, hw'⟩
      rw [hw']
      go_wp2_with fail
      refine (sC _).mono ?_
      rintro e w' ⟨rfl, hw'⟩
      rw [hw']
      go_wp2_with fail
      go_ret
      exact ⟨by rw [unhide RE, hs, hc]; rfl, unhide FIN⟩
    | true =>
      rw [hc] at sC
      have hsr : 0 ≤ xs ∧ xs < 4 := of_decide_eq_true hs
      obtain ⟨k, rfl⟩ : ∃ k : Nat, xs = k := ⟨xs.toNat, by omega⟩
      have hk : k < 4 := by omega
      have g0 : (0 : Int) ≤ (k : Int) := by omega
      have g1 : (k : Int) < 4 := by omega
      obtain ⟨M, hA, _⟩ := unhide HTT
      have sa := hA.src k hk
      have hl := sa.low
      have hf := sa.fine
      have lo := hf.lo
      have hi := hf.hi
      obtain ⟨CL, hCL⟩ : ∃ CL : World → Prop, CL = fun v => Below W.heap.size W v := ⟨_, rfl⟩
      have un : ∀ v, CL v → Below W.heap.size W v := fun v k => by rw [hCL] at k; exact k
      have base : CL W.drew := by rw [hCL]; exact (Below.refl _ _).drew
      have q0 : ∀ q : SX CL, q.w.cell? ⟨H, 0, none⟩ = some (.int .i64 (k : Int)) := fun q => ((un _ q.ok).cell (p := ⟨H, 0, none⟩) (World.block_lt_of_cell? _ _ c0)).trans c0
      have sL : Hid (∀ q : SX CL, Calls Tryz.prog 72 #[.pointer (some ⟨p, k * 2, none⟩)] q.w fun e w' => e = .returned (.int .i64 (T k).low) ∧ w' = q.w) := hide (fun q => (sa.keep (Moved.of_below (F := fun _ => False) (un _ q.ok)) id (fun _ _ => id)).low)
      have d1 : Hid (∀ v, CL v → v.cell? ⟨H, 1, none⟩ = some (.int .i64 xq)) := hide (fun v hv => ((un v hv).cell (p := ⟨H, 1, none⟩) (World.block_lt_of_cell? _ _ c1)).trans c1)
      have FN : Hid (∀ v, CL v → Below w.heap.size w v) := hide (fun v hv => (unhide FIN).trans ((un v hv).mono (unhide FIN).size))
      have BS := hide base
      have RE2 : Hid (rightE (fun i => (T i).low) ⟨(k : Int), xq, xc⟩ = (decide ((T k).low ≤ xq) && decide (xq < (T k).low + 16))) := hide (by rw [unhide RE, hs, hc]; simp)
      have hw16 : IntKind.i64.wrap ((T k).low + 16) = (T k).low + 16 := Go.IntWalk.i64_in _ (by omega)
      have ne : Nonempty (SX CL) := ⟨⟨_, base⟩⟩
      clear hA sa hl hf hCL un base HTT
      generalize (T k).low = low at *
      go_enter Tryz.func67, Tryz.ntmps67
      go_upto_region 1 with fail
      rw [← unhide HH]
      rw [← unhide HW]
      go_wp2_with fail
      refine (sS _).mono ?_
      rintro e w' ⟨rfl, hw'⟩
      rw [hw']
      clear hw'
      go_wp2_with fail
      refine (sC _).mono ?_
      rintro e w' ⟨rfl, hw'⟩
      rw [hw']
      clear hw' sS sC c0 c1 c2
      go_upto_region 3 with fail
      refine wp_region_sx (St := CL) (by kernel_rfl) (by kernel_rfl) (unhide BS) ?_
      repeat (go_big_quiet_step (first | (go_at_call 72; exact (unhide sL _).mono fun e w' ⟨he, hw⟩ => ⟨he, _, hw⟩)))
      refine wpQuiet_nil ?_
      rintro v1 ⟨p1, e1⟩
      have OK1 := p1.ok
      rw [← e1] at OK1
      clear e1 sL q0
      try dsimp only
      have x1 := unhide d1 v1 OK1
      have OKH := hide OK1
      clear OK1
      by_cases h1 : low ≤ xq
      · by_cases h2 : xq < low + 16
        · go_wp2_with fail
          go_ret
          exact ⟨by rw [unhide RE2, decide_eq_true h1, decide_eq_true h2]; rfl, unhide FN _ (unhide OKH)⟩
        · have h3 : decide (xq < low + 16) = false := decide_eq_false h2
          go_wp2_with fail
          go_ret
          exact ⟨by rw [unhide RE2, decide_eq_true h1, h3]; rfl, unhide FN _ (unhide OKH)⟩
      · have h3 : decide (low ≤ xq) = false := decide_eq_false h1
        go_wp2_with fail
        go_ret
        exact ⟨by rw [unhide RE2, h3]; rfl, unhide FN _ (unhide OKH)⟩
end Go.Proofs.YtigmhljaoicdbaaGreat.Sn

/- A net beside the document's own: an act done to both. No conditions. -/
import Derived.Test.YtceepejndomfaaaRefC
namespace Go.Proofs.Ytceepejndomfaaa
open Go.RowKit

theorem postL_most {m : List Pkt} (hm : ∀ i, cnt i m ≤ 64) (q : Pkt) : ∀ i, cnt i (postL m q) ≤ 64 := fun i => by
  unfold postL
  split
  · rename_i h
    rw [cnt_append, cnt_one]
    have := hm i
    by_cases e : q.link = i
    · rw [if_pos e]; have := h.2; rw [e] at this; omega
    · rw [if_neg e]; omega
  · exact hm i
theorem takeL_most {m : List Pkt} (hm : ∀ i, cnt i m ≤ 64) (j : Int) : ∀ i, cnt i (takeL m j) ≤ 64 := fun i => by
  unfold takeL
  split
  · rename_i h
    have := cnt_erase i j.toNat m (by omega)
    have := hm i
    omega
  · exact hm i
theorem dupL_most {m : List Pkt} (hm : ∀ i, cnt i m ≤ 64) (j : Int) : ∀ i, cnt i (dupL m j) ≤ 64 := fun i => by
  unfold dupL
  split
  · exact postL_most hm _ i
  · exact hm i

/-- A net at x with l and the document's at r with m on their way; X's blocks are neither's. -/
def St (w0 w : World) (x r : Nat) (l m : List Pkt) (X : Nat → Prop) : Prop :=
  ∃ G, Own w0 w (fun k => X k ∨ G k) x l ∧ RefIs w r G m ∧ (∀ k, G k → w0.heap.size ≤ k ∧ ¬ X k) ∧ ∀ i, cnt i m ≤ 64
theorem Keeps.refl (X : Nat → Prop) (w : World) : Keeps X w w := ⟨Nat.le_refl _, fun _ _ => rfl⟩
theorem Keeps.trans {X : Nat → Prop} {a b c : World} (h : Keeps X a b) (k : Keeps X b c) : Keeps X a c := ⟨Nat.le_trans h.1 k.1, fun j hj => (k.2 j hj).trans (h.2 j hj)⟩
theorem Keeps.mono {X Y : Nat → Prop} {a b : World} (h : Keeps X a b) (hY : ∀ k, Y k → X k) : Keeps Y a b := ⟨h.1, fun k hk => h.2 k (hY k hk)⟩
theorem St.call_net {w0 w : World} {x r : Nat} {l l' m : List Pkt} {X : Nat → Prop} {f : FuncId} {args : Array Value} {v : Value} (h : St w0 w x r l m X)
    (hc : ∀ Y, Own w0 w Y x l → Calls Try.prog f args w (Goes w0 w Y x v l')) : Calls Try.prog f args w fun e w' => e = .returned v ∧ St w0 w' x r l' m X ∧ Keeps X w w' := by
  obtain ⟨G, hO, hR, hG, hm⟩ := h
  refine (hc _ hO).mono ?_
  rintro e w' ⟨rfl, o, k⟩
  exact ⟨rfl, ⟨G, o, hR.keeps k fun j hj => .inr hj, hG, hm⟩, k.mono fun j hj => .inl hj⟩
theorem St.call_ref {w0 w : World} {x r : Nat} {l m m' : List Pkt} {X : Nat → Prop} {f : FuncId} {args : Array Value} {v : Value} (h : St w0 w x r l m X) (hm' : (∀ i, cnt i m ≤ 64) → ∀ i, cnt i m' ≤ 64)
    (hc : ∀ G, RefIs w r G m → (∀ i, cnt i m ≤ 64) → Calls Try.prog f args w fun e w' => e = .returned v ∧ RefDid w w' r G m') : Calls Try.prog f args w fun e w' => e = .returned v ∧ St w0 w' x r l m' X ∧ Keeps X w w' := by
  obtain ⟨G, hO, hR, hG, hm⟩ := h
  refine (hc G hR hm).mono ?_
  rintro e w' ⟨rfl, G', hR', hG', mv⟩
  have hX : ∀ k, X k → k < w.heap.size := fun k hk => by obtain ⟨F, _, _, hx, _⟩ := hO; exact hx k (.inl hk)
  have hb := hO.base.size
  refine ⟨rfl, ⟨G', hO.beside mv (fun k hk => ⟨.inr hk, (hG k hk).1⟩) (fun k hk => ?_), hR', fun k hk => ?_, hm' hm⟩, mv.size, fun k hk => mv.block k (hX k hk) fun hg => (hG k hg).2 hk⟩
  · rcases hk with hk | hk
    · exact ⟨.inl (.inl hk), Nat.lt_of_lt_of_le (hX k hk) mv.size⟩
    · refine ⟨?_, hR'.lt k hk⟩
      rcases hG' k hk with e | e
      · exact .inl (.inr e)
      · exact .inr e
  · rcases hG' k hk with e | e
    · exact hG k e
    · exact ⟨Nat.le_trans hb e, fun hx => by have := hX k hx; omega⟩
theorem St.below {w0 w w' : World} {x r : Nat} {l m : List Pkt} {X X' : Nat → Prop} (h : St w0 w x r l m X) (mv : Moved (fun _ => False) w w') (hX' : ∀ k, X' k → (X k ∨ w.heap.size ≤ k) ∧ k < w'.heap.size) : St w0 w' x r l m X' := by
  obtain ⟨G, hO, hR, hG, hm⟩ := h
  refine ⟨G, hO.beside mv (fun _ f => f.elim) (fun k hk => ?_), hR.keep mv fun _ f => f.elim, fun k hk => ⟨(hG k hk).1, fun hx => ?_⟩, hm⟩
  · rcases hk with hk | hk
    · exact ⟨(hX' k hk).1.elim (fun a => .inl (.inl a)) .inr, (hX' k hk).2⟩
    · exact ⟨.inl (.inr hk), Nat.lt_of_lt_of_le (hR.lt k hk) mv.size⟩
  · rcases (hX' k hx).1 with e | e
    · exact (hG k hk).2 e
    · have := hR.lt k hk; omega
theorem St.xlt {w0 w : World} {x r : Nat} {l m : List Pkt} {X : Nat → Prop} (h : St w0 w x r l m X) : ∀ k, X k → k < w.heap.size := fun k hk => by
  obtain ⟨G, ⟨F, _, _, hx, _⟩, _⟩ := h; exact hx k (.inl hk)
theorem St.base {w0 w : World} {x r : Nat} {l m : List Pkt} {X : Nat → Prop} (h : St w0 w x r l m X) : Moved (fun _ => False) w0 w := by
  obtain ⟨G, hO, _⟩ := h; exact hO.base
theorem St.mono {w0 w : World} {x r : Nat} {l m : List Pkt} {X X' : Nat → Prop} (h : St w0 w x r l m X) (hX : ∀ k, X' k → X k) : St w0 w x r l m X' :=
  h.below (Moved.refl _ _) fun k hk => ⟨.inl (hX k hk), h.xlt k (hX k hk)⟩

/-- .. with an act in block B; since ws X's blocks have stayed. -/
structure StY (w0 ws w : World) (x r : Nat) (l m : List Pkt) (X : Nat → Prop) (B : Nat) (y : ActV) : Prop where
  st : St w0 w x r l m (fun k => X k ∨ k = B)
  kp : Keeps X ws w
  a : ActAt w B 0 y
section
variable {w0 ws w : World} {x r : Nat} {l m : List Pkt} {X : Nat → Prop} {B : Nat} {y : ActV}
theorem StY.go {f : FuncId} {args : Array Value} {v : Value} {l' m' : List Pkt} (h : StY w0 ws w x r l m X B y) (hc : Calls Try.prog f args w fun e w' => e = .returned v ∧ St w0 w' x r l' m' (fun k => X k ∨ k = B) ∧ Keeps (fun k => X k ∨ k = B) w w') :
    Calls Try.prog f args w fun e w' => e = .returned v ∧ StY w0 ws w' x r l' m' X B y := by
  refine hc.mono ?_
  rintro e w' ⟨rfl, hs, hk⟩
  exact ⟨rfl, hs, h.kp.trans (hk.mono fun j hj => .inl hj), h.a.keeps hk (.inr rfl)⟩
theorem StY.post_x (h : StY w0 ws w x r l m X B y) : Calls Try.prog 9 #[.pointer (some ⟨x, 0, none⟩), .agg #[.int .i64 y.p.f, .int .i64 y.p.t, .string y.p.d]] w fun e w' => e = .returned (.int .i64 (postE l y.p)) ∧ StY w0 ws w' x r (postL l y.p) m X B y :=
  h.go (h.st.call_net fun _ o => post_own o y.p)
theorem StY.post_r (h : StY w0 ws w x r l m X B y) : Calls Try.prog 27 #[.pointer (some ⟨r, 0, none⟩), .agg #[.int .i64 y.p.f, .int .i64 y.p.t, .string y.p.d]] w fun e w' => e = .returned (.int .i64 (postE m y.p)) ∧ StY w0 ws w' x r l (postL m y.p) X B y :=
  h.go (h.st.call_ref (fun hm => postL_most hm y.p) fun _ hR hm => post_ref hR hm y.p)
theorem StY.dup_x (h : StY w0 ws w x r l m X B y) : Calls Try.prog 10 #[.pointer (some ⟨x, 0, none⟩), .int .i64 y.i] w fun e w' => e = .returned (.int .i64 (dupE l y.i)) ∧ StY w0 ws w' x r (dupL l y.i) m X B y :=
  h.go (h.st.call_net fun _ o => dup_own o y.i)
theorem StY.dup_r (h : StY w0 ws w x r l m X B y) : Calls Try.prog 29 #[.pointer (some ⟨r, 0, none⟩), .int .i64 y.i] w fun e w' => e = .returned (.int .i64 (dupE m y.i)) ∧ StY w0 ws w' x r l (dupL m y.i) X B y :=
  h.go (h.st.call_ref (fun hm => dupL_most hm y.i) fun _ hR hm => dup_ref hR hm y.i)
theorem StY.take_x (h : StY w0 ws w x r l m X B y) : Calls Try.prog 11 #[.pointer (some ⟨x, 0, none⟩), .int .i64 y.i] w fun e w' => e = .returned (.tuple #[(takeP l y.i).val, .int .i64 (takeE l y.i)]) ∧ StY w0 ws w' x r (takeL l y.i) m X B y :=
  h.go (h.st.call_net fun _ o => take_own o y.i)
theorem StY.take_r (h : StY w0 ws w x r l m X B y) : Calls Try.prog 28 #[.pointer (some ⟨r, 0, none⟩), .int .i64 y.i] w fun e w' => e = .returned (.tuple #[(takeP m y.i).val, .int .i64 (takeE m y.i)]) ∧ StY w0 ws w' x r l (takeL m y.i) X B y :=
  h.go (h.st.call_ref (fun hm => takeL_most hm y.i) fun _ hR _ => take_ref hR y.i)
theorem StY.lose_x (h : StY w0 ws w x r l m X B y) : Calls Try.prog 13 #[.pointer (some ⟨x, 0, none⟩), .int .i64 y.i] w fun e w' => e = .returned (.int .i64 (takeE l y.i)) ∧ StY w0 ws w' x r (takeL l y.i) m X B y :=
  h.go (h.st.call_net fun _ o => lose_own o y.i)
theorem StY.moved (h : StY w0 ws w x r l m X B y) {w' : World} (mv : Moved (fun _ => False) w w') : StY w0 ws w' x r l m X B y := by
  have hx := h.st.xlt
  exact ⟨h.st.below mv fun k hk => ⟨.inl hk, Nat.lt_of_lt_of_le (hx k hk) mv.size⟩, h.kp.trans ⟨mv.size, fun k hk => mv.block k (hx k (.inl hk)) id⟩, h.a.keep mv (hx B (.inr rfl)) id⟩
theorem StY.drew (h : StY w0 ws w x r l m X B y) : StY w0 ws w.drew x r l m X B y := h.moved (Moved.refl _ _).drew
theorem StY.hold (h : StY w0 ws w x r l m X B y) (o : Obj) : StY w0 (w.alloc o) (w.alloc o) x r l m (fun k => X k ∨ k = w.heap.size) B y ∧ Keeps X ws (w.alloc o) := by
  have mv : Moved (fun _ => False) w (w.alloc o) := (Moved.refl _ _).alloc o
  have hx := h.st.xlt
  refine ⟨⟨h.st.below mv fun k hk => ?_, Keeps.refl _ _, (h.moved mv).a⟩, (h.moved mv).kp⟩
  rcases hk with (e | e) | e
  · exact ⟨.inl (.inl e), by have := hx k (.inl e); simp; omega⟩
  · exact ⟨.inr (by omega), by simp; omega⟩
  · exact ⟨.inl (.inr e), by have := hx k (.inr e); simp; omega⟩
theorem StY.done (h : StY w0 ws w x r l m X B y) : St w0 w x r l m X ∧ Keeps X ws w := ⟨h.st.mono fun _ hk => .inl hk, h.kp⟩
end

set_option maxHeartbeats 8000000 in
theorem does_any {w0 w : World} {x r : Nat} {l : List Pkt} {X : Nat → Prop} (h : St w0 w x r l l X) (y : ActV) (hn : y.n < 256) :
    Calls Try.prog 17 #[.pointer (some ⟨x, 0, none⟩), .pointer (some ⟨r, 0, none⟩), .agg #[.int .i64 y.do_, .int .i64 y.p.f, .int .i64 y.p.t, .string y.p.d, .int .i64 y.i, .int .u8 (y.n : Int)]] w fun e w' => e = .returned (.bool true) ∧ St w0 w' x r (actL l y) (actL l y) X ∧ Keeps X w w' := by
  obtain ⟨w1, hw1⟩ : ∃ w1, w1 = w.alloc (.cells #[.int .i64 y.do_, .int .i64 y.p.f, .int .i64 y.p.t, .string y.p.d, .int .i64 y.i, .int .u8 (y.n : Int)] 40) := ⟨_, rfl⟩
  have hs : StY w0 w w1 x r l l X w.heap.size y := by
    rw [hw1]
    refine ⟨h.below ((Moved.refl _ _).alloc _) fun k hk => ?_, ⟨by simp, fun k hk => Below.heap_alloc _ _ _ (h.xlt k hk)⟩, ⟨by simp, by simp, by simp, by simp, by simp, by simp⟩⟩
    rcases hk with e | e
    · exact ⟨.inl e, by have := h.xlt k e; simp; omega⟩
    · exact ⟨.inr (by omega), by simp; omega⟩
  obtain ⟨y0, y1, y2, y3, y4, y5⟩ := hs.a
  simp only [Nat.zero_add] at y0 y1 y2 y3 y4 y5
  have HS := hide hs
  have HW := hide hw1
  clear h hs hw1
  go_enter Try.func17, Try.ntmps17
  go_upto_region 1 with fail
  rw [← unhide HW]
  generalize w.heap.size = B at *
  by_cases hd : y.do_ = 0
  · have hL : actL l y = posts l y.p (times y.n) := by unfold actL; simp [hd]
    have HL := hide hL
    clear hL
    have ht1 : 1 ≤ times y.n := by unfold times; split <;> omega
    have ht2 : times y.n ≤ 80 := by unfold times; split <;> omega
    have hts : ∀ j : Nat, j ≠ 0 → (j < times y.n ↔ j < y.n % 80) := fun j hj => by unfold times; split <;> omega
    have HTS := hide hts
    generalize hT : times y.n = T at *
    clear hts
    go_wp2_with fail
    go_loopw [7] (fun t wr => ∃ j : Nat, j ≤ T ∧ t = .int .i64 (j : Int) ∧ StY w0 w wr x r (posts l y.p j) (posts l y.p j) X B y) (fun t _ => T - (intOf t).toNat)
    case atStart => exact ⟨0, by omega, rfl, unhide HS⟩
    case round =>
      obtain ⟨j, hj, rfl, hs⟩ := hrel
      obtain ⟨z0, z1, z2, z3, z4, z5⟩ := hs.a
      simp only [Nat.zero_add] at z0 z1 z2 z3 z4 z5
      have HS2 := hide hs.drew
      have HS3 := hide hs
      clear hs y0 y1 y2 y3 y4 y5 hd HS
      by_cases hjT : j < T
      · have hstep : posts l y.p (j + 1) = postL (posts l y.p j) y.p := rfl
        have HST := hide hstep
        clear hstep HS3
        generalize posts l y.p j = p0 at *
        by_cases hj0 : j = 0
        · subst hj0
          go_wp2_with fail
          go_region_with (first | (go_at_call 9; refine (StY.post_x (unhide (by assumption))).mono ?_; rintro e w2 ⟨rfl, h2⟩; have H2 := hide h2; obtain ⟨x0, x1, x2, x3, x4, x5⟩ := h2.a; simp only [Nat.zero_add] at x0 x1 x2 x3 x4 x5; clear h2) | (go_at_call 27; refine (StY.post_r (unhide (by assumption))).mono ?_; rintro e w2 ⟨rfl, h2⟩; have H2 := hide h2; obtain ⟨x0, x1, x2, x3, x4, x5⟩ := h2.a; simp only [Nat.zero_add] at x0 x1 x2 x3 x4 x5; clear h2))
          all_goals
            go_wp2_with fail
            go_roundw
            case rel => exact ⟨0 + 1, by omega, by go_num, by rw [unhide HST]; exact unhide (by assumption)⟩
            case measure => simp [intOf]; omega
        · have hlt2 := ((unhide HTS) j hj0).1 hjT
          go_wp2_with fail
          go_region_with (first | (go_at_call 9; refine (StY.post_x (unhide (by assumption))).mono ?_; rintro e w2 ⟨rfl, h2⟩; have H2 := hide h2; obtain ⟨x0, x1, x2, x3, x4, x5⟩ := h2.a; simp only [Nat.zero_add] at x0 x1 x2 x3 x4 x5; clear h2) | (go_at_call 27; refine (StY.post_r (unhide (by assumption))).mono ?_; rintro e w2 ⟨rfl, h2⟩; have H2 := hide h2; obtain ⟨x0, x1, x2, x3, x4, x5⟩ := h2.a; simp only [Nat.zero_add] at x0 x1 x2 x3 x4 x5; clear h2))
          all_goals
            go_wp2_with fail
            go_roundw
            case rel => exact ⟨j + 1, by omega, by go_num, by rw [unhide HST]; exact unhide (by assumption)⟩
            case measure => simp [intOf]; omega
      · have hjT' : j = T := by omega
        subst hjT'
        have hj0 : ¬ j = 0 := by omega
        have hge : ¬ j < y.n % 80 := fun h => hjT (((unhide HTS) j hj0).2 h)
        have q1 : ((j : Int) == 0) = false := by simp; omega
        have q2 : decide ((j : Int) < (y.n : Int) % 80) = false := decide_eq_false (by omega)
        clear HS2
        go_wp2_with fail
        go_ret
        rw [unhide HL]
        exact ⟨rfl, (unhide HS3).done⟩
  by_cases hd1 : y.do_ = 1
  · have hL : actL l y = takeL l y.i := by unfold actL; simp [hd1]
    have HL := hide hL
    clear hL
    go_wp2_with fail
    refine ((unhide HS).take_x).mono ?_
    rintro e w2 ⟨rfl, h2⟩
    clear y0 y1 y2 y3 y4 y5 HS
    generalize hq : takeP l y.i = q at *
    obtain ⟨h3, k3⟩ := h2.hold (.cells #[.int .i64 q.f, .int .i64 q.t, .string q.d] 25)
    have hp3 := PkAt.new w2 q.f q.t q.d
    obtain ⟨w3, hw3⟩ : ∃ w3, w3 = w2.alloc (.cells #[.int .i64 q.f, .int .i64 q.t, .string q.d] 25) := ⟨_, rfl⟩
    rw [← hw3] at h3 k3 hp3
    have HQ := hide hq
    have HW3 := hide hw3
    have H3 := hide h3
    have K3 := hide k3
    have HP3 := hide hp3
    obtain ⟨y0, y1, y2, y3, y4, y5⟩ := h3.a
    simp only [Nat.zero_add] at y0 y1 y2 y3 y4 y5
    clear h2 h3 k3 hq hw3 hp3
    unfold Pkt.val
    go_upto_region 10 with fail
    rw [← unhide HW3]
    generalize w2.heap.size = B2 at *
    go_wp2_with fail
    refine ((unhide H3).take_r).mono ?_
    rw [unhide HQ]
    rintro e w4 ⟨rfl, h4⟩
    have hp4 := (unhide HP3).keep h4.kp (.inr rfl)
    have hp5 := hp4.alloc (.cells #[.int .i64 q.f, .int .i64 q.t, .string q.d] 25)
    have hp6 := PkAt.new w4 q.f q.t q.d
    have h5 := h4.moved ((Moved.refl _ _).alloc (.cells #[.int .i64 q.f, .int .i64 q.t, .string q.d] 25))
    obtain ⟨w5, hw5⟩ : ∃ w5, w5 = w4.alloc (.cells #[.int .i64 q.f, .int .i64 q.t, .string q.d] 25) := ⟨_, rfl⟩
    rw [← hw5] at hp5 hp6 h5
    have HW5 := hide hw5
    have H5 := hide h5
    obtain ⟨b0, b1, b2⟩ := hp5
    obtain ⟨d0, d1, d2⟩ := hp6
    dsimp only at d0 d1 d2
    have same := samePk_self q.f q.t q.d
    clear h4 h5 hw5 hp4 y0 y1 y2 y3 y4 y5
    unfold Pkt.val
    go_upto_region 11 with fail
    rw [← unhide HW5]
    go_wp2_with fail
    go_ret
    rw [unhide HL]
    obtain ⟨e1, e2⟩ := (unhide H5).done
    exact ⟨rfl, e1.mono fun _ hk => .inl hk, (unhide K3).trans (e2.mono fun _ hk => .inl hk)⟩
  by_cases hd2 : y.do_ = 2
  · have hL : actL l y = takeL l y.i := by unfold actL; simp [hd2]
    have HL := hide hL
    clear hL
    go_wp2_with fail
    refine ((unhide HS).take_r).mono ?_
    rintro e w2 ⟨rfl, h2⟩
    clear y0 y1 y2 y3 y4 y5 HS
    generalize takeP l y.i = q at *
    have h3 := h2.moved ((Moved.refl _ _).alloc (.cells #[.int .i64 q.f, .int .i64 q.t, .string q.d] 25))
    obtain ⟨w3, hw3⟩ : ∃ w3, w3 = w2.alloc (.cells #[.int .i64 q.f, .int .i64 q.t, .string q.d] 25) := ⟨_, rfl⟩
    rw [← hw3] at h3
    have HW3 := hide hw3
    have H3 := hide h3
    obtain ⟨y0, y1, y2, y3, y4, y5⟩ := h3.a
    simp only [Nat.zero_add] at y0 y1 y2 y3 y4 y5
    clear h2 h3 hw3
    unfold Pkt.val
    go_upto_region 14 with fail
    rw [← unhide HW3]
    go_wp2_with fail
    refine ((unhide H3).lose_x).mono ?_
    rintro e w4 ⟨rfl, h4⟩
    have H4 := hide h4
    clear h4
    go_wp2_with fail
    go_ret
    rw [unhide HL]
    exact ⟨rfl, (unhide H4).done⟩
  by_cases hd3 : y.do_ = 3
  · have hL : actL l y = dupL l y.i := by unfold actL; simp [hd3]
    have HL := hide hL
    have HS2 := hide (unhide HS).drew
    clear hL HS
    go_wp2_with fail
    go_region_with (first | (go_at_call 10; refine (StY.dup_x (unhide (by assumption))).mono ?_; rintro e w2 ⟨rfl, h2⟩; have H2 := hide h2; obtain ⟨x0, x1, x2, x3, x4, x5⟩ := h2.a; simp only [Nat.zero_add] at x0 x1 x2 x3 x4 x5; clear h2) | (go_at_call 29; refine (StY.dup_r (unhide (by assumption))).mono ?_; rintro e w2 ⟨rfl, h2⟩; have H2 := hide h2; obtain ⟨x0, x1, x2, x3, x4, x5⟩ := h2.a; simp only [Nat.zero_add] at x0 x1 x2 x3 x4 x5; clear h2))
    all_goals
      go_wp2_with fail
      go_ret
      rw [unhide HL]
      exact ⟨rfl, (unhide H2).done⟩
  have hL : actL l y = l := by unfold actL; simp [hd, hd1, hd2, hd3]
  have HL := hide hL
  clear hL
  go_wp2_with fail
  go_ret
  rw [unhide HL]
  exact ⟨rfl, (unhide HS).done⟩
end Go.Proofs.Ytceepejndomfaaa

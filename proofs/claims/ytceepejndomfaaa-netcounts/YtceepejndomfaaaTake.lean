/- What a net's Take, Lose and Dup do. No conditions. -/
import Derived.Test.YtceepejndomfaaaCalls
namespace Go.Proofs.Ytceepejndomfaaa
open Go.RowKit

theorem post_any {w : World} {p : Nat} {F : Nat → Prop} {l : List Pkt} (h : NetIs w p F l) (q : Pkt) :
    Calls Try.prog 9 #[.pointer (some ⟨p, 0, none⟩), q.val] w fun e w' => e = .returned (.int .i64 (postE l q)) ∧ Did w w' p F (postL l q) := by
  by_cases hq : q.ok
  · obtain ⟨a, c, ch, h, rfl⟩ := h
    exact post_ok h q hq
  · refine (post_arg q hq).mono ?_
    rintro e w' ⟨rfl, hb⟩
    refine ⟨by unfold postE; rw [if_pos hq], ?_⟩
    rw [show postL l q = l by unfold postL; rw [if_neg (fun h => hq h.1)]]
    exact Did.start h (Moved.of_below hb)
/-- Three cells of a new block. -/
theorem three {w w' : World} {v0 v1 v2 : Value} (hb : Below (w.alloc (.cells #[v0, v1, v2] 25)).heap.size (w.alloc (.cells #[v0, v1, v2] 25)) w') :
    (w'.cell? ⟨w.heap.size, 0, none⟩ = some v0 ∧ w'.cell? ⟨w.heap.size, 1, none⟩ = some v1 ∧ w'.cell? ⟨w.heap.size, 2, none⟩ = some v2) ∧
    (w'.frozen? ⟨w.heap.size, 0, none⟩ = false ∧ w'.frozen? ⟨w.heap.size, 1, none⟩ = false ∧ w'.frozen? ⟨w.heap.size, 2, none⟩ = false) ∧ w.heap.size < w'.heap.size := by
  have hlt : w.heap.size < (w.alloc (.cells #[v0, v1, v2] 25)).heap.size := by simp
  have hs := hb.size
  refine ⟨⟨?_, ?_, ?_⟩, ⟨?_, ?_, ?_⟩, by omega⟩
  · rw [hb.cell (p := ⟨w.heap.size, 0, none⟩) hlt]; simp
  · rw [hb.cell (p := ⟨w.heap.size, 1, none⟩) hlt]; simp
  · rw [hb.cell (p := ⟨w.heap.size, 2, none⟩) hlt]; simp
  · rw [hb.frozen (p := ⟨w.heap.size, 0, none⟩) hlt]; exact World.frozen?_alloc_new w _ _ _
  · rw [hb.frozen (p := ⟨w.heap.size, 1, none⟩) hlt]; exact World.frozen?_alloc_new w _ _ _
  · rw [hb.frozen (p := ⟨w.heap.size, 2, none⟩) hlt]; exact World.frozen?_alloc_new w _ _ _

theorem range3 {w : World} {A : Nat} {u0 u1 u2 : Value} (k : w.cell? ⟨A, 0, none⟩ = some u0 ∧ w.cell? ⟨A, 1, none⟩ = some u1 ∧ w.cell? ⟨A, 2, none⟩ = some u2) (f : w.frozen? ⟨A, 0, none⟩ = false ∧ w.frozen? ⟨A, 1, none⟩ = false ∧ w.frozen? ⟨A, 2, none⟩ = false)
    (x y z : Value) (o : Obj) : ((w.setCells A 0 [x, y, z]).alloc o).rangeAt A 0 [x, y, z] := by
  have ht : w.there A 0 3 := fun j hj => by
    rcases (show j = 0 ∨ j = 1 ∨ j = 2 by omega) with rfl | rfl | rfl
    · exact ⟨by rw [k.1]; rfl, f.1⟩
    · exact ⟨by rw [k.2.1]; rfl, f.2.1⟩
    · exact ⟨by rw [k.2.2]; rfl, f.2.2⟩
  intro j v hv
  have h := World.rangeAt_setCells_same w A 0 [x, y, z] ht j v hv
  rw [World.cell?_alloc_lt _ _ ⟨A, 0 + j, none⟩ (World.block_lt_of_cell? _ _ h)]
  exact h
theorem range3' {w : World} {A : Nat} {u0 u1 u2 : Value} (k : w.cell? ⟨A, 0, none⟩ = some u0 ∧ w.cell? ⟨A, 1, none⟩ = some u1 ∧ w.cell? ⟨A, 2, none⟩ = some u2) (f : w.frozen? ⟨A, 0, none⟩ = false ∧ w.frozen? ⟨A, 1, none⟩ = false ∧ w.frozen? ⟨A, 2, none⟩ = false)
    (x y z : Value) : (w.setCells A 0 [x, y, z]).rangeAt A 0 [x, y, z] := by
  have ht : w.there A 0 3 := fun j hj => by
    rcases (show j = 0 ∨ j = 1 ∨ j = 2 by omega) with rfl | rfl | rfl
    · exact ⟨by rw [k.1]; rfl, f.1⟩
    · exact ⟨by rw [k.2.1]; rfl, f.2.1⟩
    · exact ⟨by rw [k.2.2]; rfl, f.2.2⟩
  exact World.rangeAt_setCells_same w A 0 [x, y, z] ht

set_option maxHeartbeats 1000000 in
theorem take_nil (i : Int) (w : World) : Calls Try.prog 11 #[.pointer none, .int .i64 i] w fun e w' => e = .returned (.tuple #[Pkt.zero.val, .int .i64 2]) ∧ Below w.heap.size w w' := by
  go_enter Try.func11, Try.ntmps11
  go_wp2_with fail
  refine (find_nil i _).mono ?_
  rintro e w' ⟨rfl, hb⟩
  have K := hide (three hb)
  obtain ⟨⟨k0, k1, k2⟩, ⟨f0, f1, f2⟩, hs⟩ := three hb
  have HB := hide hb
  clear hb
  unfold Pkt.val Pkt.zero
  dsimp only
  go_wp2_with fail
  refine bodyPost_ret (v := .tuple #[Pkt.zero.val, .int .i64 2]) (results2_mid Try.results11 _ _ w.heap.size [.int .i64 0, .int .i64 0, .string ⟨#[]⟩] _ _ rfl rfl (range3 (unhide K).1 (unhide K).2.1 _ _ _ _) Try.underlying25 rfl (by kernel_rfl)) rfl ⟨rfl, ?_⟩
  exact (((((Below.refl w.heap.size w).alloc (Nat.le_refl _) _).trans ((unhide HB).mono (by simp))).setCell (Nat.le_refl _) _).setCell (Nat.le_refl _) _).setCell (Nat.le_refl _) _ |>.alloc (by simp; omega) _
set_option maxHeartbeats 1000000 in
theorem take_none {w : World} {p : Nat} {F : Nat → Prop} {l : List Pkt} (h : NetIs w p F l) (i : Int) (hi : ¬ (0 ≤ i ∧ i < l.length)) :
    Calls Try.prog 11 #[.pointer (some ⟨p, 0, none⟩), .int .i64 i] w fun e w' => e = .returned (.tuple #[Pkt.zero.val, .int .i64 4]) ∧ Below w.heap.size w w' := by
  obtain ⟨a, c, ch, h, rfl⟩ := h
  have H := hide (h.keep ((Moved.refl (fun _ => False) w).alloc (.cells #[.int .i64 0, .int .i64 0, .string ⟨#[]⟩] 25)) fun _ f => f.elim)
  clear h
  go_enter Try.func11, Try.ntmps11
  go_wp2_with fail
  refine (find_none (unhide H) i hi).mono ?_
  rintro e w' ⟨rfl, hb⟩
  have K := hide (three hb)
  obtain ⟨⟨k0, k1, k2⟩, ⟨f0, f1, f2⟩, hs⟩ := three hb
  have HB := hide hb
  clear hb
  unfold Pkt.val Pkt.zero
  dsimp only
  go_wp2_with fail
  refine bodyPost_ret (v := .tuple #[Pkt.zero.val, .int .i64 4]) (results2_mid Try.results11 _ _ w.heap.size [.int .i64 0, .int .i64 0, .string ⟨#[]⟩] _ _ rfl rfl (range3 (unhide K).1 (unhide K).2.1 _ _ _ _) Try.underlying25 rfl (by kernel_rfl)) rfl ⟨rfl, ?_⟩
  exact (((((Below.refl w.heap.size w).alloc (Nat.le_refl _) _).trans ((unhide HB).mono (by simp))).setCell (Nat.le_refl _) _).setCell (Nat.le_refl _) _).setCell (Nat.le_refl _) _ |>.alloc (by simp; omega) _
theorem take_done {w w1 w2 w4 : World} {p g c i : Nat} {l : List Pkt} {ch : Nat → Option Nat} (h : NetAt w p (some ⟨g, 0, none⟩) c l ch) (m1 : Moved (fun _ => False) w w1) (hi : i < l.length) (m2 : Moved (fun k => k = g) w1 w2)
    (hrow : Row w2 (some ⟨g, 0, none⟩) c (l.take i ++ l.drop (i + 1)))
    (hroom : RoomAt w4 p ch (down (fun i => cnt i l) (l.getD i Pkt.zero).link)) (m4 : Moved (fun k => ch (l.getD i Pkt.zero).link = some k) (w2.setCell ⟨p, 0, none⟩ (.slice (some ⟨g, 0, none⟩) (l.length - 1) c)) w4) (hlk : (l.getD i Pkt.zero).link < 81) :
    NetIs w4 p (nfoot p (some ⟨g, 0, none⟩) ch) (l.take i ++ l.drop (i + 1)) ∧ Moved (nfoot p (some ⟨g, 0, none⟩) ch) w w4 := by
  have h1 := h.keep m1 fun _ f => f.elim
  have hp1 : p < w1.heap.size := h1.lt p (.inl (.inl rfl))
  have hgp : g ≠ p := h1.off _ rfl
  have hs2 := m2.size
  have hp2 : p < w2.heap.size := by omega
  have hw2 := (m2.cell (p := ⟨p, 0, none⟩) hp1 (Ne.symm hgp)).trans h1.way
  have hf2 := (m2.frozen (p := ⟨p, 0, none⟩) hp1 (Ne.symm hgp)).trans h1.free
  have hnr := h1.room.no_row h1.row h1.off
  have hchp : ∀ k, ch (l.getD i Pkt.zero).link = some k → k ≠ p ∧ k ≠ g := fun k hk => by
    obtain ⟨buf, s, r, hh, _⟩ := h1.room.chan _ k hlk hk
    exact ⟨cell_no_chan (h1.room.cell 0 (by omega)) hh, fun e => hnr _ rfl (.inr ⟨_, hlk, e ▸ hk⟩)⟩
  have hs3 : (w2.setCell ⟨p, 0, none⟩ (.slice (some ⟨g, 0, none⟩) (l.length - 1) c)).heap.size = w2.heap.size := by simp
  have hcp : ¬ ch (l.getD i Pkt.zero).link = some p := fun e => (hchp p e).1 rfl
  have hcg : ¬ ch (l.getD i Pkt.zero).link = some g := fun e => (hchp g e).2 rfl
  have hll : (l.take i ++ l.drop (i + 1)).length = l.length - 1 := by simp; omega
  have hcnt : (fun j => cnt j (l.take i ++ l.drop (i + 1))) = down (fun i => cnt i l) (l.getD i Pkt.zero).link := funext fun j => by
    have := cnt_erase j i l hi
    unfold down
    by_cases e : (l.getD i Pkt.zero).link = j
    · rw [if_pos e] at this; rw [if_pos e.symm]; show _ = cnt j l - 1; omega
    · rw [if_neg e] at this; rw [if_neg (Ne.symm e)]; show _ = cnt j l; omega
  have hsub : ∀ q ∈ l.take i ++ l.drop (i + 1), q ∈ l := fun q hq => by
    rcases List.mem_append.1 hq with e | e
    · exact List.mem_of_mem_take e
    · exact List.mem_of_mem_drop e
  refine ⟨⟨some ⟨g, 0, none⟩, c, ch, ⟨?_, ?_, ?_, h.off, by rw [hcnt]; exact hroom, fun q hq => h.good q (hsub q hq), fun j => ?_⟩, rfl⟩, ?_⟩
  · rw [hll, m4.cell (p := ⟨p, 0, none⟩) (by rw [hs3]; exact hp2) hcp]
    exact World.cell?_setCell_same _ _ _ hw2
  · rw [m4.frozen (p := ⟨p, 0, none⟩) (by rw [hs3]; exact hp2) hcp, World.frozen?_setCell]
    exact hf2
  · refine (hrow.keep (Moved.put w2 p 0 _) fun x e => ?_).keep m4 fun x e => ?_
    · cases e; exact hgp
    · cases e; exact hcg
  · have := cnt_erase j i l hi; have := h.most j; omega
  · have A : Moved (nfoot p (some ⟨g, 0, none⟩) ch) w w2 := (m1.mono (G := nfoot p (some ⟨g, 0, none⟩) ch) fun _ f => f.elim).trans m2 fun k e => .inl (.inr ⟨_, rfl, e⟩)
    exact (A.setCell (p := ⟨p, 0, none⟩) (.inl (.inl (.inl rfl))) _).trans m4 fun k e => .inl (.inl (.inr ⟨_, hlk, e⟩))

set_option maxHeartbeats 1000000 in
theorem take_some {w : World} {p : Nat} {F : Nat → Prop} {l : List Pkt} (h : NetIs w p F l) (i : Nat) (hi : i < l.length) :
    Calls Try.prog 11 #[.pointer (some ⟨p, 0, none⟩), .int .i64 (i : Int)] w fun e w' => e = .returned (.tuple #[(l.getD i Pkt.zero).val, .int .i64 0]) ∧ Did w w' p F (l.take i ++ l.drop (i + 1)) := by
  obtain ⟨a, c, ch, h, rfl⟩ := h
  have hl := h.len
  have hp : p < w.heap.size := h.lt p (.inl (.inl rfl))
  rcases h.row.form with ⟨_, _, rfl⟩ | ⟨g, rfl, hg, _⟩
  · simp at hi
  have hgp := h.off _ rfl
  have hok : (l.getD i Pkt.zero).ok := h.good _ (by rw [List.getD_eq_getElem?_getD, List.getElem?_eq_getElem hi]; simp)
  have H := hide h
  have H0 := hide (h.keep ((Moved.refl (fun _ => False) w).alloc (.cells #[.int .i64 0, .int .i64 0, .string ⟨#[]⟩] 25)) fun _ f => f.elim)
  clear h
  go_enter Try.func11, Try.ntmps11
  go_wp2_with fail
  refine (find_some (unhide H0) i hi).mono ?_
  rintro e w' ⟨rfl, hb⟩
  have K := hide (three hb)
  obtain ⟨⟨k0, k1, k2⟩, ⟨f0, f1, f2⟩, hs⟩ := three hb
  have h1 := (unhide H0).keep (Moved.of_below (F := fun _ => False) hb) fun _ f => f.elim
  have hway := h1.way
  have hfree := h1.free
  have H1 := hide h1
  have HB := hide hb
  clear hb h1
  unfold Pkt.val
  unfold Pkt.ok at hok
  obtain ⟨q, hq⟩ : ∃ q, l.getD i Pkt.zero = q := ⟨_, rfl⟩
  rw [hq] at hok ⊢
  have HQ := hide hq
  clear hq
  obtain ⟨f, hf⟩ : ∃ f : Nat, q.f = f := ⟨q.f.toNat, by omega⟩
  obtain ⟨t, ht⟩ : ∃ t : Nat, q.t = t := ⟨q.t.toNat, by omega⟩
  rw [hf, ht]
  have HF := hide hf
  have HT := hide ht
  clear hf ht
  obtain ⟨w1, hw1⟩ : ∃ w1, w1 = w'.alloc (.cells #[.int .i64 (f : Int), .int .i64 (t : Int), .string q.d] 25) := ⟨_, rfl⟩
  have m1 : Moved (fun _ => False) w' w1 := by rw [hw1]; exact (Moved.refl _ _).alloc _
  have hw1s : w'.heap.size < w1.heap.size := by rw [hw1]; simp
  have b1 : (w1.cell? ⟨w'.heap.size, 0, none⟩ = some (.int .i64 (f : Int)) ∧ w1.cell? ⟨w'.heap.size, 1, none⟩ = some (.int .i64 (t : Int)) ∧ w1.cell? ⟨w'.heap.size, 2, none⟩ = some (.string q.d)) := by rw [hw1]; simp
  have h1 := (unhide H1).keep m1 fun _ f => f.elim
  have hway1 := h1.way
  have HN1 := hide h1
  have M1 := hide m1
  have HW1 := hide hw1
  have B1 := hide b1
  clear h1 m1 hw1 b1
  go_upto_region 4 with fail
  rw [← unhide HW1]
  clear hway hfree
  go_wp2_with fail
  refine (delete_any (unhide HN1).row i hi (by omega)).mono ?_
  rintro e w2 ⟨rfl, hrow2, m2⟩
  have hp1 : p < w1.heap.size := by omega
  have hpg : p ≠ g := fun e => hgp e.symm
  have hBg : w'.heap.size ≠ g := by omega
  have hAg : w.heap.size ≠ g := by omega
  have hs2 := m2.size
  have hway2 := (m2.cell (p := ⟨p, 0, none⟩) hp1 hpg).trans hway1
  have hfz2 := (m2.frozen (p := ⟨p, 0, none⟩) hp1 hpg).trans (unhide HN1).free
  have bc0 := (m2.cell (p := ⟨w'.heap.size, 0, none⟩) hw1s hBg).trans (unhide B1).1
  have bc1 := (m2.cell (p := ⟨w'.heap.size, 1, none⟩) hw1s hBg).trans (unhide B1).2.1
  have bc2 := (m2.cell (p := ⟨w'.heap.size, 2, none⟩) hw1s hBg).trans (unhide B1).2.2
  have HROW2 := hide hrow2
  have M2 := hide m2
  clear hrow2 m2 hway1
  have hBp : w'.heap.size ≠ p := by omega
  obtain ⟨w3, hw3⟩ : ∃ w3, w3 = w2.setCell ⟨p, 0, none⟩ (.slice (some ⟨g, 0, none⟩) (l.length - 1) c) := ⟨_, rfl⟩
  have hnr := (unhide HN1).room.no_row (unhide HN1).row (unhide HN1).off
  have hroom3 : RoomAt w3 p ch (fun i => cnt i l) := by
    rw [hw3]
    exact ((unhide HN1).room.keep (unhide M2) fun k e r => hnr _ rfl (e ▸ r)).way _
  have hlink : q.link = f * 9 + t := by unfold Pkt.link; rw [unhide HF, unhide HT]; simp
  have hpos : 0 < cnt (f * 9 + t) l := by
    have := cnt_erase (f * 9 + t) i l hi
    rw [unhide HQ, if_pos hlink] at this
    omega
  have hlk81 : f * 9 + t < 81 := by have := unhide HF; have := unhide HT; omega
  have hf9 : f < 9 := by have := unhide HF; omega
  have ht9 : t < 9 := by have := unhide HT; omega
  have HR3 := hide hroom3
  have HW3 := hide hw3
  have HL := hide hlink
  clear hroom3 hw3 hlink hnr
  go_wp2_with fail
  rw [← unhide HW3]
  refine (leave_any (unhide HR3) f t hf9 ht9 hpos).mono ?_
  rintro e w4 ⟨rfl, hroom4, m4⟩
  have hchlt : ∀ k, ch (f * 9 + t) = some k → k < w.heap.size := fun k hk => (unhide H).lt k (.inl (.inr ⟨_, hlk81, hk⟩))
  have hs3 : w3.heap.size = w2.heap.size := by rw [unhide HW3]; simp
  have hs4 := m4.size
  have M24 : Moved (fun k => k = p ∨ ch (f * 9 + t) = some k) w2 w4 := by
    have A : Moved (fun k => k = p ∨ ch (f * 9 + t) = some k) w2 w3 := by rw [unhide HW3]; exact (Moved.refl _ _).setCell (p := ⟨p, 0, none⟩) (.inl (.inl rfl)) _
    exact A.trans m4 fun k e => .inl (.inr e)
  have hB2 : w'.heap.size < w2.heap.size := by omega
  have hnB : ¬ (w'.heap.size = p ∨ ch (f * 9 + t) = some w'.heap.size) := by
    rintro (e | e)
    · exact hBp e
    · have := hchlt _ e; omega
  have hnA : ¬ (w.heap.size = p ∨ ch (f * 9 + t) = some w.heap.size) := by
    rintro (e | e)
    · omega
    · have := hchlt _ e; omega
  have d0 := (M24.cell (p := ⟨w'.heap.size, 0, none⟩) hB2 hnB).trans bc0
  have d1 := (M24.cell (p := ⟨w'.heap.size, 1, none⟩) hB2 hnB).trans bc1
  have d2 := (M24.cell (p := ⟨w'.heap.size, 2, none⟩) hB2 hnB).trans bc2
  have MA : Moved (fun k => k = g ∨ k = p ∨ ch (f * 9 + t) = some k) w' w4 := (((unhide M1).mono (G := fun k => k = g ∨ k = p ∨ ch (f * 9 + t) = some k) fun _ f => f.elim).trans (unhide M2) fun k e => .inl (.inl e)).trans M24 fun k e => .inl (.inr e)
  have hnA' : ¬ (w.heap.size = g ∨ w.heap.size = p ∨ ch (f * 9 + t) = some w.heap.size) := fun e => e.elim hAg hnA
  have a0 := (MA.cell (p := ⟨w.heap.size, 0, none⟩) hs hnA').trans k0
  have a1 := (MA.cell (p := ⟨w.heap.size, 1, none⟩) hs hnA').trans k1
  have a2 := (MA.cell (p := ⟨w.heap.size, 2, none⟩) hs hnA').trans k2
  have z0 := (MA.frozen (p := ⟨w.heap.size, 0, none⟩) hs hnA').trans f0
  have z1 := (MA.frozen (p := ⟨w.heap.size, 1, none⟩) hs hnA').trans f1
  have z2 := (MA.frozen (p := ⟨w.heap.size, 2, none⟩) hs hnA').trans f2
  have HC := hide (And.intro (And.intro a0 (And.intro a1 a2)) (And.intro z0 (And.intro z1 z2)))
  have HR4 := hide hroom4
  have M4 := hide m4
  clear hroom4 m4 M24 MA hnA hnA' hnB hchlt bc0 bc1 bc2 k0 k1 k2 f0 f1 f2 hway2 hfz2
  go_wp2_with fail
  have eq : Pkt.val q = .agg [.int .i64 (f : Int), .int .i64 (t : Int), .string q.d].toArray := by unfold Pkt.val; rw [unhide HF, unhide HT]
  refine bodyPost_ret (v := .tuple #[.agg [.int .i64 (f : Int), .int .i64 (t : Int), .string q.d].toArray, .int .i64 0]) (results2_mid Try.results11 _ _ w.heap.size [.int .i64 (f : Int), .int .i64 (t : Int), .string q.d] _ _ rfl rfl (range3' (unhide HC).1 (unhide HC).2 _ _ _) Try.underlying25 rfl (by kernel_rfl)) rfl ⟨by rw [unhide HQ, eq], ?_⟩
  have hq := unhide HQ
  have hlk := unhide HL
  have mw : Moved (fun _ => False) w w1 := ((Moved.refl (fun _ => False) w).alloc _).trans ((Moved.of_below (F := fun _ => False) (unhide HB)).trans (unhide M1) fun _ f => f.elim) fun _ f => f.elim
  have hD := take_done (unhide H) mw hi (unhide M2) (unhide HROW2) (w4 := w4) (by rw [hq, hlk]; exact unhide HR4) (by rw [hq, hlk, ← unhide HW3]; exact unhide M4) (by rw [hq, hlk]; exact hlk81)
  obtain ⟨hN, hM⟩ := hD
  have mA : Moved (fun k => k = w.heap.size) w4 (w4.setCells w.heap.size 0 [.int .i64 (f : Int), .int .i64 (t : Int), .string q.d]) := moved_setCells (Moved.refl (fun k => k = w.heap.size) w4) (.inl rfl) _ _
  refine ⟨_, hN.keep mA fun k e hk => ?_, fun k f => .inl f, hM.trans mA fun k e => .inr (by omega)⟩
  have := (unhide H).lt _ hk
  omega
/-- What comes, and what is on its way then. -/
def takeP (l : List Pkt) (i : Int) : Pkt := if 0 ≤ i ∧ i < l.length then l.getD i.toNat Pkt.zero else Pkt.zero
def takeE (l : List Pkt) (i : Int) : Int := if 0 ≤ i ∧ i < l.length then 0 else 4
def takeL (l : List Pkt) (i : Int) : List Pkt := if 0 ≤ i ∧ i < l.length then l.take i.toNat ++ l.drop (i.toNat + 1) else l
theorem take_any {w : World} {p : Nat} {F : Nat → Prop} {l : List Pkt} (h : NetIs w p F l) (i : Int) :
    Calls Try.prog 11 #[.pointer (some ⟨p, 0, none⟩), .int .i64 i] w fun e w' => e = .returned (.tuple #[(takeP l i).val, .int .i64 (takeE l i)]) ∧ Did w w' p F (takeL l i) := by
  by_cases hi : 0 ≤ i ∧ i < l.length
  · obtain ⟨k, rfl⟩ : ∃ k : Nat, i = k := ⟨i.toNat, by omega⟩
    unfold takeP takeE takeL
    rw [if_pos hi, if_pos hi, if_pos hi]
    exact take_some h k (by omega)
  · unfold takeP takeE takeL
    rw [if_neg hi, if_neg hi, if_neg hi]
    refine (take_none h i hi).mono ?_
    rintro e w' ⟨rfl, hb⟩
    exact ⟨rfl, Did.start h (Moved.of_below hb)⟩
theorem lose_any {w : World} {p : Nat} {F : Nat → Prop} {l : List Pkt} (h : NetIs w p F l) (i : Int) :
    Calls Try.prog 13 #[.pointer (some ⟨p, 0, none⟩), .int .i64 i] w fun e w' => e = .returned (.int .i64 (takeE l i)) ∧ Did w w' p F (takeL l i) := by
  have H := hide h
  clear h
  go_enter Try.func13, Try.ntmps13
  go_wp2_with fail
  refine (take_any (unhide H) i).mono ?_
  rintro e w' ⟨rfl, hd⟩
  have HD := hide hd
  clear hd
  unfold Pkt.val
  go_wp2_with fail
  go_ret
  obtain ⟨F', hN, hF, hM⟩ := unhide HD
  exact ⟨rfl, F', hN.keep ((Moved.refl (fun _ => False) w').alloc _) (fun _ f => f.elim), hF, hM.alloc _⟩
theorem lose_nil (i : Int) (w : World) : Calls Try.prog 13 #[.pointer none, .int .i64 i] w fun e w' => e = .returned (.int .i64 2) ∧ Below w.heap.size w w' := by
  go_enter Try.func13, Try.ntmps13
  go_wp2_with fail
  refine (take_nil i _).mono ?_
  rintro e w' ⟨rfl, hd⟩
  have HD := hide hd
  clear hd
  unfold Pkt.val Pkt.zero
  dsimp only
  go_wp2_with fail
  go_ret
  exact ⟨rfl, (unhide HD).alloc (unhide HD).size _⟩
/-- What Dup answers, and what is on its way then. -/
def dupE (l : List Pkt) (i : Int) : Int := if 0 ≤ i ∧ i < l.length then postE l (l.getD i.toNat Pkt.zero) else 4
def dupL (l : List Pkt) (i : Int) : List Pkt := if 0 ≤ i ∧ i < l.length then postL l (l.getD i.toNat Pkt.zero) else l
theorem dup_nil (i : Int) (w : World) : Calls Try.prog 10 #[.pointer none, .int .i64 i] w fun e w' => e = .returned (.int .i64 2) ∧ Below w.heap.size w w' := by
  go_enter Try.func10, Try.ntmps10
  go_wp2_with fail
  refine (find_nil i _).mono ?_
  rintro e w' ⟨rfl, hd⟩
  have HD := hide hd
  clear hd
  unfold Pkt.val Pkt.zero
  dsimp only
  go_wp2_with fail
  go_ret
  exact ⟨rfl, (unhide HD).alloc (unhide HD).size _⟩
theorem dup_any {w : World} {p : Nat} {F : Nat → Prop} {l : List Pkt} (h : NetIs w p F l) (i : Int) :
    Calls Try.prog 10 #[.pointer (some ⟨p, 0, none⟩), .int .i64 i] w fun e w' => e = .returned (.int .i64 (dupE l i)) ∧ Did w w' p F (dupL l i) := by
  have H := hide h
  obtain ⟨a, c, ch, hat, rfl⟩ := h
  have HA := hide hat
  clear hat
  by_cases hi : 0 ≤ i ∧ i < l.length
  · obtain ⟨k, rfl⟩ : ∃ k : Nat, i = k := ⟨i.toNat, by omega⟩
    unfold dupE dupL
    rw [if_pos hi, if_pos hi]
    show Calls Try.prog 10 #[.pointer (some ⟨p, 0, none⟩), .int .i64 (k : Int)] w fun e w' => e = .returned (.int .i64 (postE l (l.getD k Pkt.zero))) ∧ Did w w' p (nfoot p a ch) (postL l (l.getD k Pkt.zero))
    have fs := find_some (unhide HA) k (by omega)
    generalize l.getD k Pkt.zero = q at *
    have FS := hide fs
    clear fs
    go_enter Try.func10, Try.ntmps10
    go_wp2_with fail
    refine (unhide FS).mono ?_
    rintro e w' ⟨rfl, hb⟩
    have HB := hide hb
    clear hb
    unfold Pkt.val
    go_wp2_with fail
    have m : Moved (fun _ => False) w (w'.alloc (.cells #[.int .i64 q.f, .int .i64 q.t, .string q.d] 25)) := (Moved.of_below (F := fun _ => False) (unhide HB)).alloc _
    refine (post_any ((unhide H).keep m fun _ f => f.elim) q).mono ?_
    rintro e w2 ⟨rfl, hd⟩
    have HD := hide (Did.trans (fun k f => .inl f) (m.mono fun _ f => f.elim) hd)
    clear hd m
    go_wp2_with fail
    go_ret
    exact ⟨rfl, unhide HD⟩
  · unfold dupE dupL
    rw [if_neg hi, if_neg hi]
    go_enter Try.func10, Try.ntmps10
    go_wp2_with fail
    refine (find_none (unhide HA) i hi).mono ?_
    rintro e w' ⟨rfl, hb⟩
    have HB := hide hb
    clear hb
    unfold Pkt.val Pkt.zero
    dsimp only
    go_wp2_with fail
    go_ret
    exact ⟨rfl, Did.start (unhide H) ((Moved.of_below (F := fun _ => False) (unhide HB)).alloc _)⟩
end Go.Proofs.Ytceepejndomfaaa

/- The document's own net: Take. No conditions. -/
import Derived.Test.YtceepejndomfaaaRefB
namespace Go.Proofs.Ytceepejndomfaaa
open Go.RowKit

theorem grown_keeps {w w' : World} {row : Option Nat} (h : w.grownBy w' row) {b o : Nat} (hb : b < w.heap.size) (hne : some b ≠ row) : w'.cell? ⟨b, o, none⟩ = w.cell? ⟨b, o, none⟩ ∧ w'.frozen? ⟨b, o, none⟩ = w.frozen? ⟨b, o, none⟩ :=
  ⟨World.cell?_of_block (a := ⟨b, o, none⟩) (h.block b hb hne), World.frozen?_of_block (a := ⟨b, o, none⟩) (h.block b hb hne)⟩
theorem ownBlock_slice {a : Option Addr} {n c k : Nat} (h : (Value.slice a n c).ownBlock = some k) : ofRow a k := by
  cases a with
  | none => simp [Value.ownBlock] at h
  | some x => simp [Value.ownBlock] at h; exact ⟨x, rfl, h.symm⟩

set_option maxHeartbeats 4000000 in
theorem take_ref_some {w : World} {r : Nat} {G : Nat → Prop} {l : List Pkt} (h : RefIs w r G l) (i : Nat) (hi : i < l.length) :
    Calls Try.prog 28 #[.pointer (some ⟨r, 0, none⟩), .int .i64 (i : Int)] w fun e w' => e = .returned (.tuple #[(l.getD i Pkt.zero).val, .int .i64 0]) ∧ RefDid w w' r G (l.take i ++ l.drop (i + 1)) := by
  obtain ⟨a, c, h, rfl⟩ := h
  have hl := h.len
  have hr : r < w.heap.size := h.lt r (.inl rfl)
  have hgood := h.good
  rcases h.row.form with ⟨_, _, e⟩ | ⟨g, rfl, hg, hcap, hcm, _⟩
  · rw [e] at hi; simp at hi
  obtain ⟨q, hq⟩ : ∃ q, l.getD i Pkt.zero = q := ⟨_, rfl⟩
  obtain ⟨n, hn⟩ : ∃ n, n = l.length := ⟨_, rfl⟩
  obtain ⟨c0, c1, c2⟩ := h.row.at i hi
  rw [hq] at c0 c1 c2 ⊢
  -- the world behind the two blocks
  obtain ⟨w1, hw1⟩ : ∃ w1, w1 = (w.alloc (.cells #[.int .i64 0, .int .i64 0, .string ⟨#[]⟩] 25)).alloc (.cells #[.int .i64 q.f, .int .i64 q.t, .string q.d] 25) := ⟨_, rfl⟩
  have m1 : Moved (fun _ => False) w w1 := by rw [hw1]; exact ((Moved.refl _ _).alloc _).alloc _
  have h1 := h.keep m1 fun _ f => f.elim
  have hs1 : w1.heap.size = w.heap.size + 2 := by rw [hw1]; simp
  have pB : PkAt w1 (w.heap.size + 1) q := by
    have := PkAt.new (w.alloc (.cells #[.int .i64 0, .int .i64 0, .string ⟨#[]⟩] 25)) q.f q.t q.d
    rw [show (w.alloc (.cells #[.int .i64 0, .int .i64 0, .string ⟨#[]⟩] 25)).heap.size = w.heap.size + 1 by simp] at this
    rw [hw1]; exact this
  have pA : PkAt w1 w.heap.size Pkt.zero := by rw [hw1]; exact (PkAt.new w 0 0 ⟨#[]⟩).alloc _
  have fA : ∀ o, w1.frozen? ⟨w.heap.size, o, none⟩ = false := fun o => by
    rw [hw1, World.frozen?_alloc_old _ _ ⟨w.heap.size, o, none⟩ (by simp)]
    exact World.frozen?_alloc_new w _ _ _
  -- the first append
  have htk : (l.take i).length = i := by rw [List.length_take]; omega
  have hlies1 : Lies w1 (some ⟨g, 0, none⟩) (l.take i) := by
    refine ⟨fun e => (by cases e), fun x e j u hu => h1.row.lies.2 x e j u ?_⟩
    rw [← pcells_take] at hu
    obtain ⟨hj, hu'⟩ := List.getElem?_eq_some_iff.1 hu
    rw [List.getElem?_take] at hu
    split at hu
    · exact hu
    · cases hu
  obtain ⟨a2, cc2, w2, hr2, hrow2, hf2, hg2⟩ := prow_app (row_nil w1) (some ⟨g, 0, none⟩) c (l.take i) hlies1 (by simp; omega)
  rw [htk] at hr2
  simp only [List.nil_append, List.length_nil, htk] at hr2
  have hnone : (Value.slice (none : Option Addr) 0 0).ownBlock = none := rfl
  have m2 : Moved (fun _ => False) w1 w2 := (Moved.refl (fun _ => False) w1).grown hg2 fun k hk => by simp [Value.ownBlock] at hk
  have hfr2 : ∀ x, a2 = some x → w1.heap.size ≤ x.block := fun x hx => by
    rcases hf2 x hx with e | e
    · cases e
    · exact e
  have h2 := h1.keep m2 fun _ f => f.elim
  -- the second append
  have hlen2 : (l.drop (i + 1)).length = n - (i + 1) := by rw [List.length_drop, hn]
  obtain ⟨A, hA, hlies2⟩ : ∃ A : Addr, (if c = i + 1 then some (⟨g, 0, none⟩ : Addr) else some ⟨g, (i + 1) * 3, none⟩) = some A ∧ Lies w2 (some A) (l.drop (i + 1)) := by
    by_cases e : c = i + 1
    · refine ⟨⟨g, 0, none⟩, by simp [e], fun e => (by cases e), fun x _ j u hu => ?_⟩
      have h0 : l.drop (i + 1) = [] := List.length_eq_zero_iff.1 (by rw [hlen2]; omega)
      rw [h0] at hu
      simp [pcells] at hu
    · refine ⟨⟨g, (i + 1) * 3, none⟩, by simp [e], fun e => (by cases e), fun x ex j u hu => ?_⟩
      cases ex
      rw [← pcells_drop, List.getElem?_drop] at hu
      have := h2.row.lies.2 _ rfl _ u hu
      rw [Addr.add_lit, Nat.zero_add] at this
      rw [Addr.add_lit]; exact this
  rw [List.nil_append] at hrow2
  have hb3 : (l.take i).length + (l.drop (i + 1)).length ≤ 1099511627776 := by omega
  obtain ⟨a3, cc3, w3, hr3, hrow3, hf3, hg3⟩ := prow_app hrow2 (some A) (c - (i + 1)) (l.drop (i + 1)) hlies2 hb3
  have hl3 : (l.take i ++ l.drop (i + 1)).length = i + (n - (i + 1)) := by rw [List.length_append, htk, hlen2]
  rw [htk, hlen2, hl3] at hr3
  have m3 : Moved (ofRow a2) w2 w3 := (Moved.refl (ofRow a2) w2).grown hg3 fun k hk => .inl (ownBlock_slice hk)
  have m13 : Moved (fun _ => False) w1 w3 := (m2.trans m3 fun k ⟨x, e, e'⟩ => .inr (by rw [e']; exact hfr2 x e))
  have h3 := h1.keep m13 fun _ f => f.elim
  have hs3 := m13.size
  have hfr3 : ∀ x, a3 = some x → w1.heap.size ≤ x.block := fun x hx => by
    rcases hf3 x hx with e | e
    · exact hfr2 x e
    · exact Nat.le_trans m2.size e
  have hAl : w.heap.size < w1.heap.size := by omega
  have hBl : w.heap.size + 1 < w1.heap.size := by omega
  have kA : ∀ o, w3.cell? ⟨w.heap.size, o, none⟩ = w1.cell? ⟨w.heap.size, o, none⟩ := fun o => m13.cell (p := ⟨w.heap.size, o, none⟩) hAl id
  have kB : ∀ o, w3.cell? ⟨w.heap.size + 1, o, none⟩ = w1.cell? ⟨w.heap.size + 1, o, none⟩ := fun o => m13.cell (p := ⟨w.heap.size + 1, o, none⟩) hBl id
  have zA : ∀ o, w3.frozen? ⟨w.heap.size, o, none⟩ = false := fun o => (m13.frozen (p := ⟨w.heap.size, o, none⟩) hAl id).trans (fA o)
  have a0 := (kA 0).trans pA.c0
  have a1 := (kA 1).trans pA.c1
  have a2' := (kA 2).trans pA.c2
  have b0 := (kB 0).trans pB.c0
  have b1 := (kB 1).trans pB.c1
  have b2 := (kB 2).trans pB.c2
  have z0 := zA 0
  have z1 := zA 1
  have z2 := zA 2
  have way1 := h1.way
  have way2 := h2.way
  have way3 := h3.way
  have free3 := h3.free
  have way0 := h.way
  rw [← hn] at way0 way1 way2 way3
  have HC := hide (And.intro (And.intro a0 (And.intro a1 a2')) (And.intro z0 (And.intro z1 z2)))
  have mfin : Moved (fun _ => False) w w3 := m1.trans m13 fun _ f => f.elim
  have hD := ref_done' h1 m1 (m13.mono (G := ofRow (some ⟨g, 0, none⟩)) fun _ f => f.elim) hrow3 (fun x hx => .inr (hfr3 x hx)) (fun x hx => by
    rcases List.mem_append.1 hx with e | e
    · exact hgood x (List.mem_of_mem_take e)
    · exact hgood x (List.mem_of_mem_drop e)) (by omega)
  rw [hl3] at hD
  have HD := hide hD
  have HW1 := hide hw1
  have HF3 := hide hfr3
  have hin : i < n := by omega
  have hnc : n ≤ c := by omega
  have hic : i ≤ c := by omega
  have hjc : i + 1 ≤ c := by omega
  have g1 : (0 : Int) ≤ (i : Int) + 1 := by omega
  have g2 : (i : Int) + 1 ≤ (n : Int) := by omega
  have hn5 : n ≤ 5184 := by omega
  have hc63 : c ≤ 9223372036854775807 := by unfold maxLen at hcm; omega
  have HQ := hide hq
  have HLS := hide hs1
  have hr3l : r < w3.heap.size := by omega
  have hA3 : w.heap.size < w3.heap.size := by omega
  have hAr : w.heap.size ≠ r := by omega
  clear h h1 h2 h3 hD m1 m2 m3 m13 mfin hw1 hfr2 hfr3 hf2 hf3 hg2 hg3 hrow2 hrow3 hlies1 hlies2 kA kB zA pA pB fA hgood hq hl hi hcap hcm hn hs1 hlen2 hl3 htk hb3 hnone hAl hBl
  generalize l.take i ++ l.drop (i + 1) = m at *
  go_enter Try.func28, Try.ntmps28
  go_upto_region 4 with fail
  rw [← unhide HW1]
  have hw1s := unhide HLS
  go_wp2_with (first | (at_builtin; refine wpList_app rfl _ _ 36 36 rfl rfl rfl hr2 ?_) | (at_builtin; refine wpList_app rfl _ _ 36 36 rfl rfl rfl hr3 ?_))
  have hwr : ∀ o, (w3.setCell ⟨r, 0, none⟩ (.slice a3 (i + (n - (i + 1))) cc3)).cell? ⟨w.heap.size, o, none⟩ = w3.cell? ⟨w.heap.size, o, none⟩ := fun o => World.cell?_setCell_other _ _ _ _ (fun he => hAr (by have := congrArg Addr.block he; dsimp only at this; omega))
  have hwf : ∀ o, (w3.setCell ⟨r, 0, none⟩ (.slice a3 (i + (n - (i + 1))) cc3)).frozen? ⟨w.heap.size, o, none⟩ = w3.frozen? ⟨w.heap.size, o, none⟩ := fun o => World.frozen?_setCell ..
  obtain ⟨⟨x0, x1, x2⟩, ⟨y0, y1, y2⟩⟩ := unhide HC
  refine bodyPost_ret (v := .tuple #[.agg [.int .i64 q.f, .int .i64 q.t, .string q.d].toArray, .int .i64 0]) (results2_mid Try.results28 _ _ w.heap.size [.int .i64 q.f, .int .i64 q.t, .string q.d] _ _ rfl rfl (range3' ⟨(hwr 0).trans x0, (hwr 1).trans x1, (hwr 2).trans x2⟩ ⟨(hwf 0).trans y0, (hwf 1).trans y1, (hwf 2).trans y2⟩ _ _ _) Try.underlying25 rfl (by kernel_rfl)) rfl ⟨rfl, ?_⟩
  obtain ⟨e1, e2, e3⟩ := unhide HD
  have mA : Moved (fun k => k = w.heap.size) (w3.setCell ⟨r, 0, none⟩ (.slice a3 (i + (n - (i + 1))) cc3)) ((w3.setCell ⟨r, 0, none⟩ (.slice a3 (i + (n - (i + 1))) cc3)).setCells w.heap.size 0 [.int .i64 q.f, .int .i64 q.t, .string q.d]) := moved_setCells (Moved.refl (fun k => k = w.heap.size) _) (.inl rfl) _ _
  refine ⟨reffoot r a3, ⟨a3, cc3, e1.keep mA fun k e hk => ?_, rfl⟩, e2, e3.trans mA fun k e => .inr (by omega)⟩
  rcases hk with e' | ⟨x, ex, e'⟩
  · exact hAr (e.symm.trans e')
  · have := unhide HF3 x ex; omega
theorem take_ref {w : World} {r : Nat} {G : Nat → Prop} {l : List Pkt} (h : RefIs w r G l) (i : Int) :
    Calls Try.prog 28 #[.pointer (some ⟨r, 0, none⟩), .int .i64 i] w fun e w' => e = .returned (.tuple #[(takeP l i).val, .int .i64 (takeE l i)]) ∧ RefDid w w' r G (takeL l i) := by
  by_cases hi : 0 ≤ i ∧ i < l.length
  · obtain ⟨k, rfl⟩ : ∃ k : Nat, i = k := ⟨i.toNat, by omega⟩
    unfold takeP takeE takeL
    rw [if_pos hi, if_pos hi, if_pos hi]
    exact take_ref_some h k (by omega)
  · unfold takeP takeE takeL
    rw [if_neg hi, if_neg hi, if_neg hi]
    refine (take_ref_none h i hi).mono ?_
    rintro e w' ⟨rfl, hb⟩
    exact ⟨rfl, RefDid.start h (Moved.of_below hb)⟩
end Go.Proofs.Ytceepejndomfaaa

/- What the store's All and Twin tell. Condition: the store has at most 1000 windows. -/
import Derived.Test.YtmgmkdkdpeljmaaSPut
import Derived.Test.YtmgmkdkdpeljmaaSortS
import Derived.Laws.IdiomRangeMap
namespace Go.Proofs.Ytmgmkdkdpeljmaa
open Go.RowKit Go.Maps

theorem all_nil (w : World) : Calls Try.prog 14 #[.pointer none] w fun e w' => e = .returned (.slice none 0 0) ∧ w' = w := by
  go_enter Try.func14, Try.ntmps14
  go_wp2
  go_ret
  exact ⟨rfl, rfl⟩
theorem twin_nil (w : World) : Calls Try.prog 13 #[.pointer none] w fun e w' => e = .returned (.pointer none) ∧ w' = w := by
  go_enter Try.func13, Try.ntmps13
  go_wp2
  go_ret
  exact ⟨rfl, rfl⟩
theorem cloned {w : World} {m : Option Nat} {l : List (Win AggV)} (h : (m = none ∧ l = []) ∨ ∃ b, m = some b ∧ MapIs w b l) :
    Calls Try.prog 38 #[.map m] w fun e w' => ∃ m', e = .returned (.map m') ∧ Below w.heap.size w w' ∧ (∀ b, m' = some b → w.heap.size ≤ b) ∧ ((m' = none ∧ l = []) ∨ ∃ b, m' = some b ∧ MapIs w' b l) := by
  rcases h with ⟨rfl, rfl⟩ | ⟨b, rfl, D, ho, hD⟩
  · refine (AnyW.maps_Clone_nil (P := Try.prog) (ρ := cloneMap_ren) cloneMap w).mono ?_
    rintro e w' ⟨rfl, rfl⟩
    exact ⟨none, rfl, Below.refl _ _, fun b e => (by cases e), .inl ⟨rfl, rfl⟩⟩
  · refine (AnyW.maps_Clone_owns (P := Try.prog) (ρ := cloneMap_ren) cloneMap 84 Rw b _ D w ho).mono ?_
    rintro e w' ⟨rfl, h1, _, hb⟩
    exact ⟨some w.heap.size, rfl, hb, fun b' e => by cases e; exact Nat.le_refl _, .inr ⟨_, rfl, D, h1, hD⟩⟩
theorem twin_any {w : World} {p : Nat} {F : Nat → Prop} {l : List (Win AggV)} (h : StIs w p F l) :
    Calls Try.prog 13 #[.pointer (some ⟨p, 0, none⟩)] w fun e w' => ∃ q F', e = .returned (.pointer (some ⟨q, 0, none⟩)) ∧ StIs w' q F' l ∧ (∀ k, F' k → w.heap.size ≤ k) ∧ Below w.heap.size w w' := by
  obtain ⟨m, h, rfl⟩ := h
  have hw := h.way
  have hc := hide (cloned h.what)
  have FI := hide h.fine
  clear h
  go_enter Try.func13, Try.ntmps13
  go_wp2_with fail
  refine (unhide hc).mono ?_
  rintro e v ⟨m', rfl, hb, hf, hm⟩
  have HB := hide hb
  have HF := hide hf
  have HM := hide hm
  clear hb hf hm
  go_wp2_with fail
  go_ret
  have hb := unhide HB
  refine ⟨v.heap.size, foot v.heap.size m', rfl, ⟨m', ⟨?_, ?_, ?_, ?_, unhide FI⟩, rfl⟩, ?_, hb.alloc hb.size _⟩
  · rw [World.cell?_alloc_new]; rfl
  · simp
  · refine (unhide HM).imp id ?_
    rintro ⟨b, e, hm⟩
    exact ⟨b, e, hm.keep (Below.heap_alloc _ _ b hm.lt)⟩
  · intro b e
    rcases unhide HM with ⟨h0, _⟩ | ⟨b', e', hm⟩
    · rw [h0] at e; cases e
    · rw [e] at e'; cases e'; have := hm.lt; omega
  · rintro k (rfl | e)
    · exact hb.size
    · exact unhide HF k e
theorem range_of {w : World} {b n : Nat} {D : DataW AggV} (h : w.ownsMap Try.prog 84 Rw b n D) : ∃ w', (Instr.range 78 (.map (some b))).run Try.prog w = .ok (.pointer (some ⟨w.heap.size, 0, none⟩)) w' ∧ w'.ranges Try.prog 84 Rw b w.heap.size n D (Maps.has D) (Maps.size D) ∧ w.grownBy w' none ∧ w'.heap.size = w.heap.size + 1 := h.range keyed Try.underlying78
theorem lies_new (w : World) (z : Win AggV) : OutK.Lies (w.alloc (.cells (outV z).toArray 38)) (some ⟨w.heap.size, 0, none⟩) [z] := by
  refine ⟨fun e => (by cases e), fun x e j u hu => ?_⟩
  cases e
  have hu' : (outV z)[j]? = some u := by simpa [RowK.cells, OutK] using hu
  have := (row_new w (outV z) 38).range j u hu'
  rwa [Addr.add_mid]
set_option maxRecDepth 100000 in
set_option maxHeartbeats 2000000 in
theorem all_map {w : World} {p b : Nat} {l : List (Win AggV)} (h : StAt w p (some b) l) (hl : l.length ≤ 1000) :
    Calls Try.prog 14 #[.pointer (some ⟨p, 0, none⟩)] w fun e w' => ∃ a cp, e = .returned (.slice a l.length cp) ∧ OutK.Row w' w.heap.size a cp l ∧ Below w.heap.size w w' := by
  obtain ⟨D, ho, hD⟩ : ∃ D, w.ownsMap Try.prog 84 Rw b l.length D ∧ DIs klw D l := by
    rcases h.what with ⟨h0, _⟩ | ⟨b', e, D, h1, h2⟩
    · cases h0
    · cases e; exact ⟨D, h1, h2⟩
  have hw := h.way
  have hr := h.fine.rise
  have hok := h.fine.oks
  have HR := hide hr
  have HOK := hide hok
  have HD := hide hD
  have HO := hide ho
  have BL := hide ho.lt
  obtain ⟨w0, hrun, hrg, hg, hs⟩ := range_of ho
  obtain ⟨r, hre⟩ : ∃ r, r = w.heap.size := ⟨_, rfl⟩
  rw [← hre] at hrun hrg
  have RE := hide hre
  clear h hr hok hD ho
  have START : Hid (OutK.Row w0 r none 0 [] ∧ w0.ranges Try.prog 84 Rw b r l.length D (has D) (size D) ∧ Coll klw l (has D) [] ∧ Below r w w0) :=
    hide ⟨row_none _ _, hrg, coll_start keyL (unhide HD) (unhide HOK) (unhide HR), ⟨hg.os, hg.tape, hg.output, hg.size, fun k hk => hg.block k (by rw [← hre]; exact hk) (by simp)⟩⟩
  clear hrg hg hs hre
  go_enter Try.func14, Try.ntmps14
  go_wp2_with fail
  go_loopw [3] (fun i wr => ∃ left cnt a cp, ∃ c : List (Win AggV), i = .slice a c.length cp ∧ OutK.Row wr r a cp c ∧ wr.ranges Try.prog 84 Rw b r l.length D left cnt ∧ Coll klw l left c ∧ Below r w wr) (fun _ wr => wr.rangeLeft b r)
  case atStart => exact ⟨_, _, none, 0, [], rfl, (unhide START).1, (unhide START).2.1, (unhide START).2.2.1, (unhide START).2.2.2⟩
  case round =>
    obtain ⟨left, cnt, a, cp, c, rfl, hrow, hrg, hco, hbl⟩ := hrel
    have HROW := hide hrow
    have HCO := hide hco
    have HBL := hide hbl
    have HRG := hide hrg
    clear hrow hco hbl hrg
    rcases (unhide HRG).next keyed 0 with ⟨_, hl0, hnx⟩ | ⟨key, v, kl, y, w2, cnt2, hkey, hlk, hv, hat, hnx, hrg2, hlt, hg2, hs2, hen⟩
    · have HP := hide (coll_end (unhide HCO) hl0)
      clear hl0
      go_wp2_with fail
      refine (sort_any (unhide HROW) (unhide HR) (unhide HP) (by have := (unhide HP).length_eq; omega)).mono ?_
      rintro e w9 ⟨rfl, hrow9, hb9⟩
      have R9 := hide hrow9
      have B9 := hide hb9
      have HLN := hide (unhide HP).length_eq
      clear hrow9 hb9
      go_wp2_with fail
      go_ret
      refine ⟨a, cp, by rw [← unhide HLN]; rfl, by rw [← unhide RE]; exact unhide R9, by rw [← unhide RE]; exact (unhide HBL).trans (unhide B9)⟩
    · obtain ⟨z, hz, hq, hy⟩ := dis_entry keyL (unhide HD) (unhide HOK) (unhide HR) hat
      obtain ⟨ag, rfl, hyy⟩ := Rw_inv hv
      have hagg : ag = z.agg := by rw [hyy] at hy; exact DataW.held.inj hy
      subst hagg
      have hkeyv : key = kv z.key z.start := klaw.inj hkey (by rw [hq]; exact keyOf_kv (unhide HOK z hz))
      subst hkeyv
      subst hq
      have HC2 := hide (coll_step keyL (unhide HOK) (unhide HR) (unhide HCO) hz hlk)
      have hlen := coll_len (unhide HC2)
      rw [List.length_append, List.length_singleton] at hlen
      have ROW2 := hide ((unhide HROW).kept hg2 (.inr (row_ne_iter (unhide HROW) (unhide HRG)).symm))
      have BL2 := hide ((unhide HBL).grown hg2 (Nat.le_of_lt (unhide HRG).lt) (fun k e => by cases e; exact Nat.le_refl _))
      have HRG2 := hide hrg2
      obtain ⟨W7, hW7⟩ : ∃ W7, W7 = (w2.alloc (.cells (cells2 z.key z.start).toArray 84)).alloc (.cells (cellsA z.agg).toArray 34) := ⟨_, rfl⟩
      obtain ⟨V, hV⟩ : ∃ V, V = W7.alloc (.cells (outV z).toArray 38) := ⟨_, rfl⟩
      obtain ⟨g, hgg⟩ : ∃ g, g = W7.heap.size := ⟨_, rfl⟩
      have rowV : OutK.Row V r a cp c := by rw [hV, hW7]; exact (((unhide ROW2).alloc _).alloc _).alloc _
      have rngV := by
        have h1 := ((hrg2.alloc (.cells (cells2 z.key z.start).toArray 84)).alloc (.cells (cellsA z.agg).toArray 34)).alloc (.cells (outV z).toArray 38)
        rw [← hW7, ← hV] at h1; exact h1
      have belV : Below r w V := by rw [hV, hW7]; exact ((((unhide BL2).alloc (by have := rngV.lt; have := hrg2.lt; omega) _).alloc (by have := hrg2.lt; simp; omega) _).alloc (by have := hrg2.lt; simp; omega) _)
      have hrV : r ≤ V.heap.size := Nat.le_of_lt rngV.lt
      have liesV : OutK.Lies V (some ⟨g, 0, none⟩) [z] := by rw [hV, hgg]; exact lies_new W7 z
      obtain ⟨a', c', w9, happ, row9, grow9⟩ := grow_app outK_law rowV (some ⟨g, 0, none⟩) 1 [z] liesV (by simp; omega) hrV 28
      have rng9 := rngV.kept grow9 (by
        have := unhide BL; have hre := unhide RE
        rcases rowV.2 with ⟨e, _⟩ | ⟨g', _, _, e, hb', _⟩
        · rw [e]; simp [Value.ownBlock]
        · rw [e]; simp only [Value.ownBlock, ne_eq, Option.some.injEq]; omega) (row_ne_iter rowV rngV)
      have bel9 := belV.grown grow9 hrV (fun k e => by
        rcases rowV.2 with ⟨e', _⟩ | ⟨g', _, _, e', hb', _⟩
        · rw [e'] at e; simp [Value.ownBlock] at e
        · rw [e'] at e; simp only [Value.ownBlock, Option.some.injEq] at e; omega)
      have hl9 : rng9.left_eq = rng9.left_eq := rfl
      have REL := hide (⟨row9, rng9, unhide HC2, bel9⟩ : OutK.Row w9 r a' c' (c ++ [z]) ∧ w9.ranges Try.prog 84 Rw b r l.length D _ cnt2 ∧ Coll klw l _ (c ++ [z]) ∧ Below r w w9)
      have MEAS : Hid (w9.rangeLeft b r < wr.rangeLeft b r) := hide (by rw [rng9.left_eq, (unhide HRG).left_eq]; exact hlt)
      have hlen9 : (c ++ [z]).length = c.length + 1 := by simp
      rw [hlen9, hV, hgg] at happ
      have hsz7 : W7.heap.size = w2.heap.size + 1 + 1 := by rw [hW7]; simp
      rw [hsz7, hW7] at happ
      obtain ⟨zk, zs, a0, a1, a2, a3, a4, a5, a6, a7⟩ := z
      simp only [kv, aggV, cellsA, I] at hnx hen
      have happ' : (Builtin.append_ #[28, 28] 28 #[.slice a c.length cp, .slice (some ⟨w2.heap.size + 1 + 1, 0, none⟩) 1 1]).run Try.prog (((w2.alloc (.cells #[.int .i64 zs, .string ⟨zk.toArray⟩] 84)).alloc (.cells #[.int .i64 a0, .int .i64 a1, .int .i64 a2, .int .i64 a3, .int .i64 a4, .int .i64 a5, .int .i64 a6, .int .i64 a7] 34)).alloc (.cells #[.string ⟨zk.toArray⟩, .int .i64 zs, .int .i64 a0, .int .i64 a1, .int .i64 a2, .int .i64 a3, .int .i64 a4, .int .i64 a5, .int .i64 a6, .int .i64 a7] 38)) = .ok (.slice a' (c.length + 1) c') w9 := happ
      clear happ hsz7
      have HL9 := hide hlen9
      clear hkey hlk hv hat hy hyy hz hg2 hs2 hrg2 rowV rngV belV hrV liesV row9 grow9 rng9 bel9 hl9 hlen hW7 hV hgg hlt hlen9
      go_upto_region 7 with fail
      have HAP := hide happ'
      clear happ'
      go_wp2_with (at_builtin; refine wpList_app rfl _ _ 28 28 28 rfl rfl rfl rfl (unhide HAP) ?_)
      exact ⟨⟨_, cnt2, a', c', _, by rw [unhide HL9], (unhide REL).1, (unhide REL).2.1, (unhide REL).2.2.1, (unhide REL).2.2.2⟩, unhide MEAS⟩
set_option maxRecDepth 100000 in
theorem all_empty {w : World} {p : Nat} (h : StAt w p none []) : Calls Try.prog 14 #[.pointer (some ⟨p, 0, none⟩)] w fun e w' => e = .returned (.slice none 0 0) ∧ Below w.heap.size w w' := by
  have hw := h.way
  have hrun := run_range_nilMap w 78 84 34 Try.underlying78
  have hnx := fun W => @run_next_nilMap Try.prog W
  have hso : ∀ W : World, Calls Try.prog 39 #[.slice none 0 0, .func (.func 40) #[] #[]] W fun e w' => e = .returned (.tuple #[]) ∧ w' = W := fun W => AnyF.slices_SortFunc_none (P := Try.prog) (ρ := sortOut_ren) sortOut none 0 (.func (.func 40) #[] #[]) W
  have HSO := hide hso
  clear h hso
  go_enter Try.func14, Try.ntmps14
  go_wp2_with fail
  refine wp_loop_rounds 1 ?_
  rw [rounds_succ]
  go_wp2_with fail
  refine (unhide HSO _).mono ?_
  rintro e w9 ⟨rfl, hw9⟩
  rw [hw9]
  go_wp2_with fail
  go_ret
  exact ⟨rfl, (Below.refl _ _).alloc (Nat.le_refl _) _⟩
theorem all_any {w : World} {p : Nat} {F : Nat → Prop} {l : List (Win AggV)} (h : StIs w p F l) (hl : l.length ≤ 1000) :
    Calls Try.prog 14 #[.pointer (some ⟨p, 0, none⟩)] w fun e w' => ∃ a cp, e = .returned (.slice a l.length cp) ∧ OutK.Row w' w.heap.size a cp l ∧ Below w.heap.size w w' := by
  obtain ⟨m, h, rfl⟩ := h
  rcases h.what with ⟨rfl, rfl⟩ | ⟨b, rfl, _⟩
  · refine (all_empty h).mono ?_
    rintro e w' ⟨rfl, hb⟩
    exact ⟨none, 0, rfl, row_none _ _, hb⟩
  · exact all_map h hl
end Go.Proofs.Ytmgmkdkdpeljmaa

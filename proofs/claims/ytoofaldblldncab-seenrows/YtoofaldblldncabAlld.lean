/- What a table's All does. No conditions. -/
import Derived.Test.YtoofaldblldncabSortd
namespace Go.Proofs.Ytoofaldblldncab
open Go.RowKit

theorem ents_append (k : Nat) (l m : Codes) : ents k (l ++ m) = ents k l ++ ents k m := by simp [ents]
theorem take_snoc {α : Type} {l : List α} {j : Nat} {x : α} (h : l[j]? = some x) : l.take (j + 1) = l.take j ++ [x] := by
  obtain ⟨hj, rfl⟩ := List.getElem?_eq_some_iff.1 h
  exact List.take_succ_eq_append_getElem hj
theorem all_nil (w : World) : Calls Try.prog 10 #[.pointer none] w fun e w' => e = .returned (.slice none 0 0) ∧ w' = w := by
  go_enter Try.func10, Try.ntmps10
  go_wp2
  go_ret
  exact ⟨rfl, rfl⟩
theorem all_len_to {T : Tab} (h : T.Ok) (k : Nat) : (allTo T k).length ≤ k * 16 := allTo_length h k
/-- A row of numbers at a, whose block another row does not write. -/
theorem ints_at {w : World} {B : Nat} {a : Option Addr} {c : Nat} {l : List Int} (h : IntK.Row w B a c l) {j : Nat} {n : Int} (hj : l[j]? = some n) : ∃ g, a = some ⟨g, 0, none⟩ ∧ w.cell? ⟨g, j, none⟩ = some (.int .i64 n) := by
  rcases row_shape h with ⟨g, rfl, _, _⟩ | ⟨rfl, rfl⟩
  · refine ⟨g, rfl, ?_⟩
    have := lies_at intK_law (row_lies h) hj 0 (.int .i64 n) rfl
    simpa [IntK] using this
  · cases hj
set_option maxRecDepth 100000 in
set_option maxHeartbeats 4000000 in
theorem all_any {w : World} {p : Nat} {F : Nat → Prop} {T : Tab} (h : TIs w p F T) (hT : T.Ok) :
    Calls Try.prog 10 #[.pointer (some ⟨p, 0, none⟩)] w fun e w' => ∃ a c, e = .returned (.slice a (all T).length c) ∧ EntK.Row w' w.heap.size a c (all T) ∧ Below w.heap.size w w' := by
  obtain ⟨M, hA, _⟩ := h
  have HR := hide hA.range
  have HM : Hid (∀ k, k < 4 → ∀ v, Below w.heap.size w v → MO v (M k) (T k).codes) := hide (fun k hk v hb => (hA.src k hk).mo.keep fun b e => hb.block b ((hA.src k hk).mo.lt b e))
  obtain ⟨B, hB⟩ : ∃ B, B = w.heap.size := ⟨_, rfl⟩
  rw [← hB] at HM
  have HB := hide hB
  clear hA
  go_enter Try.func10, Try.ntmps10
  go_wp2_with (refine wpList_load_on rfl 40 (.tmp 12) rfl p 0 rfl (cells8 M T) _ (unhide HR) Try.underlying40 rfl (by kernel_rfl) ?_)
  go_loopw [3, 14] (fun lv i wr => ∃ (k : Nat) (a : Option Addr) (c : Nat), i = .int .i64 (k : Int) ∧ k ≤ 4 ∧ lv = .slice a (allTo T k).length c ∧ EntK.Row wr B a c (allTo T k) ∧ Below B w wr) (fun _ i _ => 4 - (intOf i).toNat)
  case atStart => exact ⟨0, none, 0, rfl, by decide, rfl, row_none _ _, by rw [unhide HB]; exact Below.refl _ _⟩
  case round =>
    obtain ⟨k, a, c, rfl, hk, rfl, hrow, hbl⟩ := hrel
    have hbz : B ≤ wr.heap.size := by rw [unhide HB]; exact hbl.size
    by_cases hlt : k < 4
    · have g0 : (0 : Int) ≤ (k : Int) := by omega
      have g1 : (k : Int) < 4 := by omega
      have hwk : IntKind.i64.wrap ((k : Int) + 1) = (k : Int) + 1 := Go.IntWalk.i64_in _ (by omega)
      have ix := fun W => idx61 M T hlt W
      obtain ⟨W1, hW1⟩ : ∃ W1, W1 = wr.alloc (.cells #[.int .i64 ((T k).low - 1), .map (M k)] 39) := ⟨_, rfl⟩
      obtain ⟨H, hH⟩ : ∃ H, H = wr.heap.size := ⟨_, rfl⟩
      have b1 : Below B wr W1 := by rw [hW1]; exact (Below.refl _ _).alloc hbz _
      have r1 : EntK.Row W1 B a c (allTo T k) := by rw [hW1]; exact hrow.alloc _
      have c1 : W1.cell? ⟨H, 1, none⟩ = some (.map (M k)) := by rw [hW1, hH, World.cell?_alloc_new]; rfl
      have hs1 : W1.heap.size = H + 1 := by rw [hW1, hH]; simp
      have mo1 : MO W1 (M k) (T k).codes := unhide HM k hlt W1 (hbl.trans b1)
      have bw1 : Below B w W1 := hbl.trans b1
      have hlen := (hT k).len16
      have CK := hide (keys_call (M k) W1)
      have CS := hide (sorted_any mo1 (hT k).rise (by omega))
      have HW1 := hide hW1
      have HH := hide hH
      have HS1 := hide hs1
      have R1 := hide r1
      have BW1 := hide bw1
      have C1 := hide c1
      have HK := hide hlt
      have HO : Hid (∀ i, own a (allTo T k).length c = some i → i < H) := hide (fun i e => by rw [hH]; exact (row_lt hrow i e).2)
      have HTN := hide (all_len_to hT k)
      have HL16 := hide hlen
      clear hrow hbl b1 r1 mo1 bw1 hW1 hH hs1 hlen c1
      go_upto_region 7 with fail
      rw [← unhide HW1]
      rw [← unhide HH]
      have c1 := unhide C1
      go_wp2_with fail
      refine (unhide CK).mono ?_
      rintro e w' ⟨rfl, hw'⟩
      rw [hw']
      clear CK
      go_wp2_with fail
      refine (unhide CS).mono ?_
      rintro e v2 ⟨a2, c2, rfl, hi2, hb2⟩
      have START : Hid (EntK.Row v2 B a c (allTo T k) ∧ Below B w v2 ∧ IntK.Row v2 (H + 1) a2 c2 ((T k).codes.map (·.1)) ∧ v2.cell? ⟨H, 1, none⟩ = some (.map (M k)) ∧ (∀ i, own a (allTo T k).length c = some i → i ≠ H ∧ own a2 ((T k).codes.map (·.1)).length c2 ≠ some i)) := hide (by
        have hs := unhide HS1
        refine ⟨row_keep (unhide R1) (Moved.of_below (F := fun _ => False) hb2) (fun _ f => f.elim), (unhide BW1).trans (hb2.mono (by have := unhide HH; omega)), by rw [← hs]; exact hi2, (hb2.cell (p := ⟨H, 1, none⟩) (by show H < _; omega)).trans c1, fun i e => ?_⟩
        have h1 := unhide HO i e
        refine ⟨by omega, fun e2 => ?_⟩
        have := (row_lt hi2 i e2).1
        omega)
      clear CS hi2 hb2 hw' c1 HO R1 BW1 C1
      go_wp2_with fail
      go_loopw [3, 23] (fun lv i wr => ∃ (j : Nat) (a : Option Addr) (c : Nat), i = .int .i64 (j : Int) ∧ j ≤ (T k).codes.length ∧ lv = .slice a (allTo T k ++ ents k ((T k).codes.take j)).length c ∧ EntK.Row wr B a c (allTo T k ++ ents k ((T k).codes.take j)) ∧ Below B w wr ∧ IntK.Row wr (H + 1) a2 c2 ((T k).codes.map (·.1)) ∧ wr.cell? ⟨H, 1, none⟩ = some (.map (M k)) ∧ (∀ i, own a (allTo T k ++ ents k ((T k).codes.take j)).length c = some i → i ≠ H ∧ own a2 ((T k).codes.map (·.1)).length c2 ≠ some i)) (fun _ i _ => (T k).codes.length - (intOf i).toNat)
      case atStart =>
        have e0 : allTo T k ++ ents k ((T k).codes.take 0) = allTo T k := by rw [List.take_zero]; exact List.append_nil _
        refine ⟨0, a, c, rfl, Nat.zero_le _, by rw [e0], ?_⟩
        rw [e0]
        exact unhide START
      case round =>
        obtain ⟨j, a, c, rfl, hj, rfl, hrow, hbl, hi2, hc1, hown⟩ := hrel
        clear START
        have hbz : B ≤ wr.heap.size := by rw [unhide HB]; exact hbl.size
        have hen : (allTo T k ++ ents k ((T k).codes.take j)).length = (allTo T k).length + j := by simp [ents]; omega
        by_cases hjl : j < (T k).codes.length
        · have gj : (j : Int) < ((T k).codes.length : Int) := by omega
          have gj0 : (0 : Int) ≤ (j : Int) := by omega
          have hwj : IntKind.i64.wrap ((j : Int) + 1) = (j : Int) + 1 := Go.IntWalk.i64_in _ (by have := unhide HL16; omega)
          obtain ⟨x, hx⟩ : ∃ x, (T k).codes[j]? = some x := ⟨_, List.getElem?_eq_getElem hjl⟩
          have hmem := List.mem_of_getElem? hx
          obtain ⟨q, cd⟩ := x
          obtain ⟨g, rfl, hcq⟩ := ints_at hi2 (j := j) (n := q) (by rw [List.getElem?_map, hx]; rfl)
          have hq := (hT k).num _ hmem
          have hlk := (unhide HM k (unhide HK) wr hbl).get (hT k).rise (q := q) (by simp only at hq; omega)
          rw [show look (T k).codes q = some cd from look_mem (a := (q, cd)) (hT k).rise hmem] at hlk
          simp only [Option.getD_some] at hlk
          obtain ⟨a', c', w9, happ, row9, bel9, mv9, own9⟩ := grow_one entK_law hrow ⟨(k : Int), q, cd⟩ 48 (by rw [hen]; have := unhide HTN; have := unhide HL16; omega) hbz
          have hsn : allTo T k ++ ents k ((T k).codes.take j) ++ [(⟨(k : Int), q, cd⟩ : Ent)] = allTo T k ++ ents k ((T k).codes.take (j + 1)) := by
            rw [take_snoc hx, ents_append, List.append_assoc]; rfl
          have hen2 : (allTo T k ++ ents k ((T k).codes.take (j + 1))).length = (allTo T k).length + j + 1 := by rw [← hsn, List.length_append, hen]; rfl
          rw [hsn] at row9
          have REL : Hid (EntK.Row w9 B a' c' (allTo T k ++ ents k ((T k).codes.take (j + 1))) ∧ Below B w w9 ∧ IntK.Row w9 (H + 1) (some ⟨g, 0, none⟩) c2 ((T k).codes.map (·.1)) ∧ w9.cell? ⟨H, 1, none⟩ = some (.map (M k)) ∧ (∀ i, own a' (allTo T k ++ ents k ((T k).codes.take (j + 1))).length c' = some i → i ≠ H ∧ own (some ⟨g, 0, none⟩) ((T k).codes.map (·.1)).length c2 ≠ some i)) := hide (by
            have hHl : H < wr.heap.size := World.block_lt_of_cell? _ _ hc1
            refine ⟨row9, hbl.trans bel9, row_keep hi2 mv9 (fun i e f => (hown i e).2 f.2), (mv9.cell (p := ⟨H, 1, none⟩) hHl (fun e => (hown H e).1 rfl)).trans hc1, fun i e => ?_⟩
            rw [hen2, ← hen] at e
            rcases own9 with e9 | e9
            · rw [e9] at e; exact hown i e
            · rw [e9] at e
              cases e
              refine ⟨by omega, fun e2 => ?_⟩
              have := (row_lt hi2 _ e2).2
              omega)
          have HAP : Hid ((Builtin.append_ #[32, 32] 32 #[.slice a (allTo T k ++ ents k ((T k).codes.take j)).length c, .slice (some ⟨wr.heap.size, 0, none⟩) 1 1]).run Try.prog (wr.alloc (.cells #[.int .i64 (k : Int), .int .i64 q, .int .i64 cd] 48)) = .ok (.slice a' ((allTo T k ++ ents k ((T k).codes.take j)).length + 1) c') w9) := hide happ
          have HE2 : Hid ((allTo T k ++ ents k ((T k).codes.take (j + 1))).length = (allTo T k ++ ents k ((T k).codes.take j)).length + 1) := hide (by rw [hen2, hen])
          clear hrow hbl hi2 hown hx hmem hq happ row9 bel9 mv9 own9 hsn hen2 hen hbz
          generalize (allTo T k ++ ents k ((T k).codes.take j)).length = n0 at *
          go_wp2_with (at_builtin; refine wpList_app rfl _ _ 32 32 32 rfl rfl rfl rfl (unhide HAP) ?_)
          exact ⟨⟨j + 1, a', c', rfl, by omega, by rw [unhide HE2], unhide REL⟩, by simp [intOf]; omega⟩
        · have hje : j = (T k).codes.length := by omega
          have REL : Hid (EntK.Row wr B a c (allTo T (k + 1)) ∧ Below B w wr) := hide ⟨by rw [allTo]; rw [hje, List.take_length] at hrow; exact hrow, hbl⟩
          have HE2 : Hid ((allTo T k ++ ents k ((T k).codes.take j)).length = (allTo T (k + 1)).length) := hide (by rw [hje, List.take_length]; rfl)
          clear hrow hbl hi2 hown hen hbz hje
          generalize (allTo T k ++ ents k ((T k).codes.take j)).length = n0 at *
          go_wp2_with fail
          exact ⟨⟨k + 1, a, c, rfl, by omega, by rw [unhide HE2], unhide REL⟩, by simp [intOf]; omega⟩
    · have hk4 : k = 4 := by omega
      subst hk4
      have REL := hide (⟨hrow, hbl⟩ : EntK.Row wr B a c (allTo T 4) ∧ Below B w wr)
      clear hrow hbl
      go_wp2_with fail
      go_ret
      exact ⟨a, c, rfl, by rw [← unhide HB]; exact (unhide REL).1, by rw [← unhide HB]; exact (unhide REL).2⟩
end Go.Proofs.Ytoofaldblldncab

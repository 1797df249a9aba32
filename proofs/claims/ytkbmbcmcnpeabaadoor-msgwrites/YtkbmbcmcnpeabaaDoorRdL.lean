/- What the program's reader of messages does with a list: its count and its numbers are read into a new row, or the reader gives up at its fault. No conditions. -/
import Derived.Test.YtkbmbcmcnpeabaaDoorRdC
namespace Go.Proofs.YtkbmbcmcnpeabaaDoor
open Pk Go.RowKit

theorem rdN_snoc {α : Type} (A : Cod α) (n : Nat) : ∀ l : List UInt8, rdN A (n + 1) l = if (rdN A n l).2.2 ≠ 0 then ([], 0, (rdN A n l).2.2)
    else if (A.dec (l.drop (rdN A n l).2.1)).2.2 ≠ 0 then ([], 0, (A.dec (l.drop (rdN A n l).2.1)).2.2)
    else ((rdN A n l).1 ++ [(A.dec (l.drop (rdN A n l).2.1)).1], (rdN A n l).2.1 + (A.dec (l.drop (rdN A n l).2.1)).2.1, 0) := by
  induction n with
  | zero =>
    intro l
    simp only [rdN, List.drop_zero]
    by_cases h : (A.dec l).2.2 = 0 <;> simp [h]
  | succ n ih =>
    intro l
    rw [rdN, ih (l.drop (A.dec l).2.1)]
    have e : rdN A (n + 1) l = if (A.dec l).2.2 ≠ 0 then ([], 0, (A.dec l).2.2) else if (rdN A n (l.drop (A.dec l).2.1)).2.2 ≠ 0 then ([], 0, (rdN A n (l.drop (A.dec l).2.1)).2.2) else ((A.dec l).1 :: (rdN A n (l.drop (A.dec l).2.1)).1, (A.dec l).2.1 + (rdN A n (l.drop (A.dec l).2.1)).2.1, 0) := rfl
    rw [e]
    by_cases h1 : (A.dec l).2.2 = 0
    · by_cases h2 : (rdN A n (l.drop (A.dec l).2.1)).2.2 = 0
      · simp only [h1, h2, ne_eq, not_true_eq_false, if_false, List.drop_drop]
        by_cases h3 : (A.dec (l.drop ((A.dec l).2.1 + (rdN A n (l.drop (A.dec l).2.1)).2.1))).2.2 = 0
        · simp [h3, Nat.add_assoc]
        · simp [h3]
      · simp [h1, h2]
    · simp [h1]
def intCells (l : List Int) : List Value := l.map fun x => .int .i64 x
theorem info3 : (Tryd.prog.info? 3).map (fun i => (i.zero, i.size, i.bytes)) = some (some (.int .i64 0), 1, 8) := by kernel_rfl
/-- One int more. -/
theorem app_int {w : World} {base : Nat} {v : Value} {l : List Int} (h : w.ownsRow base 3 1 v l.length (intCells l)) (x : Int) (hl : l.length ≤ 100000) (hb : base ≤ w.heap.size) :
    ∃ v' w', (∀ ty, (Builtin.append_ #[25, 25] ty #[v, .slice (some ⟨w.heap.size, 0, none⟩) 1 1]).run Tryd.prog (w.alloc (.cells #[.int .i64 x] 3)) = .ok v' w') ∧
      w'.ownsRow base 3 1 v' (l ++ [x]).length (intCells (l ++ [x])) ∧ Moved (fun i => v.ownBlock = some i) w w' := by
  obtain ⟨i0, hi, hz0, hz1, hz2⟩ := info_parts info3
  have hnews : ∀ j u, (intCells [x])[j]? = some u → (w.alloc (.cells #[.int .i64 x] 3)).cell? ((⟨w.heap.size, 0, none⟩ : Addr).add j) = some u := fun j u hj => by
    match j, hj with
    | 0, hj =>
      simp [intCells] at hj
      subst hj
      rw [Addr.add_lit]; simp
    | j + 1, hj => simp [intCells] at hj
  have h1 : ∀ u ∈ intCells [x], u.oneCell' = true := fun u hu => by simp [intCells] at hu; subst hu; rfl
  have key : ∀ ty, ∃ v' w', (Builtin.append_ #[25, 25] ty #[v, .slice (some ⟨w.heap.size, 0, none⟩) 1 1]).run Tryd.prog (w.alloc (.cells #[.int .i64 x] 3)) = .ok v' w' ∧ w'.ownsRow base 3 1 v' (l.length + 1) (intCells l ++ intCells [x]) ∧ (w.alloc (.cells #[.int .i64 x] 3)).grownBy w' v.ownBlock := fun ty => by
    obtain ⟨v', w', h2, h3, h4, _⟩ := run_append_own (P := Tryd.prog) (w.alloc (.cells #[.int .i64 x] 3)) base 25 ty 3 i0 (.int .i64 0) 1 8 Tryd.underlying25 hi hz0 hz1 hz2 rfl (by decide) v l.length (intCells l) (h.alloc _) ⟨w.heap.size, 0, none⟩ 1 1 (intCells [x]) rfl hnews h1
      (by unfold maxLen; omega) (by omega) (by simp; omega)
    exact ⟨v', w', h2, h3, h4⟩
  obtain ⟨v', w', h2, h3, h4⟩ := key 0
  have hc : intCells (l ++ [x]) = intCells l ++ intCells [x] := by simp [intCells]
  have hn : (l ++ [x]).length = l.length + 1 := by simp
  rw [hc, hn]
  refine ⟨v', w', fun ty => ?_, h3, ?_⟩
  · exact h2
  · exact ((Moved.refl _ w).alloc _).grown h4 (fun k hk => .inl hk)

theorem owns_keep {w w' : World} {base : Nat} {e : TypeId} {size : Nat} {v : Value} {n : Nat} {xs : List Value} (h : w.ownsRow base e size v n xs) (hb : ∀ k, v.ownBlock = some k → w'.heap[k]? = w.heap[k]?) : w'.ownsRow base e size v n xs := by
  obtain ⟨h1, h2⟩ := h
  refine ⟨h1, h2.imp id ?_⟩
  rintro ⟨g, cap, cur, rfl, a0, a2, a3⟩
  exact ⟨g, cap, cur, rfl, a0, (hb g rfl).trans a2, a3⟩


theorem ints_of {w : World} {base : Nat} {v : Value} {l : List Int} (h : w.ownsRow base 3 1 v l.length (intCells l)) : ∃ a c, v = .slice a l.length c ∧ Ints w a l ∧ (∀ x, a = some x → base ≤ x.block ∧ x.block < w.heap.size) := by
  have hc := @World.ownsRow.cells _ _ _ _ _ _ _ h
  have hl := h.lt
  rcases h.2 with ⟨rfl, h0⟩ | ⟨g, cap, cur, rfl, hb, hg, _⟩
  · exact ⟨none, 0, by rw [h0], fun i hi => by omega, fun x hx => by cases hx⟩
  · refine ⟨some ⟨g, 0, none⟩, cap, rfl, fun i hi => ⟨⟨g, 0, none⟩, rfl, ?_⟩, fun x hx => ?_⟩
    · refine hc (g := g) rfl i _ ?_
      simp only [intCells, List.getElem?_map, List.getElem?_eq_getElem hi, List.getD_eq_getElem?_getD, Option.map_some, Option.getD_some]
    · cases hx
      exact hl g rfl
theorem times_snoc {n : Nat} {l : List UInt8} {xs : List Int} {t u : Nat} {a : Int} (h1 : (P.times n).dec l = (xs, t, 0)) (h2 : P.dec (l.drop t) = (a, u, 0)) : (P.times (n + 1)).dec l = (xs ++ [a], t + u, 0) := by
  simp only [Cod.times] at h1 ⊢
  rw [rdN_snoc, h1]
  simp only []
  rw [h2]
  simp
theorem times_fault {n : Nat} {l : List UInt8} {xs : List Int} {t c : Nat} (h1 : (P.times n).dec l = (xs, t, 0)) (h2 : (P.dec (l.drop t)).2.2 = c) (hc : c ≠ 0) : ∀ m, n < m → ((P.times m).dec l).2.2 = c := by
  have aux : ∀ d, ((P.times (n + 1 + d)).dec l).2.2 = c := by
    intro d
    induction d with
    | zero =>
      simp only [Cod.times] at h1 ⊢
      rw [Nat.add_zero, rdN_snoc, h1]
      simp only []
      rw [h2]
      simp [hc]
    | succ d ih =>
      simp only [Cod.times] at ih ⊢
      rw [show n + 1 + (d + 1) = (n + 1 + d) + 1 by omega, rdN_snoc, ih]
      simp [hc]
  intro m hm
  have := aux (m - (n + 1))
  rwa [show n + 1 + (m - (n + 1)) = m by omega] at this
theorem list_dec {m n t : Nat} {l : List UInt8} (h1 : (posC m).dec l = ((n : Int), t, 0)) : (listC P m).dec l = if ((P.times n).dec (l.drop t)).2.2 ≠ 0 then ([], 0, ((P.times n).dec (l.drop t)).2.2) else (((P.times n).dec (l.drop t)).1, t + ((P.times n).dec (l.drop t)).2.1, 0) := by
  simp only [posC, Cod.map, mostC, Prod.mk.injEq] at h1
  obtain ⟨e1, e2, e3⟩ := h1
  have en : (Pk.most m l).1 = n := by omega
  simp only [listC, Cod.behind, e3, e2, en]
  simp
theorem list_none {m c : Nat} {l : List UInt8} (h1 : ((posC m).dec l).2.2 = c) (hc : c ≠ 0) : ((listC P m).dec l).2.2 = c := by
  have e3 : (Pk.most m l).2.2 = c := h1
  simp only [listC, Cod.behind, e3]
  simp [hc]
theorem pos_le {m n t : Nat} {l : List UInt8} (h1 : (posC m).dec l = ((n : Int), t, 0)) (hm : m < 2 ^ 64) : n ≤ m := by
  have := ((posC_law m hm).just l _ _ h1).1
  have h : 0 ≤ (n : Int) ∧ (n : Int) ≤ m := this
  omega
theorem RSt.beside {F : Nat → Prop} {w0 w w' : World} {r x B : Nat} {vs : List Value} {s : ByteArray} {k : Nat} (h : RSt w0 w r x B vs s k) (m : Moved F w w') (h1 : ¬ F r) (h2 : ¬ F x) (h3 : ¬ F B) (h4 : ∀ i, F i → w0.heap.size ≤ i) : RSt w0 w' r x B vs s k :=
  ⟨h.moved.trans m fun i hi => .inr (h4 i hi), h.row.keep m h3, (m.cell (p := ⟨r, 0, none⟩) h.lt h1).trans h.rd, h.inn.keep m h2, h.rB, h.xB, h.rx⟩
theorem Ints.put {w : World} {a : Option Addr} {xs : List Int} (h : Ints w a xs) (B j : Nat) (v : Value) (hB : ∀ x, a = some x → x.block ≠ B) : Ints (w.setCell ⟨B, j, none⟩ v) a xs := fun i hi => by
  obtain ⟨x, hx, hc⟩ := h i hi
  exact ⟨x, hx, ((Moved.put w B j v).cell (World.block_lt_of_cell? _ _ hc) (by rw [show (x.add i).block = x.block from by unfold Addr.add; split <;> rfl]; exact hB x hx)).trans hc⟩
set_option maxHeartbeats 2000000 in
theorem rlist_any {w0 w : World} {r x B : Nat} {vs : List Value} {s : ByteArray} {k : Nat} (h : RSt w0 w r x B vs s k) (i : Nat) (hi : i < vs.length) (m : Nat) (hm : m ≤ 1024) :
    Calls Tryd.prog 104 #[.pointer (some ⟨r, 0, none⟩), .pointer (some ⟨B, i, none⟩), .int .i64 (m : Int)] w (RdR (listC P m) s k (fun i => i = x ∨ i = B) w0 fun xs k' w' => ∃ a c, RSt w0 w' r x B (vs.set i (.slice a xs.length c)) s k' ∧ Ints w' a xs ∧ ∀ y, a = some y → w0.heap.size ≤ y.block) := by
  have H := hide h
  clear h
  go_enter Tryd.func104, Tryd.ntmps104
  go_wp2_with fail
  refine (rupTo_dec (unhide H) m (by omega)).mono ?_
  rintro e w1 (⟨n, t, hd, rfl, hs, -⟩ | ⟨c, hd, hc, rfl, hm⟩)
  · have hn := pos_le hd (by omega)
    have hsz := hide (And.intro hs.lt (And.intro hs.inn.lt hs.row.lt))
    have hw0 := hide hs.moved.size
    have HS := hide hs
    have HD := hide hd
    clear hs hd
    go_wp2_with fail
    go_loopw [6, 10] (fun sl i wr => ∃ (j : Nat) (l : List Int) (u : Nat), j ≤ n ∧ i = .int .i64 (j : Int) ∧ l.length = j ∧ wr.ownsRow w1.heap.size 3 1 sl l.length (intCells l) ∧ RSt w0 wr r x B vs s (k + t + u) ∧ (P.times j).dec (s.data.toList.drop (k + t)) = (l, u, 0) ∧ w1.heap.size ≤ wr.heap.size) (fun _ i _ => n - (intOf i).toNat)
    case atStart => exact ⟨0, [], 0, by omega, rfl, rfl, ⟨rfl, .inl ⟨rfl, rfl⟩⟩, unhide HS, rfl, Nat.le_refl _⟩
    case round =>
      obtain ⟨j, l, u, hj, rfl, hl, hown, hst, htd, hge⟩ := hrel
      have HO := hide hown
      have HT := hide hst
      have HE := hide htd
      have HG := hide hge
      clear hown hst htd hge
      by_cases hlt : j < n
      · go_wp2_with fail
        refine (rupTo_dec (unhide HT) 2147483647 (by decide)).mono ?_
        rintro e w2 (⟨a, v, hd2, rfl, hs2, hm2⟩ | ⟨c, hd2, hc, rfl, hm2⟩)
        · have own2 : w2.ownsRow w1.heap.size 3 1 u6 l.length (intCells l) := owns_keep (unhide HO) (fun g hg => hm2.block g ((unhide HO).lt g hg).2 (fun e => by have := ((unhide HO).lt g hg).1; have := (unhide hsz).2.1; omega))
          have hsz2 : w1.heap.size ≤ w2.heap.size := Nat.le_trans (unhide HG) hm2.size
          obtain ⟨v', w3, hr, hown3, hmv3⟩ := app_int own2 (a : Int) (by omega) hsz2
          have hown_lt := own2.lt
          have O3 := hide hown3
          have S3 := hide (hs2.beside hmv3 (fun e => by have := (hown_lt r e).1; have := (unhide hsz).1; omega) (fun e => by have := (hown_lt x e).1; have := (unhide hsz).2.1; omega) (fun e => by have := (hown_lt B e).1; have := (unhide hsz).2.2; omega) (fun g e => by have := (hown_lt g e).1; have := unhide hw0; omega))
          have G3 := hide (Nat.le_trans hsz2 hmv3.size)
          have T3 := hide (times_snoc (unhide HE) (a := (a : Int)) (u := v) (by rw [List.drop_drop]; exact hd2))
          have HR := hide hr
          clear hs2 hm2 own2 hown3 hmv3 hown_lt hr hd2
          go_wp2_with (at_builtin; refine wpList_app rfl _ _ 25 25 rfl rfl rfl (unhide HR) ?_)
          go_roundw
          case rel => exact ⟨j + 1, l ++ [(a : Int)], u + v, by omega, by go_num, by simp [hl], unhide O3, by rw [← Nat.add_assoc]; exact unhide S3, unhide T3, unhide G3⟩
          case measure => simp [intOf]; omega
        · have F3 := hide (times_fault (unhide HE) (c := c) (by rw [List.drop_drop]; exact hd2) hc n hlt)
          have HC := hide hc
          have HM := hide hm2
          clear hd2 hc hm2
          go_wp2_with fail
          refine ⟨rfl, .inr ⟨c, ?_, unhide HC, rfl, unhide HM⟩⟩
          have hf3 := unhide F3
          rw [← List.drop_drop] at hf3
          rw [list_dec (unhide HD), hf3, if_pos (unhide HC)]
      · have hjn : j = n := by omega
        subst hjn
        obtain ⟨a, c, ha, hints, hab⟩ := ints_of (unhide HO)
        have hc1 := (unhide HT).row.cell i hi
        have hf1 := (unhide HT).row.free i hi
        have HI := hide hints
        have HB := hide hab
        clear hints hab
        subst ha
        go_wp2_with fail
        go_end0
        have he := unhide HE
        refine RdR.done (a := l) (t := t + u) ?_ ⟨a, c, ?_, ?_, fun y hy => Nat.le_trans (unhide hw0) (unhide HB y hy).1⟩
        · rw [← List.drop_drop] at he
          rw [list_dec (unhide HD), he]
          simp
        · rw [← Nat.add_assoc]
          have hp := (unhide HT).put i hi (.slice a j c)
          rw [hl]
          exact hp
        · exact (unhide HI).put B i _ fun y hy e => by have := (unhide HB y hy).1; have := (unhide hsz).2.2; omega
  · have HD := hide (list_none hd hc)
    have HC := hide hc
    have HM := hide hm
    clear hd hc hm
    go_wp2_with fail
    exact ⟨rfl, .inr ⟨c, unhide HD, unhide HC, rfl, unhide HM⟩⟩
end Go.Proofs.YtkbmbcmcnpeabaaDoor

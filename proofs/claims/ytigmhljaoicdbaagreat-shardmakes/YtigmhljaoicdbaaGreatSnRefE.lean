/- The document's own All. Condition: the table has at most 10000 entries, of sources that there are. -/
import Derived.Test.YtigmhljaoicdbaaGreatGSnRefB
namespace Go.Proofs.YtigmhljaoicdbaaGreat.Sn
open Go.RowKit

theorem slice_to (a : Option Addr) (n c i : Nat) (hi : i ≤ c) (W : World) : (Instr.slice 33 (.slice a n c) none (some (.int .i64 (i : Int))) none).run Tryz.prog W = .ok (.slice a i c) W := by
  have u := Tryz.underlying33
  have z := Tryz.sizeOf100
  simp [Instr.slice, go_sem]
  intro h; omega
theorem slice_from (a : Option Addr) (n c i : Nat) (hi : i ≤ n) (W : World) : (Instr.slice 33 (.slice a n c) (some (.int .i64 (i : Int))) none none).run Tryz.prog W = .ok (.slice (if c = i then a else a.map (·.add (i * 3))) (n - i) (c - i)) W := by
  have u := Tryz.underlying33
  have z := Tryz.sizeOf100
  simp [Instr.slice, go_sem]
  intro h; omega
theorem lies_nil (w : World) (a : Option Addr) : RefK.Lies w a [] := ⟨fun _ => rfl, fun x e j u hu => by simp [RowK.cells] at hu⟩
theorem lies_from {w : World} {a : Option Addr} {l : List Ent} {c i : Nat} (h : RefK.Lies w a l) (hi : i ≤ l.length) (hc : l.length ≤ c) : RefK.Lies w (if c = i then a else a.map (·.add (i * 3))) (l.drop i) := by
  split
  · rw [List.drop_of_length_le (by omega)]; exact lies_nil w a
  · cases a with
    | none => rw [h.1 rfl, List.drop_nil]; exact lies_nil w none
    | some x => exact lies_drop refK_law h i
def liveB (low : Nat → Int) (x : Ent) : Bool := decide (low x.src.toNat ≤ x.seq)
/-- What was told of the first j. -/
def toldTo (low : Nat → Int) (l : List Ent) (j : Nat) : List Ent := rall ((l.take j).filter (liveB low))
theorem told_yes {low : Nat → Int} {l : List Ent} {j : Nat} {x : Ent} (h : l[j]? = some x) (hl : ¬ x.seq < low x.src.toNat) : toldTo low l (j + 1) = rins (toldTo low l j) x := by
  unfold toldTo
  rw [take_snoc h, List.filter_append]
  have : liveB low x = true := decide_eq_true (by omega)
  rw [List.filter_cons, if_pos this, List.filter_nil, rall_snoc]
theorem told_no {low : Nat → Int} {l : List Ent} {j : Nat} {x : Ent} (h : l[j]? = some x) (hl : x.seq < low x.src.toNat) : toldTo low l (j + 1) = toldTo low l j := by
  unfold toldTo
  rw [take_snoc h, List.filter_append]
  have : ¬ liveB low x = true := fun e => by have := of_decide_eq_true e; omega
  rw [List.filter_cons, if_neg this, List.filter_nil, List.append_nil]
theorem told_end (low : Nat → Int) (l : List Ent) : toldTo low l l.length = rall (live ⟨low, l⟩) := by
  unfold toldTo live
  rw [List.take_length]; rfl
theorem told_len (low : Nat → Int) (l : List Ent) (j : Nat) : (toldTo low l j).length ≤ l.length := by
  unfold toldTo
  rw [rall_len]
  have h1 := List.length_filter_le (liveB low) (l.take j)
  have h2 : (l.take j).length ≤ l.length := by rw [List.length_take]; omega
  omega
set_option maxRecDepth 100000 in
set_option maxHeartbeats 8000000 in
theorem rall_any {w : World} {low : Nat → Int} {a0 : Option Addr} {c0 : Nat} {l : List Ent} (h : RefK.At w a0 l) (hl : l.length ≤ 10000) (hs : ∀ x ∈ l, 0 ≤ x.src ∧ x.src < 4) :
    Calls Tryz.prog 37 #[.agg (refC low a0 l.length c0).toArray] w fun e w' => ∃ a c, e = .returned (.slice a (rall (live ⟨low, l⟩)).length c) ∧ Below w.heap.size w w' ∧ RefK.Row w' w.heap.size a c (rall (live ⟨low, l⟩)) := by
  obtain ⟨W, hW⟩ : ∃ W, W = w.alloc (.cells (refC low a0 l.length c0).toArray 35) := ⟨_, rfl⟩
  obtain ⟨H, hH⟩ : ∃ H, H = w.heap.size := ⟨_, rfl⟩
  have bW : Below w.heap.size w W := by rw [hW]; exact (Below.refl _ _).alloc (Nat.le_refl _) _
  have R0 : RowAt W H (refC low a0 l.length c0) := by rw [hW, hH]; exact row_new _ _ _
  obtain ⟨B, hB⟩ : ∃ B, B = W.heap.size := ⟨_, rfl⟩
  have HAt := hide (h.below (Nat.le_refl _) bW)
  have HR := hide R0
  have HBW := hide bW
  have HW := hide hW
  have HH := hide hH
  have HB := hide hB
  have HS := hide hs
  have HL := hide hl
  clear hW hH hB bW R0 h hs hl
  simp only [refC]
  go_enter Tryz.func37, Tryz.ntmps37
  go_upto_region 1 with fail
  rw [← unhide HH]
  try change Code.wp _ _ _ _ (w.alloc (.cells (refC low a0 l.length c0).toArray 35))
  rw [← unhide HW]
  go_wp2_with fail
  go_loopw [3, 4] (fun ov i wr => ∃ (j : Nat) (a : Option Addr) (c : Nat), i = .int .i64 (j : Int) ∧ j ≤ l.length ∧ ov = .slice a (toldTo low l j).length c ∧ RefK.Row wr B a c (toldTo low l j) ∧ Below B W wr) (fun _ i _ => l.length - (intOf i).toNat)
  case atStart => exact ⟨0, none, 0, rfl, Nat.zero_le _, rfl, row_none _ _, by rw [unhide HB]; exact Below.refl _ _⟩
  case round =>
    obtain ⟨j, a, c, rfl, hj, rfl, hrow, hbl⟩ := hrel
    have hbz : B ≤ wr.heap.size := by rw [unhide HB]; exact hbl.size
    have HTL := hide (told_len low l j)
    have RR := (unhide HR).keep (Moved.of_below (F := fun _ => False) (by rw [← unhide HB]; exact hbl)) id
    have c4 := refC_list RR
    by_cases hlt : j < l.length
    · have gj0 : (0 : Int) ≤ (j : Int) := by omega
      have gj : (j : Int) < (l.length : Int) := by omega
      have hwj : IntKind.i64.wrap ((j : Int) + 1) = (j : Int) + 1 := Go.IntWalk.i64_in _ (by have := unhide HL; omega)
      obtain ⟨x, hx⟩ : ∃ x, l[j]? = some x := ⟨_, List.getElem?_eq_getElem hlt⟩
      have hsrc := unhide HS x (List.mem_of_getElem? hx)
      have hAt : RefK.At wr a0 l := (unhide HAt).below (by rw [unhide HB]; exact Nat.le_refl _) hbl
      obtain ⟨g, o, rfl, hg, hrg⟩ := hAt.cell refK_law hx
      have HYES := fun hn => told_yes (low := low) hx hn
      have HNO := fun hn => told_no (low := low) hx hn
      obtain ⟨xs, xq, xc⟩ := x
      simp only at hsrc HYES HNO
      obtain ⟨k, rfl⟩ : ∃ k : Nat, xs = k := ⟨xs.toNat, by omega⟩
      have hk : k < 4 := by omega
      rw [Int.toNat_natCast] at HYES HNO
      have g0 : (0 : Int) ≤ (k : Int) := by omega
      have g1 : (k : Int) < 4 := by omega
      obtain ⟨W1, hW1⟩ : ∃ W1, W1 = wr.alloc (.cells #[.int .i64 (k : Int), .int .i64 xq, .int .i64 xc] 100) := ⟨_, rfl⟩
      obtain ⟨X, hX⟩ : ∃ X, X = wr.heap.size := ⟨_, rfl⟩
      have b1 : Below wr.heap.size wr W1 := by rw [hW1]; exact (Below.refl _ _).alloc (Nat.le_refl _) _
      have R1 : RowAt W1 X [.int .i64 (k : Int), .int .i64 xq, .int .i64 xc] := by rw [hW1, hX]; exact row_new _ _ _
      have bw1 : Below B W W1 := hbl.trans (b1.mono hbz)
      have row1 : RefK.Row W1 B a c (toldTo low l j) := row_keep hrow (Moved.of_below (F := fun _ => False) b1) (fun _ f => f.elim)
      have RR1 := RR.keep (Moved.of_below (F := fun _ => False) b1) id
      obtain ⟨CL, hCL⟩ : ∃ CL : World → Prop, CL = fun v => Below W1.heap.size W1 v := ⟨_, rfl⟩
      have un : ∀ v, CL v → Below W1.heap.size W1 v := fun v k => by rw [hCL] at k; exact k
      have base : CL W1 := by rw [hCL]; exact Below.refl _ _
      have drw : ∀ v, CL v → CL v.drew := fun v k => by rw [hCL] at k ⊢; exact k.drew
      have kc : ∀ (q : SX CL) (b i : Nat) (v : Value), W1.cell? ⟨b, i, none⟩ = some v → q.w.cell? ⟨b, i, none⟩ = some v := fun q b i v hv => ((un _ q.ok).cell (p := ⟨b, i, none⟩) (World.block_lt_of_cell? _ _ hv)).trans hv
      have x0 : ∀ q : SX CL, q.w.cell? ⟨X, 0, none⟩ = some (.int .i64 (k : Int)) := fun q => kc q _ _ _ (R1.cell 0 (by simp))
      have x1 : ∀ q : SX CL, q.w.cell? ⟨X, 1, none⟩ = some (.int .i64 xq) := fun q => kc q _ _ _ (R1.cell 1 (by simp))
      have xl : ∀ q : SX CL, q.w.cell? ⟨H, k, none⟩ = some (.int .i64 (low k)) := fun q => kc q _ _ _ (refC_low RR1 hk)
      have RQ := hide (fun v hv => row_keep row1 (Moved.of_below (F := fun _ => False) (un v hv)) (fun _ f => f.elim))
      have XQ := hide (fun v hv => R1.keep (Moved.of_below (F := fun _ => False) (un v hv)) id)
      have BQ := hide (fun v hv => bw1.trans ((un v hv).mono (by have := b1.size; omega)))
      have WSZ := hide (fun v hv => (un v hv).size)
      have DR := hide drw
      have ne : Nonempty (SX CL) := ⟨⟨W1, base⟩⟩
      have BS := hide base
      have RG : Hid (wr.rangeAt g (o + j * 3) [.int .i64 (k : Int), .int .i64 xq, .int .i64 xc]) := hide hrg
      have HW1 := hide hW1
      have HX := hide hX
      have HY := hide HYES
      have HN := hide HNO
      have BZ : Hid (B ≤ W1.heap.size) := hide (by have := b1.size; omega)
      clear hrow hbl hbz RR hx hAt hg hrg hW1 hX b1 R1 bw1 row1 RR1 hCL un base drw kc HYES HNO hsrc
      generalize toldTo low l j = O at *
      have hO : O.length ≤ 10000 := by have := unhide HTL; have := unhide HL; omega
      go_upto_region 6 with (refine wpList_load_on rfl 100 (.tmp 18) rfl g (o + j * 3) rfl [.int .i64 (k : Int), .int .i64 xq, .int .i64 xc] _ (unhide RG) Tryz.underlying100 rfl (by kernel_rfl) ?_)
      rw [← unhide HX]
      rw [← unhide HW1]
      refine wp_region_sx (St := CL) (by kernel_rfl) (by kernel_rfl) (unhide DR _ (unhide BS)) ?_
      repeat (go_big_quiet_step (fail))
      refine wpQuiet_nil ?_
      first | (rintro v1 ⟨⟨v1', OK1⟩, e1⟩; subst e1) | rintro ⟨v1, OK1⟩
      try dsimp only
      have OKH := hide OK1
      clear OK1
      by_cases hlow : xq < low k
      · have HEQ := hide (unhide HN hlow)
        have REL := hide (And.intro (unhide RQ _ (unhide OKH)) (unhide BQ _ (unhide OKH)))
        clear x0 x1 xl
        go_wp2_with fail
        exact ⟨⟨j + 1, a, c, rfl, by omega, by rw [unhide HEQ], by rw [unhide HEQ]; exact (unhide REL).1, (unhide REL).2⟩, by simp [intOf]; omega⟩
      · have hlow2 : decide (xq < low k) = false := decide_eq_false hlow
        have HEQ := hide (unhide HY hlow)
        go_wp2_with fail
        go_loopw [6] (fun i v => ∃ m : Nat, i = .int .i64 (m : Int) ∧ m ≤ O.length ∧ cutAt O ⟨(k : Int), xq, xc⟩ O.length = cutAt O ⟨(k : Int), xq, xc⟩ m ∧ CL v) (fun i _ => (intOf i).toNat)
        case atStart => exact ⟨O.length, rfl, Nat.le_refl _, rfl, unhide OKH⟩
        case round =>
          obtain ⟨m, rfl, hm, hcut, OKm⟩ := hrel
          have CUT := hide hcut
          have OKM := hide OKm
          clear hcut OKm OKH
          by_cases hm0 : m = 0
          · have CE : Hid (cutAt O ⟨(k : Int), xq, xc⟩ O.length = m) := hide (by rw [unhide CUT, hm0]; rfl)
            have n1 : ¬ 0 < (m : Int) := by omega
            have n2 : decide (0 < (m : Int)) = false := decide_eq_false n1
            have n3 : decide (0 < m) = false := decide_eq_false (by omega)
            clear hm0
            go_upto_region 8 with fail
            refine wp_region_sx (St := CL) (by kernel_rfl) (by kernel_rfl) (unhide DR _ (unhide OKM)) ?_
            repeat (go_big_quiet_step (fail))
            refine wpQuiet_nil ?_
            first | (rintro v2 ⟨⟨v2', OK2⟩, e2'⟩; subst e2') | rintro ⟨v2, OK2⟩
            try dsimp only
            rename World => V2
            have OKV := hide OK2
            clear OK2
            have rowV := unhide RQ _ (unhide OKV)
            have XV := unhide XQ _ (unhide OKV)
            have hcap := row_cap rowV
            obtain ⟨V, hV⟩ : ∃ V, V = V2 := ⟨_, rfl⟩
            rw [← hV] at rowV XV ⊢
            have BV : Below B W V := by rw [hV]; exact unhide BQ _ (unhide OKV)
            have BZV : B ≤ V.heap.size := by have := unhide BZ; have := unhide WSZ _ (unhide OKV); rw [hV]; omega
            clear hV
            obtain ⟨X1, hX1⟩ : ∃ X1, X1 = V.alloc (.cells #[] 100) := ⟨_, rfl⟩
            have b1 : Below V.heap.size V X1 := by rw [hX1]; exact (Below.refl _ _).alloc (Nat.le_refl _) _
            have row0 : RefK.Row X1 V.heap.size (some ⟨V.heap.size, 0, none⟩) 0 [] := by rw [hX1]; exact World.ownsRow_made V #[] 0 (Nat.le_refl _) (by unfold maxLen; omega) rfl
            have keepO : ∀ v', Below V.heap.size V v' → RefK.Lies v' a O := fun v' hb => row_lies (row_keep rowV (Moved.of_below (F := fun _ => False) hb) (fun _ f => f.elim))
            have lt1 : (O.take m).length = m := by rw [List.length_take]; omega
            obtain ⟨a5, c5, X2, happ1, row5, gr5⟩ := grow_app refK_law row0 a c (O.take m) (lies_take refK_law (keepO X1 b1) m) (by simp; omega) b1.size 33
            have b2 : Below V.heap.size X1 X2 := (Below.refl _ X1).grown gr5 b1.size (fun i e => (row_lt row0 i e).1)
            rw [List.nil_append, lt1] at happ1
            rw [List.nil_append] at row5
            obtain ⟨a6, c6, X3, happ2, row6, b3, _, _⟩ := grow_one refK_law row5 ⟨(k : Int), xq, xc⟩ 100 (by rw [lt1]; omega) (b1.trans b2).size
            rw [lt1] at happ2
            have X2R : RowAt X2 X [.int .i64 (k : Int), .int .i64 xq, .int .i64 xc] := XV.keep (Moved.of_below (F := fun _ => False) (b1.trans b2)) id
            have hlies6 := lies_from (keepO X3 ((b1.trans b2).trans b3)) hm hcap
            obtain ⟨A5, hA5⟩ : ∃ A5 : Option Addr, A5 = (if c = m then a else a.map (·.add (m * 3))) := ⟨_, rfl⟩
            rw [← hA5] at hlies6
            have hsf : ∀ w', (Instr.slice 33 (.slice a O.length c) (some (.int .i64 (m : Int))) none none).run Tryz.prog w' = .ok (.slice A5 (O.length - m) (c - m)) w' := by rw [hA5]; exact slice_from a O.length c m hm
            have hst : ∀ w', (Instr.slice 33 (.slice a O.length c) none (some (.int .i64 (m : Int))) none).run Tryz.prog w' = .ok (.slice a m c) w' := slice_to a O.length c m (by omega)
            obtain ⟨a7, c7, X4, happ3, row7, gr7⟩ := grow_app refK_law row6 A5 (c - m) (O.drop m) hlies6 (by simp; omega) ((b1.trans b2).trans b3).size 33
            have b4 : Below V.heap.size X3 X4 := (Below.refl _ X3).grown gr7 ((b1.trans b2).trans b3).size (fun i e => (row_lt row6 i e).1)
            have hins : O.take m ++ [(⟨(k : Int), xq, xc⟩ : Ent)] ++ O.drop m = rins O ⟨(k : Int), xq, xc⟩ := by
              unfold rins
              rw [unhide CE, List.append_assoc]; rfl
            have hlen7 : (O.take m ++ [(⟨(k : Int), xq, xc⟩ : Ent)]).length = m + 1 := by rw [List.length_append, lt1]; rfl
            rw [hins, hlen7, List.length_drop] at happ3
            rw [hins] at row7
            have HLEN : Hid ((rins O ⟨(k : Int), xq, xc⟩).length = (toldTo low l (j + 1)).length) := hide (by rw [unhide HEQ])
            obtain ⟨n7, hn7⟩ : ∃ n7, n7 = (toldTo low l (j + 1)).length := ⟨_, rfl⟩
            rw [unhide HLEN, ← hn7] at happ3
            have HN7 := hide hn7
            clear hn7
            have REL : Hid (RefK.Row X4 B a7 c7 (toldTo low l (j + 1)) ∧ Below B W X4) := hide ⟨by rw [unhide HEQ]; exact row_base row7 BZV, BV.trans ((((b1.trans b2).trans b3).trans b4).mono BZV)⟩
            have HX1 := hide hX1
            have X2G := hide X2R.range
            have HAP1 : Hid ((Builtin.append_ #[33, 33] 33 #[.slice (some ⟨V.heap.size, 0, none⟩) 0 0, .slice a m c]).run Tryz.prog X1 = .ok (.slice a5 m c5) X2) := hide happ1
            have HAP2 : Hid ((Builtin.append_ #[33, 33] 33 #[.slice a5 m c5, .slice (some ⟨X2.heap.size, 0, none⟩) 1 1]).run Tryz.prog (X2.alloc (.cells #[.int .i64 (k : Int), .int .i64 xq, .int .i64 xc] 100)) = .ok (.slice a6 (m + 1) c6) X3) := hide happ2
            have HAP3 : Hid ((Builtin.append_ #[33, 33] 33 #[.slice a6 (m + 1) c6, .slice A5 (O.length - m) (c - m)]).run Tryz.prog X3 = .ok (.slice a7 n7 c7) X4) := hide happ3
            clear rowV XV hcap BV BZV hX1 b1 row0 keepO lt1 happ1 row5 gr5 b2 happ2 row6 b3 X2R hlies6 hA5 happ3 row7 gr7 b4 hins hlen7 x0 x1 xl
            go_wp2_with (first | (refine wpList_load_on rfl 100 (.tmp 5) rfl X 0 rfl [.int .i64 (k : Int), .int .i64 xq, .int .i64 xc] _ (unhide X2G) Tryz.underlying100 rfl (by kernel_rfl) ?_) | (at_builtin; first | (simp only [← unhide HX1]; refine wpList_app rfl _ _ 33 33 33 rfl rfl rfl rfl (unhide HAP1) ?_) | (refine wpList_app rfl _ _ 33 33 33 rfl rfl rfl rfl (unhide HAP2) ?_) | (refine wpList_app rfl _ _ 33 33 33 rfl rfl rfl rfl (unhide HAP3) ?_)))
            exact ⟨⟨j + 1, a7, c7, rfl, by omega, by rw [unhide HN7], (unhide REL).1, (unhide REL).2⟩, by simp [intOf]; omega⟩
          · obtain ⟨i, hi⟩ : ∃ i, m = i + 1 := ⟨m - 1, by omega⟩
            obtain ⟨y, hy⟩ : ∃ y, O[i]? = some y := ⟨_, List.getElem?_eq_getElem (by omega)⟩
            have hyd : O.getD i e0 = y := by rw [List.getD_eq_getElem?_getD, hy]; rfl
            have hcm : cutAt O ⟨(k : Int), xq, xc⟩ m = if over y ⟨(k : Int), xq, xc⟩ = true then cutAt O ⟨(k : Int), xq, xc⟩ i else m := by
              rw [hi, cutAt, hyd]
            have shp := row_shape (unhide RQ _ (unhide OKM))
            obtain ⟨g2, rfl, hg2, _⟩ : ∃ g2, a = some ⟨g2, 0, none⟩ ∧ B ≤ g2 ∧ True := by
              rcases shp with ⟨g2, e, e2, _⟩ | ⟨_, e⟩
              · exact ⟨g2, e, e2, trivial⟩
              · rw [e] at hy; cases hy
            have yq : ∀ q : SX CL, q.w.rangeAt g2 (0 + i * 3) (entV y) := fun q => lies_at refK_law (row_lies (unhide RQ _ q.ok)) hy
            obtain ⟨ys, yq', yc⟩ := y
            have y0 : ∀ q : SX CL, q.w.cell? ⟨g2, i * 3, none⟩ = some (.int .i64 ys) := fun q => by have := yq q 0 _ rfl; simpa using this
            have y1 : ∀ q : SX CL, q.w.cell? ⟨g2, i * 3 + 1, none⟩ = some (.int .i64 yq') := fun q => by have := yq q 1 _ rfl; simpa using this
            have hwm : IntKind.i64.wrap ((m : Int) - 1) = (i : Int) := by rw [Go.IntWalk.i64_in _ (by omega)]; omega
            have gi0 : (0 : Int) ≤ (i : Int) := by omega
            have gi1 : (i : Int) < (O.length : Int) := by omega
            have p1 : 0 < (m : Int) := by omega
            have p2 : decide (0 < (m : Int)) = true := decide_eq_true p1
            have p3 : decide (0 < m) = true := decide_eq_true (by omega)
            have HI := hide hi
            have HCM := hide hcm
            clear hy hyd hcm shp yq hg2 hi hm0
            by_cases h1 : (k : Int) < ys
            · have ov : Hid (over ⟨ys, yq', yc⟩ ⟨(k : Int), xq, xc⟩ = true) := hide (over_iff.2 (.inl h1))
              have e1 : decide ((k : Int) < ys) = true := decide_eq_true h1
              go_upto_region 8 with fail
              refine wp_region_sx (St := CL) (by kernel_rfl) (by kernel_rfl) (unhide DR _ (unhide OKM)) ?_
              repeat (go_big_quiet_step (fail))
              refine wpQuiet_nil ?_
              first | (rintro v2 ⟨⟨v2', OK2⟩, e2'⟩; subst e2') | rintro ⟨v2, OK2⟩
              try dsimp only
              rename World => V2
              have OKV := hide OK2
              clear OK2
              have CN : Hid (cutAt O ⟨(k : Int), xq, xc⟩ O.length = cutAt O ⟨(k : Int), xq, xc⟩ i) := hide (by rw [unhide CUT, unhide HCM, if_pos (unhide ov)])
              go_wp2_with fail
              exact ⟨⟨i, rfl, by have := unhide HI; omega, unhide CN, unhide OKV⟩, by have := unhide HI; simp [intOf]; omega⟩
            · have e1 : decide ((k : Int) < ys) = false := decide_eq_false h1
              by_cases h2 : ys = (k : Int)
              · by_cases h3 : xq < yq'
                · have ov : Hid (over ⟨ys, yq', yc⟩ ⟨(k : Int), xq, xc⟩ = true) := hide (over_iff.2 (.inr ⟨h2, h3⟩))
                  have e2 : decide (ys = (k : Int)) = true := decide_eq_true h2
                  have e2b : (ys == (k : Int)) = true := beq_iff_eq.2 h2
                  have e3 : decide (xq < yq') = true := decide_eq_true h3
                  clear h1 h2 h3
                  go_upto_region 8 with fail
                  refine wp_region_sx (St := CL) (by kernel_rfl) (by kernel_rfl) (unhide DR _ (unhide OKM)) ?_
                  repeat (go_big_quiet_step (fail))
                  refine wpQuiet_nil ?_
                  first | (rintro v2 ⟨⟨v2', OK2⟩, e2'⟩; subst e2') | rintro ⟨v2, OK2⟩
                  try dsimp only
                  rename World => V2
                  have OKV := hide OK2
                  clear OK2
                  have CN : Hid (cutAt O ⟨(k : Int), xq, xc⟩ O.length = cutAt O ⟨(k : Int), xq, xc⟩ i) := hide (by rw [unhide CUT, unhide HCM, if_pos (unhide ov)])
                  go_wp2_with fail
                  exact ⟨⟨i, rfl, by have := unhide HI; omega, unhide CN, unhide OKV⟩, by have := unhide HI; simp [intOf]; omega⟩
                · have ov : Hid (¬ over ⟨ys, yq', yc⟩ ⟨(k : Int), xq, xc⟩ = true) := hide (fun h => by
                    rcases over_iff.1 h with h | h
                    · exact h1 h
                    · exact h3 h.2)
                  have CE : Hid (cutAt O ⟨(k : Int), xq, xc⟩ O.length = m) := hide (by rw [unhide CUT, unhide HCM, if_neg (unhide ov)])
                  have e2 : decide (ys = (k : Int)) = true := decide_eq_true h2
                  have e2b : (ys == (k : Int)) = true := beq_iff_eq.2 h2
                  have e3 : decide (xq < yq') = false := decide_eq_false h3
                  clear h1 h2 h3
                  go_upto_region 8 with fail
                  refine wp_region_sx (St := CL) (by kernel_rfl) (by kernel_rfl) (unhide DR _ (unhide OKM)) ?_
                  repeat (go_big_quiet_step (fail))
                  refine wpQuiet_nil ?_
                  first | (rintro v2 ⟨⟨v2', OK2⟩, e2'⟩; subst e2') | rintro ⟨v2, OK2⟩
                  try dsimp only
                  rename World => V2
                  have OKV := hide OK2
                  clear OK2
                  have rowV := unhide RQ _ (unhide OKV)
                  have XV := unhide XQ _ (unhide OKV)
                  have hcap := row_cap rowV
                  obtain ⟨V, hV⟩ : ∃ V, V = V2 := ⟨_, rfl⟩
                  rw [← hV] at rowV XV ⊢
                  have BV : Below B W V := by rw [hV]; exact unhide BQ _ (unhide OKV)
                  have BZV : B ≤ V.heap.size := by have := unhide BZ; have := unhide WSZ _ (unhide OKV); rw [hV]; omega
                  clear hV
                  obtain ⟨X1, hX1⟩ : ∃ X1, X1 = V.alloc (.cells #[] 100) := ⟨_, rfl⟩
                  have b1 : Below V.heap.size V X1 := by rw [hX1]; exact (Below.refl _ _).alloc (Nat.le_refl _) _
                  have row0 : RefK.Row X1 V.heap.size (some ⟨V.heap.size, 0, none⟩) 0 [] := by rw [hX1]; exact World.ownsRow_made V #[] 0 (Nat.le_refl _) (by unfold maxLen; omega) rfl
                  have keepO : ∀ v', Below V.heap.size V v' → RefK.Lies v' (some (⟨g2, 0, none⟩ : Addr)) O := fun v' hb => row_lies (row_keep rowV (Moved.of_below (F := fun _ => False) hb) (fun _ f => f.elim))
                  have lt1 : (O.take m).length = m := by rw [List.length_take]; omega
                  obtain ⟨a5, c5, X2, happ1, row5, gr5⟩ := grow_app refK_law row0 (some (⟨g2, 0, none⟩ : Addr)) c (O.take m) (lies_take refK_law (keepO X1 b1) m) (by simp; omega) b1.size 33
                  have b2 : Below V.heap.size X1 X2 := (Below.refl _ X1).grown gr5 b1.size (fun i e => (row_lt row0 i e).1)
                  rw [List.nil_append, lt1] at happ1
                  rw [List.nil_append] at row5
                  obtain ⟨a6, c6, X3, happ2, row6, b3, _, _⟩ := grow_one refK_law row5 ⟨(k : Int), xq, xc⟩ 100 (by rw [lt1]; omega) (b1.trans b2).size
                  rw [lt1] at happ2
                  have X2R : RowAt X2 X [.int .i64 (k : Int), .int .i64 xq, .int .i64 xc] := XV.keep (Moved.of_below (F := fun _ => False) (b1.trans b2)) id
                  have hlies6 := lies_from (keepO X3 ((b1.trans b2).trans b3)) hm hcap
                  obtain ⟨A5, hA5⟩ : ∃ A5 : Option Addr, A5 = (if c = m then (some (⟨g2, 0, none⟩ : Addr)) else (some (⟨g2, 0, none⟩ : Addr)).map (·.add (m * 3))) := ⟨_, rfl⟩
                  rw [← hA5] at hlies6
                  have hsf : ∀ w', (Instr.slice 33 (.slice (some (⟨g2, 0, none⟩ : Addr)) O.length c) (some (.int .i64 (m : Int))) none none).run Tryz.prog w' = .ok (.slice A5 (O.length - m) (c - m)) w' := by rw [hA5]; exact slice_from (some (⟨g2, 0, none⟩ : Addr)) O.length c m hm
                  have hst : ∀ w', (Instr.slice 33 (.slice (some (⟨g2, 0, none⟩ : Addr)) O.length c) none (some (.int .i64 (m : Int))) none).run Tryz.prog w' = .ok (.slice (some (⟨g2, 0, none⟩ : Addr)) m c) w' := slice_to (some (⟨g2, 0, none⟩ : Addr)) O.length c m (by omega)
                  obtain ⟨a7, c7, X4, happ3, row7, gr7⟩ := grow_app refK_law row6 A5 (c - m) (O.drop m) hlies6 (by simp; omega) ((b1.trans b2).trans b3).size 33
                  have b4 : Below V.heap.size X3 X4 := (Below.refl _ X3).grown gr7 ((b1.trans b2).trans b3).size (fun i e => (row_lt row6 i e).1)
                  have hins : O.take m ++ [(⟨(k : Int), xq, xc⟩ : Ent)] ++ O.drop m = rins O ⟨(k : Int), xq, xc⟩ := by
                    unfold rins
                    rw [unhide CE, List.append_assoc]; rfl
                  have hlen7 : (O.take m ++ [(⟨(k : Int), xq, xc⟩ : Ent)]).length = m + 1 := by rw [List.length_append, lt1]; rfl
                  rw [hins, hlen7, List.length_drop] at happ3
                  rw [hins] at row7
                  have HLEN : Hid ((rins O ⟨(k : Int), xq, xc⟩).length = (toldTo low l (j + 1)).length) := hide (by rw [unhide HEQ])
                  obtain ⟨n7, hn7⟩ : ∃ n7, n7 = (toldTo low l (j + 1)).length := ⟨_, rfl⟩
                  rw [unhide HLEN, ← hn7] at happ3
                  have HN7 := hide hn7
                  clear hn7
                  have REL : Hid (RefK.Row X4 B a7 c7 (toldTo low l (j + 1)) ∧ Below B W X4) := hide ⟨by rw [unhide HEQ]; exact row_base row7 BZV, BV.trans ((((b1.trans b2).trans b3).trans b4).mono BZV)⟩
                  have HX1 := hide hX1
                  have X2G := hide X2R.range
                  have HAP1 : Hid ((Builtin.append_ #[33, 33] 33 #[.slice (some ⟨V.heap.size, 0, none⟩) 0 0, .slice (some (⟨g2, 0, none⟩ : Addr)) m c]).run Tryz.prog X1 = .ok (.slice a5 m c5) X2) := hide happ1
                  have HAP2 : Hid ((Builtin.append_ #[33, 33] 33 #[.slice a5 m c5, .slice (some ⟨X2.heap.size, 0, none⟩) 1 1]).run Tryz.prog (X2.alloc (.cells #[.int .i64 (k : Int), .int .i64 xq, .int .i64 xc] 100)) = .ok (.slice a6 (m + 1) c6) X3) := hide happ2
                  have HAP3 : Hid ((Builtin.append_ #[33, 33] 33 #[.slice a6 (m + 1) c6, .slice A5 (O.length - m) (c - m)]).run Tryz.prog X3 = .ok (.slice a7 n7 c7) X4) := hide happ3
                  clear rowV XV hcap BV BZV hX1 b1 row0 keepO lt1 happ1 row5 gr5 b2 happ2 row6 b3 X2R hlies6 hA5 happ3 row7 gr7 b4 hins hlen7 x0 x1 xl y0 y1
                  go_wp2_with (first | (refine wpList_load_on rfl 100 (.tmp 5) rfl X 0 rfl [.int .i64 (k : Int), .int .i64 xq, .int .i64 xc] _ (unhide X2G) Tryz.underlying100 rfl (by kernel_rfl) ?_) | (at_builtin; first | (simp only [← unhide HX1]; refine wpList_app rfl _ _ 33 33 33 rfl rfl rfl rfl (unhide HAP1) ?_) | (refine wpList_app rfl _ _ 33 33 33 rfl rfl rfl rfl (unhide HAP2) ?_) | (refine wpList_app rfl _ _ 33 33 33 rfl rfl rfl rfl (unhide HAP3) ?_)))
                  exact ⟨⟨j + 1, a7, c7, rfl, by omega, by rw [unhide HN7], (unhide REL).1, (unhide REL).2⟩, by simp [intOf]; omega⟩
              · have ov : Hid (¬ over ⟨ys, yq', yc⟩ ⟨(k : Int), xq, xc⟩ = true) := hide (fun h => by
                  rcases over_iff.1 h with h | h
                  · exact h1 h
                  · exact h2 h.1)
                have CE : Hid (cutAt O ⟨(k : Int), xq, xc⟩ O.length = m) := hide (by rw [unhide CUT, unhide HCM, if_neg (unhide ov)])
                have e2 : decide (ys = (k : Int)) = false := decide_eq_false h2
                have e2b : (ys == (k : Int)) = false := beq_eq_false_iff_ne.2 h2
                go_upto_region 8 with fail
                refine wp_region_sx (St := CL) (by kernel_rfl) (by kernel_rfl) (unhide DR _ (unhide OKM)) ?_
                repeat (go_big_quiet_step (fail))
                refine wpQuiet_nil ?_
                first | (rintro v2 ⟨⟨v2', OK2⟩, e2'⟩; subst e2') | rintro ⟨v2, OK2⟩
                try dsimp only
                rename World => V2
                have OKV := hide OK2
                clear OK2
                have rowV := unhide RQ _ (unhide OKV)
                have XV := unhide XQ _ (unhide OKV)
                have hcap := row_cap rowV
                obtain ⟨V, hV⟩ : ∃ V, V = V2 := ⟨_, rfl⟩
                rw [← hV] at rowV XV ⊢
                have BV : Below B W V := by rw [hV]; exact unhide BQ _ (unhide OKV)
                have BZV : B ≤ V.heap.size := by have := unhide BZ; have := unhide WSZ _ (unhide OKV); rw [hV]; omega
                clear hV
                obtain ⟨X1, hX1⟩ : ∃ X1, X1 = V.alloc (.cells #[] 100) := ⟨_, rfl⟩
                have b1 : Below V.heap.size V X1 := by rw [hX1]; exact (Below.refl _ _).alloc (Nat.le_refl _) _
                have row0 : RefK.Row X1 V.heap.size (some ⟨V.heap.size, 0, none⟩) 0 [] := by rw [hX1]; exact World.ownsRow_made V #[] 0 (Nat.le_refl _) (by unfold maxLen; omega) rfl
                have keepO : ∀ v', Below V.heap.size V v' → RefK.Lies v' (some (⟨g2, 0, none⟩ : Addr)) O := fun v' hb => row_lies (row_keep rowV (Moved.of_below (F := fun _ => False) hb) (fun _ f => f.elim))
                have lt1 : (O.take m).length = m := by rw [List.length_take]; omega
                obtain ⟨a5, c5, X2, happ1, row5, gr5⟩ := grow_app refK_law row0 (some (⟨g2, 0, none⟩ : Addr)) c (O.take m) (lies_take refK_law (keepO X1 b1) m) (by simp; omega) b1.size 33
                have b2 : Below V.heap.size X1 X2 := (Below.refl _ X1).grown gr5 b1.size (fun i e => (row_lt row0 i e).1)
                rw [List.nil_append, lt1] at happ1
                rw [List.nil_append] at row5
                obtain ⟨a6, c6, X3, happ2, row6, b3, _, _⟩ := grow_one refK_law row5 ⟨(k : Int), xq, xc⟩ 100 (by rw [lt1]; omega) (b1.trans b2).size
                rw [lt1] at happ2
                have X2R : RowAt X2 X [.int .i64 (k : Int), .int .i64 xq, .int .i64 xc] := XV.keep (Moved.of_below (F := fun _ => False) (b1.trans b2)) id
                have hlies6 := lies_from (keepO X3 ((b1.trans b2).trans b3)) hm hcap
                obtain ⟨A5, hA5⟩ : ∃ A5 : Option Addr, A5 = (if c = m then (some (⟨g2, 0, none⟩ : Addr)) else (some (⟨g2, 0, none⟩ : Addr)).map (·.add (m * 3))) := ⟨_, rfl⟩
                rw [← hA5] at hlies6
                have hsf : ∀ w', (Instr.slice 33 (.slice (some (⟨g2, 0, none⟩ : Addr)) O.length c) (some (.int .i64 (m : Int))) none none).run Tryz.prog w' = .ok (.slice A5 (O.length - m) (c - m)) w' := by rw [hA5]; exact slice_from (some (⟨g2, 0, none⟩ : Addr)) O.length c m hm
                have hst : ∀ w', (Instr.slice 33 (.slice (some (⟨g2, 0, none⟩ : Addr)) O.length c) none (some (.int .i64 (m : Int))) none).run Tryz.prog w' = .ok (.slice (some (⟨g2, 0, none⟩ : Addr)) m c) w' := slice_to (some (⟨g2, 0, none⟩ : Addr)) O.length c m (by omega)
                obtain ⟨a7, c7, X4, happ3, row7, gr7⟩ := grow_app refK_law row6 A5 (c - m) (O.drop m) hlies6 (by simp; omega) ((b1.trans b2).trans b3).size 33
                have b4 : Below V.heap.size X3 X4 := (Below.refl _ X3).grown gr7 ((b1.trans b2).trans b3).size (fun i e => (row_lt row6 i e).1)
                have hins : O.take m ++ [(⟨(k : Int), xq, xc⟩ : Ent)] ++ O.drop m = rins O ⟨(k : Int), xq, xc⟩ := by
                  unfold rins
                  rw [unhide CE, List.append_assoc]; rfl
                have hlen7 : (O.take m ++ [(⟨(k : Int), xq, xc⟩ : Ent)]).length = m + 1 := by rw [List.length_append, lt1]; rfl
                rw [hins, hlen7, List.length_drop] at happ3
                rw [hins] at row7
                have HLEN : Hid ((rins O ⟨(k : Int), xq, xc⟩).length = (toldTo low l (j + 1)).length) := hide (by rw [unhide HEQ])
                obtain ⟨n7, hn7⟩ : ∃ n7, n7 = (toldTo low l (j + 1)).length := ⟨_, rfl⟩
                rw [unhide HLEN, ← hn7] at happ3
                have HN7 := hide hn7
                clear hn7
                have REL : Hid (RefK.Row X4 B a7 c7 (toldTo low l (j + 1)) ∧ Below B W X4) := hide ⟨by rw [unhide HEQ]; exact row_base row7 BZV, BV.trans ((((b1.trans b2).trans b3).trans b4).mono BZV)⟩
                have HX1 := hide hX1
                have X2G := hide X2R.range
                have HAP1 : Hid ((Builtin.append_ #[33, 33] 33 #[.slice (some ⟨V.heap.size, 0, none⟩) 0 0, .slice (some (⟨g2, 0, none⟩ : Addr)) m c]).run Tryz.prog X1 = .ok (.slice a5 m c5) X2) := hide happ1
                have HAP2 : Hid ((Builtin.append_ #[33, 33] 33 #[.slice a5 m c5, .slice (some ⟨X2.heap.size, 0, none⟩) 1 1]).run Tryz.prog (X2.alloc (.cells #[.int .i64 (k : Int), .int .i64 xq, .int .i64 xc] 100)) = .ok (.slice a6 (m + 1) c6) X3) := hide happ2
                have HAP3 : Hid ((Builtin.append_ #[33, 33] 33 #[.slice a6 (m + 1) c6, .slice A5 (O.length - m) (c - m)]).run Tryz.prog X3 = .ok (.slice a7 n7 c7) X4) := hide happ3
                clear rowV XV hcap BV BZV hX1 b1 row0 keepO lt1 happ1 row5 gr5 b2 happ2 row6 b3 X2R hlies6 hA5 happ3 row7 gr7 b4 hins hlen7 x0 x1 xl y0 y1
                go_wp2_with (first | (refine wpList_load_on rfl 100 (.tmp 5) rfl X 0 rfl [.int .i64 (k : Int), .int .i64 xq, .int .i64 xc] _ (unhide X2G) Tryz.underlying100 rfl (by kernel_rfl) ?_) | (at_builtin; first | (simp only [← unhide HX1]; refine wpList_app rfl _ _ 33 33 33 rfl rfl rfl rfl (unhide HAP1) ?_) | (refine wpList_app rfl _ _ 33 33 33 rfl rfl rfl rfl (unhide HAP2) ?_) | (refine wpList_app rfl _ _ 33 33 33 rfl rfl rfl rfl (unhide HAP3) ?_)))
                exact ⟨⟨j + 1, a7, c7, rfl, by omega, by rw [unhide HN7], (unhide REL).1, (unhide REL).2⟩, by simp [intOf]; omega⟩
    · have hje : j = l.length := by omega
      have HTE := hide (told_end low l)
      have HEQ : Hid (toldTo low l j = rall (live ⟨low, l⟩)) := hide (by rw [hje]; exact unhide HTE)
      have REL := hide (And.intro hrow hbl)
      clear hrow hbl hbz hje RR
      rw [unhide HEQ]
      go_wp2_with fail
      go_ret
      refine ⟨a, c, rfl, ?_, ?_⟩
      · exact (unhide HBW).trans ((unhide REL).2.mono (by have := unhide HB; have := (unhide HBW).size; omega))
      · have := (unhide REL).1
        rw [unhide HEQ] at this
        exact row_base this (by have := unhide HB; have := (unhide HBW).size; omega)
end Go.Proofs.YtigmhljaoicdbaaGreat.Sn

/- The document's own Add. Condition: the list is shorter than 10^11. -/
import Derived.Test.YtdmjkbcjljnleaaRefA
namespace Go.Proofs.Ytdmjkbcjljnleaa
open Go.RowKit

theorem results_cell_tmp {P : Program} {fn : Func} {p t : Tmp} {ty : TypeId} (h : fn.results = #[.cell p ty, .tmp t]) (tmps : Array Value) (w : World) (g : Nat) (cs : List Value) (d : TypeDesc)
    (hp : tmps.getD p undef = .pointer (some ⟨g, 0, none⟩)) (hc : w.rangeAt g 0 cs) (hu : P.underlying ty = some d) (hd : d.isRow = true) (hi : (P.info? ty).map (·.size) = some cs.length) :
    (results fn tmps).run P w = .ok (.tuple #[.agg cs.toArray, tmps.getD t undef]) w := by
  have hp' : tmps[p]?.getD undef = .pointer (some ⟨g, 0, none⟩) := by simpa using hp
  simp [results, h, hp', asAddr, run_loadVar_mid w g 0 ty cs d hc hu hd hi]
/-- A new row of numbers. -/
theorem row_lit (v : World) (l : List Int) (hl : l.length ≤ 1000) : IntK.Row (v.alloc (.cells (IntK.cells l).toArray 3)) v.heap.size (some ⟨v.heap.size, 0, none⟩) l.length l := by
  have e : (IntK.cells l).length = l.length := by
    have := cells_length intK_law l
    simpa [IntK] using this
  refine ⟨?_, .inr ⟨v.heap.size, l.length, (IntK.cells l).toArray, rfl, Nat.le_refl _, (Go.MapKept.heap_alloc v _).1, Nat.le_refl _, by unfold maxLen; omega, ?_, ?_⟩⟩
  · rw [e]; simp [IntK]
  · show (IntK.cells l).toArray.size = l.length * 1
    rw [List.size_toArray, e, Nat.mul_one]
  · show List.take (l.length * 1) (IntK.cells l) = IntK.cells l
    rw [List.take_of_length_le (by omega)]
/-- An append of one number, however long the row. -/
theorem grow_at_one {w : World} {B : Nat} {a : Option Addr} {c : Nat} {l : List Int} (h : IntK.Row w B a c l) (z : Int) (hl : l.length ≤ 100000000000) (hB : B ≤ w.heap.size) :
    ∃ a' c' w', (Builtin.append_ #[27, 27] 27 #[.slice a l.length c, .slice (some ⟨w.heap.size, 0, none⟩) 1 1]).run Try.prog (w.alloc (.cells #[.int .i64 z] 3)) = .ok (.slice a' (l.length + 1) c') w' ∧ IntK.Row w' B a' c' (l ++ [z]) ∧ Below B w w' ∧ Moved (fun k => own a l.length c = some k) w w' ∧
      (own a' (l.length + 1) c' = own a l.length c ∨ own a' (l.length + 1) c' = some (w.heap.size + 1)) := by
  have rV : IntK.Row (w.alloc (.cells #[.int .i64 z] 3)) B a c l := h.alloc _
  obtain ⟨a', c', w', happ, row', grow', hown⟩ := grow_at intK_law rV ⟨w.heap.size, 0, none⟩ 1 [z] (lies_new IntK w z 3) (by simp; omega) (by simp; omega) 27
  have e : (l ++ [z]).length = l.length + 1 := by simp
  rw [e] at happ hown
  rw [World.size_alloc] at hown
  refine ⟨a', c', w', happ, row', ?_, ?_, hown⟩
  · exact ((Below.refl B w).alloc hB _).grown grow' (by simp; omega) (fun k e => (h.lt k e).1)
  · exact ((Moved.refl _ w).alloc _).grown grow' (fun k e => .inl e)
/-- Behind a step of the document's: the row is the elder one, or a new one. -/
structure RStep (w w' : World) (a : Option Addr) (c : Nat) (l : List Int) (a' : Option Addr) (c' : Nat) (l' : List Int) : Prop where
  bel : Below w.heap.size w w'
  row : IntK.Row w' 0 a' c' l'
  new_ : (a' = a ∧ c' = c ∧ l' = l) ∨ ∀ k, own a' l'.length c' = some k → w.heap.size ≤ k
theorem row_below {w w' : World} {B : Nat} {a : Option Addr} {c : Nat} {l : List Int} (h : IntK.Row w B a c l) (b : Below w.heap.size w w') : IntK.Row w' B a c l :=
  row_keep h (Moved.of_below (F := fun _ => False) b) fun _ f => f.elim
set_option maxRecDepth 100000 in
set_option maxHeartbeats 2000000 in
theorem radd_not {w : World} {a : Option Addr} {c : Nat} {l : List Int} (h : IntK.Row w 0 a c l) (hl : l.length ≤ 100000000000) {n : Int} (hf : rfresh l n = false) :
    Calls Try.prog 18 #[.agg #[.slice a l.length c], .int .i64 n] w fun e w' => e = .returned (.tuple #[.agg #[.slice a l.length c], .bool false]) ∧ Below w.heap.size w w' := by
  obtain ⟨H, hH⟩ : ∃ H, H = w.heap.size := ⟨_, rfl⟩
  obtain ⟨W, hW⟩ : ∃ W, W = (w.alloc (.cells #[.slice a l.length c] 35)).alloc (.cells #[.slice none 0 0] 35) := ⟨_, rfl⟩
  have bW : Below w.heap.size w W := by rw [hW]; exact ((Below.refl _ _).alloc (Nat.le_refl _) _).alloc (by simp) _
  have r0 : RowAt W H [.slice a l.length c] := by rw [hW, hH]; exact row_old (row_new w [.slice a l.length c] 35) _
  have r1 : RowAt W (H + 1) [.slice none 0 0] := by rw [hW, hH]; exact row_new2 w [.slice none 0 0] [.slice a l.length c] 35 35
  have hm := rhas_any (c := c) ((row_below h bW).at_) (by omega : l.length ≤ 1000000000000) n
  have HF := hide hf
  have FIN := hide bW
  have HW := hide hW
  have HH := hide hH
  have R0 := hide r0
  have R1 := hide r1
  have c0 := r0.cell 0 (Nat.succ_pos _)
  have c1 := r1.cell 0 (Nat.succ_pos _)
  have f1 := r1.free 0 (Nat.succ_pos _)
  simp only [List.getD_cons_zero] at c0 c1
  have hlt := r1.lt
  have END : Hid (∀ V, Below W.heap.size W V → Below w.heap.size w (V.setCell ⟨H + 1, 0, none⟩ (.slice a l.length c)) ∧ (V.setCell ⟨H + 1, 0, none⟩ (.slice a l.length c)).rangeAt (H + 1) 0 [.slice a l.length c]) := hide fun V hV => by
    refine ⟨(bW.trans (hV.mono bW.size)).setCell (by show w.heap.size ≤ H + 1; omega) _, ?_⟩
    have := (r1.keep (Moved.of_below (F := fun _ => False) hV) id).set 0 (Nat.succ_pos _) (.slice a l.length c)
    exact this.range
  clear hW bW h hl hf r0 r1 hH
  by_cases h1 : n < 1
  · have E0 := hide ((unhide END) W (Below.refl _ _))
    clear hm
    go_enter Try.func18, Try.ntmps18
    go_upto_region 1 with fail
    simp only [← unhide HH]
    rw [← unhide HW]
    go_wp2_with fail
    refine bodyPost_ret (v := .tuple #[.agg #[.slice a l.length c], .bool false]) ?_ rfl ⟨rfl, (unhide E0).1⟩
    exact results_cell_tmp Try.results18 _ _ (H + 1) [.slice a l.length c] _ rfl (unhide E0).2 Try.underlying35 rfl (by kernel_rfl)
  · by_cases h2 : 2147483647 < n
    · have E0 := hide ((unhide END) W (Below.refl _ _))
      clear hm
      go_enter Try.func18, Try.ntmps18
      go_upto_region 1 with fail
      simp only [← unhide HH]
      rw [← unhide HW]
      go_wp2_with fail
      refine bodyPost_ret (v := .tuple #[.agg #[.slice a l.length c], .bool false]) ?_ rfl ⟨rfl, (unhide E0).1⟩
      exact results_cell_tmp Try.results18 _ _ (H + 1) [.slice a l.length c] _ rfl (unhide E0).2 Try.underlying35 rfl (by kernel_rfl)
    · have h3 : decide (n ∈ l) = true := by
        have := unhide HF
        unfold rfresh at this
        rw [isNum_iff.2 (by omega)] at this
        simpa using this
      rw [h3] at hm
      clear h3
      go_enter Try.func18, Try.ntmps18
      go_upto_region 1 with fail
      simp only [← unhide HH]
      rw [← unhide HW]
      go_wp2_with fail
      refine hm.mono ?_
      rintro e w2 ⟨rfl, b2⟩
      have E0 := hide ((unhide END) w2 b2)
      have d0 := (b2.cell (p := ⟨H, 0, none⟩) (by show H < W.heap.size; omega)).trans c0
      have d1 := (b2.cell (p := ⟨H + 1, 0, none⟩) hlt).trans c1
      have e1 : w2.frozen? ⟨H + 1, 0, none⟩ = false := (World.frozen?_of_block (w := W) (b2.block (H + 1) hlt)).trans f1
      clear hm b2 c0 c1 f1
      go_wp2_with fail
      refine bodyPost_ret (v := .tuple #[.agg #[.slice a l.length c], .bool false]) ?_ rfl ⟨rfl, (unhide E0).1⟩
      exact results_cell_tmp Try.results18 _ _ (H + 1) [.slice a l.length c] _ rfl (unhide E0).2 Try.underlying35 rfl (by kernel_rfl)
set_option maxRecDepth 100000 in
set_option maxHeartbeats 2000000 in
theorem radd_new {w : World} {a : Option Addr} {c : Nat} {l : List Int} (h : IntK.Row w 0 a c l) (hl : l.length ≤ 100000000000) {n : Int} (hf : rfresh l n = true) :
    Calls Try.prog 18 #[.agg #[.slice a l.length c], .int .i64 n] w fun e w' => ∃ a' c', e = .returned (.tuple #[.agg #[.slice a' (l ++ [n]).length c'], .bool true]) ∧ Below w.heap.size w w' ∧ IntK.Row w' w.heap.size a' c' (l ++ [n]) := by
  obtain ⟨H, hH⟩ : ∃ H, H = w.heap.size := ⟨_, rfl⟩
  obtain ⟨W, hW⟩ : ∃ W, W = (w.alloc (.cells #[.slice a l.length c] 35)).alloc (.cells #[.slice none 0 0] 35) := ⟨_, rfl⟩
  have bW : Below w.heap.size w W := by rw [hW]; exact ((Below.refl _ _).alloc (Nat.le_refl _) _).alloc (by simp) _
  have r0 : RowAt W H [.slice a l.length c] := by rw [hW, hH]; exact row_old (row_new w [.slice a l.length c] 35) _
  have r1 : RowAt W (H + 1) [.slice none 0 0] := by rw [hW, hH]; exact row_new2 w [.slice none 0 0] [.slice a l.length c] 35 35
  have rW := row_below h bW
  have hm := rhas_any (c := c) rW.at_ (by omega : l.length ≤ 1000000000000) n
  have hn : isNum n = true ∧ decide (n ∈ l) = false := by
    unfold rfresh at hf
    rw [Bool.and_eq_true, Bool.not_eq_true'] at hf
    exact hf
  have hn1 := isNum_iff.1 hn.1
  have g1 : ¬ n < 1 := by omega
  have g2 : ¬ 2147483647 < n := by omega
  rw [hn.2] at hm
  have HW := hide hW
  have HH := hide hH
  have HL := hide hl
  have R0 := hide r0
  have R1 := hide r1
  have RW := hide rW
  have BW := hide bW
  have c0 := r0.cell 0 (Nat.succ_pos _)
  simp only [List.getD_cons_zero] at c0
  clear hW bW h hl hf r0 r1 hH rW hn hn1
  go_enter Try.func18, Try.ntmps18
  go_upto_region 1 with fail
  simp only [← unhide HH]
  rw [← unhide HW]
  go_wp2_with fail
  refine hm.mono ?_
  rintro e w2 ⟨rfl, b2⟩
  have hsz := b2.size
  have hszW := (unhide R1).lt
  have hwW := (unhide BW).size
  -- the empty row
  have rE : IntK.Row (w2.alloc (.cells #[] 3)) w2.heap.size (some ⟨w2.heap.size, 0, none⟩) 0 [] := row_lit w2 [] (by decide)
  have bE : Below w2.heap.size w2 (w2.alloc (.cells #[] 3)) := (Below.refl _ _).alloc (Nat.le_refl _) _
  have rl2 := row_below (row_below (unhide RW) b2) bE
  obtain ⟨a3, c3, w3, ap1, r3, gr3⟩ := grow_app intK_law rE a c l (row_lies rl2) (by simp; have := unhide HL; omega) (by simp) 27
  rw [List.nil_append] at ap1 r3
  have b3 : Below w2.heap.size (w2.alloc (.cells #[] 3)) w3 := (Below.refl _ _).grown gr3 (by simp) (fun k e => by cases e; exact Nat.le_refl _)
  have hs3 := b3.size
  simp only [World.size_alloc] at hs3
  obtain ⟨a4, c4, w4, ap2, r4, b4, _, _⟩ := grow_at_one r3 n (by have := unhide HL; omega) (by omega)
  have B24 : Below w2.heap.size w2 w4 := (bE.trans b3).trans b4
  have B4 : Below W.heap.size W w4 := b2.trans (B24.mono hsz)
  have d0 : w2.cell? ⟨H, 0, none⟩ = some (.slice a l.length c) := (b2.cell (p := ⟨H, 0, none⟩) (unhide R0).lt).trans c0
  have d1 : (w2.alloc (.cells #[] 3)).cell? ⟨H, 0, none⟩ = some (.slice a l.length c) := (bE.cell (p := ⟨H, 0, none⟩) (by have := (unhide R0).lt; show H < w2.heap.size; omega)).trans d0
  have r5 := (unhide R1).keep (Moved.of_below (F := fun _ => False) B4) id
  have e0 := r5.cell 0 (Nat.succ_pos _)
  have f0 := r5.free 0 (Nat.succ_pos _)
  simp only [List.getD_cons_zero] at e0
  have hle : (l ++ [n]).length = l.length + 1 := by simp
  have hne : ∀ k, own a4 (l ++ [n]).length c4 = some k → k ≠ H + 1 := fun k e => by have := (row_lt r4 k e).1; omega
  have E0 : Hid (Below w.heap.size w (w4.setCell ⟨H + 1, 0, none⟩ (.slice a4 (l.length + 1) c4)) ∧ (w4.setCell ⟨H + 1, 0, none⟩ (.slice a4 (l.length + 1) c4)).rangeAt (H + 1) 0 [.slice a4 (l.length + 1) c4] ∧ IntK.Row (w4.setCell ⟨H + 1, 0, none⟩ (.slice a4 (l.length + 1) c4)) w.heap.size a4 c4 (l ++ [n])) := hide ⟨((unhide BW).trans (B4.mono hwW)).setCell (by show w.heap.size ≤ H + 1; have := unhide HH; omega) _, (r5.set 0 (Nat.succ_pos _) (.slice a4 (l.length + 1) c4)).range,
    row_base (row_keep r4 (((Moved.refl (fun k => k = H + 1) w4)).setCell (p := ⟨H + 1, 0, none⟩) (.inl rfl) _) (fun i e g => hne i g.2 e)) (by omega)⟩
  have AP1 : Hid ((Builtin.append_ #[27, 27] 27 #[.slice (some ⟨w2.heap.size, 0, none⟩) 0 0, .slice a l.length c]).run Try.prog (w2.alloc (.cells #[] 3)) = .ok (.slice a3 l.length c3) w3) := hide ap1
  have AP2 : Hid ((Builtin.append_ #[27, 27] 27 #[.slice a3 l.length c3, .slice (some ⟨w3.heap.size, 0, none⟩) 1 1]).run Try.prog (w3.alloc (.cells #[.int .i64 n] 3)) = .ok (.slice a4 (l.length + 1) c4) w4) := hide ap2
  have HLE := hide hle
  clear hm b2 hsz hszW hwW rE bE rl2 ap1 r3 gr3 b3 hs3 ap2 r4 b4 B24 B4 r5 hle hne c0
  go_wp2_with (first | (at_builtin; refine wpList_app rfl _ _ 27 27 27 rfl rfl rfl rfl (unhide AP1) ?_) | (at_builtin; refine wpList_app rfl _ _ 27 27 27 rfl rfl rfl rfl (unhide AP2) ?_))
  refine bodyPost_ret (v := .tuple #[.agg #[.slice a4 (l.length + 1) c4], .bool true]) ?_ rfl ⟨a4, c4, by rw [unhide HLE], (unhide E0).1, (unhide E0).2.2⟩
  exact results_cell_tmp Try.results18 _ _ (H + 1) [.slice a4 (l.length + 1) c4] _ rfl (unhide E0).2.1 Try.underlying35 rfl (by kernel_rfl)
theorem radd_any {w : World} {a : Option Addr} {c : Nat} {l : List Int} (h : IntK.Row w 0 a c l) (hl : l.length ≤ 100000000000) (n : Int) :
    Calls Try.prog 18 #[.agg #[.slice a l.length c], .int .i64 n] w fun e w' => ∃ a' c', e = .returned (.tuple #[.agg #[.slice a' (radd l n).length c'], .bool (rfresh l n)]) ∧ RStep w w' a c l a' c' (radd l n) := by
  unfold radd
  cases hf : rfresh l n with
  | false => exact (radd_not h hl hf).mono fun e w' ⟨h1, h2⟩ => ⟨a, c, h1, h2, row_below h h2, .inl ⟨rfl, rfl, rfl⟩⟩
  | true => exact (radd_new h hl hf).mono fun e w' ⟨a', c', h1, h2, h3⟩ => ⟨a', c', h1, h2, row_base h3 (Nat.zero_le _), .inr fun k e => (row_lt h3 k e).1⟩
end Go.Proofs.Ytdmjkbcjljnleaa

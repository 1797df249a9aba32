/- What a store's inner keep does: a window is put into its place, in a map that is made if there is none. Conditions: the key is no longer than a machine's texts; the store has room. -/
import Derived.Test.YtigmhljaoicdbaaGreatGStoreDo
import Derived.Test.YtigmhljaoicdbaaGreatJoin
namespace Go.Proofs.YtigmhljaoicdbaaGreat
open Go.RowKit

theorem moved_turned {F : Nat → Prop} {a w w' : World} {b : Nat} (h : Moved F a w) (ht : w.mapTurned w' b) (hb : F b ∨ a.heap.size ≤ b) : Moved F a w' := h.grown ht.grown (fun k e => by cases e; exact hb)
theorem lite_clone (s : ByteArray) (w : World) (hlim : s.size ≤ 281474976710656) : Calls Tryz.prog 121 #[.string s] w fun e w' => e = .returned (.string s) ∧ Below w.heap.size w w' := Any.stringslite_Clone cloneStr s w hlim
theorem clone_any (s : ByteArray) (w : World) (hlim : s.size ≤ 281474976710656) : Calls Tryz.prog 110 #[.string s] w fun e w' => e = .returned (.string s) ∧ Below w.heap.size w w' := by
  go_enter Tryz.func110, Tryz.ntmps110
  go_wp2_with fail
  refine (lite_clone s _ hlim).mono ?_
  rintro e w' ⟨rfl, hb⟩
  have Hb := hide hb
  clear hb
  go_wp2_with fail
  go_ret
  exact ⟨rfl, unhide Hb⟩
theorem eqmap (p : Option Nat) (w : World) : (binOp .eql 135 (.map p) (.map none)).run Tryz.prog w = .ok (.bool p.isNone) w := run_eql_map_nil_sl w 135 151 50 p Tryz.underlying135
def cells2 (k : List UInt8) (s : Int) : List Value := [.int .i64 s, .string ⟨k.toArray⟩]
theorem kv_cells (k : List UInt8) (s : Int) : kv k s = .agg (cells2 k s).toArray := rfl
theorem cellsA_one (a : AggV) : ∀ u ∈ (cellsA a).toArray.toList, u.oneCell' = true := by simp [cellsA, I, Value.oneCell']

set_option maxRecDepth 100000 in
set_option maxHeartbeats 2000000 in
theorem keep_map {w : World} {p b : Nat} {l : List (Win AggV)} (h : StAt w p (some b) l) (hl : l.length ≤ 1000) (x : Win AggV) (hk : okk x.key x.start) (hks : x.key.length ≤ 281474976710656) :
    Calls Tryz.prog 90 #[.pointer (some ⟨p, 0, none⟩), .agg (cells2 x.key x.start).toArray, .agg (cellsA x.agg).toArray] w fun e w' => e = .returned (.tuple #[]) ∧ StAt w' p (some b) (ins x l) ∧ Moved (foot p (some b)) w w' := by
  obtain ⟨b', hb', hm⟩ : ∃ b', some b = some b' ∧ MapIs w b' l := by
    rcases h.what with ⟨h0, _⟩ | h1
    · cases h0
    · exact h1
  obtain rfl : b = b' := Option.some.inj hb'
  have hpb : b ≠ p := h.off b rfl
  have hp : p < w.heap.size := h.lt p (.inl rfl)
  have hbl : b < w.heap.size := hm.lt
  obtain ⟨H, hH⟩ : ∃ H, H = w.heap.size := ⟨_, rfl⟩
  obtain ⟨W, hW⟩ : ∃ W, W = (w.alloc (.cells (cells2 x.key x.start).toArray 151)).alloc (.cells (cellsA x.agg).toArray 50) := ⟨_, rfl⟩
  have bW : Below w.heap.size w W := by rw [hW]; exact ((Below.refl _ _).alloc (Nat.le_refl _) _).alloc (by simp) _
  have hsz : W.heap.size = H + 2 := by rw [hW, hH]; simp
  have R0 : RowAt W H (cells2 x.key x.start) := by rw [hW, hH]; exact row_old (row_new _ _ _) _
  have R1 : RowAt W (H + 1) (cellsA x.agg) := by rw [hW, hH]; exact row_new2 _ _ _ _ _
  have SW0 : StAt W p (some b) l := h.keep (Moved.of_below (F := fun _ => False) bW) (fun _ f => f.elim)
  have cw := SW0.way
  have ck : W.cell? ⟨H, 1, none⟩ = some (.string ⟨x.key.toArray⟩) := R0.cell 1 (Nat.lt_succ_self 1)
  have cf : W.frozen? ⟨H, 1, none⟩ = false := R0.free 1 (Nat.lt_succ_self 1)
  have ne := fun W' => eqmap (some b) W'
  have HKS := hide (show (⟨x.key.toArray⟩ : ByteArray).size ≤ 281474976710656 by simpa [ByteArray.size] using hks)
  have HW := hide hW
  have HH := hide hH
  have HSZ := hide hsz
  have HPB := hide hpb
  clear hW hH hsz hpb
  go_enter Tryz.func90, Tryz.ntmps90
  go_upto_region 1 with fail
  rw [← unhide HH]
  try change Code.wp _ _ _ _ ((w.alloc (.cells (cells2 x.key x.start).toArray 151)).alloc (.cells (cellsA x.agg).toArray 50))
  rw [← unhide HW]
  go_wp2_with fail
  refine (clone_any _ _ (unhide HKS)).mono ?_
  rintro e v1 ⟨rfl, hb⟩
  have hsz := unhide HSZ
  have hpb := unhide HPB
  have hH := unhide HH
  have ck1 : v1.cell? ⟨H, 1, none⟩ = some (.string ⟨x.key.toArray⟩) := (hb.cell (p := ⟨H, 1, none⟩) (by show H < _; omega)).trans ck
  have cf1 : v1.frozen? ⟨H, 1, none⟩ = false := (World.frozen?_of_block (w := W) (a := ⟨H, 1, none⟩) (hb.block H (by omega))).trans cf
  obtain ⟨V, hV⟩ : ∃ V, V = v1.setCell ⟨H, 1, none⟩ (.string ⟨x.key.toArray⟩) := ⟨_, rfl⟩
  have mV : Moved (fun i => i = H) W V := by
    rw [hV]; exact ((Moved.of_below (F := fun _ => False) hb).mono (fun _ f => f.elim)).trans (moved_set v1 H 1 _) (fun i e => .inl e)
  have V0 : RowAt V H (cells2 x.key x.start) := by
    rw [hV]; exact (R0.keep (Moved.of_below (F := fun _ => False) hb) id).set 1 (Nat.lt_succ_self 1) _
  have V1 : RowAt V (H + 1) (cellsA x.agg) := R1.keep mV (by omega)
  have VS : StAt V p (some b) l := SW0.keep mV (fun i e f => by
    rcases f with f | f
    · omega
    · cases f; omega)
  obtain ⟨CL, hCL⟩ : ∃ CL : World → Prop, CL = fun v => Moved (fun i => i = b) V v := ⟨_, rfl⟩
  have un : ∀ v, CL v → Moved (fun i => i = b) V v := fun v k => by rw [hCL] at k; exact k
  have base : CL V.drew := by rw [hCL]; exact (Moved.refl _ _).drew
  have q0 : ∀ q : SW CL, q.w.cell? ⟨p, 0, none⟩ = some (.map (some b)) := fun q => ((un _ q.ok).cell (p := ⟨p, 0, none⟩) (VS.lt p (.inl rfl)) (Ne.symm hpb)).trans VS.way
  have q1 : Hid (∀ q : SW CL, q.w.rangeAt H 0 (cells2 x.key x.start)) := hide fun q => (V0.keep (un _ q.ok) (by omega)).range
  have q2 : Hid (∀ q : SW CL, q.w.rangeAt (H + 1) 0 (cellsA x.agg)) := hide fun q => (V1.keep (un _ q.ok) (by omega)).range
  have HV := hide hV
  have BS := hide base
  have FIN := hide (fun (w9 : World) (hM : MapIs w9 b (ins x l)) (hT : Moved (fun i => i = b) V w9) => (⟨⟨((hT.cell (p := ⟨p, 0, none⟩) (VS.lt p (.inl rfl)) (Ne.symm hpb)).trans VS.way), (hT.frozen (p := ⟨p, 0, none⟩) (VS.lt p (.inl rfl)) (Ne.symm hpb)).trans VS.free, .inr ⟨b, rfl, hM⟩, VS.off, VS.fine.ins hk⟩,
    (Moved.of_below (F := foot p (some b)) bW).trans ((mV.mono (G := fun i => i = H ∨ i = b) (fun i e => .inl (.inl e))).trans hT (fun i e => .inl (.inr e))) (fun i e => by
      rcases e with e | e
      · exact .inr (by omega)
      · exact .inl (.inr (by rw [e])))⟩ : StAt w9 p (some b) (ins x l) ∧ Moved (foot p (some b)) w w9))
  have MP : Hid (MapIs V b l) := hide (by rcases VS.what with ⟨h0, _⟩ | ⟨b', h1, h2⟩; cases h0; cases h1; exact h2)
  have FI := hide VS.fine
  have CLD := hide hCL
  clear hCL hsz hpb hH VS V0 V1 mV R0 R1 SW0 cw ck cf bW hV un base
  go_upto_region 4 with fail
  try change Code.wp _ _ _ _ (v1.setCell ⟨H, 1, none⟩ (.string ⟨x.key.toArray⟩))
  rw [← unhide HV]
  refine wp_region_chain (S := CL) [true, true, true, true, true, true, false] [false, false, false, false, false, false, true] (by kernel_rfl) (by kernel_rfl) (by kernel_rfl) (unhide BS) ?_
  apply Exists.intro
  apply And.intro
  · intro q
    have n0 : Nonempty (SK CL q.w) := ⟨⟨q, rfl⟩⟩
    simp only [pickM]
    repeat (first | go_big_quiet_step (fail) | quiet_step (fail))
    refine wpQuiet_load_onx rfl 151 (.tmp 4) rfl H 0 rfl (cells2 x.key x.start) _ (by rintro v ⟨q', rfl⟩; exact unhide q1 q'.s) Tryz.underlying151 rfl (by kernel_rfl) ?_
    go_simp
    refine wpQuiet_load_onx rfl 50 (.tmp 5) rfl (H + 1) 0 rfl (cellsA x.agg) _ (by rintro v ⟨q', rfl⟩; exact unhide q2 q'.s) Tryz.underlying50 rfl (by kernel_rfl) ?_
    go_simp
    exact wpQuiet_nil rfl
  · simp only [pickZ]
    obtain ⟨w9, hrun, hM, hT⟩ := MapIs.put (w := V.drew) ((unhide MP).keep rfl) (unhide FI) (by unfold maxLen; omega) hk
    have T1 : Moved (fun i => i = b) V w9 := moved_turned ((Moved.refl _ _).drew) hT (.inl rfl)
    have hrun' : (Instr.mapUpdate 135 (.map (some b)) (.agg (cells2 x.key x.start).toArray) (.agg (cellsA x.agg).toArray)).run Tryz.prog V.drew = .ok () w9 := hrun
    refine chain_skip w9 rfl (by simp [go_sem, hrun', Result.andThen]) ?_ ?_
    · rw [unhide CLD]; exact T1
    · simp only [chainM]
      go_end0
      exact ⟨rfl, unhide FIN w9 hM T1⟩
set_option maxRecDepth 100000 in
set_option maxHeartbeats 2000000 in
theorem keep_new {w : World} {p : Nat} (h : StAt w p none []) (x : Win AggV) (hk : okk x.key x.start) (hks : x.key.length ≤ 281474976710656) :
    Calls Tryz.prog 90 #[.pointer (some ⟨p, 0, none⟩), .agg (cells2 x.key x.start).toArray, .agg (cellsA x.agg).toArray] w fun e w' => e = .returned (.tuple #[]) ∧ ∃ b, StAt w' p (some b) (ins x []) ∧ w.heap.size ≤ b ∧ Moved (foot p none) w w' := by
  have hp : p < w.heap.size := h.lt p (.inl rfl)
  obtain ⟨H, hH⟩ : ∃ H, H = w.heap.size := ⟨_, rfl⟩
  obtain ⟨Y, hY⟩ : ∃ Y, Y = (w.alloc (.cells (cells2 x.key x.start).toArray 151)).alloc (.cells (cellsA x.agg).toArray 50) := ⟨_, rfl⟩
  have bY : Below w.heap.size w Y := by rw [hY]; exact ((Below.refl _ _).alloc (Nat.le_refl _) _).alloc (by simp) _
  have hsy : Y.heap.size = H + 2 := by rw [hY, hH]; simp
  have Y0 : RowAt Y H (cells2 x.key x.start) := by rw [hY, hH]; exact row_old (row_new _ _ _) _
  have Y1 : RowAt Y (H + 1) (cellsA x.agg) := by rw [hY, hH]; exact row_new2 _ _ _ _ _
  have YS : StAt Y p none [] := h.keep (Moved.of_below (F := fun _ => False) bY) (fun _ f => f.elim)
  obtain ⟨b, hbb⟩ : ∃ b, b = H + 2 := ⟨_, rfl⟩
  obtain ⟨W, hW⟩ : ∃ W, W = (Y.alloc (.map #[] 0)).setCell ⟨p, 0, none⟩ (.map (some b)) := ⟨_, rfl⟩
  have hpb : b ≠ p := by omega
  have mY : Moved (fun i => i = p) Y W := by rw [hW]; exact ((Moved.refl (fun i => i = p) Y).alloc _).setCell (p := ⟨p, 0, none⟩) (.inl rfl) _
  have hsz : W.heap.size = H + 3 := by rw [hW]; simp [World.setCell, hsy]
  have R0 : RowAt W H (cells2 x.key x.start) := Y0.keep mY (by omega)
  have R1 : RowAt W (H + 1) (cellsA x.agg) := Y1.keep mY (by omega)
  have cy := YS.way
  have fy := YS.free
  have cy1 : (Y.alloc (.map #[] 0)).cell? ⟨p, 0, none⟩ = some (.map none) := (World.cell?_alloc_lt _ _ ⟨p, 0, none⟩ (by rw [hsy]; show p < H + 2; omega)).trans cy
  have fy1 : (Y.alloc (.map #[] 0)).frozen? ⟨p, 0, none⟩ = false := (((Moved.refl (fun _ => False) Y).alloc (.map #[] 0)).frozen (p := ⟨p, 0, none⟩) (by rw [hsy]; show p < H + 2; omega) id).trans fy
  have SW0 : StAt W p (some b) [] := by
    refine ⟨?_, ?_, .inr ⟨b, rfl, ?_⟩, fun b' e => (by cases e; exact hpb), Fine.nil⟩
    · rw [hW]; exact World.cell?_setCell_same _ _ _ cy1
    · rw [hW]; exact (World.frozen?_setCell _ _ _ _).trans fy1
    · have hmade := MapIs.made Y
      rw [hsy, ← hbb] at hmade
      refine hmade.keep ?_
      rw [hW]
      exact Below.heap_setCell _ _ _ _ (by show b ≠ p; omega)
  have cw := SW0.way
  have ck : W.cell? ⟨H, 1, none⟩ = some (.string ⟨x.key.toArray⟩) := R0.cell 1 (Nat.lt_succ_self 1)
  have cf : W.frozen? ⟨H, 1, none⟩ = false := R0.free 1 (Nat.lt_succ_self 1)
  have hmm := @run_makeMap Tryz.prog
  have ne := fun W' => eqmap none W'
  have HKS := hide (show (⟨x.key.toArray⟩ : ByteArray).size ≤ 281474976710656 by simpa [ByteArray.size] using hks)
  have HW := hide hW
  have HY := hide hY
  have HSY := hide hsy
  have HBB := hide hbb
  have HH := hide hH
  have HSZ := hide hsz
  have HPB := hide hpb
  have MY := hide mY
  have BY := hide bY
  clear hW hH hsz hpb hY hsy hbb mY bY Y0 Y1 YS
  go_enter Tryz.func90, Tryz.ntmps90
  go_upto_region 1 with fail
  rw [← unhide HH]
  try change Code.wp _ _ _ _ ((w.alloc (.cells (cells2 x.key x.start).toArray 151)).alloc (.cells (cellsA x.agg).toArray 50))
  rw [← unhide HY]
  go_upto_region 3 with fail
  rw [unhide HSY, ← unhide HBB]
  try change Code.wp _ _ _ _ ((Y.alloc (.map #[] 0)).setCell ⟨p, 0, none⟩ (.map (some b)))
  rw [← unhide HW]
  clear cy fy cy1 fy1
  go_wp2_with fail
  refine (clone_any _ _ (unhide HKS)).mono ?_
  rintro e v1 ⟨rfl, hb⟩
  have hsz := unhide HSZ
  have hpb := unhide HPB
  have hH := unhide HH
  have hbb := unhide HBB
  have mY := unhide MY
  have bY := unhide BY
  have ck1 : v1.cell? ⟨H, 1, none⟩ = some (.string ⟨x.key.toArray⟩) := (hb.cell (p := ⟨H, 1, none⟩) (by show H < _; omega)).trans ck
  have cf1 : v1.frozen? ⟨H, 1, none⟩ = false := (World.frozen?_of_block (w := W) (a := ⟨H, 1, none⟩) (hb.block H (by omega))).trans cf
  obtain ⟨V, hV⟩ : ∃ V, V = v1.setCell ⟨H, 1, none⟩ (.string ⟨x.key.toArray⟩) := ⟨_, rfl⟩
  have mV : Moved (fun i => i = H) W V := by
    rw [hV]; exact ((Moved.of_below (F := fun _ => False) hb).mono (fun _ f => f.elim)).trans (moved_set v1 H 1 _) (fun i e => .inl e)
  have V0 : RowAt V H (cells2 x.key x.start) := by
    rw [hV]; exact (R0.keep (Moved.of_below (F := fun _ => False) hb) id).set 1 (Nat.lt_succ_self 1) _
  have V1 : RowAt V (H + 1) (cellsA x.agg) := R1.keep mV (by omega)
  have VS : StAt V p (some b) [] := SW0.keep mV (fun i e f => by
    rcases f with f | f
    · omega
    · cases f; omega)
  obtain ⟨CL, hCL⟩ : ∃ CL : World → Prop, CL = fun v => Moved (fun i => i = b) V v := ⟨_, rfl⟩
  have un : ∀ v, CL v → Moved (fun i => i = b) V v := fun v k => by rw [hCL] at k; exact k
  have base : CL V.drew := by rw [hCL]; exact (Moved.refl _ _).drew
  have q0 : ∀ q : SW CL, q.w.cell? ⟨p, 0, none⟩ = some (.map (some b)) := fun q => ((un _ q.ok).cell (p := ⟨p, 0, none⟩) (VS.lt p (.inl rfl)) (Ne.symm hpb)).trans VS.way
  have q1 : Hid (∀ q : SW CL, q.w.rangeAt H 0 (cells2 x.key x.start)) := hide fun q => (V0.keep (un _ q.ok) (by omega)).range
  have q2 : Hid (∀ q : SW CL, q.w.rangeAt (H + 1) 0 (cellsA x.agg)) := hide fun q => (V1.keep (un _ q.ok) (by omega)).range
  have HV := hide hV
  have BS := hide base
  have FIN := hide (fun (w9 : World) (hM : MapIs w9 b (ins x [])) (hT : Moved (fun i => i = b) V w9) => (⟨⟨((hT.cell (p := ⟨p, 0, none⟩) (VS.lt p (.inl rfl)) (Ne.symm hpb)).trans VS.way), (hT.frozen (p := ⟨p, 0, none⟩) (VS.lt p (.inl rfl)) (Ne.symm hpb)).trans VS.free, .inr ⟨b, rfl, hM⟩, VS.off, VS.fine.ins hk⟩,
    (by omega), (Moved.of_below (F := foot p none) bY).trans (((mY.mono (G := fun i => i = p ∨ i = H ∨ i = b) (fun i e => .inl (.inl e))).trans mV (fun i e => .inl (.inr (.inl e)))).trans hT (fun i e => .inl (.inr (.inr e)))) (fun i e => by
      rcases e with e | e | e
      · exact .inl (.inl e)
      · exact .inr (by omega)
      · exact .inr (by omega))⟩ : StAt w9 p (some b) (ins x []) ∧ w.heap.size ≤ b ∧ Moved (foot p none) w w9))
  have MP : Hid (MapIs V b []) := hide (by rcases VS.what with ⟨h0, _⟩ | ⟨b', h1, h2⟩; cases h0; cases h1; exact h2)
  have FI := hide VS.fine
  have CLD := hide hCL
  clear hCL hsz hpb hH VS V0 V1 mV R0 R1 SW0 cw ck cf hbb mY bY hV un base
  go_upto_region 4 with fail
  try change Code.wp _ _ _ _ (v1.setCell ⟨H, 1, none⟩ (.string ⟨x.key.toArray⟩))
  rw [← unhide HV]
  refine wp_region_chain (S := CL) [true, true, true, true, true, true, false] [false, false, false, false, false, false, true] (by kernel_rfl) (by kernel_rfl) (by kernel_rfl) (unhide BS) ?_
  apply Exists.intro
  apply And.intro
  · intro q
    have n0 : Nonempty (SK CL q.w) := ⟨⟨q, rfl⟩⟩
    simp only [pickM]
    repeat (first | go_big_quiet_step (fail) | quiet_step (fail))
    refine wpQuiet_load_onx rfl 151 (.tmp 4) rfl H 0 rfl (cells2 x.key x.start) _ (by rintro v ⟨q', rfl⟩; exact unhide q1 q'.s) Tryz.underlying151 rfl (by kernel_rfl) ?_
    go_simp
    refine wpQuiet_load_onx rfl 50 (.tmp 5) rfl (H + 1) 0 rfl (cellsA x.agg) _ (by rintro v ⟨q', rfl⟩; exact unhide q2 q'.s) Tryz.underlying50 rfl (by kernel_rfl) ?_
    go_simp
    exact wpQuiet_nil rfl
  · simp only [pickZ]
    obtain ⟨w9, hrun, hM, hT⟩ := MapIs.put (w := V.drew) ((unhide MP).keep rfl) (unhide FI) (by simp [maxLen]) hk
    have T1 : Moved (fun i => i = b) V w9 := moved_turned ((Moved.refl _ _).drew) hT (.inl rfl)
    have hrun' : (Instr.mapUpdate 135 (.map (some b)) (.agg (cells2 x.key x.start).toArray) (.agg (cellsA x.agg).toArray)).run Tryz.prog V.drew = .ok () w9 := hrun
    refine chain_skip w9 rfl (by simp [go_sem, hrun', Result.andThen]) ?_ ?_
    · rw [unhide CLD]; exact T1
    · simp only [chainM]
      go_end0
      exact ⟨rfl, b, unhide FIN w9 hM T1⟩
theorem keep_any {w : World} {p : Nat} {F : Nat → Prop} {l : List (Win AggV)} (h : StIs w p F l) (hl : l.length ≤ 1000) (x : Win AggV) (hk : okk x.key x.start) (hks : x.key.length ≤ 281474976710656) :
    Calls Tryz.prog 90 #[.pointer (some ⟨p, 0, none⟩), .agg (cells2 x.key x.start).toArray, .agg (cellsA x.agg).toArray] w fun e w' => e = .returned (.tuple #[]) ∧ Did w w' p F (ins x l) := by
  obtain ⟨m, h, rfl⟩ := h
  rcases h.what with ⟨rfl, rfl⟩ | ⟨b, rfl, _⟩
  · refine (keep_new h x hk hks).mono ?_
    rintro e w' ⟨rfl, b, hs, hb, hm⟩
    exact ⟨rfl, _, ⟨_, hs, rfl⟩, fun k hk => by
      rcases hk with rfl | e
      · exact .inl (.inl rfl)
      · cases e; exact .inr hb, hm⟩
  · refine (keep_map h hl x hk hks).mono ?_
    rintro e w' ⟨rfl, hs, hm⟩
    exact ⟨rfl, _, ⟨_, hs, rfl⟩, fun k hk => .inl hk, hm⟩
end Go.Proofs.YtigmhljaoicdbaaGreat

/- The document's own Get. Conditions: the windows are a store's; the key has at most 2^40 bytes. -/
import Derived.Test.YtoccgggiaalhdaaRSet
namespace Go.Proofs.Ytoccgggiaalhdaa
open Go.RowKit
structure S2 (w : World) (H : Nat) (s : Value) (v : World) : Prop where
  r0 : RowAt v H [s]
  r1 : RowAt v (H + 1) [.int .i64 0, .int .i64 0, .int .i64 0, .int .i64 0, .int .i64 0, .int .i64 0, .int .i64 0, .int .i64 0]
  bel : Below w.heap.size w v
theorem S2.below {w v v' : World} {H : Nat} {s : Value} (h : S2 w H s v) (hb : Below v.heap.size v v') : S2 w H s v' :=
  ⟨h.r0.below hb, h.r1.below hb, h.bel.trans (hb.mono h.bel.size)⟩
theorem S2.put {w v : World} {H : Nat} {s : Value} (h : S2 w H s v) (hH : H = w.heap.size) (cs : List Value) (hc : 8 = cs.length) : ∃ wf, v.setCells (H + 1) 0 cs = wf ∧ RowAt wf (H + 1) cs ∧ Below w.heap.size w wf := by
  refine ⟨_, rfl, h.r1.put cs hc, ?_⟩
  have m := setCells_moved v (H + 1) 0 cs
  exact ((Moved.of_below (F := fun j => j = H + 1) h.bel).trans m (fun _ hi => .inl hi)).below (fun i hi => by omega) (Nat.le_refl _)
set_option maxRecDepth 100000 in
set_option maxHeartbeats 4000000 in
theorem rget_any {w : World} {a : Option Addr} {c : Nat} {l : List (Win AggV)} {B : Nat} (hR : OutK.Row w B a c l) (hg : Good SO l) (k : List UInt8) (s : Int) (hk : k.length ≤ 1099511627776) :
    Calls Try.prog 20 #[.agg #[.slice a l.length c], .string ⟨k.toArray⟩, .int .i64 s] w fun e w' => e = .returned (.tuple #[aggV ((look l k s).getD zero), .bool (look l k s).isSome]) ∧ Below w.heap.size w w' := by
  obtain ⟨W, hW⟩ : ∃ W, W = (w.alloc (.cells #[.slice a l.length c] 29)).alloc (.cells #[.int .i64 0, .int .i64 0, .int .i64 0, .int .i64 0, .int .i64 0, .int .i64 0, .int .i64 0, .int .i64 0] 32) := ⟨_, rfl⟩
  obtain ⟨H, hH⟩ : ∃ H, H = w.heap.size := ⟨_, rfl⟩
  have T0 : RowAt W H [.slice a l.length c] := by rw [hW, hH]; exact row_old (row_new _ _ _) _
  have T1 : RowAt W (H + 1) [.int .i64 0, .int .i64 0, .int .i64 0, .int .i64 0, .int .i64 0, .int .i64 0, .int .i64 0, .int .i64 0] := by rw [hW, hH]; exact row_new2 _ _ _ _ _
  have bW : Below w.heap.size w W := by rw [hW]; exact ((Below.refl _ _).alloc (Nat.le_refl _) _).alloc (by simp) _
  have BL := hide (⟨T0, T1, bW⟩ : S2 w H (.slice a l.length c) W)
  have HW := hide hW
  have HH := hide hH
  have FD := find_any l ⟨k, s, zero⟩ a c W (row_lies (row_below hR bW)) (row_cap hR) (row_max hR) (fun y hy => by have := hg.all y hy; simp [keyOk] at this; omega) hk (gof a) 0 (row_flat hR)
  have hlo := look_pos (w := (⟨k, s, zero⟩ : Win AggV)) hg.rise
  have hop' := look_open (w := (⟨k, s, zero⟩ : Win AggV)) hg.rise
  dsimp only at hlo hop'
  simp only [outV_eq] at FD
  have HFD := hide FD
  have HRW := hide hR
  have HG := hide hg
  clear hW hH hR hg bW T0 T1 FD
  generalize hp0 : pos (⟨k, s, zero⟩ : Win AggV) l = i at *
  cases hop : opens (⟨k, s, zero⟩ : Win AggV) l with
  | false =>
    rw [hop] at hlo HFD
    have ANS : look l k s = none := by simpa using hlo
    have HANS := hide ANS
    clear hlo ANS hop' hop hp0
    go_enter Try.func20, Try.ntmps20
    go_upto_region 1 with fail
    rw [← unhide HH]
    try change Code.wp _ _ _ _ ((w.alloc (.cells #[.slice a l.length c] 29)).alloc (.cells #[.int .i64 0, .int .i64 0, .int .i64 0, .int .i64 0, .int .i64 0, .int .i64 0, .int .i64 0, .int .i64 0] 32))
    rw [← unhide HW]
    have RG := hide (unhide BL).r0.range
    go_upto_region 2 with (refine wpList_load_on rfl 29 (.tmp 3) rfl H 0 rfl [.slice a l.length c] _ (unhide RG) Try.underlying29 rfl (by kernel_rfl) ?_)
    refine (unhide HFD).mono ?_
    rintro e W2 ⟨rfl, hb⟩
    have SB := hide ((unhide BL).below hb)
    clear hb RG HFD
    go_upto_region 3 with fail
    obtain ⟨wf, hwf, hfr, hbf⟩ := (unhide SB).put (unhide HH) (cellsA zero) rfl
    have TH := hide (unhide SB).r1.there
    have HFR := hide hfr
    have HBF := hide hbf
    have HWF := hide hwf
    clear hfr hbf hwf
    go_wp2_with (first | (refine wpList_store_mid rfl 32 (.tmp 6) (.tmp 20) rfl (H + 1) 0 (cellsA zero).toArray rfl rfl (unhide TH) (by kernel_rfl) (by simp [Value.oneCell', cellsA, I]) ?_; change wpList _ _ _ _ _ (World.setCells _ (H + 1) 0 (cellsA zero)); rw [unhide HWF]))
    refine bodyPost_ret (v := .tuple #[.agg (cellsA zero).toArray, .bool false]) ?_ rfl ?_
    · exact results_cell_tmp Try.results20 _ wf (H + 1) (cellsA zero) _ rfl (unhide HFR).range Try.underlying32 rfl (by kernel_rfl)
    · exact ⟨by rw [unhide HANS]; rfl, unhide HBF⟩
  | true =>
    rw [hop] at hlo HFD
    obtain ⟨y, hy⟩ : ∃ y, l[i]? = some y := by
      cases h : l[i]? with
      | some y => exact ⟨y, rfl⟩
      | none => rw [h] at hlo; rw [hop] at hop'; rw [hlo] at hop'; cases hop'
    have ANS : look l k s = some y.agg := by rw [hlo, hy]; rfl
    have HANS := hide ANS
    have HY := hide hy
    have hil : i < l.length := (List.getElem?_eq_some_iff.1 hy).1
    clear hlo ANS hop' hop hp0 hy
    obtain ⟨g, rfl⟩ : ∃ g, a = some ⟨g, 0, none⟩ := by
      rcases row_flat (unhide HRW) with h | h
      · exact ⟨_, h⟩
      · rw [h] at hil; cases hil
    have hml := (unhide HG).most
    have g1 : (i : Int) < (l.length : Int) := by omega
    have hi0 : (0 : Int) ≤ (i : Int) := by omega
    obtain ⟨yk, ys, ya⟩ := y
    go_enter Try.func20, Try.ntmps20
    go_upto_region 1 with fail
    rw [← unhide HH]
    try change Code.wp _ _ _ _ ((w.alloc (.cells #[.slice (some ⟨g, 0, none⟩) l.length c] 29)).alloc (.cells #[.int .i64 0, .int .i64 0, .int .i64 0, .int .i64 0, .int .i64 0, .int .i64 0, .int .i64 0, .int .i64 0] 32))
    rw [← unhide HW]
    have RG := hide (unhide BL).r0.range
    go_upto_region 2 with (refine wpList_load_on rfl 29 (.tmp 3) rfl H 0 rfl [.slice (some ⟨g, 0, none⟩) l.length c] _ (unhide RG) Try.underlying29 rfl (by kernel_rfl) ?_)
    refine (unhide HFD).mono ?_
    rintro e W2 ⟨rfl, hb⟩
    have SB := hide ((unhide BL).below hb)
    have RA : Hid (W2.rangeAt g (i * 10 + 2) (cellsA ya)) := hide fun j u hu => by
      have h1 := lies_at outK_law (row_lies (row_below (unhide HRW) (unhide SB).bel)) (unhide HY)
      have := h1 (2 + j) u (by rw [← hu, Nat.add_comm 2 j]; rfl)
      rw [Nat.zero_add] at this
      rw [show i * 10 + 2 + j = i * 10 + (2 + j) by omega]; exact this
    have k0 : W2.cell? ⟨H, 0, none⟩ = some (.slice (some ⟨g, 0, none⟩) l.length c) := (unhide SB).r0.cell 0 (Nat.succ_pos _)
    clear hb RG HFD
    go_upto_region 4 with fail
    obtain ⟨wf, hwf, hfr, hbf⟩ := (unhide SB).put (unhide HH) (cellsA ya) rfl
    have TH := hide (unhide SB).r1.there
    have HFR := hide hfr
    have HBF := hide hbf
    have HWF := hide hwf
    clear hfr hbf hwf
    go_wp2_with (first | (refine wpList_load_on rfl 32 (.tmp 25) rfl g (i * 10 + 2) rfl (cellsA ya) _ (unhide RA) Try.underlying32 rfl (by kernel_rfl) ?_) | (refine wpList_store_mid rfl 32 (.tmp 6) (.tmp 26) rfl (H + 1) 0 (cellsA ya).toArray rfl rfl (unhide TH) (by kernel_rfl) (by simp [Value.oneCell', cellsA, I]) ?_; change wpList _ _ _ _ _ (World.setCells _ (H + 1) 0 (cellsA ya)); rw [unhide HWF]))
    refine bodyPost_ret (v := .tuple #[.agg (cellsA ya).toArray, .bool true]) ?_ rfl ?_
    · exact results_cell_tmp Try.results20 _ wf (H + 1) (cellsA ya) _ rfl (unhide HFR).range Try.underlying32 rfl (by kernel_rfl)
    · exact ⟨by rw [unhide HANS]; rfl, unhide HBF⟩
end Go.Proofs.Ytoccgggiaalhdaa

/- What the program's Join answers: the plain one; nothing that was there has turned. Conditions: all numbers are int64's. -/
import Derived.Test.YtigmhljaoicdbaaGreatCalls
import Derived.Deep.DrawnRows
namespace Go.Proofs.YtigmhljaoicdbaaGreat
open Go.RowKit

theorem moved_drewN {F : Nat → Prop} {a b : World} (h : Moved F a b) (n : Nat) : Moved F a (b.drewN n) := ⟨h.os, h.tape, h.output, h.size, h.block⟩

theorem moved_set (w : World) (B i : Nat) (v : Value) : Moved (fun j => j = B) w (w.setCell ⟨B, i, none⟩ v) := (Moved.refl (fun j => j = B) w).setCell (p := ⟨B, i, none⟩) (.inl rfl) v
def part (A B : AggV) (k : Nat) : AggV := ⟨plus A.count B.count, plus A.sum B.sum, least A B, great A B, if 0 < k then plus A.h0 B.h0 else 0, if 1 < k then plus A.h1 B.h1 else 0, if 2 < k then plus A.h2 B.h2 else 0, if 3 < k then plus A.h3 B.h3 else 0⟩
theorem part4 (A B : AggV) : part A B 4 = join A B := rfl
attribute [local go_sem ↓] Go.wp_at_zero Go.wp_at_succ
set_option maxHeartbeats 2000000 in
theorem join_any (a b : AggV) (w : World) (ha : a.In) (hb : b.In) :
    Calls Tryz.prog 118 #[aggV a, aggV b] w fun e w' => e = .returned (aggV (join a b)) ∧ Below w.heap.size w w' := by
  obtain ⟨ac, aS, amn, amx, a0, a1, a2, a3⟩ := a
  obtain ⟨bc, bS, bmn, bmx, b0, b1, b2, b3⟩ := b
  obtain ⟨hac, haS, _, _, ha0, ha1, ha2, ha3⟩ := ha
  obtain ⟨hbc, hbS, _, _, hb0, hb1, hb2, hb3⟩ := hb
  simp only at hac haS ha0 ha1 ha2 ha3 hbc hbS hb0 hb1 hb2 hb3
  obtain ⟨R, hR⟩ : ∃ R, R = aggV (join ⟨ac, aS, amn, amx, a0, a1, a2, a3⟩ ⟨bc, bS, bmn, bmx, b0, b1, b2, b3⟩) := ⟨_, rfl⟩
  rw [← hR]
  have HR := hide hR
  clear hR
  simp only [aggV, cellsA, I]
  obtain ⟨A, hA⟩ : ∃ A : AggV, A = ⟨ac, aS, amn, amx, a0, a1, a2, a3⟩ := ⟨_, rfl⟩
  obtain ⟨B, hB⟩ : ∃ B : AggV, B = ⟨bc, bS, bmn, bmx, b0, b1, b2, b3⟩ := ⟨_, rfl⟩
  have HA := hide hA
  have HB := hide hB
  have HW : ∃ w0, w0 = ((w.alloc (.cells #[.int .i64 ac, .int .i64 aS, .int .i64 amn, .int .i64 amx, .int .i64 a0, .int .i64 a1, .int .i64 a2, .int .i64 a3] 50)).alloc (.cells #[.int .i64 bc, .int .i64 bS, .int .i64 bmn, .int .i64 bmx, .int .i64 b0, .int .i64 b1, .int .i64 b2, .int .i64 b3] 50)).alloc (.cells #[.int .i64 0, .int .i64 0, .int .i64 0, .int .i64 0, .int .i64 0, .int .i64 0, .int .i64 0, .int .i64 0] 50) := ⟨_, rfl⟩
  obtain ⟨w0, hw0⟩ := HW
  have Hw0 := hide hw0
  obtain ⟨H, hH⟩ : ∃ H, H = w.heap.size := ⟨_, rfl⟩
  have HH := hide hH
  have RA : Hid (RowAt w0 H (cellsA A)) := hide (by rw [hw0, hH, hA]; exact row_old (row_old (row_new w (cellsA ⟨ac, aS, amn, amx, a0, a1, a2, a3⟩) 50) _) _)
  have RB : Hid (RowAt w0 (H + 1) (cellsA B)) := hide (by rw [hw0, hH, hB]; exact row_old (row_new2 w (cellsA ⟨bc, bS, bmn, bmx, b0, b1, b2, b3⟩) (cellsA ⟨ac, aS, amn, amx, a0, a1, a2, a3⟩) 50 50) _)
  have RR : Hid (RowAt w0 (H + 2) (cellsA zero)) := hide (by
    have h := row_new ((w.alloc (.cells #[.int .i64 ac, .int .i64 aS, .int .i64 amn, .int .i64 amx, .int .i64 a0, .int .i64 a1, .int .i64 a2, .int .i64 a3] 50)).alloc (.cells #[.int .i64 bc, .int .i64 bS, .int .i64 bmn, .int .i64 bmx, .int .i64 b0, .int .i64 b1, .int .i64 b2, .int .i64 b3] 50)) (cellsA zero) 50
    have e : ((w.alloc (.cells #[.int .i64 ac, .int .i64 aS, .int .i64 amn, .int .i64 amx, .int .i64 a0, .int .i64 a1, .int .i64 a2, .int .i64 a3] 50)).alloc (.cells #[.int .i64 bc, .int .i64 bS, .int .i64 bmn, .int .i64 bmx, .int .i64 b0, .int .i64 b1, .int .i64 b2, .int .i64 b3] 50)).heap.size = w.heap.size + 2 := by simp
    rw [e] at h
    rw [hw0, hH]; exact h)
  have HBl : Hid (Below H w w0) := hide (by rw [hw0, hH]; exact (((Below.refl _ _).alloc (Nat.le_refl _) _).alloc (by simp) _).alloc (by simp; omega) _)
  have hsz : w0.heap.size = H + 3 := by rw [hw0, hH]; simp
  have Hsz := hide hsz
  clear hw0 hH hsz hA hB
  go_enter Tryz.func118, Tryz.ntmps118
  go_upto_region 1 with fail
  rw [← unhide HH, ← unhide Hw0]
  go_cut [5] from 7 to 18 (fun s5 wx => s5 = .pointer (some ⟨H + 3, 0, none⟩) ∧ RowAt wx H (cellsA A) ∧ RowAt wx (H + 1) (cellsA B) ∧ RowAt wx (H + 2) (cellsA zero) ∧ RowAt wx (H + 3) (cellsA ⟨plus ac bc, plus aS bS, 0, 0, 0, 0, 0, 0⟩) ∧ Below H w wx)
  case first =>
    have hsz := unhide Hsz
    have c1 : w0.cell? ⟨H, 0, none⟩ = some (.int .i64 ac) := by have h := (unhide RA).cell 0 (show 0 < 8 by decide); rw [unhide HA] at h; exact h
    have c2 : w0.cell? ⟨H, 1, none⟩ = some (.int .i64 aS) := by have h := (unhide RA).cell 1 (show 1 < 8 by decide); rw [unhide HA] at h; exact h
    have c3 : w0.cell? ⟨H + 1, 0, none⟩ = some (.int .i64 bc) := by have h := (unhide RB).cell 0 (show 0 < 8 by decide); rw [unhide HB] at h; exact h
    have c4 : w0.cell? ⟨H + 1, 1, none⟩ = some (.int .i64 bS) := by have h := (unhide RB).cell 1 (show 1 < 8 by decide); rw [unhide HB] at h; exact h
    have HP : Hid (∀ wq, wq = (w0.alloc (.cells #[.int .i64 (plus ac bc), .int .i64 (plus aS bS), .int .i64 0, .int .i64 0, .int .i64 0, .int .i64 0, .int .i64 0, .int .i64 0] 50)).drew → RowAt wq H (cellsA A) ∧ RowAt wq (H + 1) (cellsA B) ∧ RowAt wq (H + 2) (cellsA zero) ∧ RowAt wq (H + 3) (cellsA ⟨plus ac bc, plus aS bS, 0, 0, 0, 0, 0, 0⟩) ∧ Below H w wq) := hide (by
      rintro wq rfl
      have m : Moved (fun _ => False) w0 (w0.alloc (.cells #[.int .i64 (plus ac bc), .int .i64 (plus aS bS), .int .i64 0, .int .i64 0, .int .i64 0, .int .i64 0, .int .i64 0, .int .i64 0] 50)).drew := ((Moved.refl _ _).alloc _).drew
      have n := row_new w0 (cellsA ⟨plus ac bc, plus aS bS, 0, 0, 0, 0, 0, 0⟩) 50
      rw [unhide Hsz] at n
      refine ⟨(unhide RA).keep m id, (unhide RB).keep m id, (unhide RR).keep m id, n.keep (Moved.refl (fun _ => False) _).drew id, ?_⟩
      exact ((unhide HBl).alloc (by rw [unhide Hsz]; omega) _).drew)
    go_region_held3 (fun w' => w'.cell? ⟨H, 0, none⟩ = some (.int .i64 ac) ∧ w'.cell? ⟨H + 1, 0, none⟩ = some (.int .i64 bc) ∧ w'.cell? ⟨H, 1, none⟩ = some (.int .i64 aS) ∧ w'.cell? ⟨H + 1, 1, none⟩ = some (.int .i64 bS)) (go_keep)
      (first | (go_at_call 141; refine (plus_any _ _ _ (by assumption) (by assumption)).mono ?_; rintro e w' ⟨rfl, rfl⟩))
    all_goals
      go_wp2_with fail
      go_meet
      exact ⟨rfl, unhide HP _ rfl⟩
  case rest =>
    obtain ⟨rfl, ra, rb, rr, rc, hbl⟩ := hcut
    have RA' := hide ra
    have RB' := hide rb
    have RR' := hide rr
    have RC' := hide rc
    have BL' := hide hbl
    clear ra rb rr rc hbl RA RB RR HBl Hsz Hw0
    go_upto_region 2 with fail
    have hra := (unhide RA').range
    have hrb := (unhide RB').range
    go_step
    refine wpList_load_mid rfl 50 (.tmp 2) rfl H 0 rfl (cellsA A) _ hra Tryz.underlying50 rfl (by kernel_rfl) ?_
    refine wpList_load_mid rfl 50 (.tmp 3) rfl (H + 1) 0 rfl (cellsA B) _ hrb Tryz.underlying50 rfl (by kernel_rfl) ?_
    clear hra hrb
    go_wp2_with fail
    refine (ends_any A B _).mono ?_
    rintro e w2 ⟨rfl, hb2⟩
    have m2 : Moved (fun _ => False) wc w2 := Moved.of_below hb2
    have RA2 := hide ((unhide RA').keep m2 id)
    have RB2 := hide ((unhide RB').keep m2 id)
    have RR2 := hide ((unhide RR').keep m2 id)
    have RC2 := hide ((unhide RC').keep m2 id)
    have BL2 := hide ((unhide BL').trans (hb2.mono (by have := (unhide RC').lt; omega)))
    clear m2 hb2 RA' RB' RR' RC' BL'
    have c2 : w2.cell? ⟨H + 3, 2, none⟩ = some (.int .i64 0) := (unhide RC2).cell 2 (show 2 < 8 by decide)
    have c3 : w2.cell? ⟨H + 3, 3, none⟩ = some (.int .i64 0) := (unhide RC2).cell 3 (show 3 < 8 by decide)
    have f2 : w2.frozen? ⟨H + 3, 2, none⟩ = false := (unhide RC2).free 2 (show 2 < 8 by decide)
    have f3 : w2.frozen? ⟨H + 3, 3, none⟩ = false := (unhide RC2).free 3 (show 3 < 8 by decide)
    go_upto_region 3 with fail
    clear c2 c3 f2 f3
    have R3 : Hid (∀ wq, wq = (w2.setCell ⟨H + 3, 2, none⟩ (.int .i64 (least A B))).setCell ⟨H + 3, 3, none⟩ (.int .i64 (great A B)) → RowAt wq H (cellsA A) ∧ RowAt wq (H + 1) (cellsA B) ∧ RowAt wq (H + 2) (cellsA zero) ∧ RowAt wq (H + 3) (cellsA (part A B 0)) ∧ Below H w wq) := hide (by
      rintro wq rfl
      have m : Moved (fun i => i = H + 3) w2 ((w2.setCell ⟨H + 3, 2, none⟩ (.int .i64 (least A B))).setCell ⟨H + 3, 3, none⟩ (.int .i64 (great A B))) := (moved_set _ _ _ _).trans (moved_set _ _ _ _) (fun _ h => .inl h)
      refine ⟨(unhide RA2).keep m (by omega), (unhide RB2).keep m (by omega), (unhide RR2).keep m (by omega), ?_, ((unhide BL2).setCell (show H ≤ H + 3 by omega) _).setCell (show H ≤ H + 3 by omega) _⟩
      have h := ((unhide RC2).set 2 (show 2 < 8 by decide) (.int .i64 (least A B))).set 3 (show 3 < 8 by decide) (.int .i64 (great A B))
      have e : ((cellsA ⟨plus ac bc, plus aS bS, 0, 0, 0, 0, 0, 0⟩).set 2 (.int .i64 (least A B))).set 3 (.int .i64 (great A B)) = cellsA (part A B 0) := by rw [unhide HA, unhide HB]; rfl
      rw [e] at h; exact h)
    clear RA2 RB2 RR2 RC2 BL2
    generalize (w2.setCell ⟨H + 3, 2, none⟩ (.int .i64 (least A B))).setCell ⟨H + 3, 3, none⟩ (.int .i64 (great A B)) = w3 at *
    have R3 := hide (unhide R3 w3 rfl)
    go_wp2_with fail
    go_loopw [26] (fun i wr => ∃ k : Nat, k ≤ 4 ∧ i = .int .i64 k ∧ RowAt wr H (cellsA A) ∧ RowAt wr (H + 1) (cellsA B) ∧ RowAt wr (H + 2) (cellsA zero) ∧ RowAt wr (H + 3) (cellsA (part A B k)) ∧ Below H w wr) (fun i _ => 4 - (intOf i).toNat)
    case atStart => exact ⟨0, by omega, rfl, unhide R3⟩
    case round =>
      obtain ⟨k, hk, rfl, ra, rb, rr, rc, hbl⟩ := hrel
      have RA4 := hide ra
      have RB4 := hide rb
      have RR4 := hide rr
      have RC4 := hide rc
      have BL4 := hide hbl
      clear ra rb rr rc hbl R3
      rcases (by omega : k = 0 ∨ k = 1 ∨ k = 2 ∨ k = 3 ∨ k = 4) with rfl | rfl | rfl | rfl | rfl
      · have ca : wr.cell? ⟨H, 4, none⟩ = some (.int .i64 a0) := by have h := (unhide RA4).cell 4 (show 4 < 8 by decide); rw [unhide HA] at h; exact h
        have cb : wr.cell? ⟨H + 1, 4, none⟩ = some (.int .i64 b0) := by have h := (unhide RB4).cell 4 (show 4 < 8 by decide); rw [unhide HB] at h; exact h
        have cc : wr.cell? ⟨H + 3, 4, none⟩ = some (.int .i64 0) := (unhide RC4).cell 4 (show 4 < 8 by decide)
        have fc : wr.frozen? ⟨H + 3, 4, none⟩ = false := (unhide RC4).free 4 (show 4 < 8 by decide)
        have HP : Hid (∀ wq, wq = (wr.setCell ⟨H + 3, 4, none⟩ (.int .i64 (plus a0 b0))).drew → RowAt wq H (cellsA A) ∧ RowAt wq (H + 1) (cellsA B) ∧ RowAt wq (H + 2) (cellsA zero) ∧ RowAt wq (H + 3) (cellsA (part A B 1)) ∧ Below H w wq) := hide (by
          rintro wq rfl
          have m : Moved (fun i => i = H + 3) wr (wr.setCell ⟨H + 3, 4, none⟩ (.int .i64 (plus a0 b0))).drew := (moved_set _ _ _ _).drew
          refine ⟨(unhide RA4).keep m (by omega), (unhide RB4).keep m (by omega), (unhide RR4).keep m (by omega), ?_, ((unhide BL4).setCell (show H ≤ H + 3 by omega) _).drew⟩
          have h := ((unhide RC4).set 4 (show 4 < 8 by decide) (.int .i64 (plus a0 b0))).keep (Moved.refl (fun _ => False) _).drew id
          have e : (cellsA (part A B 0)).set 4 (.int .i64 (plus a0 b0)) = cellsA (part A B 1) := by rw [unhide HA, unhide HB]; rfl
          rw [e] at h; exact h)
        go_upto_region 6 with fail
        go_region_held3 (fun w' => w'.cell? ⟨H, 4, none⟩ = some (.int .i64 a0) ∧ w'.cell? ⟨H + 1, 4, none⟩ = some (.int .i64 b0)) (go_keep)
          (first | (go_at_call 141; refine (plus_any _ _ _ (by assumption) (by assumption)).mono ?_; rintro e w' ⟨rfl, rfl⟩))
        all_goals
          clear ca cb cc fc
          go_wp2_with fail
          go_roundw
          case rel => exact ⟨1, by omega, by go_num, unhide HP _ rfl⟩
          case measure => simp [intOf]
      · have ca : wr.cell? ⟨H, 5, none⟩ = some (.int .i64 a1) := by have h := (unhide RA4).cell 5 (show 5 < 8 by decide); rw [unhide HA] at h; exact h
        have cb : wr.cell? ⟨H + 1, 5, none⟩ = some (.int .i64 b1) := by have h := (unhide RB4).cell 5 (show 5 < 8 by decide); rw [unhide HB] at h; exact h
        have cc : wr.cell? ⟨H + 3, 5, none⟩ = some (.int .i64 0) := (unhide RC4).cell 5 (show 5 < 8 by decide)
        have fc : wr.frozen? ⟨H + 3, 5, none⟩ = false := (unhide RC4).free 5 (show 5 < 8 by decide)
        have HP : Hid (∀ wq, wq = (wr.setCell ⟨H + 3, 5, none⟩ (.int .i64 (plus a1 b1))).drew → RowAt wq H (cellsA A) ∧ RowAt wq (H + 1) (cellsA B) ∧ RowAt wq (H + 2) (cellsA zero) ∧ RowAt wq (H + 3) (cellsA (part A B 2)) ∧ Below H w wq) := hide (by
          rintro wq rfl
          have m : Moved (fun i => i = H + 3) wr (wr.setCell ⟨H + 3, 5, none⟩ (.int .i64 (plus a1 b1))).drew := (moved_set _ _ _ _).drew
          refine ⟨(unhide RA4).keep m (by omega), (unhide RB4).keep m (by omega), (unhide RR4).keep m (by omega), ?_, ((unhide BL4).setCell (show H ≤ H + 3 by omega) _).drew⟩
          have h := ((unhide RC4).set 5 (show 5 < 8 by decide) (.int .i64 (plus a1 b1))).keep (Moved.refl (fun _ => False) _).drew id
          have e : (cellsA (part A B 1)).set 5 (.int .i64 (plus a1 b1)) = cellsA (part A B 2) := by rw [unhide HA, unhide HB]; rfl
          rw [e] at h; exact h)
        go_upto_region 6 with fail
        go_region_held3 (fun w' => w'.cell? ⟨H, 5, none⟩ = some (.int .i64 a1) ∧ w'.cell? ⟨H + 1, 5, none⟩ = some (.int .i64 b1)) (go_keep)
          (first | (go_at_call 141; refine (plus_any _ _ _ (by assumption) (by assumption)).mono ?_; rintro e w' ⟨rfl, rfl⟩))
        all_goals
          clear ca cb cc fc
          go_wp2_with fail
          go_roundw
          case rel => exact ⟨2, by omega, by go_num, unhide HP _ rfl⟩
          case measure => simp [intOf]
      · have ca : wr.cell? ⟨H, 6, none⟩ = some (.int .i64 a2) := by have h := (unhide RA4).cell 6 (show 6 < 8 by decide); rw [unhide HA] at h; exact h
        have cb : wr.cell? ⟨H + 1, 6, none⟩ = some (.int .i64 b2) := by have h := (unhide RB4).cell 6 (show 6 < 8 by decide); rw [unhide HB] at h; exact h
        have cc : wr.cell? ⟨H + 3, 6, none⟩ = some (.int .i64 0) := (unhide RC4).cell 6 (show 6 < 8 by decide)
        have fc : wr.frozen? ⟨H + 3, 6, none⟩ = false := (unhide RC4).free 6 (show 6 < 8 by decide)
        have HP : Hid (∀ wq, wq = (wr.setCell ⟨H + 3, 6, none⟩ (.int .i64 (plus a2 b2))).drew → RowAt wq H (cellsA A) ∧ RowAt wq (H + 1) (cellsA B) ∧ RowAt wq (H + 2) (cellsA zero) ∧ RowAt wq (H + 3) (cellsA (part A B 3)) ∧ Below H w wq) := hide (by
          rintro wq rfl
          have m : Moved (fun i => i = H + 3) wr (wr.setCell ⟨H + 3, 6, none⟩ (.int .i64 (plus a2 b2))).drew := (moved_set _ _ _ _).drew
          refine ⟨(unhide RA4).keep m (by omega), (unhide RB4).keep m (by omega), (unhide RR4).keep m (by omega), ?_, ((unhide BL4).setCell (show H ≤ H + 3 by omega) _).drew⟩
          have h := ((unhide RC4).set 6 (show 6 < 8 by decide) (.int .i64 (plus a2 b2))).keep (Moved.refl (fun _ => False) _).drew id
          have e : (cellsA (part A B 2)).set 6 (.int .i64 (plus a2 b2)) = cellsA (part A B 3) := by rw [unhide HA, unhide HB]; rfl
          rw [e] at h; exact h)
        go_upto_region 6 with fail
        go_region_held3 (fun w' => w'.cell? ⟨H, 6, none⟩ = some (.int .i64 a2) ∧ w'.cell? ⟨H + 1, 6, none⟩ = some (.int .i64 b2)) (go_keep)
          (first | (go_at_call 141; refine (plus_any _ _ _ (by assumption) (by assumption)).mono ?_; rintro e w' ⟨rfl, rfl⟩))
        all_goals
          clear ca cb cc fc
          go_wp2_with fail
          go_roundw
          case rel => exact ⟨3, by omega, by go_num, unhide HP _ rfl⟩
          case measure => simp [intOf]
      · have ca : wr.cell? ⟨H, 7, none⟩ = some (.int .i64 a3) := by have h := (unhide RA4).cell 7 (show 7 < 8 by decide); rw [unhide HA] at h; exact h
        have cb : wr.cell? ⟨H + 1, 7, none⟩ = some (.int .i64 b3) := by have h := (unhide RB4).cell 7 (show 7 < 8 by decide); rw [unhide HB] at h; exact h
        have cc : wr.cell? ⟨H + 3, 7, none⟩ = some (.int .i64 0) := (unhide RC4).cell 7 (show 7 < 8 by decide)
        have fc : wr.frozen? ⟨H + 3, 7, none⟩ = false := (unhide RC4).free 7 (show 7 < 8 by decide)
        have HP : Hid (∀ wq, wq = (wr.setCell ⟨H + 3, 7, none⟩ (.int .i64 (plus a3 b3))).drew → RowAt wq H (cellsA A) ∧ RowAt wq (H + 1) (cellsA B) ∧ RowAt wq (H + 2) (cellsA zero) ∧ RowAt wq (H + 3) (cellsA (part A B 4)) ∧ Below H w wq) := hide (by
          rintro wq rfl
          have m : Moved (fun i => i = H + 3) wr (wr.setCell ⟨H + 3, 7, none⟩ (.int .i64 (plus a3 b3))).drew := (moved_set _ _ _ _).drew
          refine ⟨(unhide RA4).keep m (by omega), (unhide RB4).keep m (by omega), (unhide RR4).keep m (by omega), ?_, ((unhide BL4).setCell (show H ≤ H + 3 by omega) _).drew⟩
          have h := ((unhide RC4).set 7 (show 7 < 8 by decide) (.int .i64 (plus a3 b3))).keep (Moved.refl (fun _ => False) _).drew id
          have e : (cellsA (part A B 3)).set 7 (.int .i64 (plus a3 b3)) = cellsA (part A B 4) := by rw [unhide HA, unhide HB]; rfl
          rw [e] at h; exact h)
        go_upto_region 6 with fail
        go_region_held3 (fun w' => w'.cell? ⟨H, 7, none⟩ = some (.int .i64 a3) ∧ w'.cell? ⟨H + 1, 7, none⟩ = some (.int .i64 b3)) (go_keep)
          (first | (go_at_call 141; refine (plus_any _ _ _ (by assumption) (by assumption)).mono ?_; rintro e w' ⟨rfl, rfl⟩))
        all_goals
          clear ca cb cc fc
          go_wp2_with fail
          go_roundw
          case rel => exact ⟨4, by omega, by go_num, unhide HP _ rfl⟩
          case measure => simp [intOf]
      · go_upto_region 8 with fail
        have hrg := (unhide RC4).range
        have hth := (unhide RR4).there
        go_step
        refine wpList_load_mid rfl 50 (.tmp 5) rfl (H + 3) 0 rfl (cellsA (part A B 4)) _ hrg Tryz.underlying50 rfl (by kernel_rfl) ?_
        refine wpList_store_mid rfl 50 (.tmp 4) (.tmp 42) rfl (H + 2) 0 (cellsA (part A B 4)).toArray rfl rfl hth (by kernel_rfl) (by simp [Value.oneCell', cellsA, I]) ?_
        clear hrg hth
        have RF := (unhide RR4).put (cellsA (part A B 4)) rfl
        have BF := hide ((unhide BL4).trans ((setCells_moved wr (H + 2) 0 (cellsA (part A B 4))).below (B := H) (fun i hi => by omega) (by have := (unhide RC4).lt; omega)))
        change wpList _ _ _ _ _ (wr.setCells (H + 2) 0 (cellsA (part A B 4)))
        generalize wr.setCells (H + 2) 0 (cellsA (part A B 4)) = wf at *
        go_wp2_with fail
        have hfr := RF.range
        clear RF
        refine bodyPost_ret (v := aggV (join A B)) ?_ rfl ?_
        · exact results_cell_mid Tryz.results118 _ wf (H + 2) _ _ rfl hfr Tryz.underlying50 rfl (by kernel_rfl)
        · refine ⟨by rw [unhide HR, unhide HA, unhide HB], ?_⟩
          have h := unhide BF
          rw [unhide HH] at h; exact h
end Go.Proofs.YtigmhljaoicdbaaGreat

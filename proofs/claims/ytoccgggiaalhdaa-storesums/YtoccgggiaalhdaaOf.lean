/- What the program's Of answers: the plain one; nothing that was there has turned. Conditions: all numbers are int64's. -/
import Derived.Test.YtoccgggiaalhdaaPut
namespace Go.Proofs.Ytoccgggiaalhdaa
open Go.RowKit

/-- A row of numbers that lies from a on. -/
def Ints (w : World) (a : Option Addr) (xs : List Int) : Prop := ∀ i, i < xs.length → ∃ x, a = some x ∧ w.cell? (x.add i) = some (.int .i64 (xs.getD i 0))
theorem add_block (x : Addr) (i : Nat) : (x.add i).block = x.block := by unfold Addr.add; split <;> rfl
theorem Ints.keep {w w' : World} {a : Option Addr} {xs : List Int} (h : Ints w a xs) (hb : Below w.heap.size w w') : Ints w' a xs := fun i hi => by
  obtain ⟨x, rfl, hc⟩ := h i hi
  have hlt := World.block_lt_of_cell? _ _ hc
  exact ⟨x, rfl, (hb.cell hlt).trans hc⟩
theorem getD_mem {xs : List Int} {i : Nat} (h : i < xs.length) : xs.getD i 0 ∈ xs := by
  rw [List.getD_eq_getElem?_getD, List.getElem?_eq_getElem h]; exact List.getElem_mem h
theorem of_take {xs : List Int} {k : Nat} (h : k < xs.length) : of (xs.take (k + 1)) = put (of (xs.take k)) (xs.getD k 0) := by
  rw [List.take_succ_eq_append_getElem h, of_snoc, List.getD_eq_getElem?_getD, List.getElem?_eq_getElem h]; rfl

set_option maxHeartbeats 1000000 in
set_option maxRecDepth 100000 in
theorem of_any (a : Option Addr) (c : Nat) (xs : List Int) (w : World) (hI : Ints w a xs) (hx : ∀ v ∈ xs, i64 v) (hn : xs.length ≤ maxLen) :
    Calls Try.prog 28 #[.slice a xs.length c] w fun e w' => e = .returned (aggV (of xs)) ∧ Below w.heap.size w w' := by
  have hn' : xs.length ≤ 2 ^ 63 - 1 := hn
  obtain ⟨n, hN⟩ : ∃ n, n = xs.length := ⟨_, rfl⟩
  rw [← hN] at hn hn'
  rw [← hN]
  have HN := hide hN
  have HI := hide hI
  have HX := hide hx
  clear hI hx hN hn
  obtain ⟨w0, hw0⟩ : ∃ w0, w0 = (w.alloc (.cells #[.int .i64 0, .int .i64 0, .int .i64 0, .int .i64 0, .int .i64 0, .int .i64 0, .int .i64 0, .int .i64 0] 32)).alloc (.cells #[.int .i64 0, .int .i64 0, .int .i64 0, .int .i64 0, .int .i64 0, .int .i64 0, .int .i64 0, .int .i64 0] 32) := ⟨_, rfl⟩
  have Hw0 := hide hw0
  obtain ⟨H, hH⟩ : ∃ H, H = w.heap.size := ⟨_, rfl⟩
  have HH := hide hH
  have RA : RowAt w0 H (cellsA zero) := by rw [hw0, hH]; exact row_old (row_new w (cellsA zero) 32) _
  have RB : RowAt w0 (H + 1) (cellsA zero) := by rw [hw0, hH]; exact row_new2 w (cellsA zero) (cellsA zero) 32 32
  have HBl : Below H w w0 := by rw [hw0, hH]; exact ((Below.refl _ _).alloc (Nat.le_refl _) _).alloc (by simp) _
  have T0 : Hid (Two w H (cellsA zero) (cellsA (of (xs.take 0))) w0) := hide ⟨RA, RB, HBl⟩
  clear hw0 hH RA RB HBl
  go_enter Try.func28, Try.ntmps28
  go_upto_region 2 with fail
  rw [← unhide HH, ← unhide Hw0]
  clear Hw0
  go_wp2_with fail
  go_loopw [8] (fun i wr => ∃ k : Nat, k ≤ n ∧ i = .int .i64 k ∧ Two w H (cellsA zero) (cellsA (of (xs.take k))) wr) (fun i _ => n - (intOf i).toNat)
  case atStart => exact ⟨0, by omega, rfl, unhide T0⟩
  case round =>
    obtain ⟨k, hk, rfl, tw⟩ := hrel
    have T := hide tw
    clear tw T0
    by_cases hlt : k < n
    · have hlt' : k < xs.length := by rw [← unhide HN]; exact hlt
      have HL := hide hlt'
      obtain ⟨x, hax, hc⟩ := unhide HI k hlt'
      have hb : x.block < H := by have := World.block_lt_of_cell? _ _ hc; rw [add_block] at this; rw [unhide HH]; exact this
      subst hax
      have hc' : wr.cell? (x.add k) = some (.int .i64 (xs.getD k 0)) := ((unhide T).2.2.cell (by rw [add_block]; exact hb)).trans hc
      have hv := unhide HX _ (getD_mem hlt')
      have HV := hide hv
      have Hat := hide (of_take hlt')
      clear hc hlt' hv
      generalize xs.getD k 0 = v at *
      go_upto_region 5 with fail
      have hrg := (unhide T).2.1.range
      go_step
      refine wpList_load_mid rfl 32 (.tmp 3) rfl (H + 1) 0 rfl (cellsA (of (xs.take k))) _ hrg Try.underlying32 rfl (by kernel_rfl) ?_
      clear hrg
      go_wp2_with fail
      refine (put_any (of (xs.take k)) v _ (of_in _ (fun u hu => unhide HX u (List.mem_of_mem_take hu))) (unhide HV)).mono ?_
      rintro e w1 ⟨rfl, hb1⟩
      have T1 := hide ((unhide T).carry hb1)
      clear hb1
      rw [← unhide Hat]
      dsimp only
      refine ‹∀ (a : Act) (w : World), wpList _ _ _ _ a w → _› _ _ ?_
      have hth := (unhide T1).2.1.there
      refine wpList_store_mid rfl 32 (.tmp 3) (.tmp 14) rfl (H + 1) 0 (cellsA (of (xs.take (k + 1)))).toArray (by rfl) (by rfl) hth (by kernel_rfl) (by simp [Value.oneCell', cellsA, I]) ?_
      clear hth
      have RF := (unhide T1).2.1.put (cellsA (of (xs.take (k + 1)))) rfl
      have MF := setCells_moved w1 (H + 1) 0 (cellsA (of (xs.take (k + 1))))
      have TF : Hid (Two w H (cellsA zero) (cellsA (of (xs.take (k + 1)))) (w1.setCells (H + 1) 0 (cellsA (of (xs.take (k + 1)))))) := hide ⟨(unhide T1).1.keep MF (by omega), RF, (unhide T1).2.2.trans (MF.below (B := H) (fun i hi => by omega) (by have := (unhide T1).1.lt; omega))⟩
      clear RF MF
      change wpList _ _ _ _ _ (w1.setCells (H + 1) 0 (cellsA (of (xs.take (k + 1)))))
      generalize w1.setCells (H + 1) 0 (cellsA (of (xs.take (k + 1)))) = wf at *
      go_wp2_with fail
      go_roundw
      case rel => exact ⟨k + 1, by omega, by go_num, unhide TF⟩
      case measure => simp [intOf]; omega
    · have hkn : xs.take k = xs := List.take_of_length_le (by rw [← unhide HN]; omega)
      rw [hkn] at T
      go_upto_region 7 with fail
      have hrg := (unhide T).2.1.range
      have hth := (unhide T).1.there
      go_step
      refine wpList_load_mid rfl 32 (.tmp 3) rfl (H + 1) 0 rfl (cellsA (of xs)) _ hrg Try.underlying32 rfl (by kernel_rfl) ?_
      refine wpList_store_mid rfl 32 (.tmp 2) (.tmp 16) rfl H 0 (cellsA (of xs)).toArray rfl rfl hth (by kernel_rfl) (by simp [Value.oneCell', cellsA, I]) ?_
      clear hrg hth
      have RF := (unhide T).1.put (cellsA (of xs)) rfl
      have BF := hide ((unhide T).2.2.trans ((setCells_moved wr H 0 (cellsA (of xs))).below (B := H) (fun i hi => by omega) (by have := (unhide T).1.lt; omega)))
      change wpList _ _ _ _ _ (wr.setCells H 0 (cellsA (of xs)))
      generalize wr.setCells H 0 (cellsA (of xs)) = wf at *
      go_wp2_with fail
      have hfr := RF.range
      refine bodyPost_ret (v := aggV (of xs)) ?_ rfl ?_
      · exact results_cell_mid Try.results28 _ wf H _ _ rfl hfr Try.underlying32 rfl (by kernel_rfl)
      · refine ⟨rfl, ?_⟩
        have h := unhide BF
        rw [unhide HH] at h; exact h
end Go.Proofs.Ytoccgggiaalhdaa

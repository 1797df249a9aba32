/- What the document's Of answers: the plain one; nothing that was there has turned. Conditions: all numbers are int64's. -/
import Derived.Test.YtiokfnkcjicheaaOf
import Derived.Test.YtiokfnkcjicheaaRefPut
namespace Go.Proofs.Ytiokfnkcjicheaa
open Go.RowKit

set_option maxHeartbeats 1000000 in
theorem ref_of_any (a : Option Addr) (c : Nat) (xs : List Int) (w : World) (hI : Ints w a xs) (hx : ∀ v ∈ xs, i64 v) (hn : xs.length ≤ maxLen) :
    Calls Try.prog 19 #[.slice a xs.length c] w fun e w' => e = .returned (aggV (of xs)) ∧ Below w.heap.size w w' := by
  have hn' : xs.length ≤ 2 ^ 63 - 1 := hn
  obtain ⟨n, hN⟩ : ∃ n, n = xs.length := ⟨_, rfl⟩
  rw [← hN] at hn hn'
  rw [← hN]
  have HN := hide hN
  have HI := hide hI
  have HX := hide hx
  clear hI hx hN hn
  obtain ⟨w0, hw0⟩ : ∃ w0, w0 = (w.alloc (.cells #[.int .i64 0, .int .i64 0, .int .i64 0, .int .i64 0, .int .i64 0, .int .i64 0, .int .i64 0, .int .i64 0] 24)).alloc (.cells #[.int .i64 0, .int .i64 0, .int .i64 0, .int .i64 0, .int .i64 0, .int .i64 0, .int .i64 0, .int .i64 0] 24) := ⟨_, rfl⟩
  have Hw0 := hide hw0
  obtain ⟨H, hH⟩ : ∃ H, H = w.heap.size := ⟨_, rfl⟩
  have HH := hide hH
  have RA : RowAt w0 H (cellsA zero) := by rw [hw0, hH]; exact row_old (row_new w (cellsA zero) 24) _
  have RB : RowAt w0 (H + 1) (cellsA zero) := by rw [hw0, hH]; exact row_new2 w (cellsA zero) (cellsA zero) 24 24
  have HBl : Below H w w0 := by rw [hw0, hH]; exact ((Below.refl _ _).alloc (Nat.le_refl _) _).alloc (by simp) _
  have T0 : Hid (Two w H (cellsA zero) (cellsA (of (xs.take 0))) w0) := hide ⟨RA, RB, HBl⟩
  clear hw0 hH RA RB HBl
  go_enter Try.func19, Try.ntmps19
  go_upto_region 2 with fail
  rw [← unhide HH, ← unhide Hw0]
  clear Hw0
  go_wp2_with fail
  go_loopw [4] (fun i wr => ∃ k : Nat, k ≤ n ∧ i = .int .i64 k ∧ Two w H (cellsA zero) (cellsA (of (xs.take k))) wr) (fun i _ => n - (intOf i).toNat)
  case atStart => exact ⟨0, by omega, rfl, unhide T0⟩
  case round =>
    obtain ⟨k, hk, rfl, tw⟩ := hrel
    have T := hide tw
    clear tw T0
    by_cases hlt : k < n
    · have hlt' : k < xs.length := by rw [← unhide HN]; exact hlt
      obtain ⟨x, hax, hc⟩ := unhide HI k hlt'
      have hb : x.block < H := by have := World.block_lt_of_cell? _ _ hc; rw [add_block] at this; rw [unhide HH]; exact this
      subst hax
      have hv := unhide HX _ (getD_mem hlt')
      have Hat := hide (of_take hlt')
      generalize xs.getD k 0 = v at *
      obtain ⟨A, hA⟩ : ∃ A, A = of (xs.take k) := ⟨_, rfl⟩
      have hAi : A.In := by rw [hA]; exact of_in _ (fun u hu => unhide HX u (List.mem_of_mem_take hu))
      rw [← hA] at T Hat
      obtain ⟨St, hSt⟩ : ∃ St : World → Prop, St = Two w H (cellsA zero) (cellsA A) := ⟨_, rfl⟩
      have Hst := hide hSt
      have st : St wr.drew := by rw [hSt]; exact (unhide T).drew
      have sP : Hid (∀ p : SW St, Calls Try.prog 14 #[aggV A, .int .i64 v] p.w fun e w' => e = .returned (aggV (put A v)) ∧ ∃ q : SW St, w' = q.w) := hide (fun ⟨p, hp⟩ => (ref_put_any A v p hAi hv).mono (by
        rintro e w' ⟨rfl, hb⟩
        refine ⟨rfl, ⟨w', ?_⟩, rfl⟩
        rw [hSt] at hp ⊢; exact hp.carry hb))
      have QR : Hid (∀ w', (∃ p : SW St, w' = p.w) → w'.rangeAt (H + 1) 0 (cellsA A)) := hide (by
        rintro w' ⟨⟨p, hp⟩, rfl⟩
        rw [hSt] at hp
        exact hp.2.1.range)
      have hc' : ∀ p : SW St, p.w.cell? (x.add k) = some (.int .i64 v) := by
        rintro ⟨p, hp⟩
        rw [hSt] at hp
        exact (hp.2.2.cell (by rw [add_block]; exact hb)).trans hc
      have hk0 : (0 : Int) ≤ (k : Int) := Int.natCast_nonneg _
      have hkn : (k : Int) < (n : Int) := by omega
      clear hc hlt' hv hAi hA hSt
      go_upto_region 5 with fail
      have ne : Nonempty (SW St) := ⟨⟨_, st⟩⟩
      refine wp_region_last_sw (St := St) (by kernel_rfl) (by kernel_rfl) st ?_
      simp only [List.dropLast_cons_cons, List.dropLast_singleton]
      refine wpQuiet_load_on rfl 24 (.tmp 3) rfl (H + 1) 0 rfl (cellsA A) _ (unhide QR) Try.underlying24 rfl (by kernel_rfl) ?_
      go_simp
      repeat (go_big_quiet_step (first | (go_at_call 14; exact unhide sP _)))
      refine wpQuiet_nil ?_
      intro w9 st9 o0 ho
      simp only [List.getLast?_cons_cons, List.getLast?_singleton, Option.some.injEq] at ho
      subst ho
      rw [unhide Hst] at st9
      have T1 := hide st9
      clear st9 ne st sP QR hc' T
      have hth := (unhide T1).2.1.there
      refine ⟨rfl, ?_⟩
      refine wp_store_mid 24 (.tmp 3) (.tmp 16) rfl (H + 1) 0 (cellsA (put A v)).toArray rfl rfl hth (by kernel_rfl) (by simp [Value.oneCell', cellsA, I]) ?_
      clear hth
      have RF := (unhide T1).2.1.put (cellsA (put A v)) rfl
      have MF := setCells_moved w9 (H + 1) 0 (cellsA (put A v))
      have TF : Hid (Two w H (cellsA zero) (cellsA (of (xs.take (k + 1)))) (w9.setCells (H + 1) 0 (cellsA (put A v)))) := hide ⟨(unhide T1).1.keep MF (by omega), (by rw [unhide Hat]; exact RF), (unhide T1).2.2.trans (MF.below (B := H) (fun i hi => by omega) (by have := (unhide T1).1.lt; omega))⟩
      clear RF MF
      change Exit.inBlock _ _ _ _ (w9.setCells (H + 1) 0 (cellsA (put A v)))
      generalize w9.setCells (H + 1) 0 (cellsA (put A v)) = wf at *
      go_wp2_with fail
      go_roundw
      case rel => exact ⟨k + 1, by omega, by go_num, unhide TF⟩
      case measure => simp [intOf]; omega
    · have hkn : xs.take k = xs := List.take_of_length_le (by rw [← unhide HN]; omega)
      rw [hkn] at T
      go_upto_region 6 with fail
      have hrg := (unhide T).2.1.range
      have hth := (unhide T).1.there
      go_step
      refine wpList_load_mid rfl 24 (.tmp 3) rfl (H + 1) 0 rfl (cellsA (of xs)) _ hrg Try.underlying24 rfl (by kernel_rfl) ?_
      refine wpList_store_mid rfl 24 (.tmp 2) (.tmp 17) rfl H 0 (cellsA (of xs)).toArray rfl rfl hth (by kernel_rfl) (by simp [Value.oneCell', cellsA, I]) ?_
      clear hrg hth
      have RF := (unhide T).1.put (cellsA (of xs)) rfl
      have BF := hide ((unhide T).2.2.trans ((setCells_moved wr H 0 (cellsA (of xs))).below (B := H) (fun i hi => by omega) (by have := (unhide T).1.lt; omega)))
      change wpList _ _ _ _ _ (wr.setCells H 0 (cellsA (of xs)))
      generalize wr.setCells H 0 (cellsA (of xs)) = wf at *
      go_wp2_with fail
      have hfr := RF.range
      refine bodyPost_ret (v := aggV (of xs)) ?_ rfl ?_
      · exact results_cell_mid Try.results19 _ wf H _ _ rfl hfr Try.underlying24 rfl (by kernel_rfl)
      · refine ⟨rfl, ?_⟩
        have h := unhide BF
        rw [unhide HH] at h; exact h
end Go.Proofs.Ytiokfnkcjicheaa

/- The chapter's first examples: computed. No conditions. -/
import Derived.Test.YtmgmkdkdpeljmaaHere
namespace Go.Proofs.Ytmgmkdkdpeljmaa
open Go.RowKit
def wb : AggV := put (put zero 5) 1
def wk1 : List (Win AggV) := [⟨[98], 10, put zero 5⟩]
def wk2 : List (Win AggV) := [⟨[97], 0, put zero 2⟩, ⟨[98], 10, put zero 5⟩]
def wk3 : List (Win AggV) := [⟨[97], 0, put zero 2⟩, ⟨[98], 10, wb⟩]
theorem wk1_eq : putS SO [] [98] 12 5 = (wk1, 0) := by kernel_rfl
theorem wk2_eq : putS SO wk1 [97] 3 2 = (wk2, 0) := by kernel_rfl
theorem wk3_eq : putS SO wk2 [98] 10 1 = (wk3, 0) := by kernel_rfl
theorem wk3_look : look wk3 [98] 10 = some wb := by kernel_rfl
theorem wk3_take : takeS SO wk3 15 = ([⟨[98], 10, wb⟩], [⟨[97], 0, put zero 2⟩]) := by kernel_rfl
theorem wb_sum : wb.sum = 6 := by kernel_rfl
theorem wb_count : wb.count = 2 := by kernel_rfl
instance (x : Int) : Decidable (i64 x) := by unfold i64; infer_instance
instance (a : AggV) : Decidable a.In := decidable_of_iff (i64 a.count ∧ i64 a.sum ∧ i64 a.mn ∧ i64 a.mx ∧ i64 a.h0 ∧ i64 a.h1 ∧ i64 a.h2 ∧ i64 a.h3) ⟨fun ⟨a, b, c, d, e, f, g, h⟩ => ⟨a, b, c, d, e, f, g, h⟩, fun ⟨a, b, c, d, e, f, g, h⟩ => ⟨a, b, c, d, e, f, g, h⟩⟩
theorem wk1_in : ∀ a ∈ wk1, a.agg.In := by decide +kernel
theorem wk2_in : ∀ a ∈ wk2, a.agg.In := by decide +kernel
theorem okc {k : List UInt8} {s : Int} (hk : k.length ≤ 1000) (h0 : 0 ≤ s) (h1 : s ≤ 1099511627776) : okk k s := ⟨by simp [maxLen]; omega, by unfold i64; omega⟩
theorem wk_put1 {w v : World} {p : Nat} (h : Here w v p [] []) : Calls Try.prog 15 #[.pointer (some ⟨p, 0, none⟩), .string ⟨#[98]⟩, .int .i64 12, .int .i64 5] v fun e v' => e = .returned (.int .i64 0) ∧ Here w v' p wk1 [] := by
  have := h.put (Nat.zero_le _) (fun _ h => by cases h) [98] 12 5 (by unfold i64; omega)
  rw [wk1_eq] at this; exact this
theorem wk_put2 {w v : World} {p : Nat} (h : Here w v p wk1 []) : Calls Try.prog 15 #[.pointer (some ⟨p, 0, none⟩), .string ⟨#[97]⟩, .int .i64 3, .int .i64 2] v fun e v' => e = .returned (.int .i64 0) ∧ Here w v' p wk2 [] := by
  have := h.put (by decide) wk1_in [97] 3 2 (by unfold i64; omega)
  rw [wk2_eq] at this; exact this
theorem wk_put3 {w v : World} {p : Nat} (h : Here w v p wk2 []) : Calls Try.prog 15 #[.pointer (some ⟨p, 0, none⟩), .string ⟨#[98]⟩, .int .i64 10, .int .i64 1] v fun e v' => e = .returned (.int .i64 0) ∧ Here w v' p wk3 [] := by
  have := h.put (by decide) wk2_in [98] 10 1 (by unfold i64; omega)
  rw [wk3_eq] at this; exact this
theorem wk_get {w v : World} {p : Nat} (h : Here w v p wk3 []) : Calls Try.prog 16 #[.pointer (some ⟨p, 0, none⟩), .string ⟨#[98]⟩, .int .i64 10] v fun e v' => ∃ b2 b3 b4 b5 b6 b7, e = .returned (.tuple #[.agg #[.int .i64 2, .int .i64 6, .int .i64 b2, .int .i64 b3, .int .i64 b4, .int .i64 b5, .int .i64 b6, .int .i64 b7], .bool true]) ∧ Here w v' p wk3 [] := by
  have := h.get (okc (k := [98]) (s := 10) (by decide) (by decide) (by decide))
  rw [wk3_look] at this
  refine this.mono ?_
  rintro e v' ⟨h1, h2⟩
  refine ⟨wb.mn, wb.mx, wb.h0, wb.h1, wb.h2, wb.h3, ?_, h2⟩
  rw [h1, ← wb_sum, ← wb_count]
  rfl
theorem wk_taken {w v : World} {p : Nat} {F : Nat → Prop} (h : HereF w v p F wk3 []) : Calls Try.prog 35 #[.pointer (some ⟨p, 0, none⟩), .int .i64 15] v fun e v' => ∃ g c l, e = .returned (.slice (some ⟨g, 0, none⟩) 1 c) ∧ v'.cell? ⟨g, 0, none⟩ = some (.string ⟨#[97]⟩) ∧ l.length = 1 ∧ Here w v' p l [] ∧ Moved F v v' := by
  have := h.taken (by decide) 15
  rw [wk3_take] at this
  refine this.mono ?_
  rintro e v' ⟨a, c, h1, h2, h3⟩
  obtain ⟨g, hg, hc, _⟩ := held_at (h2.rows _ List.mem_cons_self).1 (j := 0) rfl
  cases hg
  exact ⟨g, c, _, h1, hc 0 _ rfl, rfl, Here.drop ⟨F, h2⟩ (fun _ h => by cases h), h3⟩
theorem wk_len {w v : World} {p : Nat} {l : List (Win AggV)} (h : Here w v p l []) (hl : l.length = 1) : Calls Try.prog 36 #[.pointer (some ⟨p, 0, none⟩)] v fun e v' => e = .returned (.int .i64 1) ∧ v' = v := by
  have := h.len
  rw [hl] at this; exact this
set_option maxRecDepth 100000 in
set_option maxHeartbeats 4000000 in
theorem wakes_any (w : World) : Calls Try.prog 10 #[] w fun e w' => e = .returned (.bool true) ∧ Below w.heap.size w w' := by
  go_enter Try.func10, Try.ntmps10
  have hw0 := Here.new (Below.refl w.heap.size w) (R := []) (fun _ h => by cases h)
  go_upto_region 2 with (first | (go_at_call 11; refine hw0.mono ?_; rintro e v1 ⟨rfl, HERE⟩; clear hw0; generalize w.heap.size = p0 at HERE ⊢; replace HERE := hide HERE))
  go_upto_region 3 with (first | (go_at_call 15; refine (wk_put1 (unhide HERE)).mono ?_; rintro e v2 ⟨rfl, HE⟩; clear HERE; have HERE := hide HE; clear HE))
  go_upto_region 4 with (first | (go_at_call 15; refine (wk_put2 (unhide HERE)).mono ?_; rintro e v3 ⟨rfl, HE⟩; clear HERE; have HERE := hide HE; clear HE))
  go_upto_region 5 with (first | (go_at_call 15; refine (wk_put3 (unhide HERE)).mono ?_; rintro e v4 ⟨rfl, HE⟩; clear HERE; have HERE := hide HE; clear HE))
  refine (?goal : _)
  case goal =>
    go_upto_region 6 with (first | (go_at_call 16; refine (wk_get (unhide HERE)).mono ?_; rintro e v5 ⟨b2, b3, b4, b5, b6, b7, rfl, HE⟩; clear HERE; have HERE := hide HE; clear HE; obtain ⟨v6, hu, hrow, hmf, hth⟩ := keep_row v5 34 [.int .i64 0, .int .i64 0, .int .i64 0, .int .i64 0, .int .i64 0, .int .i64 0, .int .i64 0, .int .i64 0] [.int .i64 2, .int .i64 6, .int .i64 b2, .int .i64 b3, .int .i64 b4, .int .i64 b5, .int .i64 b6, .int .i64 b7] rfl; have U := hide hu; have T := hide hth; have HB := hide hmf; have RW := hide hrow; clear hu hth hmf hrow) | (refine wpList_store_mid rfl 34 (.tmp 2) (.tmp 15) rfl v5.heap.size 0 #[.int .i64 2, .int .i64 6, .int .i64 b2, .int .i64 b3, .int .i64 b4, .int .i64 b5, .int .i64 b6, .int .i64 b7] rfl rfl (unhide T) (by kernel_rfl) (by simp [Value.oneCell']) ?_; change wpList _ _ _ _ _ (World.setCells _ v5.heap.size 0 [.int .i64 2, .int .i64 6, .int .i64 b2, .int .i64 b3, .int .i64 b4, .int .i64 b5, .int .i64 b6, .int .i64 b7]); rw [unhide U]))
    obtain ⟨F, h5⟩ := unhide HERE
    have hq : ¬ F v5.heap.size := fun f => Nat.lt_irrefl _ (h5.st.lt _ f)
    have h6 : HereF w v6 p0 F wk3 [] := h5.below ((unhide HB).below (fun _ f => f.elim) (Nat.le_refl _))
    have HQ := hide hq
    have H6 := hide h6
    generalize v5.heap.size = q at *
    clear HERE h5 hq h6 T U HB
    go_upto_region 7 with (first | (go_at_call 35; refine (wk_taken (unhide H6)).mono ?_; rintro e v7 ⟨g, c, l7, rfl, hg, hl, he, hm⟩; have HL := hide hl; have HE := hide he; have R7 := hide ((unhide RW).keep hm (unhide HQ)); clear hl he hm))
    have c0 : v7.cell? ⟨q, 0, none⟩ = some (.int .i64 2) := (unhide R7).cell 0 (Nat.succ_pos _)
    have c1 : v7.cell? ⟨q, 1, none⟩ = some (.int .i64 6) := (unhide R7).cell 1 (Nat.lt_of_sub_pos (Nat.succ_pos _))
    have hlen := hide (wk_len (unhide HE) (unhide HL))
    go_wp2_with (first | (go_at_call 36; refine (unhide hlen).mono ?_; rintro e v8 ⟨rfl, hw⟩; rw [hw]))
    go_ret
    exact ⟨rfl, (unhide HE).bel⟩
end Go.Proofs.Ytmgmkdkdpeljmaa

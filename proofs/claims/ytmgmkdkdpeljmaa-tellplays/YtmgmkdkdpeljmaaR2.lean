/- A store that a law made itself, beside rows of windows that the law holds: what its calls do to both. No conditions. -/
import Derived.Test.YtmgmkdkdpeljmaaWith
import Derived.Test.YtmgmkdkdpeljmaaFind
import Derived.ProofKit
import Derived.OpenShut
import Derived.ChangeSlices
import Derived.Test.YtmgmkdkdpeljmaaR1
import Derived.Deep.Fields
import Derived.Test.YtmgmkdkdpeljmaaEq
namespace Go.Proofs.Ytmgmkdkdpeljmaa
open Go.RowKit
/-- A row of windows in hand: where, room, which. -/
abbrev Held := Option Addr × Nat × List (Win AggV)
def Held.is (w0 v : World) (r : Held) : Prop := OutK.Row v w0.heap.size r.1 r.2.1 r.2.2
def Held.at (r : Held) (k : Nat) : Prop := (Value.slice r.1 r.2.2.length r.2.1).ownBlock = some k
structure HereF (w0 v : World) (p : Nat) (F : Nat → Prop) (l : List (Win AggV)) (R : List Held) : Prop where
  st : StIs v p F l
  big : ∀ k, F k → w0.heap.size ≤ k
  bel : Below w0.heap.size w0 v
  rows : ∀ r ∈ R, r.is w0 v ∧ ∀ k, r.at k → ¬ F k
def Here (w0 v : World) (p : Nat) (l : List (Win AggV)) (R : List Held) : Prop := ∃ F, HereF w0 v p F l R
theorem below_of_moved {w0 v v' : World} {F : Nat → Prop} (h : Below w0.heap.size w0 v) (big : ∀ k, F k → w0.heap.size ≤ k) (m : Moved F v v') : Below w0.heap.size w0 v' :=
  ((Moved.of_below (F := F) h).trans m (fun _ hi => .inl hi)).below big (Nat.le_refl _)
theorem HereF.step {w0 v v' : World} {p : Nat} {F F' : Nat → Prop} {l l' : List (Win AggV)} {R : List Held} (h : HereF w0 v p F l R) (hs : StIs v' p F' l') (hf : ∀ k, F' k → F k ∨ v.heap.size ≤ k) (m : Moved F v v') : HereF w0 v' p F' l' R := by
  refine ⟨hs, fun k hk => (hf k hk).elim (h.big k) (fun e => Nat.le_trans h.bel.size e), below_of_moved h.bel h.big m, fun r hr => ?_⟩
  obtain ⟨h1, h2⟩ := h.rows r hr
  refine ⟨row_moved h1 m (fun i hi k hk e => h2 k hk (e ▸ hi)), fun k hk f => ?_⟩
  rcases hf k f with f | f
  · exact h2 k hk f
  · have := (row_lt h1 k hk).2; omega
theorem HereF.did {w0 v v' : World} {p : Nat} {F : Nat → Prop} {l l' : List (Win AggV)} {R : List Held} (h : HereF w0 v p F l R) (hd : Did v v' p F l') : Here w0 v' p l' R := by
  obtain ⟨F', h1, h2, h3⟩ := hd
  exact ⟨F', h.step h1 h2 h3⟩
theorem HereF.below {w0 v v' : World} {p : Nat} {F : Nat → Prop} {l : List (Win AggV)} {R : List Held} (h : HereF w0 v p F l R) (hb : Below v.heap.size v v') : HereF w0 v' p F l R :=
  h.step (h.st.keep (Moved.of_below (F := fun _ => False) hb) (fun _ f => f.elim)) (fun _ f => .inl f) (Moved.of_below hb)
theorem Here.below {w0 v v' : World} {p : Nat} {l : List (Win AggV)} {R : List Held} (h : Here w0 v p l R) (hb : Below v.heap.size v v') : Here w0 v' p l R := by
  obtain ⟨F, h⟩ := h; exact ⟨F, h.below hb⟩
theorem Here.bel {w0 v : World} {p : Nat} {l : List (Win AggV)} {R : List Held} (h : Here w0 v p l R) : Below w0.heap.size w0 v := by obtain ⟨F, h⟩ := h; exact h.bel
theorem Here.fine {w0 v : World} {p : Nat} {l : List (Win AggV)} {R : List Held} (h : Here w0 v p l R) : Fine l := by obtain ⟨F, h⟩ := h; exact h.st.fine
theorem Here.row {w0 v : World} {p : Nat} {l : List (Win AggV)} {R : List Held} (h : Here w0 v p l R) {r : Held} (hr : r ∈ R) : r.is w0 v := by obtain ⟨F, h⟩ := h; exact (h.rows r hr).1
/-- A new row joins. -/
theorem HereF.take {w0 v v' : World} {p : Nat} {F F' : Nat → Prop} {l l' : List (Win AggV)} {R : List Held} {a : Option Addr} {c : Nat} {xs : List (Win AggV)} (h : HereF w0 v p F l R) (hs : StIs v' p F' l') (hf : ∀ k, F' k → F k) (m : Moved F v v') (hx : OutK.Row v' v.heap.size a c xs) : HereF w0 v' p F' l' ((a, c, xs) :: R) := by
  have h' := h.step hs (fun k hk => .inl (hf k hk)) m
  refine ⟨h'.st, h'.big, h'.bel, fun r hr => ?_⟩
  rcases List.mem_cons.1 hr with rfl | hr
  · refine ⟨row_mono hx h.bel.size, fun k hk f => ?_⟩
    have := h.st.lt k (hf k f)
    have := (row_lt hx k hk).1
    omega
  · exact h'.rows r hr
theorem Here.new {w0 v : World} (hb : Below w0.heap.size w0 v) {R : List Held} (hR : ∀ r ∈ R, r.is w0 v) : Calls Try.prog 11 #[] v fun e v' => e = .returned (.pointer (some ⟨v.heap.size, 0, none⟩)) ∧ Here w0 v' v.heap.size [] R :=
  (new_any v).mono fun e v' ⟨h1, h2, h3⟩ => by
    refine ⟨h1, foot v.heap.size none, h3, fun k hk => ?_, hb.trans (h2.mono hb.size), fun r hr => ⟨row_below (hR r hr) h2, fun k hk f => ?_⟩⟩
    · rcases hk with rfl | hk
      · exact hb.size
      · cases hk
    · have := (row_lt (hR r hr) k hk).2
      rcases f with rfl | f
      · omega
      · cases f
theorem Here.put {w0 v : World} {p : Nat} {l : List (Win AggV)} {R : List Held} (h : Here w0 v p l R) (hl : l.length ≤ 32) (hIn : ∀ a ∈ l, a.agg.In) (k : List UInt8) (at_ n : Int) (hn : i64 n) :
    Calls Try.prog 15 #[.pointer (some ⟨p, 0, none⟩), .string ⟨k.toArray⟩, .int .i64 at_, .int .i64 n] v fun e v' => e = .returned (.int .i64 ((putS SO l k at_ n).2 : Int)) ∧ Here w0 v' p (putS SO l k at_ n).1 R := by
  obtain ⟨F, h⟩ := h
  exact (sput_any h.st hl hIn k at_ n hn).mono fun e v' ⟨h1, h2⟩ => ⟨h1, h.did h2⟩
theorem Here.set {w0 v : World} {p : Nat} {l : List (Win AggV)} {R : List Held} (h : Here w0 v p l R) (hl : l.length ≤ 32) (x : Win AggV) (hx : x.agg.In) (hk : okk x.key x.start) :
    Calls Try.prog 37 #[.pointer (some ⟨p, 0, none⟩), .agg (outV x).toArray] v fun e v' => e = .returned (.int .i64 ((setS SO l x).2 : Int)) ∧ Here w0 v' p (setS SO l x).1 R := by
  obtain ⟨F, h⟩ := h
  exact (set_any h.st hl x hx hk).mono fun e v' ⟨h1, h2⟩ => ⟨h1, h.did h2⟩
theorem Here.get {w0 v : World} {p : Nat} {l : List (Win AggV)} {R : List Held} (h : Here w0 v p l R) {k : List UInt8} {s : Int} (hk : okk k s) :
    Calls Try.prog 16 #[.pointer (some ⟨p, 0, none⟩), .string ⟨k.toArray⟩, .int .i64 s] v fun e v' => e = .returned (.tuple #[aggV ((look l k s).getD zero), .bool (look l k s).isSome]) ∧ Here w0 v' p l R := by
  obtain ⟨F, h⟩ := h
  exact (get_any h.st hk).mono fun e v' ⟨h1, h2⟩ => ⟨h1, F, h.below h2⟩
theorem Here.taken {w0 v : World} {p : Nat} {l : List (Win AggV)} {R : List Held} (h : Here w0 v p l R) (hl : l.length ≤ 1000) (m : Int) :
    Calls Try.prog 35 #[.pointer (some ⟨p, 0, none⟩), .int .i64 m] v fun e v' => ∃ a c, e = .returned (.slice a (takeS SO l m).2.length c) ∧ Here w0 v' p (takeS SO l m).1 ((a, c, (takeS SO l m).2) :: R) := by
  obtain ⟨F, h⟩ := h
  exact (take_any h.st hl m).mono fun e v' ⟨a, c, h1, h2, h3, h4⟩ => ⟨a, c, h1, F, h.take h3 (fun _ f => f) h4 h2⟩
theorem HereF.taken {w0 v : World} {p : Nat} {F : Nat → Prop} {l : List (Win AggV)} {R : List Held} (h : HereF w0 v p F l R) (hl : l.length ≤ 1000) (m : Int) :
    Calls Try.prog 35 #[.pointer (some ⟨p, 0, none⟩), .int .i64 m] v fun e v' => ∃ a c, e = .returned (.slice a (takeS SO l m).2.length c) ∧ HereF w0 v' p F (takeS SO l m).1 ((a, c, (takeS SO l m).2) :: R) ∧ Moved F v v' :=
  (take_any h.st hl m).mono fun _ _ ⟨a, c, h1, h2, h3, h4⟩ => ⟨a, c, h1, h.take h3 (fun _ f => f) h4 h2, h4⟩
theorem Here.all {w0 v : World} {p : Nat} {l : List (Win AggV)} {R : List Held} (h : Here w0 v p l R) (hl : l.length ≤ 1000) :
    Calls Try.prog 14 #[.pointer (some ⟨p, 0, none⟩)] v fun e v' => ∃ a c, e = .returned (.slice a l.length c) ∧ Here w0 v' p l ((a, c, l) :: R) := by
  obtain ⟨F, h⟩ := h
  exact (all_any h.st hl).mono fun e v' ⟨a, c, h1, h2, h3⟩ => ⟨a, c, h1, F, h.take (h.below h3).st (fun _ f => f) (Moved.of_below h3) h2⟩
theorem Here.len {w0 v : World} {p : Nat} {l : List (Win AggV)} {R : List Held} (h : Here w0 v p l R) :
    Calls Try.prog 36 #[.pointer (some ⟨p, 0, none⟩)] v fun e v' => e = .returned (.int .i64 (l.length : Int)) ∧ v' = v := by
  obtain ⟨F, h⟩ := h
  exact len_any h.st
theorem Here.drop {w0 v : World} {p : Nat} {l : List (Win AggV)} {R R' : List Held} (h : Here w0 v p l R) (hR : ∀ r ∈ R', r ∈ R) : Here w0 v p l R' := by
  obtain ⟨F, h⟩ := h; exact ⟨F, h.st, h.big, h.bel, fun r hr => h.rows r (hR r hr)⟩
/-- The cells of a held row's entry. -/
theorem held_at {w0 v : World} {r : Held} (h : r.is w0 v) {j : Nat} {x : Win AggV} (hx : r.2.2[j]? = some x) : ∃ g, r.1 = some ⟨g, 0, none⟩ ∧ v.rangeAt g (j * 10) (outV x) ∧ g < v.heap.size := by
  obtain ⟨a, c, l⟩ := r
  have h' : OutK.Row v w0.heap.size a c l := h
  obtain ⟨g, rfl⟩ : ∃ g, a = some ⟨g, 0, none⟩ := by
    rcases h'.2 with ⟨_, h0⟩ | ⟨g, cap, cur, hv, _⟩
    · rw [List.length_eq_zero_iff.1 h0] at hx; cases hx
    · simp only [Value.slice.injEq] at hv; exact ⟨g, hv.1⟩
  refine ⟨g, rfl, ?_, ?_⟩
  · have := lies_at outK_law (row_lies h') hx
    rw [Nat.zero_add] at this; exact this
  · exact (row_lt h' g rfl).2
end Go.Proofs.Ytmgmkdkdpeljmaa

namespace Go.Proofs.Ytmgmkdkdpeljmaa
open Go.RowKit
def wb : AggV := put (put zero 5) 1
def wk1 : List (Win AggV) := [⟨[98], 10, put zero 5⟩]
def wk2 : List (Win AggV) := [⟨[97], 0, put zero 2⟩, ⟨[98], 10, put zero 5⟩]
def wk3 : List (Win AggV) := [⟨[97], 0, put zero 2⟩, ⟨[98], 10, wb⟩]
theorem wk1_eq : putS SO [] [98] 12 5 = (wk1, 0) := by kernel_rfl
theorem wk2_eq : putS SO wk1 [97] 3 2 = (wk2, 0) := by kernel_rfl
theorem wk3_eq : putS SO wk2 [98] 10 1 = (wk3, 0) := by kernel_rfl
theorem wk3_look : look wk3 [98] 10 = some wb := by kernel_rfl
theorem wk3_take : takeS SO wk3 15 = ([⟨[98], 10, wb⟩], [⟨[97], 0, put zero 2⟩]) := by kernel_rfl
theorem wb_sum : wb.sum = 6 := by kernel_rfl
theorem wb_count : wb.count = 2 := by kernel_rfl
instance (x : Int) : Decidable (i64 x) := by unfold i64; infer_instance
instance (a : AggV) : Decidable a.In := decidable_of_iff (i64 a.count ∧ i64 a.sum ∧ i64 a.mn ∧ i64 a.mx ∧ i64 a.h0 ∧ i64 a.h1 ∧ i64 a.h2 ∧ i64 a.h3) ⟨fun ⟨a, b, c, d, e, f, g, h⟩ => ⟨a, b, c, d, e, f, g, h⟩, fun ⟨a, b, c, d, e, f, g, h⟩ => ⟨a, b, c, d, e, f, g, h⟩⟩
theorem wk1_in : ∀ a ∈ wk1, a.agg.In := by decide +kernel
theorem wk2_in : ∀ a ∈ wk2, a.agg.In := by decide +kernel
theorem okc {k : List UInt8} {s : Int} (hk : k.length ≤ 1000) (h0 : 0 ≤ s) (h1 : s ≤ 1099511627776) : okk k s := ⟨by simp [maxLen]; omega, by unfold i64; omega⟩
theorem wk_put1 {w v : World} {p : Nat} (h : Here w v p [] []) : Calls Try.prog 15 #[.pointer (some ⟨p, 0, none⟩), .string ⟨#[98]⟩, .int .i64 12, .int .i64 5] v fun e v' => e = .returned (.int .i64 0) ∧ Here w v' p wk1 [] := by
  have := h.put (Nat.zero_le _) (fun _ h => by cases h) [98] 12 5 (by unfold i64; omega)
  rw [wk1_eq] at this; exact this
theorem wk_put2 {w v : World} {p : Nat} (h : Here w v p wk1 []) : Calls Try.prog 15 #[.pointer (some ⟨p, 0, none⟩), .string ⟨#[97]⟩, .int .i64 3, .int .i64 2] v fun e v' => e = .returned (.int .i64 0) ∧ Here w v' p wk2 [] := by
  have := h.put (by decide) wk1_in [97] 3 2 (by unfold i64; omega)
  rw [wk2_eq] at this; exact this
theorem wk_put3 {w v : World} {p : Nat} (h : Here w v p wk2 []) : Calls Try.prog 15 #[.pointer (some ⟨p, 0, none⟩), .string ⟨#[98]⟩, .int .i64 10, .int .i64 1] v fun e v' => e = .returned (.int .i64 0) ∧ Here w v' p wk3 [] := by
  have := h.put (by decide) wk2_in [98] 10 1 (by unfold i64; omega)
  rw [wk3_eq] at this; exact this
theorem wk_get {w v : World} {p : Nat} (h : Here w v p wk3 []) : Calls Try.prog 16 #[.pointer (some ⟨p, 0, none⟩), .string ⟨#[98]⟩, .int .i64 10] v fun e v' => ∃ b2 b3 b4 b5 b6 b7, e = .returned (.tuple #[.agg #[.int .i64 2, .int .i64 6, .int .i64 b2, .int .i64 b3, .int .i64 b4, .int .i64 b5, .int .i64 b6, .int .i64 b7], .bool true]) ∧ Here w v' p wk3 [] := by
  have := h.get (okc (k := [98]) (s := 10) (by decide) (by decide) (by decide))
  rw [wk3_look] at this
  refine this.mono ?_
  rintro e v' ⟨h1, h2⟩
  refine ⟨wb.mn, wb.mx, wb.h0, wb.h1, wb.h2, wb.h3, ?_, h2⟩
  rw [h1, ← wb_sum, ← wb_count]
  rfl
theorem wk_taken {w v : World} {p : Nat} {F : Nat → Prop} (h : HereF w v p F wk3 []) : Calls Try.prog 35 #[.pointer (some ⟨p, 0, none⟩), .int .i64 15] v fun e v' => ∃ g c l, e = .returned (.slice (some ⟨g, 0, none⟩) 1 c) ∧ v'.cell? ⟨g, 0, none⟩ = some (.string ⟨#[97]⟩) ∧ l.length = 1 ∧ Here w v' p l [] ∧ Moved F v v' := by
  have := h.taken (by decide) 15
  rw [wk3_take] at this
  refine this.mono ?_
  rintro e v' ⟨a, c, h1, h2, h3⟩
  obtain ⟨g, hg, hc, _⟩ := held_at (h2.rows _ List.mem_cons_self).1 (j := 0) rfl
  cases hg
  exact ⟨g, c, _, h1, hc 0 _ rfl, rfl, Here.drop ⟨F, h2⟩ (fun _ h => by cases h), h3⟩
theorem wk_len {w v : World} {p : Nat} {l : List (Win AggV)} (h : Here w v p l []) (hl : l.length = 1) : Calls Try.prog 36 #[.pointer (some ⟨p, 0, none⟩)] v fun e v' => e = .returned (.int .i64 1) ∧ v' = v := by
  have := h.len
  rw [hl] at this; exact this
set_option maxRecDepth 100000 in
set_option maxHeartbeats 4000000 in
theorem wakes_any (w : World) : Calls Try.prog 10 #[] w fun e w' => e = .returned (.bool true) ∧ Below w.heap.size w w' := by
  go_enter Try.func10, Try.ntmps10
  have hw0 := Here.new (Below.refl w.heap.size w) (R := []) (fun _ h => by cases h)
  go_upto_region 2 with (first | (go_at_call 11; refine hw0.mono ?_; rintro e v1 ⟨rfl, HERE⟩; clear hw0; generalize w.heap.size = p0 at HERE ⊢; replace HERE := hide HERE))
  go_upto_region 3 with (first | (go_at_call 15; refine (wk_put1 (unhide HERE)).mono ?_; rintro e v2 ⟨rfl, HE⟩; clear HERE; have HERE := hide HE; clear HE))
  go_upto_region 4 with (first | (go_at_call 15; refine (wk_put2 (unhide HERE)).mono ?_; rintro e v3 ⟨rfl, HE⟩; clear HERE; have HERE := hide HE; clear HE))
  go_upto_region 5 with (first | (go_at_call 15; refine (wk_put3 (unhide HERE)).mono ?_; rintro e v4 ⟨rfl, HE⟩; clear HERE; have HERE := hide HE; clear HE))
  refine (?goal : _)
  case goal =>
    go_upto_region 6 with (first | (go_at_call 16; refine (wk_get (unhide HERE)).mono ?_; rintro e v5 ⟨b2, b3, b4, b5, b6, b7, rfl, HE⟩; clear HERE; have HERE := hide HE; clear HE; obtain ⟨v6, hu, hrow, hmf, hth⟩ := keep_row v5 34 [.int .i64 0, .int .i64 0, .int .i64 0, .int .i64 0, .int .i64 0, .int .i64 0, .int .i64 0, .int .i64 0] [.int .i64 2, .int .i64 6, .int .i64 b2, .int .i64 b3, .int .i64 b4, .int .i64 b5, .int .i64 b6, .int .i64 b7] rfl; have U := hide hu; have T := hide hth; have HB := hide hmf; have RW := hide hrow; clear hu hth hmf hrow) | (refine wpList_store_mid rfl 34 (.tmp 2) (.tmp 15) rfl v5.heap.size 0 #[.int .i64 2, .int .i64 6, .int .i64 b2, .int .i64 b3, .int .i64 b4, .int .i64 b5, .int .i64 b6, .int .i64 b7] rfl rfl (unhide T) (by kernel_rfl) (by simp [Value.oneCell']) ?_; change wpList _ _ _ _ _ (World.setCells _ v5.heap.size 0 [.int .i64 2, .int .i64 6, .int .i64 b2, .int .i64 b3, .int .i64 b4, .int .i64 b5, .int .i64 b6, .int .i64 b7]); rw [unhide U]))
    obtain ⟨F, h5⟩ := unhide HERE
    have hq : ¬ F v5.heap.size := fun f => Nat.lt_irrefl _ (h5.st.lt _ f)
    have h6 : HereF w v6 p0 F wk3 [] := h5.below ((unhide HB).below (fun _ f => f.elim) (Nat.le_refl _))
    have HQ := hide hq
    have H6 := hide h6
    generalize v5.heap.size = q at *
    clear HERE h5 hq h6 T U HB
    go_upto_region 7 with (first | (go_at_call 35; refine (wk_taken (unhide H6)).mono ?_; rintro e v7 ⟨g, c, l7, rfl, hg, hl, he, hm⟩; have HL := hide hl; have HE := hide he; have R7 := hide ((unhide RW).keep hm (unhide HQ)); clear hl he hm))
    have c0 : v7.cell? ⟨q, 0, none⟩ = some (.int .i64 2) := (unhide R7).cell 0 (Nat.succ_pos _)
    have c1 : v7.cell? ⟨q, 1, none⟩ = some (.int .i64 6) := (unhide R7).cell 1 (Nat.lt_of_sub_pos (Nat.succ_pos _))
    have hlen := hide (wk_len (unhide HE) (unhide HL))
    go_wp2_with (first | (go_at_call 36; refine (unhide hlen).mono ?_; rintro e v8 ⟨rfl, hw⟩; rw [hw]))
    go_ret
    exact ⟨rfl, (unhide HE).bel⟩
end Go.Proofs.Ytmgmkdkdpeljmaa

namespace Go.Proofs.Ytmgmkdkdpeljmaa
open Go.RowKit Go.ChangeShapes Go.WideShapes

theorem mcells2 : Try.prog.cellsOf 2 = 1 := by kernel_rfl
theorem mcells22 : Try.prog.cellsOf 32 = 4 := by kernel_rfl
theorem mcells24 : Try.prog.cellsOf 34 = 8 := by kernel_rfl
set_option maxRecDepth 100000 in
theorem hist_in {H : Type} {enc : TypeId × Value → H} {w : World} {base : Nat} {spare : Nat → Bool} {held : Bool} {fuel : Nat} {cs : List Value} {x : DataW H × List MemPlace} (h : DataW.trod enc Try.prog w base spare held fuel 32 cs = some x) :
    ∃ h0 h1 h2 h3 : Int, i64 h0 ∧ i64 h1 ∧ i64 h2 ∧ i64 h3 ∧ cs = [.int .i64 h0, .int .i64 h1, .int .i64 h2, .int .i64 h3] := by
  obtain ⟨xs, n, rfl, rfl, hl, hxl, hf⟩ := DataW.trod_array Try.underlying32 h
  rw [mcells22] at hl
  rw [mcells2] at hf
  match cs, hl, xs, hxl with
  | [v0, v1, v2, v3], _, [y0, y1, y2, y3], _ =>
    have k0 : DataW.trod enc Try.prog w base spare held n 2 [v0] = some y0 := hf 0 (by omega)
    have k1 : DataW.trod enc Try.prog w base spare held n 2 [v1] = some y1 := hf 1 (by omega)
    have k2 : DataW.trod enc Try.prog w base spare held n 2 [v2] = some y2 := hf 2 (by omega)
    have k3 : DataW.trod enc Try.prog w base spare held n 2 [v3] = some y3 := hf 3 (by omega)
    obtain ⟨x0, e0, _, w0⟩ := DataW.trod_int Try.underlying2 k0
    obtain ⟨x1, e1, _, w1⟩ := DataW.trod_int Try.underlying2 k1
    obtain ⟨x2, e2, _, w2⟩ := DataW.trod_int Try.underlying2 k2
    obtain ⟨x3, e3, _, w3⟩ := DataW.trod_int Try.underlying2 k3
    simp only [List.cons.injEq, and_true] at e0 e1 e2 e3
    refine ⟨x0, x1, x2, x3, ?_, ?_, ?_, ?_, by rw [e0, e1, e2, e3]⟩
    · have := bounds_i64 w0; unfold i64; omega
    · have := bounds_i64 w1; unfold i64; omega
    · have := bounds_i64 w2; unfold i64; omega
    · have := bounds_i64 w3; unfold i64; omega
set_option maxRecDepth 100000 in
theorem agg_in {H : Type} {enc : TypeId × Value → H} {w : World} {base : Nat} {spare : Nat → Bool} {held : Bool} {fuel : Nat} {cs : List Value} {x : DataW H × List MemPlace} (h : DataW.trod enc Try.prog w base spare held fuel 34 cs = some x) :
    ∃ a : AggV, a.In ∧ cs = cellsA a := by
  obtain ⟨xs, n, rfl, rfl, hl, hxl, hf⟩ := DataW.trod_struct Try.underlying34 h
  rw [mcells24] at hl
  match cs, hl, xs, hxl with
  | [v0, v1, v2, v3, v4, v5, v6, v7], _, [y0, y1, y2, y3, y4], _ =>
    have g0 : DataW.trod enc Try.prog w base spare held n 2 (List.take (Try.prog.cellsOf 2) (List.drop 0 [v0, v1, v2, v3, v4, v5, v6, v7])) = some y0 := hf 0 _ rfl
    have g1 : DataW.trod enc Try.prog w base spare held n 2 (List.take (Try.prog.cellsOf 2) (List.drop 1 [v0, v1, v2, v3, v4, v5, v6, v7])) = some y1 := hf 1 _ rfl
    have g2 : DataW.trod enc Try.prog w base spare held n 2 (List.take (Try.prog.cellsOf 2) (List.drop 2 [v0, v1, v2, v3, v4, v5, v6, v7])) = some y2 := hf 2 _ rfl
    have g3 : DataW.trod enc Try.prog w base spare held n 2 (List.take (Try.prog.cellsOf 2) (List.drop 3 [v0, v1, v2, v3, v4, v5, v6, v7])) = some y3 := hf 3 _ rfl
    have g4 : DataW.trod enc Try.prog w base spare held n 32 (List.take (Try.prog.cellsOf 32) (List.drop 4 [v0, v1, v2, v3, v4, v5, v6, v7])) = some y4 := hf 4 _ rfl
    rw [mcells2] at g0 g1 g2 g3
    rw [mcells22] at g4
    have k0 : DataW.trod enc Try.prog w base spare held n 2 [v0] = some y0 := g0
    have k1 : DataW.trod enc Try.prog w base spare held n 2 [v1] = some y1 := g1
    have k2 : DataW.trod enc Try.prog w base spare held n 2 [v2] = some y2 := g2
    have k3 : DataW.trod enc Try.prog w base spare held n 2 [v3] = some y3 := g3
    have k4 : DataW.trod enc Try.prog w base spare held n 32 [v4, v5, v6, v7] = some y4 := g4
    obtain ⟨x0, e0, _, w0⟩ := DataW.trod_int Try.underlying2 k0
    obtain ⟨x1, e1, _, w1⟩ := DataW.trod_int Try.underlying2 k1
    obtain ⟨x2, e2, _, w2⟩ := DataW.trod_int Try.underlying2 k2
    obtain ⟨x3, e3, _, w3⟩ := DataW.trod_int Try.underlying2 k3
    obtain ⟨h0, h1, h2, h3, i0, i1, i2, i3, e4⟩ := hist_in k4
    simp only [List.cons.injEq, and_true] at e0 e1 e2 e3 e4
    obtain ⟨p0, p1, p2, p3⟩ := e4
    refine ⟨⟨x0, x1, x2, x3, h0, h1, h2, h3⟩, ⟨?_, ?_, ?_, ?_, i0, i1, i2, i3⟩, by rw [e0, e1, e2, e3, p0, p1, p2, p3]; rfl⟩
    · have := bounds_i64 w0; unfold i64; simp only; omega
    · have := bounds_i64 w1; unfold i64; simp only; omega
    · have := bounds_i64 w2; unfold i64; simp only; omega
    · have := bounds_i64 w3; unfold i64; simp only; omega
set_option maxRecDepth 100000 in
theorem agg_arg {H : Type} {enc : TypeId × Value → H} {w : World} {base : Nat} {spare : Nat → Bool} {held : Bool} {r : Reach} {b0 : Nat} {v : Value} {d : DataW H} {pl : List MemPlace} (hv : Value.okWide Try.prog w r b0 34 v) (h : DataW.Trod enc Try.prog w base spare held 34 v d pl) :
    ∃ a : AggV, a.In ∧ v = aggV a := by
  obtain ⟨cs, rfl, _⟩ := okWide_struct Try.underlying34 hv
  obtain ⟨fuel, hf⟩ := h
  obtain ⟨a, ha, hcs⟩ := agg_in hf
  refine ⟨a, ha, ?_⟩
  have : cs.toList = cellsA a := hcs
  unfold aggV
  rw [← this, Array.toArray_toList]
theorem mcells9 : Try.prog.cellsOf 9 = 1 := by kernel_rfl
theorem mcells38 : Try.prog.cellsOf 38 = 10 := by kernel_rfl
set_option maxRecDepth 100000 in
theorem out_in {H : Type} {enc : TypeId × Value → H} {w : World} {base : Nat} {spare : Nat → Bool} {held : Bool} {fuel : Nat} {cs : List Value} {x : DataW H × List MemPlace} (h : DataW.trod enc Try.prog w base spare held fuel 38 cs = some x) :
    ∃ a : Win AggV, a.agg.In ∧ i64 a.start ∧ a.key.length ≤ maxLen ∧ cs = outV a := by
  obtain ⟨xs, n, rfl, rfl, hl, hxl, hf⟩ := DataW.trod_struct Try.underlying38 h
  rw [mcells38] at hl
  match cs, hl, xs, hxl with
  | [v0, v1, v2, v3, v4, v5, v6, v7, v8, v9], _, [y0, y1, y2], _ =>
    have g0 : DataW.trod enc Try.prog w base spare held n 9 (List.take (Try.prog.cellsOf 9) (List.drop 0 [v0, v1, v2, v3, v4, v5, v6, v7, v8, v9])) = some y0 := hf 0 _ rfl
    have g1 : DataW.trod enc Try.prog w base spare held n 2 (List.take (Try.prog.cellsOf 2) (List.drop 1 [v0, v1, v2, v3, v4, v5, v6, v7, v8, v9])) = some y1 := hf 1 _ rfl
    have g2 : DataW.trod enc Try.prog w base spare held n 34 (List.take (Try.prog.cellsOf 34) (List.drop 2 [v0, v1, v2, v3, v4, v5, v6, v7, v8, v9])) = some y2 := hf 2 _ rfl
    rw [mcells9] at g0
    rw [mcells2] at g1
    rw [mcells24] at g2
    have k0 : DataW.trod enc Try.prog w base spare held n 9 [v0] = some y0 := g0
    have k1 : DataW.trod enc Try.prog w base spare held n 2 [v1] = some y1 := g1
    have k2 : DataW.trod enc Try.prog w base spare held n 34 [v2, v3, v4, v5, v6, v7, v8, v9] = some y2 := g2
    obtain ⟨s, e0, _, w0⟩ := DataW.trod_string Try.underlying9 k0
    obtain ⟨x1, e1, _, w1⟩ := DataW.trod_int Try.underlying2 k1
    obtain ⟨a, ha, e2⟩ := agg_in k2
    simp only [List.cons.injEq, and_true] at e0 e1
    refine ⟨⟨s.data.toList, x1, a⟩, ha, ?_, ?_, ?_⟩
    · have := bounds_i64 w1; unfold i64; simp only; omega
    · simp only [Array.length_toList]; exact w0
    · rw [e0, e1, e2]; rfl
set_option maxRecDepth 100000 in
theorem out_arg {H : Type} {enc : TypeId × Value → H} {w : World} {base : Nat} {spare : Nat → Bool} {held : Bool} {r : Reach} {b0 : Nat} {v : Value} {d : DataW H} {pl : List MemPlace} (hv : Value.okWide Try.prog w r b0 38 v) (h : DataW.Trod enc Try.prog w base spare held 38 v d pl) :
    ∃ a : Win AggV, a.agg.In ∧ i64 a.start ∧ a.key.length ≤ maxLen ∧ v = .agg (outV a).toArray := by
  obtain ⟨cs, rfl, _⟩ := okWide_struct Try.underlying38 hv
  obtain ⟨fuel, hf⟩ := h
  obtain ⟨a, ha, hs, hk, hcs⟩ := out_in hf
  refine ⟨a, ha, hs, hk, ?_⟩
  have : cs.toList = outV a := hcs
  rw [← this, Array.toArray_toList]
end Go.Proofs.Ytmgmkdkdpeljmaa

namespace Go.Proofs.Ytmgmkdkdpeljmaa
open Go.RowKit Go.ChangeShapes Go.WideShapes
abbrev ActZ := ActV AggV
structure ActZ.Ok (p : ActZ) : Prop where
  do_ : p.do_ < 256
  key : p.key.length ≤ maxLen
  at_ : i64 p.at_
  n : i64 p.n
  outk : p.out.key.length ≤ maxLen
  outs : i64 p.out.start
  outa : p.out.agg.In
def ActZ.none_ : ActZ := ⟨0, [], 0, 0, ⟨[], 0, zero⟩⟩
/-- Its cells at a place. -/
structure ActAt (w : World) (b o : Nat) (p : ActZ) : Prop where
  c0 : w.cell? ⟨b, o, none⟩ = some (.int .u8 (p.do_ : Int))
  c1 : w.cell? ⟨b, o + 1, none⟩ = some (.string ⟨p.key.toArray⟩)
  c2 : w.cell? ⟨b, o + 2, none⟩ = some (.int .i64 p.at_)
  c3 : w.cell? ⟨b, o + 3, none⟩ = some (.int .i64 p.n)
  out : w.rangeAt b (o + 4) (outV p.out)
/-- A slice of acts. -/
structure IsActs (w : World) (a : Option Addr) (len cap : Nat) (z : List ActZ) : Prop where
  size_ : z.length = len
  max : len ≤ maxLen
  at_ : ∀ k, k < len → ∃ b o, a = some ⟨b, o, none⟩ ∧ ActAt w b (o + k * 14) (z.getD k ActZ.none_) ∧ (z.getD k ActZ.none_).Ok ∧ b < w.heap.size
theorem cells75 : Try.prog.cellsOf 75 = 14 := by kernel_rfl
theorem cells5 : Try.prog.cellsOf 5 = 1 := by kernel_rfl
def actC (p : ActZ) : List Value := .int .u8 (p.do_ : Int) :: .string ⟨p.key.toArray⟩ :: .int .i64 p.at_ :: .int .i64 p.n :: outV p.out
theorem u8_in {x : Int} (h : (Lit.int .u8 x).wf = true) : 0 ≤ x ∧ x < 256 := by have := bounds_u8 h; omega
set_option maxRecDepth 100000 in
theorem act_of {H : Type} {enc : TypeId × Value → H} {w : World} {base : Nat} {spare : Nat → Bool} {held : Bool} {fuel : Nat} {cs : List Value} {x : DataW H × List MemPlace} (h : DataW.trod enc Try.prog w base spare held fuel 75 cs = some x) :
    ∃ p : ActZ, p.Ok ∧ cs = actC p := by
  obtain ⟨xs, n, rfl, rfl, hl, hxl, hf⟩ := DataW.trod_struct Try.underlying75 h
  rw [cells75] at hl
  match cs, hl, xs, hxl with
  | [v0, v1, v2, v3, v4, v5, v6, v7, v8, v9, v10, v11, v12, v13], _, [y0, y1, y2, y3, y4], _ =>
    have g0 : DataW.trod enc Try.prog w base spare held n 5 (List.take (Try.prog.cellsOf 5) (List.drop 0 [v0, v1, v2, v3, v4, v5, v6, v7, v8, v9, v10, v11, v12, v13])) = some y0 := hf 0 _ rfl
    have g1 : DataW.trod enc Try.prog w base spare held n 9 (List.take (Try.prog.cellsOf 9) (List.drop 1 [v0, v1, v2, v3, v4, v5, v6, v7, v8, v9, v10, v11, v12, v13])) = some y1 := hf 1 _ rfl
    have g2 : DataW.trod enc Try.prog w base spare held n 2 (List.take (Try.prog.cellsOf 2) (List.drop 2 [v0, v1, v2, v3, v4, v5, v6, v7, v8, v9, v10, v11, v12, v13])) = some y2 := hf 2 _ rfl
    have g3 : DataW.trod enc Try.prog w base spare held n 2 (List.take (Try.prog.cellsOf 2) (List.drop 3 [v0, v1, v2, v3, v4, v5, v6, v7, v8, v9, v10, v11, v12, v13])) = some y3 := hf 3 _ rfl
    have g4 : DataW.trod enc Try.prog w base spare held n 38 (List.take (Try.prog.cellsOf 38) (List.drop 4 [v0, v1, v2, v3, v4, v5, v6, v7, v8, v9, v10, v11, v12, v13])) = some y4 := hf 4 _ rfl
    rw [cells5] at g0
    rw [mcells9] at g1
    rw [mcells2] at g2 g3
    rw [mcells38] at g4
    obtain ⟨x0, e0, _, w0⟩ := DataW.trod_int Try.underlying5 (show DataW.trod enc Try.prog w base spare held n 5 [v0] = some y0 from g0)
    obtain ⟨x1, e1, _, w1⟩ := DataW.trod_string Try.underlying9 (show DataW.trod enc Try.prog w base spare held n 9 [v1] = some y1 from g1)
    obtain ⟨x2, e2, _, w2⟩ := DataW.trod_int Try.underlying2 (show DataW.trod enc Try.prog w base spare held n 2 [v2] = some y2 from g2)
    obtain ⟨x3, e3, _, w3⟩ := DataW.trod_int Try.underlying2 (show DataW.trod enc Try.prog w base spare held n 2 [v3] = some y3 from g3)
    obtain ⟨q, q0, q1, q2, e4⟩ := out_in (show DataW.trod enc Try.prog w base spare held n 38 [v4, v5, v6, v7, v8, v9, v10, v11, v12, v13] = some y4 from g4)
    simp only [List.cons.injEq, and_true] at e0 e1 e2 e3
    obtain ⟨b0, b0'⟩ := u8_in w0
    refine ⟨⟨x0.toNat, x1.data.toList, x2, x3, q⟩, ⟨by show x0.toNat < 256; omega, by simp only [Array.length_toList]; exact w1, by have := bounds_i64 w2; unfold i64; simp only; omega, by have := bounds_i64 w3; unfold i64; simp only; omega, q2, q1, q0⟩, ?_⟩
    rw [e0, e1, e2, e3, e4]
    show Value.int .u8 x0 :: _ = Value.int .u8 ((x0.toNat : Nat) : Int) :: _
    rw [show ((x0.toNat : Nat) : Int) = x0 by omega]
theorem acts_of {H : Type} {enc : TypeId × Value → H} {w : World} {base : Nat} {spare : Nat → Bool} {held : Bool} {a : Option Addr} {len cap : Nat} {d : DataW H} {pl : List MemPlace}
    (h : DataW.Trod enc Try.prog w base spare held 22 (.slice a len cap) d pl) : ∃ z : List ActZ, IsActs w a len cap z := by
  obtain ⟨fuel, hf⟩ := h
  rcases Go.Deep.open_slice Try.underlying22 hf with ⟨hcs, _⟩ | ⟨x, l, c, m, n, D, Pl, hcs, hb, hl, hm, hmm, _, hel⟩
  · simp [Value.cells] at hcs
    obtain ⟨rfl, rfl, rfl⟩ := hcs
    exact ⟨[], rfl, by unfold maxLen; omega, fun k hk => absurd hk (Nat.not_lt_zero _)⟩
  · simp [Value.cells] at hcs
    obtain ⟨rfl, rfl, rfl⟩ := hcs
    rw [cells75] at hel
    have hlm : len ≤ m := by rw [hmm]; split <;> omega
    have hp : ∀ k, k < len → ∃ p : ActZ, p.Ok ∧ (∃ b o, x = ⟨b, o, none⟩ ∧ ActAt w b (o + k * 14) p ∧ b < w.heap.size) := fun k hk => by
      obtain ⟨cs', h1, h2⟩ := hel k (by omega)
      obtain ⟨p, ok, rfl⟩ := act_of h2
      obtain ⟨_, _, hc⟩ := World.cells?_some h1
      obtain ⟨b, o, spot⟩ := x
      have hspot : spot = none := by
        obtain ⟨cs0, i1, i2⟩ := hel 0 (by omega)
        obtain ⟨p0, _, rfl⟩ := act_of i2
        obtain ⟨_, _, hc'⟩ := World.cells?_some i1
        have := World.cell?_spot (w := w) (hc' 0 (by omega))
        simpa [Addr.add] using this
      subst hspot
      have cell : ∀ j, j < 14 → w.cell? ⟨b, o + k * 14 + j, none⟩ = (actC p)[j]? := fun j hj => by
        have := hc j hj
        rwa [Go.Deep.add_add, Addr.add_lit, ← Nat.add_assoc] at this
      have k0 := cell 0 (by omega)
      refine ⟨p, ok, b, o, rfl, ⟨k0, cell 1 (by omega), cell 2 (by omega), cell 3 (by omega), fun j u hu => ?_⟩, World.block_lt_of_cell? _ _ k0⟩
      have hj : j < 10 := by have := (List.getElem?_eq_some_iff.1 hu).1; rw [show (outV p.out).length = 10 from rfl] at this; exact this
      have := cell (4 + j) (by omega)
      rw [show o + k * 14 + 4 + j = o + k * 14 + (4 + j) by omega, this, ← hu, Nat.add_comm 4 j]
      rfl
    have ih : Inhabited ActZ := ⟨ActZ.none_⟩
    obtain ⟨f, hf⟩ := Go.Deep.choose_lt (p := fun k p => ActZ.Ok p ∧ (∃ b o, x = ⟨b, o, none⟩ ∧ ActAt w b (o + k * 14) p ∧ b < w.heap.size)) hp
    refine ⟨(List.range len).map f, by simp, by omega, fun k hk => ?_⟩
    have e : ((List.range len).map f).getD k ActZ.none_ = f k := by simp [List.getD_eq_getElem?_getD, hk]
    rw [e]
    obtain ⟨ok, b, o, rfl, hat, hlt⟩ := hf k hk
    exact ⟨b, o, rfl, hat, ok, hlt⟩
theorem ActAt.keep {F : Nat → Prop} {w w' : World} {b o : Nat} {p : ActZ} (h : ActAt w b o p) (m : Moved F w w') (hb : b < w.heap.size) (hF : ¬ F b) : ActAt w' b o p :=
  ⟨(m.cell (p := ⟨b, o, none⟩) hb hF).trans h.c0, (m.cell (p := ⟨b, o + 1, none⟩) hb hF).trans h.c1, (m.cell (p := ⟨b, o + 2, none⟩) hb hF).trans h.c2, (m.cell (p := ⟨b, o + 3, none⟩) hb hF).trans h.c3, fun j u hu => (m.cell (p := ⟨b, o + 4 + j, none⟩) hb hF).trans (h.out j u hu)⟩
theorem IsActs.below {w w' : World} {a : Option Addr} {len cap : Nat} {z : List ActZ} (h : IsActs w a len cap z) (hb : Below w.heap.size w w') : IsActs w' a len cap z :=
  ⟨h.size_, h.max, fun k hk => by
    obtain ⟨b, o, e, hp, ok, hlt⟩ := h.at_ k hk
    exact ⟨b, o, e, hp.keep (Moved.of_below (F := fun _ => False) hb) hlt id, ok, Nat.lt_of_lt_of_le hlt hb.size⟩⟩
theorem IsActs.ok {w : World} {a : Option Addr} {len cap : Nat} {z : List ActZ} (h : IsActs w a len cap z) : ∀ p ∈ z, p.Ok := fun p hp => by
  obtain ⟨k, hk, rfl⟩ := List.mem_iff_getElem.1 hp
  obtain ⟨_, _, _, _, ok, _⟩ := h.at_ k (by rw [← h.size_]; exact hk)
  rw [List.getD_eq_getElem?_getD, List.getElem?_eq_getElem hk] at ok
  exact ok
/-- Too long a key. -/
def long (p : ActZ) : Bool := decide (100 < p.key.length) || decide (100 < p.out.key.length)
/-- More than 200 acts, or a key of more than 100 bytes. -/
def tooGreat (z : List ActZ) : Bool := decide (200 < z.length) || z.any long
theorem any_at {z : List ActZ} {k : Nat} (hk : k < z.length) (h : long (z.getD k ActZ.none_) = true) : z.any long = true := by
  rw [List.getD_eq_getElem?_getD, List.getElem?_eq_getElem hk] at h
  exact List.any_eq_true.2 ⟨_, List.getElem_mem hk, h⟩
theorem any_none {z : List ActZ} (h : ∀ k, k < z.length → long (z.getD k ActZ.none_) = false) : z.any long = false := by
  rw [List.any_eq_false]
  intro p hp
  obtain ⟨k, hk, rfl⟩ := List.mem_iff_getElem.1 hp
  have := h k hk
  rw [List.getD_eq_getElem?_getD, List.getElem?_eq_getElem hk] at this
  simpa using this
set_option maxRecDepth 100000 in
set_option maxHeartbeats 2000000 in
theorem great_any (a : Option Addr) (len cap : Nat) (z : List ActZ) (w : World) (hs : IsActs w a len cap z) :
    Calls Try.prog 9 #[.slice a len cap] w fun e w' => e = .returned (.bool (tooGreat z)) ∧ w' = w := by
  have HS := hide hs
  have hz := hs.size_
  have HZ := hide hz
  clear hs
  by_cases h200 : (200 : Int) < (len : Int)
  · have HG : Hid (tooGreat z = true) := hide (by unfold tooGreat; rw [hz, show decide (200 < len) = true from decide_eq_true (by omega)]; rfl)
    clear hz
    go_enter Try.func9, Try.ntmps9
    go_wp2_with fail
    go_ret
    exact ⟨by rw [unhide HG]; rfl, rfl⟩
  · have HG : Hid (tooGreat z = z.any long) := hide (by unfold tooGreat; rw [hz, show decide (200 < len) = false from decide_eq_false (by omega)]; rfl)
    clear hz
    go_enter Try.func9, Try.ntmps9
    go_wp2_with fail
    go_loop [3] (fun i => ∃ k : Nat, k ≤ len ∧ i = .int .i64 k ∧ Hid (∀ j, j < k → long (z.getD j ActZ.none_) = false)) (fun i => len - (intOf i).toNat)
    case atStart => exact ⟨0, by omega, rfl, hide fun j hj => absurd hj (Nat.not_lt_zero _)⟩
    case round =>
      obtain ⟨k, hk, rfl, HA⟩ := hrel
      by_cases hlt : k < len
      · have g1 : (k : Int) < (len : Int) := by omega
        have hk0 : (0 : Int) ≤ (k : Int) := by omega
        have hwk : IntKind.i64.wrap ((k : Int) + 1) = (k : Int) + 1 := Go.IntWalk.i64_in _ (by omega)
        obtain ⟨b, o, rfl, hat, ok, _⟩ := (unhide HS).at_ k hlt
        have hc1 := hat.c1
        have hc4 : w.cell? ⟨b, o + k * 14 + 4, none⟩ = some (.string ⟨(z.getD k ActZ.none_).out.key.toArray⟩) := hat.out 0 _ rfl
        have HAT : Hid (long (z.getD k ActZ.none_) = true → tooGreat z = true) := hide fun h => by rw [unhide HG]; exact any_at (by rw [unhide HZ]; exact hlt) h
        have HAN : Hid (long (z.getD k ActZ.none_) = false → ∀ j, j < k + 1 → long (z.getD j ActZ.none_) = false) := hide fun h j hj => by
          by_cases e : j = k
          · rw [e]; exact h
          · exact unhide HA j (by omega)
        clear hat ok HA
        generalize z.getD k ActZ.none_ = y at *
        obtain ⟨yd, yk, ya, yn, ⟨ok_, os_, oa_⟩⟩ := y
        dsimp only at hc1 hc4
        have hz1 : (⟨yk.toArray⟩ : ByteArray).size = yk.length := by simp [ByteArray.size]
        have hz2 : (⟨ok_.toArray⟩ : ByteArray).size = ok_.length := by simp [ByteArray.size]
        by_cases h1 : (100 : Int) < (yk.length : Int)
        · have RR := hide (unhide HAT (by unfold long; simp; omega))
          go_wp2_with fail
          go_ret
          exact ⟨by rw [unhide RR]; rfl, rfl⟩
        · by_cases h2 : (100 : Int) < (ok_.length : Int)
          · have RR := hide (unhide HAT (by unfold long; simp; omega))
            go_wp2_with fail
            go_ret
            exact ⟨by rw [unhide RR]; rfl, rfl⟩
          · have RR := hide (unhide HAN (by unfold long; simp; omega))
            go_wp2_with fail
            go_round
            case rel => exact ⟨k + 1, by omega, by go_num, RR⟩
            case measure => simp [intOf]; omega
      · have g1 : ¬ (k : Int) < (len : Int) := by omega
        have hke : k = len := by omega
        have RR : Hid (tooGreat z = false) := hide (by rw [unhide HG]; exact any_none (fun j hj => unhide HA j (by rw [hke, ← unhide HZ]; exact hj)))
        go_wp2_with fail
        go_ret
        exact ⟨by rw [unhide RR]; rfl, rfl⟩
end Go.Proofs.Ytmgmkdkdpeljmaa

namespace Go.Proofs.Ytmgmkdkdpeljmaa
open Go.RowKit
structure Mild (l : List (Win AggV)) : Prop where
  rise : Rise l
  most : l.length ≤ 32
  ins_ : ∀ a ∈ l, a.agg.In
theorem mild_nil : Mild [] := ⟨List.Pairwise.nil, Nat.zero_le _, fun _ h => by cases h⟩
theorem mild_ins {l : List (Win AggV)} {x : Win AggV} (h : Mild l) (hx : x.agg.In) (hl : (look l x.key x.start).isSome = true ∨ l.length < 32) : Mild (ins x l) := by
  refine ⟨ins_rise h.rise, ?_, fun a ha => ?_⟩
  · rw [ins_len h.rise]
    have := h.most
    split
    · exact this
    · rename_i hn
      rcases hl with k | k
      · exact absurd k hn
      · omega
  · rcases ins_mem ha with rfl | ha
    · exact hx
    · exact h.ins_ a ha
theorem mild_put {l : List (Win AggV)} (h : Mild l) {k : List UInt8} {a v : Int} (hv : i64 v) : Mild (putS SO l k a v).1 := by
  rcases put_ways (O := SO) l k a v with ⟨_, e⟩ | ⟨hk, ⟨x, hx, e⟩ | ⟨hx, ⟨_, e⟩ | ⟨hl, e⟩⟩⟩
  · rw [e]; exact h
  · rw [e]; exact mild_ins h (put_in (h.ins_ _ (look_some hx)) hv) (.inl (by rw [hx]; rfl))
  · rw [e]; exact h
  · rw [e]; exact mild_ins h (put_in zero_in hv) (.inr (by omega))
theorem mild_set {l : List (Win AggV)} (h : Mild l) {x : Win AggV} (hx : x.agg.In) : Mild (setS SO l x).1 := by
  rcases set_ways (O := SO) l x with ⟨_, e⟩ | ⟨hk, ⟨_, e⟩ | ⟨_, ⟨_, e⟩ | ⟨hl, e⟩⟩⟩
  · rw [e]; exact h
  · rw [e]; exact h
  · rw [e]; exact h
  · rw [e]; exact mild_ins h hx (.inr (by omega))
theorem mild_take {l : List (Win AggV)} (h : Mild l) (m : Int) : Mild (takeS SO l m).1 := ⟨rise_filter h.rise, Nat.le_trans (List.length_filter_le _ _) h.most, fun a ha => h.ins_ a (List.mem_filter.1 ha).1⟩
theorem mild_act {l : List (Win AggV)} (h : Mild l) {p : ActZ} (hp : p.Ok) : Mild (actS SO l p) := by
  unfold actS
  split
  · exact mild_put h hp.n
  · split
    · exact mild_set h hp.outa
    · split
      · exact mild_take h _
      · exact h
theorem take_snoc {z : List ActZ} {k : Nat} (hk : k < z.length) : z.take (k + 1) = z.take k ++ [z.getD k ActZ.none_] := by
  rw [List.take_add_one, List.getD_eq_getElem?_getD, List.getElem?_eq_getElem hk]; rfl
set_option maxRecDepth 100000 in
set_option maxHeartbeats 4000000 in
theorem plays_any {w0 v : World} {p : Nat} {l0 : List (Win AggV)} {R : List Held} (h : Here w0 v p l0 R) (hm : Mild l0) (a : Option Addr) (len cap : Nat) (z : List ActZ) (hz : IsActs w0 a len cap z) :
    Calls Try.prog 12 #[.pointer (some ⟨p, 0, none⟩), .slice a len cap] v fun e v' => e = .returned (.tuple #[]) ∧ Here w0 v' p (playS SO l0 z) R ∧ Mild (playS SO l0 z) := by
  have HZ := hide hz
  have H0 := hide h
  have M0 := hide hm
  clear hz h hm
  go_enter Try.func12, Try.ntmps12
  go_wp2_with fail
  go_loopw [4] (fun i wr => ∃ k : Nat, i = .int .i64 (k : Int) ∧ k ≤ len ∧ Here w0 wr p (playS SO l0 (z.take k)) R ∧ Mild (playS SO l0 (z.take k))) (fun i _ => len - (intOf i).toNat)
  case atStart => exact ⟨0, rfl, by omega, by rw [List.take_zero]; exact unhide H0, by rw [List.take_zero]; exact unhide M0⟩
  case round =>
    obtain ⟨k, rfl, hk, hh, hmm⟩ := hrel
    have HR := hide hh
    have HMM := hide hmm
    clear hh hmm H0 M0
    by_cases hlt : k < len
    · have g1 : (k : Int) < (len : Int) := by omega
      have hk0 : (0 : Int) ≤ (k : Int) := by omega
      have hml := (unhide HZ).max
      unfold maxLen at hml
      have hwk : IntKind.i64.wrap ((k : Int) + 1) = (k : Int) + 1 := Go.IntWalk.i64_in _ (by omega)
      have hzw : IsActs wr a len cap z := (unhide HZ).below (unhide HR).bel
      obtain ⟨b, o, rfl, hat, ok, hbl⟩ := hzw.at_ k hlt
      have hb0 : Hid (b < w0.heap.size) := hide (by obtain ⟨b', o', e', _, _, hl'⟩ := (unhide HZ).at_ k hlt; cases e'; exact hl')
      have HS1 : Hid (playS SO l0 (z.take (k + 1)) = actS SO (playS SO l0 (z.take k)) (z.getD k ActZ.none_)) := hide (by rw [take_snoc (by rw [(unhide HZ).size_]; exact hlt), play_snoc])
      have HM := hide (by rw [unhide HS1]; exact mild_act (unhide HMM) ok : Mild (playS SO l0 (z.take (k + 1))))
      rw [unhide HS1] at HM
      have KEEP : Hid (∀ u, Below w0.heap.size w0 u → ActAt u b (o + k * 14) (z.getD k ActZ.none_)) := hide fun u hu => by
        obtain ⟨b', o', e', ha, _, _⟩ := ((unhide HZ).below hu).at_ k hlt
        cases e'; exact ha
      have HAT := hide hat
      have HOK := hide ok
      clear hat ok hzw
      generalize z.getD k ActZ.none_ = y at *
      generalize playS SO l0 (z.take k) = l at *
      obtain ⟨yd, yk, ya, yn, ⟨xk, xs, ⟨g0, g1', g2, g3, g4, g5, g6, g7⟩⟩⟩ := y
      have hc0 : wr.cell? ⟨b, o + k * 14, none⟩ = some (.int .u8 (yd : Int)) := (unhide HAT).c0
      have hc1 : wr.cell? ⟨b, o + k * 14 + 1, none⟩ = some (.string ⟨yk.toArray⟩) := (unhide HAT).c1
      have hc2 : wr.cell? ⟨b, o + k * 14 + 2, none⟩ = some (.int .i64 ya) := (unhide HAT).c2
      have hc3 : wr.cell? ⟨b, o + k * 14 + 3, none⟩ = some (.int .i64 yn) := (unhide HAT).c3
      have RO : Hid (wr.rangeAt b (o + k * 14 + 4) [.string ⟨xk.toArray⟩, .int .i64 xs, .int .i64 g0, .int .i64 g1', .int .i64 g2, .int .i64 g3, .int .i64 g4, .int .i64 g5, .int .i64 g6, .int .i64 g7]) := hide (unhide HAT).out
      by_cases e0 : yd = 0
      · subst e0
        replace hc0 : wr.cell? ⟨b, o + k * 14, none⟩ = some (.int .u8 0) := hc0
        have hact : Hid (actS SO l ⟨0, yk, ya, yn, ⟨xk, xs, ⟨g0, g1', g2, g3, g4, g5, g6, g7⟩⟩⟩ = (putS SO l yk ya yn).1) := hide rfl
        rw [unhide hact] at HM HS1
        have CS : Calls Try.prog 15 #[.pointer (some ⟨p, 0, none⟩), .string ⟨yk.toArray⟩, .int .i64 ya, .int .i64 yn] wr.drew _ := ((unhide HR).below ((Below.refl _ _).drew)).put (unhide HMM).most (unhide HMM).ins_ yk ya yn (unhide HOK).n
        have HCS := hide CS
        clear CS
        go_upto_region 5 with fail
        obtain ⟨CL, hCL⟩ : ∃ CL : World → Prop, CL = fun v => v.cell? ⟨b, o + k * 14 + 1, none⟩ = some (.string ⟨yk.toArray⟩) ∧ v.cell? ⟨b, o + k * 14 + 2, none⟩ = some (.int .i64 ya) ∧ v.cell? ⟨b, o + k * 14 + 3, none⟩ = some (.int .i64 yn) := ⟨_, rfl⟩
        have un : ∀ v, CL v → v.cell? ⟨b, o + k * 14 + 1, none⟩ = some (.string ⟨yk.toArray⟩) ∧ v.cell? ⟨b, o + k * 14 + 2, none⟩ = some (.int .i64 ya) ∧ v.cell? ⟨b, o + k * 14 + 3, none⟩ = some (.int .i64 yn) := fun v k => by rw [hCL] at k; exact k
        have base : CL wr.drew := by rw [hCL]; exact ⟨hc1, hc2, hc3⟩
        have q1 : ∀ q : SW CL, q.w.cell? ⟨b, o + k * 14 + 1, none⟩ = some (.string ⟨yk.toArray⟩) := fun q => (un _ q.ok).1
        have q2 : ∀ q : SW CL, q.w.cell? ⟨b, o + k * 14 + 2, none⟩ = some (.int .i64 ya) := fun q => (un _ q.ok).2.1
        have q3 : ∀ q : SW CL, q.w.cell? ⟨b, o + k * 14 + 3, none⟩ = some (.int .i64 yn) := fun q => (un _ q.ok).2.2
        have CLN : Hid (∀ u, Below w0.heap.size w0 u → CL u) := hide fun u hu => by rw [hCL]; exact ⟨(unhide KEEP u hu).c1, (unhide KEEP u hu).c2, (unhide KEEP u hu).c3⟩
        clear hCL un hc0 hc1 hc2 hc3
        refine wp_region_chain (S := CL) [true, true, true, true, true, true, true, true, true, true, true, true, true, true, true, true, false] [false, false, false, false, false, false, false, false, false, false, false, false, false, false, false, false, true] (by kernel_rfl) (by kernel_rfl) (by kernel_rfl) base ?_
        apply Exists.intro
        apply And.intro
        · intro q
          have n0 : Nonempty (SK CL q.w) := ⟨⟨q, rfl⟩⟩
          simp only [pickM]
          repeat (go_big_quiet_step (fail))
          exact wpQuiet_nil rfl
        · simp only [pickZ]
          refine chain_call 15 #[.pointer (some ⟨p, 0, none⟩), .string ⟨yk.toArray⟩, .int .i64 ya, .int .i64 yn] rfl (by simp [go_sem]) ?_
          refine (unhide HCS).mono ?_
          rintro e v' ⟨rfl, he⟩
          have HE := hide he
          clear he
          refine ⟨_, rfl, unhide CLN _ (unhide HE).bel, ?_⟩
          simp only [chainM]
          go_simp
          clear q1 q2 q3 base
          go_wp2_with fail
          exact ⟨⟨k + 1, rfl, by omega, by rw [unhide HS1]; exact unhide HE, by rw [unhide HS1]; exact unhide HM⟩, by simp [intOf]; omega⟩
      · have n0 : ¬ (yd : Int) = 0 := by omega
        by_cases e1 : yd = 1
        · subst e1
          have hact : Hid (actS SO l ⟨1, yk, ya, yn, ⟨xk, xs, ⟨g0, g1', g2, g3, g4, g5, g6, g7⟩⟩⟩ = (setS SO l ⟨xk, xs, ⟨g0, g1', g2, g3, g4, g5, g6, g7⟩⟩).1) := hide rfl
          rw [unhide hact] at HM HS1
          have CS := (unhide HR).set (unhide HMM).most ⟨xk, xs, ⟨g0, g1', g2, g3, g4, g5, g6, g7⟩⟩ (unhide HOK).outa ⟨(unhide HOK).outk, (unhide HOK).outs⟩
          have HCS := hide CS
          simp only [outV_eq] at HCS
          clear CS
          go_wp2_with (first | (refine wpList_load_on rfl 38 (.tmp 41) rfl b (o + k * 14 + 4) rfl [.string ⟨xk.toArray⟩, .int .i64 xs, .int .i64 g0, .int .i64 g1', .int .i64 g2, .int .i64 g3, .int .i64 g4, .int .i64 g5, .int .i64 g6, .int .i64 g7] _ (unhide RO) Try.underlying38 rfl (by kernel_rfl) ?_))
          refine (unhide HCS).mono ?_
          rintro e v' ⟨rfl, he⟩
          have HE := hide he
          clear he
          go_wp2_with fail
          exact ⟨⟨k + 1, rfl, by omega, by rw [unhide HS1]; exact unhide HE, by rw [unhide HS1]; exact unhide HM⟩, by simp [intOf]; omega⟩
        · have n1 : ¬ (yd : Int) = 1 := by omega
          by_cases e2 : yd = 2
          · subst e2
            have hact : Hid (actS SO l ⟨2, yk, ya, yn, ⟨xk, xs, ⟨g0, g1', g2, g3, g4, g5, g6, g7⟩⟩⟩ = (takeS SO l ya).1) := hide rfl
            rw [unhide hact] at HM HS1
            have HCS := hide ((unhide HR).taken (Nat.le_trans (unhide HMM).most (by omega)) ya)
            go_wp2_with fail
            refine (unhide HCS).mono ?_
            rintro e v' ⟨aa, cc, rfl, he⟩
            have HE := hide (he.drop (fun r hr => List.mem_cons_of_mem _ hr) : Here w0 v' p _ R)
            clear he
            go_wp2_with fail
            exact ⟨⟨k + 1, rfl, by omega, by rw [unhide HS1]; exact unhide HE, by rw [unhide HS1]; exact unhide HM⟩, by simp [intOf]; omega⟩
          · have n2 : ¬ (yd : Int) = 2 := by omega
            have hact : Hid (actS SO l ⟨yd, yk, ya, yn, ⟨xk, xs, ⟨g0, g1', g2, g3, g4, g5, g6, g7⟩⟩⟩ = l) := hide (by unfold actS; rw [if_neg e0, if_neg e1, if_neg e2])
            rw [unhide hact] at HM HS1
            have HE := HR
            go_wp2_with fail
            exact ⟨⟨k + 1, rfl, by omega, by rw [unhide HS1]; exact unhide HE, by rw [unhide HS1]; exact unhide HM⟩, by simp [intOf]; omega⟩
    · have g1 : ¬ (k : Int) < (len : Int) := by omega
      have hke : k = len := by omega
      subst hke
      have htk : z.take k = z := List.take_of_length_le (by rw [(unhide HZ).size_]; exact Nat.le_refl _)
      rw [htk] at HR HMM
      go_wp2_with fail
      first | go_end0 | skip
      exact ⟨rfl, unhide HR, unhide HMM⟩
end Go.Proofs.Ytmgmkdkdpeljmaa

namespace Go.Proofs.Ytmgmkdkdpeljmaa
open Go.RowKit
deriving instance DecidableEq for Win
def sameW (x y : Win AggV) : Bool := decide (x = y)
set_option maxRecDepth 100000 in
theorem eq34l (xk yk : List UInt8) (xs ys a0 a1 a2 a3' a4 a5 a6 a7 b0 b1 b2 b3 b4 b5 b6 b7 : Int) (w : World) : (Op.equalIn 10000 38 (.agg #[.string ⟨xk.toArray⟩, .int .i64 xs, .int .i64 a0, .int .i64 a1, .int .i64 a2, .int .i64 a3', .int .i64 a4, .int .i64 a5, .int .i64 a6, .int .i64 a7]) (.agg #[.string ⟨yk.toArray⟩, .int .i64 ys, .int .i64 b0, .int .i64 b1, .int .i64 b2, .int .i64 b3, .int .i64 b4, .int .i64 b5, .int .i64 b6, .int .i64 b7])).run Try.prog w = .ok (sameW ⟨xk, xs, ⟨a0, a1, a2, a3', a4, a5, a6, a7⟩⟩ ⟨yk, ys, ⟨b0, b1, b2, b3, b4, b5, b6, b7⟩⟩) w := by
  have u2 := Try.underlying2
  have g2 := Try.isAgg2
  have z2 := Try.sizeOf2
  have u9 := Try.underlying9
  have g9 := Try.isAgg9
  have z9 := Try.sizeOf9
  have u32 := Try.underlying34
  have g32 := Try.isAgg34
  have z32 := Try.sizeOf34
  have hS : Try.prog.underlying 38 = some (.struct (Try.prog.fieldsOf 38)) := by kernel_rfl
  have hp : Try.prog.stoodInHeld 38 = false := by kernel_rfl
  rw [show (10000 : Nat) = 9999 + 1 from rfl, run_equalIn_agg w 9999 38 _ _ hS hp]
  simp only [Program.fieldsOf, Try.underlying38]
  go_simp
  rw [show (9998 : Nat) = 9996 + 2 from rfl, eq22]
  unfold sameW
  by_cases k0 : xk = yk <;> by_cases k1 : xs = ys <;> by_cases h0 : a0 = b0 <;> by_cases h1 : a1 = b1 <;> by_cases h2 : a2 = b2 <;> by_cases h3 : a3' = b3 <;> simp [k0, k1, h0, h1, h2, h3]
  by_cases h4 : a4 = b4 <;> by_cases h5 : a5 = b5 <;> by_cases h6 : a6 = b6 <;> by_cases h7 : a7 = b7 <;> simp [h4, h5, h6, h7]
@[go_sem high] theorem neq34 (xk yk : List UInt8) (xs ys a0 a1 a2 a3' a4 a5 a6 a7 b0 b1 b2 b3 b4 b5 b6 b7 : Int) (w : World) : (binOp .neq 38 (.agg #[.string ⟨xk.toArray⟩, .int .i64 xs, .int .i64 a0, .int .i64 a1, .int .i64 a2, .int .i64 a3', .int .i64 a4, .int .i64 a5, .int .i64 a6, .int .i64 a7]) (.agg #[.string ⟨yk.toArray⟩, .int .i64 ys, .int .i64 b0, .int .i64 b1, .int .i64 b2, .int .i64 b3, .int .i64 b4, .int .i64 b5, .int .i64 b6, .int .i64 b7])).run Try.prog w = .ok (.bool (!sameW ⟨xk, xs, ⟨a0, a1, a2, a3', a4, a5, a6, a7⟩⟩ ⟨yk, ys, ⟨b0, b1, b2, b3, b4, b5, b6, b7⟩⟩)) w := by
  rw [run_neq_struct, eq34l]; rfl
@[go_sem] theorem guard34 (op : BinOp) (x y : Operand) (xs ys : Array Value) (w : World) : (eqGuard op 38 x y (.agg xs) (.agg ys)).run Try.prog w = .ok () w := run_eqGuard_agg w op 38 x y _ _ (by kernel_rfl)
end Go.Proofs.Ytmgmkdkdpeljmaa

namespace Go.Proofs.Ytmgmkdkdpeljmaa
open Go.RowKit
/-- A row that lies somewhere. -/
structure Lay (w : World) (a : Option Addr) (l : List (Win AggV)) : Prop where
  lies : OutK.Lies w a l
  flat : (∃ g, a = some ⟨g, 0, none⟩ ∧ g < w.heap.size) ∨ l = []
  most : l.length ≤ 1000
theorem Held.lay {w0 v : World} {r : Held} (h : r.is w0 v) (hl : r.2.2.length ≤ 1000) : Lay v r.1 r.2.2 := by
  have h' : OutK.Row v w0.heap.size r.1 r.2.1 r.2.2 := h
  refine ⟨row_lies h', ?_, hl⟩
  rcases h'.2 with ⟨_, h0⟩ | ⟨g, cap, cur, hv, _⟩
  · exact .inr (List.length_eq_zero_iff.1 h0)
  · refine .inl ⟨g, ?_, (row_lt h' g (by rw [hv]; rfl)).2⟩
    simp only [Value.slice.injEq] at hv; exact hv.1
theorem Lay.at {w : World} {a : Option Addr} {l : List (Win AggV)} (h : Lay w a l) {j : Nat} {x : Win AggV} (hx : l[j]? = some x) : ∃ g, a = some ⟨g, 0, none⟩ ∧ w.rangeAt g (j * 10) (outV x) ∧ g < w.heap.size := by
  rcases h.flat with ⟨g, rfl, hg⟩ | rfl
  · refine ⟨g, rfl, ?_, hg⟩
    have := lies_at outK_law h.lies hx
    rw [Nat.zero_add] at this; exact this
  · cases hx
theorem range_keep {w w' : World} {g o : Nat} {cs : List Value} (h : w.rangeAt g o cs) (hg : g < w.heap.size) (m : Moved (fun _ => False) w w') : w'.rangeAt g o cs := fun j u hu => (m.cell (p := ⟨g, o + j, none⟩) hg id).trans (h j u hu)
theorem sameL_no {l m : List (Win AggV)} {j : Nat} {x y : Win AggV} (hx : l[j]? = some x) (hy : m[j]? = some y) (h : sameW x y = false) : decide (l = m) = false := by
  refine decide_eq_false fun e => ?_
  subst e
  rw [hx] at hy; cases hy
  unfold sameW at h; simp at h
theorem sameL_yes {l m : List (Win AggV)} (hl : l.length = m.length) (h : ∀ (j : Nat) (x y : Win AggV), l[j]? = some x → m[j]? = some y → x = y) : l = m := by
  refine List.ext_getElem? fun j => ?_
  by_cases hj : j < l.length
  · rw [List.getElem?_eq_getElem hj, List.getElem?_eq_getElem (hl ▸ hj)]
    exact congrArg some (h j _ _ (List.getElem?_eq_getElem hj) (List.getElem?_eq_getElem (hl ▸ hj)))
  · rw [List.getElem?_eq_none (by omega), List.getElem?_eq_none (by omega)]
set_option maxRecDepth 100000 in
set_option maxHeartbeats 4000000 in
theorem same_any {w : World} {a b : Option Addr} {c d : Nat} {l m : List (Win AggV)} (hl : Lay w a l) (hm : Lay w b m) :
    Calls Try.prog 18 #[.slice a l.length c, .slice b m.length d] w fun e w' => e = .returned (.bool (decide (l = m))) ∧ Moved (fun _ => False) w w' := by
  have HL := hide hl
  have HM := hide hm
  have hl0 := hl.most
  have hm0 := hm.most
  clear hl hm
  by_cases hn : ((l.length : Nat) : Int) = ((m.length : Nat) : Int)
  · have hnn : l.length = m.length := by omega
    have HNN := hide hnn
    rw [← hnn]
    obtain ⟨CL, hCL⟩ : ∃ CL : World → Prop, CL = fun v => Moved (fun _ => False) w v := ⟨_, rfl⟩
    have un : ∀ v, CL v → Moved (fun _ => False) w v := fun v k => by rw [hCL] at k; exact k
    have drew : ∀ v, CL v → CL v.drew := fun v k => by rw [hCL] at k ⊢; exact k.drew
    have BS : Hid (CL w) := hide (by rw [hCL]; exact Moved.refl _ _)
    have ne : Nonempty (SX CL) := ⟨⟨w, unhide BS⟩⟩
    clear hn hnn hm0 hCL
    go_enter Try.func18, Try.ntmps18
    go_wp2_with fail
    go_loopw [5] (fun i wr => ∃ k : Nat, i = .int .i64 (k : Int) ∧ k ≤ l.length ∧ CL wr ∧ Hid (∀ j x y, j < k → l[j]? = some x → m[j]? = some y → x = y)) (fun i _ => l.length - (intOf i).toNat)
    case atStart => exact ⟨0, rfl, Nat.zero_le _, unhide BS, hide fun j _ _ hj => absurd hj (Nat.not_lt_zero _)⟩
    case round =>
      obtain ⟨k, rfl, hk, hmv, HA⟩ := hrel
      by_cases hlt : k < l.length
      · have g1 : (k : Int) < (l.length : Int) := by omega
        have hk0 : (0 : Int) ≤ (k : Int) := by omega
        have hwk : IntKind.i64.wrap ((k : Int) + 1) = (k : Int) + 1 := Go.IntWalk.i64_in _ (by omega)
        obtain ⟨x, hx⟩ : ∃ x, l[k]? = some x := ⟨_, List.getElem?_eq_getElem hlt⟩
        obtain ⟨y, hy⟩ : ∃ y, m[k]? = some y := ⟨_, List.getElem?_eq_getElem (by rw [← unhide HNN]; exact hlt)⟩
        obtain ⟨ga, rfl, hra, hga⟩ := (unhide HL).at hx
        obtain ⟨gb, rfl, hrb, hgb⟩ := (unhide HM).at hy
        have RY : Hid (∀ v, (∃ p : SX CL, v = p.w) → v.rangeAt ga (k * 10) (outV x)) := hide (by rintro v ⟨p, rfl⟩; exact range_keep hra hga (un _ p.ok))
        have RZ : Hid (∀ v, (∃ p : SX CL, v = p.w) → v.rangeAt gb (k * 10) (outV y)) := hide (by rintro v ⟨p, rfl⟩; exact range_keep hrb hgb (un _ p.ok))
        have SNO : Hid (sameW x y = false → decide (l = m) = false) := hide (fun h => sameL_no hx hy h)
        have SYES : Hid (sameW x y = true → ∀ j x y, j < k + 1 → l[j]? = some x → m[j]? = some y → x = y) := hide fun h j x' y' hj hx' hy' => by
          by_cases e : j = k
          · subst e
            rw [hx] at hx'; cases hx'
            rw [hy] at hy'; cases hy'
            unfold sameW at h; exact of_decide_eq_true h
          · exact unhide HA j x' y' (by omega) hx' hy'
        clear hra hrb hga hgb hx hy HA
        obtain ⟨pk, ps, ⟨p0, p1, p2, p3, p4, p5, p6, p7⟩⟩ := x
        obtain ⟨qk, qs, ⟨q0, q1, q2, q3, q4, q5, q6, q7⟩⟩ := y
        simp only [outV_eq] at RY RZ
        go_upto_region 6 with fail
        refine wp_region_sx (St := CL) (by kernel_rfl) (by kernel_rfl) (drew _ hmv) ?_
        go_big_quiet_step (fail)
        go_big_quiet_step (fail)
        go_big_quiet_step (fail)
        refine wpQuiet_load_onx rfl 38 (.tmp 19) rfl ga (k * 10) (by simp [go_sem]) [.string ⟨pk.toArray⟩, .int .i64 ps, .int .i64 p0, .int .i64 p1, .int .i64 p2, .int .i64 p3, .int .i64 p4, .int .i64 p5, .int .i64 p6, .int .i64 p7] _ (unhide RY) Try.underlying38 rfl (by kernel_rfl) ?_
        go_simp
        go_big_quiet_step (fail)
        go_big_quiet_step (fail)
        go_big_quiet_step (fail)
        refine wpQuiet_load_onx rfl 38 (.tmp 23) rfl gb (k * 10) (by simp [go_sem]) [.string ⟨qk.toArray⟩, .int .i64 qs, .int .i64 q0, .int .i64 q1, .int .i64 q2, .int .i64 q3, .int .i64 q4, .int .i64 q5, .int .i64 q6, .int .i64 q7] _ (unhide RZ) Try.underlying38 rfl (by kernel_rfl) ?_
        go_simp
        repeat (go_big_quiet_step (fail))
        refine wpQuiet_nil ?_
        intro pw
        have OK1 := pw.ok
        generalize pw.w = v1 at OK1 ⊢
        clear RY RZ hmv
        try dsimp only
        by_cases e : sameW ⟨pk, ps, ⟨p0, p1, p2, p3, p4, p5, p6, p7⟩⟩ ⟨qk, qs, ⟨q0, q1, q2, q3, q4, q5, q6, q7⟩⟩ = true
        · have SY := hide (unhide SYES e)
          rw [e]
          clear SNO SYES e
          go_wp2_with fail
          go_roundw
          case rel => exact ⟨k + 1, rfl, by omega, OK1, SY⟩
          case measure => simp [intOf]; omega
        · have e' := Bool.eq_false_iff.2 e
          have SN := hide (unhide SNO e')
          rw [e']
          clear SNO SYES e e'
          go_wp2_with fail
          go_ret
          exact ⟨by rw [unhide SN]; rfl, un _ OK1⟩
      · have g1 : ¬ (k : Int) < (l.length : Int) := by omega
        have hke : k = l.length := by omega
        have SY : Hid (decide (l = m) = true) := hide (decide_eq_true (sameL_yes (unhide HNN) (fun j x y hx hy => unhide HA j x y (by rw [hke]; exact (List.getElem?_eq_some_iff.1 hx).1) hx hy)))
        go_wp2_with fail
        go_ret
        exact ⟨by rw [unhide SY]; rfl, un _ hmv⟩
  · have SN : Hid (decide (l = m) = false) := hide (decide_eq_false fun e => hn (by rw [e]))
    go_enter Try.func18, Try.ntmps18
    go_wp2_with fail
    go_ret
    exact ⟨by rw [unhide SN]; rfl, Moved.refl _ _⟩
end Go.Proofs.Ytmgmkdkdpeljmaa

namespace Go.Proofs.Ytmgmkdkdpeljmaa
open Go.RowKit
theorem Here.all2 {w0 v : World} {p : Nat} {l : List (Win AggV)} {R : List Held} (h : Here w0 v p l R) (hl : l.length ≤ 1000) :
    Calls Try.prog 14 #[.pointer (some ⟨p, 0, none⟩)] v fun e v' => ∃ a c, e = .returned (.slice a l.length c) ∧ Here w0 v' p l ((a, c, l) :: R) ∧ Below v.heap.size v v' := by
  obtain ⟨F, h⟩ := h
  exact (all_any h.st hl).mono fun e v' ⟨a, c, h1, h2, h3⟩ => ⟨a, c, h1, ⟨F, h.take (h.below h3).st (fun _ f => f) (Moved.of_below h3) h2⟩, h3⟩
theorem Here.twin {w0 v : World} {p : Nat} {l : List (Win AggV)} {R : List Held} (h : Here w0 v p l R) :
    Calls Try.prog 13 #[.pointer (some ⟨p, 0, none⟩)] v fun e v' => ∃ q, e = .returned (.pointer (some ⟨q, 0, none⟩)) ∧ Here v v' q l [] ∧ Below v.heap.size v v' := by
  obtain ⟨F, h⟩ := h
  exact (twin_any h.st).mono fun e v' ⟨q, F', h1, h2, h3, h4⟩ => ⟨q, h1, ⟨F', h2, h3, h4, fun r hr => by cases hr⟩, h4⟩
theorem same_self {w : World} {a b : Option Addr} {c d : Nat} {l : List (Win AggV)} (hl : Lay w a l) (hm : Lay w b l) :
    Calls Try.prog 18 #[.slice a l.length c, .slice b l.length d] w fun e w' => e = .returned (.bool true) ∧ Below w.heap.size w w' :=
  (same_any hl hm).mono fun e w' ⟨h1, h2⟩ => ⟨by rw [h1, show decide (l = l) = true from decide_eq_true rfl], h2.below (fun _ f => f.elim) (Nat.le_refl _)⟩
theorem good_drop {l : List (Win AggV)} (h : Good SO l) (n : Nat) : Good SO (l.drop n) :=
  ⟨h.rise.sublist (List.drop_sublist n l), Nat.le_trans (by rw [List.length_drop]; omega) h.most, fun a ha => h.all a (List.mem_of_mem_drop ha)⟩
theorem good_plays {w : World} {a : Option Addr} {len cap : Nat} {z : List ActZ} (h : IsActs w a len cap z) : Good SO (playS SO [] z) := play_good so_law good_nil (fun p hp => (h.ok p hp).n)
theorem Here.setNext {w0 v : World} {p : Nat} {l : List (Win AggV)} {j : Nat} {x : Win AggV} (hx : l[j]? = some x) (hg : Good SO l) (hm : Mild l) (hf : Fine l) (h : Here w0 v p (l.drop (j + 1)) []) :
    Calls Try.prog 37 #[.pointer (some ⟨p, 0, none⟩), .agg (outV x).toArray] v fun e v' => e = .returned (.int .i64 0) ∧ Here w0 v' p (l.drop j) [] := by
  obtain ⟨hj, rfl⟩ := List.getElem?_eq_some_iff.1 hx
  have hmem : l[j] ∈ l := List.getElem_mem hj
  have := h.set (good_drop hg (j + 1)).most l[j] (hm.ins_ _ hmem) (hf.oks _ hmem)
  rw [set_next (by rw [← List.drop_eq_getElem_cons hj]; exact good_drop hg j), ← List.drop_eq_getElem_cons hj] at this
  exact this
theorem row_at {w : World} {B g c : Nat} {l : List (Win AggV)} (h : OutK.Row w B (some ⟨g, 0, none⟩) c l) : RowAt w g (OutK.cells l) := by
  refine ⟨(row_lt h g rfl).2, fun i hi => ?_, fun i _ => ?_⟩
  · have := (row_lies h).2 _ rfl i _ (List.getElem?_eq_getElem hi)
    rw [Addr.add_mid, Nat.zero_add] at this
    rw [this, List.getD_eq_getElem?_getD, List.getElem?_eq_getElem hi]; rfl
  · rcases h.2 with ⟨hv, _⟩ | ⟨g', cap, cur, hv, _, hg, _⟩
    · simp at hv
    · simp only [Value.slice.injEq, Option.some.injEq, Addr.mk.injEq] at hv
      obtain ⟨⟨rfl, _⟩, _⟩ := hv
      simp [World.frozen?, hg]
end Go.Proofs.Ytmgmkdkdpeljmaa

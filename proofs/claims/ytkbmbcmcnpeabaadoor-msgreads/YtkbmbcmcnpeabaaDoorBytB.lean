/- The program's Bytes and Right. Condition: the message is one that Go's types can hold, its lists lie in memory. -/
import Derived.Test.YtkbmbcmcnpeabaaDoorByt
namespace Go.Proofs.YtkbmbcmcnpeabaaDoor
open Pk Go.RowKit

theorem kept_of {w w' : World} {p B : Nat} (m : Moved (fun i => i = p ∨ i = B) (w.alloc (.cells #[.int .i64 0] 32)) w') (hp : p < w.heap.size) (hB : B < w.heap.size) : Kept w w' := by
  have hs : w.heap.size < (w.alloc (.cells #[.int .i64 0] 32)).heap.size := by simp
  have hF : ¬ (w.heap.size = p ∨ w.heap.size = B) := by omega
  refine ⟨(m.cell (p := ⟨w.heap.size, 0, none⟩) hs hF).trans (by simp), (m.frozen (p := ⟨w.heap.size, 0, none⟩) hs hF).trans (by simp), Nat.lt_of_lt_of_le hs m.size⟩
theorem IntsF.of {w : World} {p B : Nat} {a : Option Addr} {xs : List Int} (h : Ints w a xs) (w' : World) (m : Moved (fun _ => False) w w') (hp : w.heap.size ≤ p) (hB : w.heap.size ≤ B) : IntsF w' p B a xs := by
  refine ⟨h.keep m fun _ _ => id, fun x hx h0 => ?_⟩
  obtain ⟨y, hy, hc⟩ := h 0 h0
  have := World.block_lt_of_cell? _ _ hc
  have hb : (y.add 0).block = y.block := by unfold Addr.add; split <;> rfl
  rw [hx] at hy
  cases hy
  rw [hb] at this
  omega
set_option maxHeartbeats 4000000 in
set_option maxRecDepth 100000 in
theorem bytes_any (m : MsgV) (a1 a2 : Option Addr) (c1 c2 : Nat) (w : World) (hf : Fit m) (hI1 : Ints w a1 m.owner) (hI2 : Ints w a2 m.set) :
    Calls Tryd.prog 8 #[.agg (msgCells m a1 c1 a2 c2).toArray] w fun e w' => Moved (fun _ => False) w w' ∧ ((Right m ∧ e = .returned (.tuple #[.string ⟨(msgBytes m).toArray⟩, .int .i64 0])) ∨ (¬ Right m ∧ e = .returned (.tuple #[.string ⟨#[]⟩, .int .i64 (errOf m)]))) := by
  obtain ⟨W, hW⟩ : ∃ W, W = (w.alloc (.cells (msgCells m a1 c1 a2 c2).toArray 29)).alloc (.cells #[.slice none 0 0] 52) := ⟨_, rfl⟩
  have hsz : W.heap.size = w.heap.size + 2 := by rw [hW]; simp
  have mW : Moved (fun _ => False) w W := by rw [hW]; exact ((Moved.refl _ _).alloc _).alloc _
  obtain ⟨V, hV⟩ : ∃ V, V = W.alloc (.cells #[.int .i64 0] 32) := ⟨_, rfl⟩
  have mV : Moved (fun _ => False) W V := by rw [hV]; exact (Moved.refl _ _).alloc _
  have hrow : RowAt V w.heap.size (msgCells m a1 c1 a2 c2) := (row_old (row_new w (msgCells m a1 c1 a2 c2) 29) (.cells #[.slice none 0 0] 52)).keep (by rw [← hW]; exact mV) id
  have hout : OutAt V (w.heap.size + 1) none 0 [] := by
    have h1 : OutAt W (w.heap.size + 1) none 0 [] := by
      have := row_new2 w [.slice none 0 0] (msgCells m a1 c1 a2 c2) 52 29
      rw [← hW] at this
      exact ⟨this.cell 0 (by decide), this.free 0 (by decide), ⟨rfl, .inl ⟨rfl, rfl⟩⟩, fun _ h => by cases h⟩
    exact h1.keep mV fun _ f => f.elim
  have hst : WSt V V (w.heap.size + 1) w.heap.size (msgCells m a1 c1 a2 c2) [] := ⟨Moved.refl _ _, hrow, ⟨none, 0, hout, fun _ h => by cases h⟩, by omega⟩
  have mWV := mW.trans mV fun _ f => f.elim
  have hcl := bytes1_any m a1 a2 c1 c2 hf hst (IntsF.of hI1 V mWV (by omega) (by omega)) (IntsF.of hI2 V mWV (by omega) (by omega))
  rw [hV] at hcl
  have hat := attempt_16 (w := W) (c := errOf m) (Q := fun w' => Right m ∧ (∃ a c, OutAt w' (w.heap.size + 1) a c (msgBytes m) ∧ ∀ x, a = some x → W.heap.size + 1 ≤ x.block) ∧ Moved (fun i => i = w.heap.size + 1 ∨ i = w.heap.size) W w') (R := fun w' => ¬ Right m ∧ Moved (fun i => i = w.heap.size + 1 ∨ i = w.heap.size) W w') (hcl.mono (by
    rintro e w' ⟨hm, hh⟩
    have hm' : Moved (fun i => i = w.heap.size + 1 ∨ i = w.heap.size) W w' := ((Moved.refl _ W).alloc _).trans hm fun _ h => .inl h
    refine ⟨kept_of hm (by omega) (by omega), ?_⟩
    rcases hh with ⟨rfl, hr, a, c, ho, hab⟩ | ⟨rfl, hr⟩
    · exact .inl ⟨rfl, hr, ⟨a, c, ho, fun x hx => by have := hab x hx; simp at this; exact this⟩, hm'⟩
    · exact .inr ⟨rfl, hr, hm'⟩))
  have hne : errOf m ≠ 0 := by unfold errOf; split <;> decide
  have HAT := hide hat
  have HW := hide hW
  have HN := hide hne
  have HS := hide hsz
  have HMW := hide mW
  clear hat hW hne hsz mW hcl hst hout hrow mWV mV hV hI1 hI2 hf
  generalize errOf m = E at *
  go_enter Tryd.func8, Tryd.ntmps8
  go_wp2_with fail
  rw [← unhide HW]
  refine (unhide HAT).mono ?_
  rintro e w' ⟨w1, hm, hh⟩
  have HM := hide hm
  clear hm
  rcases hh with ⟨rfl, hr, ⟨a, c, ho, hab⟩, hmv⟩ | ⟨rfl, hr, hmv⟩
  · have ho' : OutAt w' (w.heap.size + 1) a c (msgBytes m) := ho.keep (unhide HM) fun k hk => by
      subst hk
      rintro (e | ⟨x, hx, e⟩)
      · have := unhide HS; omega
      · have := hab x hx; omega
    have HO := hide ho'
    have HR := hide hr
    have HV := hide hmv
    clear ho ho' hab hr hmv
    go_wp2_with fail
    refine (string_any (unhide HO)).mono ?_
    rintro e w2 ⟨rfl, rfl⟩
    go_wp2_with fail
    go_ret2
    have hS := unhide HS
    refine ⟨((unhide HMW).trans (unhide HV) fun i hi => .inr (by omega)).trans (unhide HM) fun i hi => .inr (by omega), .inl ⟨unhide HR, rfl⟩⟩
  · have HR := hide hr
    have HV := hide hmv
    have hE := unhide HN
    clear hr hmv
    go_wp2_with fail
    go_ret2
    have hS := unhide HS
    refine ⟨((unhide HMW).trans (unhide HV) fun i hi => .inr (by omega)).trans (unhide HM) fun i hi => .inr (by omega), .inr ⟨unhide HR, rfl⟩⟩
/-- Right: no error just if a message is. -/
theorem right_any (m : MsgV) (a1 a2 : Option Addr) (c1 c2 : Nat) (w : World) (hf : Fit m) (hI1 : Ints w a1 m.owner) (hI2 : Ints w a2 m.set) :
    Calls Tryd.prog 12 #[.agg (msgCells m a1 c1 a2 c2).toArray] w fun e w' => Moved (fun _ => False) w w' ∧ ((Right m ∧ e = .returned (.int .i64 0)) ∨ (¬ Right m ∧ e = .returned (.int .i64 (errOf m)))) := by
  obtain ⟨W, hW⟩ : ∃ W, W = w.alloc (.cells (msgCells m a1 c1 a2 c2).toArray 29) := ⟨_, rfl⟩
  have mW : Moved (fun _ => False) w W := by rw [hW]; exact (Moved.refl _ _).alloc _
  have hcon := bytes_any m a1 a2 c1 c2 W hf (hI1.keep mW fun _ _ => id) (hI2.keep mW fun _ _ => id)
  have hrg : W.rangeAt w.heap.size 0 (msgCells m a1 c1 a2 c2) := by rw [hW]; exact (row_new w (msgCells m a1 c1 a2 c2) 29).range
  have HC := hide hcon
  have HW := hide hW
  have HMW := hide mW
  have HG := hide hrg
  clear hcon hW mW hI1 hI2 hf hrg
  go_enter Tryd.func12, Tryd.ntmps12
  go_upto_region 1 with fail
  rw [← unhide HW]
  go_step
  refine wpList_load_mid rfl 29 (.tmp 1) rfl w.heap.size 0 rfl (msgCells m a1 c1 a2 c2) _ (unhide HG) Tryd.underlying29 rfl (by kernel_rfl) ?_
  go_wp2_with fail
  refine (unhide HC).mono ?_
  rintro e w' ⟨hm, hh⟩
  have HM := hide hm
  clear hm
  rcases hh with ⟨hr, rfl⟩ | ⟨hr, rfl⟩
  · have HR := hide hr
    clear hr
    go_wp2_with fail
    go_ret
    exact ⟨(unhide HMW).trans (unhide HM) fun _ f => f.elim, .inl ⟨unhide HR, rfl⟩⟩
  · have HR := hide hr
    clear hr
    obtain ⟨E, hE⟩ : ∃ E, errOf m = E := ⟨_, rfl⟩
    rw [hE]
    go_wp2_with fail
    go_ret
    exact ⟨(unhide HMW).trans (unhide HM) fun _ f => f.elim, .inr ⟨unhide HR, by rw [hE]; rfl⟩⟩
end Go.Proofs.YtkbmbcmcnpeabaaDoor

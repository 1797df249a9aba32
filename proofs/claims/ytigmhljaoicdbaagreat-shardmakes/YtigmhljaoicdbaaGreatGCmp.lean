/- Which of two windows stands ahead, as the program's comparison for the sort tells; and the copy of a text. Condition: texts are no longer than a machine's. -/
import Derived.Test.YtigmhljaoicdbaaGreatGShelf
import Derived.Test.YtigmhljaoicdbaaGreatGKeys
import Derived.Test.YtigmhljaoicdbaaGreatChecked
namespace Go.Proofs.YtigmhljaoicdbaaGreat
open Go.RowKit Go.Sort

theorem bytesLess_keyLt : ∀ a b : List UInt8, Op.bytesLess a b = keyLt a b
  | a, [] => by cases a <;> rfl
  | [], _ :: _ => rfl
  | a :: l, b :: m => by
    unfold Op.bytesLess keyLt
    rw [bytesLess_keyLt l m]
    by_cases e : a = b
    · subst e
      have h : ¬ a < a := u8_lt_irrefl a
      simp [h]
    · by_cases h : a < b <;> simp [e, h]
theorem toList_mk (k : List UInt8) : (⟨k.toArray⟩ : ByteArray).toList = k := by rw [ByteArray.toList_eq]
theorem isnan_i (x : Int) (w : World) : Calls Tryz.prog 114 #[.int .i64 x] w fun e w' => e = .returned (.bool false) ∧ w' = w := by
  go_enter Tryz.func114, Tryz.ntmps114
  go_wp2
  go_ret
  exact ⟨by simp, rfl⟩
theorem isnan_s (k : List UInt8) (w : World) : Calls Tryz.prog 115 #[.string ⟨k.toArray⟩] w fun e w' => e = .returned (.bool false) ∧ w' = w := by
  go_enter Tryz.func115, Tryz.ntmps115
  go_wp2
  go_ret
  exact ⟨by simp, rfl⟩
set_option maxHeartbeats 1000000 in
theorem compare_i (x y : Int) (w : World) : Calls Tryz.prog 97 #[.int .i64 x, .int .i64 y] w fun e w' => e = .returned (.int .i64 (cmpI x y)) ∧ w' = w := by
  go_enter Tryz.func97, Tryz.ntmps97
  go_wp2_with (go_at_call 114; refine (isnan_i _ _).mono ?_; rintro e w' ⟨rfl, hw⟩; rw [hw])
  all_goals (go_ret; refine ⟨?_, rfl⟩; unfold cmpI; (repeat' split) <;> first | rfl | (exfalso; omega))
theorem gtr9 (a b : List UInt8) (w : World) : (binOp .gtr 9 (.string ⟨a.toArray⟩) (.string ⟨b.toArray⟩)).run Tryz.prog w = .ok (.bool (keyLt b a)) w := by
  have e : (!(Op.bytesLess a b || a == b)) = keyLt b a := by
    rw [bytesLess_keyLt]
    by_cases h : a = b
    · subst h; simp [keyLt_irrefl]
    · rcases keyLt_total h with k | k
      · have : keyLt b a = false := by
          cases e : keyLt b a with
          | false => rfl
          | true => have := keyLt_trans k e; rw [keyLt_irrefl] at this; cases this
        simp [k, this]
      · have : keyLt a b = false := by
          cases e : keyLt a b with
          | false => rfl
          | true => have := keyLt_trans k e; rw [keyLt_irrefl] at this; cases this
        simp [k, this, h]
  simp [binOp, Op.stringOp, e, go_sem]
set_option maxHeartbeats 1000000 in
theorem compare_s (a b : List UInt8) (w : World) : Calls Tryz.prog 98 #[.string ⟨a.toArray⟩, .string ⟨b.toArray⟩] w fun e w' => e = .returned (.int .i64 (cmpK a b)) ∧ w' = w := by
  have h1 := bytesLess_keyLt a b
  have h2 := gtr9 a b w
  by_cases k1 : keyLt a b = true
  · rw [k1] at h1
    go_enter Tryz.func98, Tryz.ntmps98
    go_wp2_with (go_at_call 115; refine (isnan_s _ _).mono ?_; rintro e w' ⟨rfl, hw⟩; rw [hw])
    go_ret
    exact ⟨by unfold cmpK; rw [if_pos k1]; rfl, rfl⟩
  · rw [Bool.eq_false_iff.2 k1] at h1
    by_cases k2 : keyLt b a = true
    · rw [k2] at h2
      go_enter Tryz.func98, Tryz.ntmps98
      go_wp2_with (go_at_call 115; refine (isnan_s _ _).mono ?_; rintro e w' ⟨rfl, hw⟩; rw [hw])
      go_ret
      exact ⟨by unfold cmpK; rw [if_neg k1, if_pos k2]; rfl, rfl⟩
    · rw [Bool.eq_false_iff.2 k2] at h2
      go_enter Tryz.func98, Tryz.ntmps98
      go_wp2_with (go_at_call 115; refine (isnan_s _ _).mono ?_; rintro e w' ⟨rfl, hw⟩; rw [hw])
      go_ret
      exact ⟨by unfold cmpK; rw [if_neg k1, if_neg k2]; rfl, rfl⟩
theorem or_any (x y : Int) (g : Nat) (w : World) (h0 : w.cell? ⟨g, 0, none⟩ = some (.int .i64 x)) (h1 : w.cell? ⟨g, 1, none⟩ = some (.int .i64 y)) :
    Calls Tryz.prog 91 #[.slice (some ⟨g, 0, none⟩) 2 2] w fun e w' => e = .returned (.int .i64 (if x = 0 then y else x)) ∧ w' = w := by
  by_cases hx : x = 0
  · by_cases hy : y = 0
    · subst hx hy
      go_enter Tryz.func91, Tryz.ntmps91
      go_wp2
      refine wp_loop_rounds 3 ?_
      rw [rounds_succ]
      go_wp2
      rw [rounds_succ]
      go_wp2
      rw [rounds_succ]
      go_wp2
      go_ret
      exact ⟨rfl, rfl⟩
    · subst hx
      go_enter Tryz.func91, Tryz.ntmps91
      go_wp2
      refine wp_loop_rounds 3 ?_
      rw [rounds_succ]
      go_wp2
      rw [rounds_succ]
      go_wp2
      go_ret
      exact ⟨by simp, rfl⟩
  · go_enter Tryz.func91, Tryz.ntmps91
    go_wp2
    refine wp_loop_rounds 3 ?_
    rw [rounds_succ]
    go_wp2
    go_ret
    exact ⟨rfl, rfl⟩
/-- The comparison that the program hands to the sort. -/
theorem cmpW_or (a b : Win AggV) : (if cmpI a.start b.start = 0 then cmpK a.key b.key else cmpI a.start b.start) = cmpW a b := rfl
set_option maxRecDepth 100000 in
set_option maxHeartbeats 2000000 in
theorem cmp_any (a b : Win AggV) (w : World) : Calls Tryz.prog 96 #[.agg (outV a).toArray, .agg (outV b).toArray] w fun e w' => e = .returned (.int .i64 (cmpW a b)) ∧ ∃ q os', w' = grow (w.drewN q) os' := by
  obtain ⟨W, hW⟩ : ∃ W, W = (w.alloc (.cells (outV a).toArray 52)).alloc (.cells (outV b).toArray 52) := ⟨_, rfl⟩
  obtain ⟨h, hh⟩ : ∃ h, h = w.heap.size := ⟨_, rfl⟩
  have hsz : W.heap.size = h + 2 := by rw [hW, hh]; simp
  obtain ⟨CL, hCL⟩ : ∃ CL : World → Prop, CL = fun v => Below W.heap.size W v := ⟨_, rfl⟩
  have un : ∀ v, CL v → Below W.heap.size W v := fun v k => by rw [hCL] at k; exact k
  have base : CL W.drew := by rw [hCL]; exact (Below.refl _ _).drew
  have c0 : W.cell? ⟨h, 0, none⟩ = some (.string ⟨a.key.toArray⟩) ∧ W.cell? ⟨h, 1, none⟩ = some (.int .i64 a.start) := by
    have e : ∀ i, W.cell? ⟨h, i, none⟩ = (w.alloc (.cells (outV a).toArray 52)).cell? ⟨h, i, none⟩ := fun i => by
      rw [hW]; exact ((Below.refl _ _).alloc (Nat.le_refl _) _).cell (p := ⟨h, i, none⟩) (by rw [hh]; simp)
    rw [e, e, hh, World.cell?_alloc_new, World.cell?_alloc_new]; exact ⟨rfl, rfl⟩
  have c1 : W.cell? ⟨h + 1, 0, none⟩ = some (.string ⟨b.key.toArray⟩) ∧ W.cell? ⟨h + 1, 1, none⟩ = some (.int .i64 b.start) := by
    have e : h + 1 = (w.alloc (.cells (outV a).toArray 52)).heap.size := by rw [hh]; simp
    rw [hW, e, World.cell?_alloc_new, World.cell?_alloc_new]; exact ⟨rfl, rfl⟩
  have kc : ∀ (p : SW CL) (b i : Nat) (v : Value), b < h + 2 → W.cell? ⟨b, i, none⟩ = some v → p.w.cell? ⟨b, i, none⟩ = some v := fun p b i v hb hv => ((un _ p.ok).cell (p := ⟨b, i, none⟩) (by rw [hsz]; exact hb)).trans hv
  have a0 : ∀ p : SW CL, p.w.cell? ⟨h, 0, none⟩ = some (.string ⟨a.key.toArray⟩) := fun p => kc p _ _ _ (by omega) c0.1
  have a1 : ∀ p : SW CL, p.w.cell? ⟨h, 1, none⟩ = some (.int .i64 a.start) := fun p => kc p _ _ _ (by omega) c0.2
  have b0 : ∀ p : SW CL, p.w.cell? ⟨h + 1, 0, none⟩ = some (.string ⟨b.key.toArray⟩) := fun p => kc p _ _ _ (by omega) c1.1
  have b1 : ∀ p : SW CL, p.w.cell? ⟨h + 1, 1, none⟩ = some (.int .i64 b.start) := fun p => kc p _ _ _ (by omega) c1.2
  have s1 := hide (fun (p : SW CL) => (compare_i a.start b.start p.w))
  have s2 := hide (fun (p : SW CL) => (compare_s a.key b.key p.w))
  have hgr : W.drew = grow (w.drewN 1) #[.cells (outV a).toArray 52, .cells (outV b).toArray 52] := by rw [hW, alloc_eq_grow, alloc_eq_grow, grow_grow]; rfl
  have GR := hide hgr
  have HW := hide hW
  have HH := hide hh
  have BS := hide base
  have UN := hide un
  have CLD := hide hCL
  have OR := hide (fun (g : Nat) (V : World) (h0 : V.cell? ⟨g, 0, none⟩ = some (.int .i64 (cmpI a.start b.start))) (h1 : V.cell? ⟨g, 1, none⟩ = some (.int .i64 (cmpK a.key b.key))) => (cmpW_or a b ▸ or_any _ _ g V h0 h1 :
    Calls Tryz.prog 91 #[.slice (some ⟨g, 0, none⟩) 2 2] V fun e w' => e = .returned (.int .i64 (cmpW a b)) ∧ w' = V))
  generalize cmpW a b = z at *
  clear hgr hW hh hsz hCL un c0 c1 kc base
  generalize cmpI a.start b.start = x at *
  generalize cmpK a.key b.key = y at *
  go_enter Tryz.func96, Tryz.ntmps96
  go_upto_region 1 with fail
  rw [← unhide HH]
  try change Code.wp _ _ _ _ ((w.alloc (.cells (outV a).toArray 52)).alloc (.cells (outV b).toArray 52))
  rw [← unhide HW]
  refine wp_region_chain (S := CL) [true, true, true, true, true, true, true, true, true, true, false, false, false] [false, false, false, false, false, false, false, false, false, false, true, true, true] (by kernel_rfl) (by kernel_rfl) (by kernel_rfl) (unhide BS) ?_
  apply Exists.intro
  apply And.intro
  · intro p
    have n0 : Nonempty (SK CL p.w) := ⟨⟨p, rfl⟩⟩
    simp only [pickM]
    repeat (go_big_quiet_step (first | (go_at_call 97; exact (unhide s1 _).mono fun e w' ⟨he, hw⟩ => ⟨he, _, hw⟩) | (go_at_call 98; exact (unhide s2 _).mono fun e w' ⟨he, hw⟩ => ⟨he, _, hw⟩)))
    exact wpQuiet_nil rfl
  · simp only [pickZ]
    obtain ⟨V, hV⟩ : ∃ V, V = W.drew.alloc (.cells #[.int .i64 x, .int .i64 y] 3) := ⟨_, rfl⟩
    obtain ⟨g, hg⟩ : ∃ g, g = W.drew.heap.size := ⟨_, rfl⟩
    have bV : CL V := by
      have h0 := unhide BS
      have h1 := unhide UN _ h0
      rw [unhide CLD, hV]
      exact h1.alloc h1.size _
    have o0 : V.cell? ⟨g, 0, none⟩ = some (.int .i64 x) := by rw [hV, hg, World.cell?_alloc_new]; rfl
    have o1 : V.cell? ⟨g, 1, none⟩ = some (.int .i64 y) := by rw [hV, hg, World.cell?_alloc_new]; rfl
    refine chain_step (.slice (some ⟨g, 0, none⟩) 2 2) V rfl (by rw [hg, hV]; simp [execOp, go_sem]) bV ?_
    refine chain_call 91 #[.slice (some ⟨g, 0, none⟩) 2 2] rfl (by simp [go_sem]) ?_
    refine (unhide OR g V o0 o1).mono ?_
    rintro e w' ⟨rfl, hw⟩
    rw [hw]
    refine ⟨_, rfl, bV, ?_⟩
    refine chain_step _ V rfl (by simp [execOp, go_sem]; rfl) bV ?_
    simp only [chainM]
    go_wp2
    go_ret
    exact ⟨rfl, 1, _, by rw [hV, unhide GR, alloc_eq_grow, grow_grow]⟩
end Go.Proofs.YtigmhljaoicdbaaGreat

namespace Go.Proofs.YtigmhljaoicdbaaGreat.Sp

structure Hid (p : Prop) : Prop where
  out : p
theorem hide {p : Prop} (h : p) : Hid p := ⟨h⟩
theorem unhide {p : Prop} (h : Hid p) : p := h.out

def i64 (x : Int) : Prop := -9223372036854775808 ≤ x ∧ x ≤ 9223372036854775807
def rightI (x : Int) : Bool := decide (0 ≤ x ∧ x ≤ 1099511627776)
def startI (x : Int) : Int := if 0 ≤ x ∧ x ≤ 1099511627776 then x - x % 10 else -1
def endI (x : Int) : Int := if 0 ≤ x ∧ x ≤ 1099511627776 ∧ x % 10 = 0 then x + 10 else -1
def isOver (s m : Int) : Prop := (0 ≤ s ∧ s ≤ 1099511627776 ∧ s % 10 = 0) ∧ (0 ≤ m ∧ m ≤ 1099511627776) ∧ s + 15 ≤ m
instance (s m : Int) : Decidable (isOver s m) := by unfold isOver; infer_instance
def overI (s m : Int) : Bool := decide (isOver s m)
def lateI (a m : Int) : Bool := overI (startI a) m
def firstI (m : Int) : Int := startI (max (m - 5) 0)

theorem rightI_iff {x : Int} : rightI x = true ↔ 0 ≤ x ∧ x ≤ 1099511627776 := by simp [rightI]
theorem startI_right {x : Int} (h : 0 ≤ x ∧ x ≤ 1099511627776) : startI x = x - x % 10 := if_pos h
theorem startI_wrong {x : Int} (h : ¬ (0 ≤ x ∧ x ≤ 1099511627776)) : startI x = -1 := if_neg h
theorem overI_iff {s m : Int} : overI s m = true ↔ isOver s m := by simp [overI]

/-- At most k windows that are over at m, from s on. -/
def upL (m : Int) : Nat → Int → List Int
  | 0, _ => []
  | k + 1, s => if isOver s m then s :: upL m k (s + 10) else []
def startsL (m since : Int) : List Int := if 0 ≤ since ∧ since ≤ 1099511627776 then upL m 1000 (firstI since) else []

theorem upL_len (m : Int) : ∀ k s, (upL m k s).length ≤ k
  | 0, _ => by simp [upL]
  | k + 1, s => by
    rw [upL]
    split
    · have := upL_len m k (s + 10); simp; omega
    · simp
theorem startsL_len (m since : Int) : (startsL m since).length ≤ 1000 := by
  unfold startsL; split
  · exact upL_len _ _ _
  · simp
theorem firstI_right {m : Int} (h : 0 ≤ m ∧ m ≤ 1099511627776) : 0 ≤ firstI m ∧ firstI m ≤ 1099511627776 ∧ firstI m % 10 = 0 := by
  unfold firstI startI; rw [if_pos (by omega)]; omega
end Go.Proofs.YtigmhljaoicdbaaGreat.Sp

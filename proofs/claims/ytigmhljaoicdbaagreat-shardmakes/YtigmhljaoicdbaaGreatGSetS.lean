/- What the store's Set does. Conditions: the window's key is no longer than a machine's texts, its numbers are int64's; the store has at most 32 windows. -/
import Derived.Test.YtigmhljaoicdbaaGreatGPut
import Derived.Test.YtigmhljaoicdbaaGreatGCmp
import Derived.Test.YtigmhljaoicdbaaGreatGKeys
import Derived.Sort.OwnSorted
import Derived.Laws.IdiomRangeMap
namespace Go.Proofs.YtigmhljaoicdbaaGreat
open Go.RowKit

theorem StIs.below {w w' : World} {p : Nat} {F : Nat → Prop} {l : List (Win AggV)} (h : StIs w p F l) (hb : Below w.heap.size w w') : StIs w' p F l := h.keep (Moved.of_below (F := fun _ => False) hb) (fun _ f => f.elim)
theorem RowAt.below {w w' : World} {B : Nat} {vs : List Value} (h : RowAt w B vs) (hb : Below w.heap.size w w') : RowAt w' B vs := h.keep (Moved.of_below (F := fun _ => False) hb) id
theorem Did.below {w v w' : World} {p : Nat} {F : Nat → Prop} {l : List (Win AggV)} (hb : Below w.heap.size w v) (h : Did v w' p F l) : Did w w' p F l := Did.trans (F := F) (fun _ f => .inl f) ((Moved.of_below (F := fun _ => False) hb).mono fun _ f => f.elim) h
theorem outV_range {w : World} {H : Nat} {x : Win AggV} (h : RowAt w H (outV x)) : w.rangeAt H 2 (cellsA x.agg) := fun j u hu => by
  have := h.range (2 + j) u (by rw [Nat.add_comm]; exact hu)
  rwa [Nat.zero_add] at this
theorem outV_c0 {w : World} {H : Nat} {x : Win AggV} (h : RowAt w H (outV x)) : w.cell? ⟨H, 0, none⟩ = some (.string ⟨x.key.toArray⟩) := h.cell 0 (Nat.succ_pos _)
theorem outV_c1 {w : World} {H : Nat} {x : Win AggV} (h : RowAt w H (outV x)) : w.cell? ⟨H, 1, none⟩ = some (.int .i64 x.start) := h.cell 1 (Nat.lt_of_sub_pos (Nat.succ_pos _))
theorem set_nil (x : Win AggV) (w : World) : Calls Tryz.prog 66 #[.pointer none, .agg (outV x).toArray] w fun e w' => e = .returned (.int .i64 2) ∧ Below w.heap.size w w' := by
  go_enter Tryz.func66, Tryz.ntmps66
  go_wp2
  go_ret
  exact ⟨rfl, (Below.refl _ _).alloc (Nat.le_refl _) _⟩
set_option maxRecDepth 100000 in
set_option maxHeartbeats 2000000 in
theorem set_any {w : World} {p : Nat} {F : Nat → Prop} {l : List (Win AggV)} (h : StIs w p F l) (hl : l.length ≤ 32) (x : Win AggV) (hx : x.agg.In) (hk : okk x.key x.start) :
    Calls Tryz.prog 66 #[.pointer (some ⟨p, 0, none⟩), .agg (outV x).toArray] w fun e w' => e = .returned (.int .i64 ((setS SO l x).2 : Int)) ∧ Did w w' p F (setS SO l x).1 := by
  obtain ⟨W, hW⟩ : ∃ W, W = w.alloc (.cells (outV x).toArray 52) := ⟨_, rfl⟩
  obtain ⟨H, hH⟩ : ∃ H, H = w.heap.size := ⟨_, rfl⟩
  have bW : Below w.heap.size w W := by rw [hW]; exact (Below.refl _ _).alloc (Nat.le_refl _) _
  have R0 : RowAt W H (outV x) := by rw [hW, hH]; exact row_new _ _ _
  have S0 := h.below bW
  have HW := hide hW
  have HH := hide hH
  have BW := hide bW
  have RR := hide R0.range
  clear hW hH bW h
  by_cases hr : (keyOk x.key && SO.isStart x.start && SO.ok x.agg) = true
  · have hr3 : keyOk x.key = true ∧ SO.isStart x.start = true ∧ SO.ok x.agg = true := by simpa [and_assoc] using hr
    have hks : x.key.length ≤ 281474976710656 := by have := of_decide_eq_true hr3.1; omega
    by_cases ho : (look l x.key x.start).isSome = true
    · have RS : Hid (setS SO l x = (l, 5)) := hide (by unfold setS; rw [if_pos hr3, if_pos ho])
      go_enter Tryz.func66, Tryz.ntmps66
      go_upto_region 1 with fail
      rw [← unhide HH]
      try change Code.wp _ _ _ _ (w.alloc (.cells (outV x).toArray 52))
      rw [← unhide HW]
      go_wp2_with (refine wpList_load_on rfl 52 (.tmp 3) rfl H 0 rfl (outV x) _ (unhide RR) Tryz.underlying52 rfl (by kernel_rfl) ?_)
      refine (sright_any x hx _).mono ?_
      rintro e v1 ⟨rfl, hb1⟩
      rw [hr]
      have S1 := S0.below hb1
      have R1 := R0.below hb1
      have B1 := hide ((unhide BW).trans (hb1.mono (unhide BW).size))
      have d0 := outV_c0 R1
      have d1 := outV_c1 R1
      clear hb1 S0 R0 RR
      go_wp2_with fail
      refine (get_any S1 hk).mono ?_
      rintro e v2 ⟨rfl, hb2⟩
      rw [ho]
      generalize (look l x.key x.start).getD zero = a
      obtain ⟨a0, a1, a2, a3, a4, a5, a6, a7⟩ := a
      obtain ⟨V, hV⟩ : ∃ V, V = v2.alloc (.cells #[.int .i64 a0, .int .i64 a1, .int .i64 a2, .int .i64 a3, .int .i64 a4, .int .i64 a5, .int .i64 a6, .int .i64 a7] 50) := ⟨_, rfl⟩
      have b3 : Below v1.heap.size v1 V := by rw [hV]; exact hb2.alloc hb2.size _
      have S3 := S1.below b3
      have R3 := R1.below b3
      have B3 := hide ((unhide B1).trans (b3.mono (unhide B1).size))
      have HV := hide hV
      simp only [aggV, cellsA, I]
      clear hb2 b3 hV d0 d1 S1 R1
      go_wp2_with fail
      go_ret
      rw [← unhide HV]
      exact ⟨by rw [unhide RS]; rfl, by rw [unhide RS]; exact Did.below (unhide B3) (Did.start S3 (Moved.refl _ _))⟩
    · have hn : look l x.key x.start = none := by cases e : look l x.key x.start with | none => rfl | some y => exact absurd (by rw [e]; rfl) ho
      replace ho := Bool.eq_false_iff.2 ho
      by_cases hf : 32 ≤ l.length
      · have RS : Hid (setS SO l x = (l, 6)) := hide (by unfold setS; rw [if_pos hr3, ho, if_neg (by simp), if_pos hf])
        clear hn
        go_enter Tryz.func66, Tryz.ntmps66
        go_upto_region 1 with fail
        rw [← unhide HH]
        try change Code.wp _ _ _ _ (w.alloc (.cells (outV x).toArray 52))
        rw [← unhide HW]
        go_wp2_with (refine wpList_load_on rfl 52 (.tmp 3) rfl H 0 rfl (outV x) _ (unhide RR) Tryz.underlying52 rfl (by kernel_rfl) ?_)
        refine (sright_any x hx _).mono ?_
        rintro e v1 ⟨rfl, hb1⟩
        rw [hr]
        have S1 := S0.below hb1
        have R1 := R0.below hb1
        have B1 := hide ((unhide BW).trans (hb1.mono (unhide BW).size))
        have d0 := outV_c0 R1
        have d1 := outV_c1 R1
        clear hb1 S0 R0 RR
        go_wp2_with fail
        refine (get_any S1 hk).mono ?_
        rintro e v2 ⟨rfl, hb2⟩
        rw [ho]
        generalize (look l x.key x.start).getD zero = a
        obtain ⟨a0, a1, a2, a3, a4, a5, a6, a7⟩ := a
        obtain ⟨V, hV⟩ : ∃ V, V = v2.alloc (.cells #[.int .i64 a0, .int .i64 a1, .int .i64 a2, .int .i64 a3, .int .i64 a4, .int .i64 a5, .int .i64 a6, .int .i64 a7] 50) := ⟨_, rfl⟩
        have b3 : Below v1.heap.size v1 V := by rw [hV]; exact hb2.alloc hb2.size _
        have S3 := S1.below b3
        have R3 := R1.below b3
        have B3 := hide ((unhide B1).trans (b3.mono (unhide B1).size))
        have HV := hide hV
        simp only [aggV, cellsA, I]
        clear hb2 b3 hV d0 d1 S1 R1
        go_wp2_with fail
        rw [← unhide HV]
        refine (full_any S3).mono ?_
        rintro e w' ⟨rfl, hw⟩
        rw [hw, decide_eq_true hf]
        go_wp2_with fail
        go_ret
        exact ⟨by rw [unhide RS]; rfl, by rw [unhide RS]; exact Did.below (unhide B3) (Did.start S3 (Moved.refl _ _))⟩
      · have RS : Hid (setS SO l x = (ins x l, 0)) := hide (by unfold setS; rw [if_pos hr3, ho, if_neg (by simp), if_neg hf])
        clear hn
        go_enter Tryz.func66, Tryz.ntmps66
        go_upto_region 1 with fail
        rw [← unhide HH]
        try change Code.wp _ _ _ _ (w.alloc (.cells (outV x).toArray 52))
        rw [← unhide HW]
        go_wp2_with (refine wpList_load_on rfl 52 (.tmp 3) rfl H 0 rfl (outV x) _ (unhide RR) Tryz.underlying52 rfl (by kernel_rfl) ?_)
        refine (sright_any x hx _).mono ?_
        rintro e v1 ⟨rfl, hb1⟩
        rw [hr]
        have S1 := S0.below hb1
        have R1 := R0.below hb1
        have B1 := hide ((unhide BW).trans (hb1.mono (unhide BW).size))
        have d0 := outV_c0 R1
        have d1 := outV_c1 R1
        clear hb1 S0 R0 RR
        go_wp2_with fail
        refine (get_any S1 hk).mono ?_
        rintro e v2 ⟨rfl, hb2⟩
        rw [ho]
        generalize (look l x.key x.start).getD zero = a
        obtain ⟨a0, a1, a2, a3, a4, a5, a6, a7⟩ := a
        obtain ⟨V, hV⟩ : ∃ V, V = v2.alloc (.cells #[.int .i64 a0, .int .i64 a1, .int .i64 a2, .int .i64 a3, .int .i64 a4, .int .i64 a5, .int .i64 a6, .int .i64 a7] 50) := ⟨_, rfl⟩
        have b3 : Below v1.heap.size v1 V := by rw [hV]; exact hb2.alloc hb2.size _
        have S3 := S1.below b3
        have R3 := R1.below b3
        have B3 := hide ((unhide B1).trans (b3.mono (unhide B1).size))
        have HV := hide hV
        simp only [aggV, cellsA, I]
        clear hb2 b3 hV d0 d1 S1 R1
        go_wp2_with fail
        rw [← unhide HV]
        refine (full_any S3).mono ?_
        rintro e w' ⟨rfl, hw⟩
        rw [hw, decide_eq_false hf]
        have d0 := outV_c0 R3
        have d1 := outV_c1 R3
        have RR3 := hide (outV_range R3)
        go_wp2_with (refine wpList_load_on rfl 50 (.tmp 30) rfl H 2 rfl (cellsA x.agg) _ (unhide RR3) Tryz.underlying50 rfl (by kernel_rfl) ?_)
        refine (keep_any S3 (by omega) x hk hks).mono ?_
        rintro e w9 ⟨rfl, hd⟩
        have HD := hide hd
        clear hd
        go_wp2_with fail
        go_ret
        exact ⟨by rw [unhide RS]; rfl, by rw [unhide RS]; exact Did.below (unhide B3) (unhide HD)⟩
  · have RS : Hid (setS SO l x = (l, 1)) := hide (by unfold setS; rw [if_neg (fun h3 => hr (by rw [h3.1, h3.2.1, h3.2.2]; rfl))])
    replace hr := Bool.eq_false_iff.2 hr
    go_enter Tryz.func66, Tryz.ntmps66
    go_upto_region 1 with fail
    rw [← unhide HH]
    try change Code.wp _ _ _ _ (w.alloc (.cells (outV x).toArray 52))
    rw [← unhide HW]
    go_wp2_with (refine wpList_load_on rfl 52 (.tmp 3) rfl H 0 rfl (outV x) _ (unhide RR) Tryz.underlying52 rfl (by kernel_rfl) ?_)
    refine (sright_any x hx _).mono ?_
    rintro e v1 ⟨rfl, hb1⟩
    rw [hr]
    have FI := hide (Did.below (unhide BW) (Did.start S0 (Moved.of_below hb1)))
    clear hb1
    go_wp2_with fail
    go_ret
    exact ⟨by rw [unhide RS]; rfl, by rw [unhide RS]; exact unhide FI⟩
end Go.Proofs.YtigmhljaoicdbaaGreat

namespace Go.Proofs.YtigmhljaoicdbaaGreat
open Go.RowKit

theorem sput_nil (k : List UInt8) (at_ v : Int) (w : World) : Calls Tryz.prog 80 #[.pointer none, .string ⟨k.toArray⟩, .int .i64 at_, .int .i64 v] w fun e w' => e = .returned (.int .i64 2) ∧ w' = w := by
  go_enter Tryz.func80, Tryz.ntmps80
  go_wp2
  go_ret
  exact ⟨rfl, rfl⟩
theorem putS_in (l : List (Win AggV)) (k : List UInt8) (at_ v : Int) (h : keyOk k = true ∧ Sp.rightI at_ = true) (hf : (look l k (Sp.startI at_)).isSome = true ∨ ¬ 32 ≤ l.length) :
    putS SO l k at_ v = (ins ⟨k, Sp.startI at_, put ((look l k (Sp.startI at_)).getD zero) v⟩ l, 0) := by
  unfold putS
  rw [if_pos (show keyOk k = true ∧ SO.right at_ = true from h)]
  rw [show SO.start at_ = Sp.startI at_ from rfl]
  cases e : look l k (Sp.startI at_) with
  | some a => rfl
  | none =>
    rw [e] at hf
    rcases hf with hf | hf
    · cases hf
    · exact if_neg hf
theorem putS_full (l : List (Win AggV)) (k : List UInt8) (at_ v : Int) (h : keyOk k = true ∧ Sp.rightI at_ = true) (hn : (look l k (Sp.startI at_)).isSome = false) (hf : 32 ≤ l.length) : putS SO l k at_ v = (l, 6) := by
  unfold putS
  rw [if_pos (show keyOk k = true ∧ SO.right at_ = true from h)]
  rw [show SO.start at_ = Sp.startI at_ from rfl]
  cases e : look l k (Sp.startI at_) with
  | some a => rw [e] at hn; cases hn
  | none => exact if_pos hf
set_option maxRecDepth 100000 in
set_option maxHeartbeats 4000000 in
theorem sput_any {w : World} {p : Nat} {F : Nat → Prop} {l : List (Win AggV)} (h : StIs w p F l) (hl : l.length ≤ 32) (hIn : ∀ a ∈ l, a.agg.In) (k : List UInt8) (at_ v : Int) (hv : i64 v) :
    Calls Tryz.prog 80 #[.pointer (some ⟨p, 0, none⟩), .string ⟨k.toArray⟩, .int .i64 at_, .int .i64 v] w fun e w' => e = .returned (.int .i64 ((putS SO l k at_ v).2 : Int)) ∧ Did w w' p F (putS SO l k at_ v).1 := by
  have CKa := hide (fun v => key_any k v)
  have CRa := hide (fun v => Sp.right_any at_ v)
  by_cases hk : keyOk k = true
  · by_cases hr : Sp.rightI at_ = true
    · obtain ⟨s, hs⟩ : ∃ s, s = Sp.startI at_ := ⟨_, rfl⟩
      have hks : k.length ≤ 281474976710656 := by have := of_decide_eq_true hk; omega
      have hok : okk k s := ⟨by have := of_decide_eq_true hk; unfold maxLen; omega, by have := startI_i64 hr; rw [← hs] at this; unfold i64; omega⟩
      have hcs : ∀ W : World, Calls Tryz.prog 104 #[.int .i64 at_] W fun e w' => e = .returned (.int .i64 s) ∧ w' = W := fun W => by rw [hs]; exact Sp.start_any at_ W
      have CS := hide hcs
      have PI := hide (putS_in l k at_ v ⟨hk, hr⟩)
      have PF := hide (putS_full l k at_ v ⟨hk, hr⟩)
      rw [← hs] at PI PF
      have aIn : ((look l k s).getD zero).In := by
        cases e : look l k s with
        | none => exact zero_in
        | some y => exact hIn _ (look_some e)
      obtain ⟨W, hW⟩ : ∃ W, W = w.alloc (.cells (cells2 k s).toArray 151) := ⟨_, rfl⟩
      obtain ⟨H, hH⟩ : ∃ H, H = w.heap.size := ⟨_, rfl⟩
      have bW : Below w.heap.size w W := by rw [hW]; exact (Below.refl _ _).alloc (Nat.le_refl _) _
      have hsz : W.heap.size = H + 1 := by rw [hW, hH]; simp
      have R0 : RowAt W H (cells2 k s) := by rw [hW, hH]; exact row_new _ _ _
      have S0 := h.below bW
      have FH : ∀ i, F i → i < H := fun i hi => by rw [hH]; exact h.lt i hi
      obtain ⟨m, S0', hFm⟩ := id S0
      obtain ⟨CL, hCL⟩ : ∃ CL : World → Prop, CL = fun v => Below W.heap.size W v := ⟨_, rfl⟩
      have un : ∀ v, CL v → Below W.heap.size W v := fun v k => by rw [hCL] at k; exact k
      have base : CL W.drew := by rw [hCL]; exact (Below.refl _ _).drew
      have sk : ∀ q : SW CL, StAt q.w p m l := fun q => S0'.keep (Moved.of_below (F := fun _ => False) (un _ q.ok)) (fun _ f => f.elim)
      have q0 : ∀ q : SW CL, q.w.cell? ⟨p, 0, none⟩ = some (.map m) := fun q => (sk q).way
      have lk0 : ∀ q : SW CL, (Instr.lookup 135 (.map m) (.agg (cells2 k s).toArray) true).run Tryz.prog q.w = .ok (.tuple #[aggV ((look l k s).getD zero), .bool (look l k s).isSome]) q.w := fun q => (sk q).look hok
      have q1 : Hid (∀ q : SW CL, q.w.rangeAt H 0 (cells2 k s)) := hide fun q => (R0.below (un _ q.ok)).range
      have CA := hide (fun o : Obj => (by rw [hCL]; exact ((Below.refl _ W).drew.alloc (Nat.le_refl _) o) : CL (W.drew.alloc o)))
      generalize ha : (look l k s).getD zero = a at *
      obtain ⟨a0, a1, a2, a3, a4, a5, a6, a7⟩ := a
      have lk : ∀ q : SW CL, (Instr.lookup 135 (.map m) (.agg (cells2 k s).toArray) true).run Tryz.prog q.w = .ok (.tuple #[.agg #[.int .i64 a0, .int .i64 a1, .int .i64 a2, .int .i64 a3, .int .i64 a4, .int .i64 a5, .int .i64 a6, .int .i64 a7], .bool (look l k s).isSome]) q.w := lk0
      obtain ⟨V, hV⟩ : ∃ V, V = W.drew.alloc (.cells #[.int .i64 a0, .int .i64 a1, .int .i64 a2, .int .i64 a3, .int .i64 a4, .int .i64 a5, .int .i64 a6, .int .i64 a7] 50) := ⟨_, rfl⟩
      have bV : Below W.heap.size W V := by rw [hV]; exact (Below.refl _ W).drew.alloc (Nat.le_refl _) _
      have V0 : RowAt V H (cells2 k s) := R0.below bV
      have V1 : RowAt V (H + 1) (cellsA ⟨a0, a1, a2, a3, a4, a5, a6, a7⟩) := by
        have := row_new W.drew (cellsA ⟨a0, a1, a2, a3, a4, a5, a6, a7⟩) 50
        rw [← hsz, hV]; exact this
      have SVv := S0.below bV
      obtain ⟨CL2, hCL2⟩ : ∃ CL2 : World → Prop, CL2 = fun v => RowAt v H (cells2 k s) ∧ RowAt v (H + 1) (cellsA ⟨a0, a1, a2, a3, a4, a5, a6, a7⟩) := ⟨_, rfl⟩
      have un2 : ∀ v, CL2 v → RowAt v H (cells2 k s) ∧ RowAt v (H + 1) (cellsA ⟨a0, a1, a2, a3, a4, a5, a6, a7⟩) := fun v k => by rw [hCL2] at k; exact k
      have q3 : Hid (∀ q : SW CL2, q.w.rangeAt H 0 (cells2 k s)) := hide fun q => (un2 _ q.ok).1.range
      have q4 : Hid (∀ q : SW CL2, q.w.rangeAt (H + 1) 0 (cellsA ⟨a0, a1, a2, a3, a4, a5, a6, a7⟩)) := hide fun q => (un2 _ q.ok).2.range
      have dV : Below V.heap.size V V.drew := (Below.refl _ V).drew
      have B2 : Hid (CL2 V.drew) := hide (by rw [hCL2]; exact ⟨V0.below dV, V1.below dV⟩)
      have C2B := hide (fun (v1 : World) (hb : Below V.drew.heap.size V.drew v1) => (by rw [hCL2]; exact ⟨(V0.below dV).below hb, (V1.below dV).below hb⟩ : CL2 v1))
      have C2D := hide (fun (v1 w9 : World) (hb : Below V.drew.heap.size V.drew v1) (hd : Did v1 w9 p F (ins ⟨k, s, put ⟨a0, a1, a2, a3, a4, a5, a6, a7⟩ v⟩ l)) => (by
        obtain ⟨_, _, _, hm⟩ := hd
        rw [hCL2]; exact ⟨((V0.below dV).below hb).keep hm (fun f => by have := FH _ f; omega), ((V1.below dV).below hb).keep hm (fun f => by have := FH _ f; omega)⟩ : CL2 w9))
      have bAll : Below w.heap.size w V := bW.trans (bV.mono bW.size)
      have FIN := hide (fun (v1 w9 : World) (hb : Below V.drew.heap.size V.drew v1) (hd : Did v1 w9 p F (ins ⟨k, s, put ⟨a0, a1, a2, a3, a4, a5, a6, a7⟩ v⟩ l)) => (Did.below bAll (Did.below dV (Did.below hb hd)) : Did w w9 p F (ins ⟨k, s, put ⟨a0, a1, a2, a3, a4, a5, a6, a7⟩ v⟩ l)))
      have FIV := hide (Did.below bAll (Did.start SVv (Moved.refl _ _)) : Did w V p F l)
      have SV := hide SVv
      have AI := hide aIn
      have HW := hide hW
      have HH := hide hH
      have HSZ := hide hsz
      have HV := hide hV
      have BS := hide base
      clear hW hH hsz hV base bW R0 S0 S0' hFm hCL un sk bV V0 V1 SVv hCL2 un2 dV bAll lk0 aIn hcs FH ha hs hIn h
      have hkk := hk
      have hrr := hr
      have CK := hide (fun v => (unhide CKa v).mono (fun e w' (h : e = .returned (.bool (keyOk k)) ∧ w' = v) => (by rw [hk] at h; exact h : e = .returned (.bool true) ∧ w' = v)))
      have CR := hide (fun v => (unhide CRa v).mono (fun e w' (h : e = .returned (.bool (Sp.rightI at_)) ∧ w' = v) => (by rw [hr] at h; exact h : e = .returned (.bool true) ∧ w' = v)))
      clear CKa CRa hk hr hkk hrr
      by_cases ho : (look l k s).isSome = true
      · have RS := hide (unhide PI (.inl ho))
        clear PI PF
        rw [ho] at lk
        go_enter Tryz.func80, Tryz.ntmps80
        go_upto_region 5 with (first | (go_at_call 78; refine (unhide CK _).mono ?_; rintro e w' ⟨rfl, hw⟩; rw [hw]) | (go_at_call 64; refine (unhide CR _).mono ?_; rintro e w' ⟨rfl, hw⟩; rw [hw]))
        go_upto_region 6 with (first | (go_at_call 104; refine (unhide CS _).mono ?_; rintro e w' ⟨rfl, hw⟩; rw [hw]))
        rw [← unhide HH]
        try change Code.wp _ _ _ _ (w.alloc (.cells (cells2 k s).toArray 151))
        rw [← unhide HW]
        refine wp_region_chain (S := CL) [true, true, true, true, true, true, true, true, true, false, false, false] [false, false, false, false, false, false, false, false, false, true, true, true] (by kernel_rfl) (by kernel_rfl) (by kernel_rfl) (unhide BS) ?_
        apply Exists.intro
        apply And.intro
        · intro q
          have n0 : Nonempty (SK CL q.w) := ⟨⟨q, rfl⟩⟩
          simp only [pickM]
          repeat (go_big_quiet_step (fail))
          refine wpQuiet_load_onx rfl 151 (.tmp 9) rfl H 0 rfl (cells2 k s) _ (by rintro v ⟨q', rfl⟩; exact unhide q1 q'.s) Tryz.underlying151 rfl (by kernel_rfl) ?_
          go_simp
          repeat (first | go_big_quiet_step (fail) | quiet_step (fail))
          exact wpQuiet_nil rfl
        · simp only [pickZ]
          refine chain_step (.pointer (some ⟨H + 1, 0, none⟩)) (W.drew.alloc (.cells #[.int .i64 0, .int .i64 0, .int .i64 0, .int .i64 0, .int .i64 0, .int .i64 0, .int .i64 0, .int .i64 0] 50)) rfl (by simp [go_sem, unhide HSZ]) (unhide CA _) ?_
          refine chain_skip (W.drew.alloc (.cells #[.int .i64 a0, .int .i64 a1, .int .i64 a2, .int .i64 a3, .int .i64 a4, .int .i64 a5, .int .i64 a6, .int .i64 a7] 50)) rfl (by rw [← unhide HSZ]; simp [go_sem]) (unhide CA _) ?_
          rw [← unhide HV]
          refine chain_step _ V rfl (by simp [go_sem]; rfl) (by rw [unhide HV]; exact unhide CA _) ?_
          simp only [chainM]
          clear lk q0
          go_upto_region 9 with fail
          refine wp_region_chain (S := CL2) [true, true, true, true, false, false] [false, false, false, false, true, true] (by kernel_rfl) (by kernel_rfl) (by kernel_rfl) (unhide B2) ?_
          apply Exists.intro
          apply And.intro
          · intro q
            have n0 : Nonempty (SK CL2 q.w) := ⟨⟨q, rfl⟩⟩
            simp only [pickM]
            repeat (go_big_quiet_step (fail))
            refine wpQuiet_load_onx rfl 151 (.tmp 9) rfl H 0 rfl (cells2 k s) _ (by rintro v ⟨q', rfl⟩; exact unhide q3 q'.s) Tryz.underlying151 rfl (by kernel_rfl) ?_
            go_simp
            refine wpQuiet_load_onx rfl 50 (.tmp 10) rfl (H + 1) 0 rfl (cellsA ⟨a0, a1, a2, a3, a4, a5, a6, a7⟩) _ (by rintro v ⟨q', rfl⟩; exact unhide q4 q'.s) Tryz.underlying50 rfl (by kernel_rfl) ?_
            go_simp
            repeat (go_big_quiet_step (fail))
            exact wpQuiet_nil rfl
          · simp only [pickZ]
            refine chain_call 105 #[.agg (cellsA ⟨a0, a1, a2, a3, a4, a5, a6, a7⟩).toArray, .int .i64 v] rfl (by simp [go_sem]) ?_
            refine (put_any ⟨a0, a1, a2, a3, a4, a5, a6, a7⟩ v V.drew (unhide AI) hv).mono ?_
            rintro e v1 ⟨rfl, hb⟩
            refine ⟨_, rfl, unhide C2B _ hb, ?_⟩
            refine chain_call 90 #[.pointer (some ⟨p, 0, none⟩), .agg (cells2 k s).toArray, .agg (cellsA (put ⟨a0, a1, a2, a3, a4, a5, a6, a7⟩ v)).toArray] rfl (by simp [go_sem, aggV]) ?_
            refine (keep_any ((unhide SV).below (Below.drew (Below.refl _ V)) |>.below hb) (by omega) ⟨k, s, put ⟨a0, a1, a2, a3, a4, a5, a6, a7⟩ v⟩ hok hks).mono ?_
            rintro e w9 ⟨rfl, hd⟩
            refine ⟨_, rfl, unhide C2D _ _ hb hd, ?_⟩
            have HD := hide hd
            have HB := hide hb
            clear hd hb
            simp only [chainM]
            go_wp2_with fail
            go_ret
            exact ⟨by rw [unhide RS]; rfl, by rw [unhide RS]; exact unhide FIN _ _ (unhide HB) (unhide HD)⟩
      · replace ho := Bool.eq_false_iff.2 ho
        rw [ho] at lk
        by_cases hf : 32 ≤ l.length
        · have RS := hide (unhide PF ho hf)
          have hfd : decide (32 ≤ l.length) = true := decide_eq_true hf
          clear PI PF hf
          go_enter Tryz.func80, Tryz.ntmps80
          go_upto_region 5 with (first | (go_at_call 78; refine (unhide CK _).mono ?_; rintro e w' ⟨rfl, hw⟩; rw [hw]) | (go_at_call 64; refine (unhide CR _).mono ?_; rintro e w' ⟨rfl, hw⟩; rw [hw]))
          go_upto_region 6 with (first | (go_at_call 104; refine (unhide CS _).mono ?_; rintro e w' ⟨rfl, hw⟩; rw [hw]))
          rw [← unhide HH]
          try change Code.wp _ _ _ _ (w.alloc (.cells (cells2 k s).toArray 151))
          rw [← unhide HW]
          refine wp_region_chain (S := CL) [true, true, true, true, true, true, true, true, true, false, false, false] [false, false, false, false, false, false, false, false, false, true, true, true] (by kernel_rfl) (by kernel_rfl) (by kernel_rfl) (unhide BS) ?_
          apply Exists.intro
          apply And.intro
          · intro q
            have n0 : Nonempty (SK CL q.w) := ⟨⟨q, rfl⟩⟩
            simp only [pickM]
            repeat (go_big_quiet_step (fail))
            refine wpQuiet_load_onx rfl 151 (.tmp 9) rfl H 0 rfl (cells2 k s) _ (by rintro v ⟨q', rfl⟩; exact unhide q1 q'.s) Tryz.underlying151 rfl (by kernel_rfl) ?_
            go_simp
            repeat (first | go_big_quiet_step (fail) | quiet_step (fail))
            exact wpQuiet_nil rfl
          · simp only [pickZ]
            refine chain_step (.pointer (some ⟨H + 1, 0, none⟩)) (W.drew.alloc (.cells #[.int .i64 0, .int .i64 0, .int .i64 0, .int .i64 0, .int .i64 0, .int .i64 0, .int .i64 0, .int .i64 0] 50)) rfl (by simp [go_sem, unhide HSZ]) (unhide CA _) ?_
            refine chain_skip (W.drew.alloc (.cells #[.int .i64 a0, .int .i64 a1, .int .i64 a2, .int .i64 a3, .int .i64 a4, .int .i64 a5, .int .i64 a6, .int .i64 a7] 50)) rfl (by rw [← unhide HSZ]; simp [go_sem]) (unhide CA _) ?_
            rw [← unhide HV]
            refine chain_step _ V rfl (by simp [go_sem]; rfl) (by rw [unhide HV]; exact unhide CA _) ?_
            simp only [chainM]
            clear lk q0
            go_wp2_with (first | (go_at_call 89; refine (full_any (unhide SV)).mono ?_; rintro e w' ⟨rfl, hw⟩; rw [hw, hfd]))
            go_ret
            exact ⟨by rw [unhide RS]; rfl, by rw [unhide RS]; exact unhide FIV⟩
        · have RS := hide (unhide PI (.inr hf))
          have hfd : decide (32 ≤ l.length) = false := decide_eq_false hf
          clear PI PF hf
          go_enter Tryz.func80, Tryz.ntmps80
          go_upto_region 5 with (first | (go_at_call 78; refine (unhide CK _).mono ?_; rintro e w' ⟨rfl, hw⟩; rw [hw]) | (go_at_call 64; refine (unhide CR _).mono ?_; rintro e w' ⟨rfl, hw⟩; rw [hw]))
          go_upto_region 6 with (first | (go_at_call 104; refine (unhide CS _).mono ?_; rintro e w' ⟨rfl, hw⟩; rw [hw]))
          rw [← unhide HH]
          try change Code.wp _ _ _ _ (w.alloc (.cells (cells2 k s).toArray 151))
          rw [← unhide HW]
          refine wp_region_chain (S := CL) [true, true, true, true, true, true, true, true, true, false, false, false] [false, false, false, false, false, false, false, false, false, true, true, true] (by kernel_rfl) (by kernel_rfl) (by kernel_rfl) (unhide BS) ?_
          apply Exists.intro
          apply And.intro
          · intro q
            have n0 : Nonempty (SK CL q.w) := ⟨⟨q, rfl⟩⟩
            simp only [pickM]
            repeat (go_big_quiet_step (fail))
            refine wpQuiet_load_onx rfl 151 (.tmp 9) rfl H 0 rfl (cells2 k s) _ (by rintro v ⟨q', rfl⟩; exact unhide q1 q'.s) Tryz.underlying151 rfl (by kernel_rfl) ?_
            go_simp
            repeat (first | go_big_quiet_step (fail) | quiet_step (fail))
            exact wpQuiet_nil rfl
          · simp only [pickZ]
            refine chain_step (.pointer (some ⟨H + 1, 0, none⟩)) (W.drew.alloc (.cells #[.int .i64 0, .int .i64 0, .int .i64 0, .int .i64 0, .int .i64 0, .int .i64 0, .int .i64 0, .int .i64 0] 50)) rfl (by simp [go_sem, unhide HSZ]) (unhide CA _) ?_
            refine chain_skip (W.drew.alloc (.cells #[.int .i64 a0, .int .i64 a1, .int .i64 a2, .int .i64 a3, .int .i64 a4, .int .i64 a5, .int .i64 a6, .int .i64 a7] 50)) rfl (by rw [← unhide HSZ]; simp [go_sem]) (unhide CA _) ?_
            rw [← unhide HV]
            refine chain_step _ V rfl (by simp [go_sem]; rfl) (by rw [unhide HV]; exact unhide CA _) ?_
            simp only [chainM]
            clear lk q0
            go_upto_region 9 with (first | (go_at_call 89; refine (full_any (unhide SV)).mono ?_; rintro e w' ⟨rfl, hw⟩; rw [hw, hfd]))
            refine wp_region_chain (S := CL2) [true, true, true, true, false, false] [false, false, false, false, true, true] (by kernel_rfl) (by kernel_rfl) (by kernel_rfl) (unhide B2) ?_
            apply Exists.intro
            apply And.intro
            · intro q
              have n0 : Nonempty (SK CL2 q.w) := ⟨⟨q, rfl⟩⟩
              simp only [pickM]
              repeat (go_big_quiet_step (fail))
              refine wpQuiet_load_onx rfl 151 (.tmp 9) rfl H 0 rfl (cells2 k s) _ (by rintro v ⟨q', rfl⟩; exact unhide q3 q'.s) Tryz.underlying151 rfl (by kernel_rfl) ?_
              go_simp
              refine wpQuiet_load_onx rfl 50 (.tmp 10) rfl (H + 1) 0 rfl (cellsA ⟨a0, a1, a2, a3, a4, a5, a6, a7⟩) _ (by rintro v ⟨q', rfl⟩; exact unhide q4 q'.s) Tryz.underlying50 rfl (by kernel_rfl) ?_
              go_simp
              repeat (go_big_quiet_step (fail))
              exact wpQuiet_nil rfl
            · simp only [pickZ]
              refine chain_call 105 #[.agg (cellsA ⟨a0, a1, a2, a3, a4, a5, a6, a7⟩).toArray, .int .i64 v] rfl (by simp [go_sem]) ?_
              refine (put_any ⟨a0, a1, a2, a3, a4, a5, a6, a7⟩ v V.drew (unhide AI) hv).mono ?_
              rintro e v1 ⟨rfl, hb⟩
              refine ⟨_, rfl, unhide C2B _ hb, ?_⟩
              refine chain_call 90 #[.pointer (some ⟨p, 0, none⟩), .agg (cells2 k s).toArray, .agg (cellsA (put ⟨a0, a1, a2, a3, a4, a5, a6, a7⟩ v)).toArray] rfl (by simp [go_sem, aggV]) ?_
              refine (keep_any ((unhide SV).below (Below.drew (Below.refl _ V)) |>.below hb) (by omega) ⟨k, s, put ⟨a0, a1, a2, a3, a4, a5, a6, a7⟩ v⟩ hok hks).mono ?_
              rintro e w9 ⟨rfl, hd⟩
              refine ⟨_, rfl, unhide C2D _ _ hb hd, ?_⟩
              have HD := hide hd
              have HB := hide hb
              clear hd hb
              simp only [chainM]
              go_wp2_with fail
              go_ret
              exact ⟨by rw [unhide RS]; rfl, by rw [unhide RS]; exact unhide FIN _ _ (unhide HB) (unhide HD)⟩
    · have RS : Hid (putS SO l k at_ v = (l, 1)) := hide (put_no (fun h3 => hr h3.2))
      replace hr := Bool.eq_false_iff.2 hr
      have CK := hide (fun v => (unhide CKa v).mono (fun e w' (h : e = .returned (.bool (keyOk k)) ∧ w' = v) => (by rw [hk] at h; exact h : e = .returned (.bool true) ∧ w' = v)))
      have CR := hide (fun v => (unhide CRa v).mono (fun e w' (h : e = .returned (.bool (Sp.rightI at_)) ∧ w' = v) => (by rw [hr] at h; exact h : e = .returned (.bool false) ∧ w' = v)))
      clear CKa CRa hk hr
      go_enter Tryz.func80, Tryz.ntmps80
      go_wp2_with (first | (go_at_call 78; refine (unhide CK _).mono ?_; rintro e w' ⟨rfl, hw⟩; rw [hw]) | (go_at_call 64; refine (unhide CR _).mono ?_; rintro e w' ⟨rfl, hw⟩; rw [hw]))
      go_ret
      exact ⟨by rw [unhide RS]; rfl, by rw [unhide RS]; exact Did.start h (Moved.refl _ _)⟩
  · have RS : Hid (putS SO l k at_ v = (l, 1)) := hide (put_no (fun h3 => hk h3.1))
    replace hk := Bool.eq_false_iff.2 hk
    have CK := hide (fun v => (unhide CKa v).mono (fun e w' (h : e = .returned (.bool (keyOk k)) ∧ w' = v) => (by rw [hk] at h; exact h : e = .returned (.bool false) ∧ w' = v)))
    clear CKa CRa hk
    go_enter Tryz.func80, Tryz.ntmps80
    go_wp2_with (first | (go_at_call 78; refine (unhide CK _).mono ?_; rintro e w' ⟨rfl, hw⟩; rw [hw]))
    go_ret
    exact ⟨by rw [unhide RS]; rfl, by rw [unhide RS]; exact Did.start h (Moved.refl _ _)⟩
end Go.Proofs.YtigmhljaoicdbaaGreat

namespace Go.Proofs.YtigmhljaoicdbaaGreat
open Go.RowKit Go.Sort

theorem flat_cells (d : Array (Win AggV)) : (flatK outV 10 d).toList = OutK.cells d.toList := by
  have hl : (OutK.cells d.toList).length = d.size * 10 := by rw [cells_length outK_law]; simp [OutK]
  apply List.ext_getElem?
  intro t
  by_cases ht : t < d.size * 10
  · have h1 : t / 10 < d.size := by omega
    have h2 : t % 10 < OutK.sz := Nat.mod_lt _ (by decide)
    have hd : d.toList[t / 10]? = some d[t / 10]! := by simp [h1]
    have e := cells_at outK_law hd h2
    have e2 : t / 10 * OutK.sz + t % 10 = t := by show t / 10 * 10 + t % 10 = t; omega
    rw [e2] at e
    rw [e]
    have h3 : t < (flatK outV 10 d).size := by rw [size_flatK]; exact ht
    have h4 := get_flatK outV 10 d t ht
    rw [getElem!_pos _ t h3] at h4
    rw [Array.getElem?_toList, Array.getElem?_eq_getElem h3, h4]
    have hlen : t % 10 < (outV d[t / 10]!).length := by rw [show (outV d[t / 10]!).length = 10 from rfl]; exact h2
    rw [getElem!_pos (outV d[t / 10]!) (t % 10) hlen]
    exact (List.getElem?_eq_getElem hlen).symm
  · rw [List.getElem?_eq_none (by simp; omega), List.getElem?_eq_none (by rw [hl]; omega)]
theorem heap_sortedK {w : World} {g n : Nat} {os : Array Obj} {cur : Array Value} {e : TypeId} {fr : Nat × Nat} (d : Array Value) (hb : w.heap[g]? = some (.cells cur e fr)) :
    (grow (putRow id (Sort.ahead w n) g 0 d) os).heap[g]? = some (.cells (putCells id 0 d cur) e fr) := by
  have hg : g < w.heap.size := (Array.getElem?_eq_some_iff.1 hb).1
  rw [heap_grow_old _ _ (by simpa using hg)]
  simp [putRow, mapBlock, Sort.ahead, Array.getElem?_modify, hb, onCells]
theorem moved_sortedK {w : World} {g n : Nat} {os : Array Obj} (d : Array Value) : Moved (fun i => i = g) w (grow (putRow id (Sort.ahead w n) g 0 d) os) := by
  refine ⟨rfl, rfl, rfl, by simp, fun k hk hne => ?_⟩
  rw [heap_grow_old _ _ (by simpa using hk)]
  have : g ≠ k := fun e => hne e.symm
  simp [putRow, mapBlock, Sort.ahead, Array.getElem?_modify, this]
theorem take_putCellsK (cur ts : Array Value) (h : ts.size ≤ cur.size) : (putCells id 0 ts cur).toList.take ts.size = ts.toList := by
  apply List.ext_getElem?
  intro j
  by_cases hj : j < ts.size
  · rw [List.getElem?_take_of_lt hj, Array.getElem?_toList]
    simp [putCells, hj, show j < cur.size by omega]
  · rw [List.getElem?_take_eq_none (by omega), List.getElem?_eq_none (by simp; omega)]
theorem holds_row {w : World} {g : Nat} {cur : Array Value} {e : TypeId} {c : List (Win AggV)} (hb : w.heap[g]? = some (.cells cur e (0, 0))) (ht : cur.toList.take (c.length * 10) = OutK.cells c) : HoldsK outV 10 w g 0 c.toArray := by
  intro j hj
  have hf : (flatK outV 10 c.toArray).toList = OutK.cells c := flat_cells _
  have hj2 : j < (flatK outV 10 c.toArray).size := hj
  have hj' : j < c.length * 10 := by rw [size_flatK] at hj2; simpa using hj2
  refine ⟨?_, by simp [World.frozen?, hb]⟩
  have h1 : (cur.toList.take (c.length * 10))[j]? = (OutK.cells c)[j]? := by rw [ht]
  rw [List.getElem?_take_of_lt hj', ← hf, Array.getElem?_toList, Array.getElem?_toList, Array.getElem?_eq_getElem hj2] at h1
  simp only [World.cell?, hb, Nat.zero_add, Option.isSome_none, Bool.false_eq_true, if_false]
  rw [h1, getElem!_pos _ j hj2]
  rfl
/-- The sort. -/
theorem sort_any {w : World} {base : Nat} {a : Option Addr} {cp : Nat} {c l : List (Win AggV)} (hR : OutK.Row w base a cp c) (hr : Rise l) (hp : c.Perm l) (hn : c.length ≤ 1000000) :
    Calls Tryz.prog 95 #[.slice a c.length cp, .func (.func 96) #[] #[]] w fun e w' => e = .returned (.tuple #[]) ∧ OutK.Row w' base a cp l ∧ Below base w w' := by
  rcases hR.2 with ⟨hv, h0⟩ | ⟨g, cap, cur, hv, hbase, hb, h1, h2, h3, h4⟩
  · simp only [Value.slice.injEq] at hv
    obtain ⟨rfl, hz, rfl⟩ := hv
    have hc : c = [] := List.length_eq_zero_iff.1 hz
    subst hc
    have hl : l = [] := List.Perm.nil_eq hp |>.symm
    subst hl
    have hcon := AnyF.slices_SortFunc_none (P := Tryz.prog) (ρ := sortOut_ren) sortOut none 0 (.func (.func 96) #[] #[]) w
    change Calls Tryz.prog 95 _ _ _ at hcon
    refine hcon.mono ?_
    rintro e w' ⟨rfl, rfl⟩
    exact ⟨rfl, hR, Below.refl _ _⟩
  · simp only [Value.slice.injEq] at hv
    obtain ⟨rfl, _, rfl⟩ := hv
    have h4' : cur.toList.take (c.length * 10) = OutK.cells c := h4
    have hg : g < w.heap.size := (Array.getElem?_eq_some_iff.1 hb).1
    have eg : ∀ args w, (callFunc 96 args).run Tryz.prog w = .ok (.enter 96 args) w := enters_of Tryz.func96 (by kernel_rfl) rfl
    have hcon := AnyQ.slices_SortFunc (P := Tryz.prog) (ρ := sortOut_ren) sortOut 10 Tryz.isAgg52 Tryz.sizeOf52 outV (fun _ => rfl) (fun x v hv => outK_law.one x v hv) cmpW ahead_swo 96 #[] g 0 cp c.toArray w eg
      (fun m os dk _ x y => cmp_any x y _) (holds_row hb h4') hg (by simp; omega)
    change Calls Tryz.prog 95 _ _ _ at hcon
    rw [show c.toArray.size = c.length by simp] at hcon
    refine hcon.mono ?_
    rintro e w' ⟨rfl, d', n, os, hpm, hs, hw⟩
    have hd : d'.toList = l := sorted_rise hr ((perm_in hpm).trans (by simpa using hp)) (by
      have : d'.size = c.toArray.size := hpm.1
      rw [this]; exact hs)
    have hlen : c.length = l.length := hp.length_eq
    have hw' : w' = grow (putRow id (Sort.ahead w n) g 0 (flatK outV 10 d')) os := hw
    have hsz : (flatK outV 10 d').size = l.length * 10 := by rw [size_flatK, ← hd]; simp
    refine ⟨rfl, ⟨?_, .inr ⟨g, cp, putCells id 0 (flatK outV 10 d') cur, rfl, hbase, ?_, by omega, h2, ?_, ?_⟩⟩, ?_⟩
    · exact cells_length outK_law l
    · rw [hw']; exact heap_sortedK _ hb
    · simpa [putCells] using h3
    · show (putCells id 0 (flatK outV 10 d') cur).toList.take (l.length * 10) = _
      rw [← hsz, take_putCellsK _ _ (by rw [hsz, h3, ← hlen]; exact Nat.mul_le_mul_right _ h1), flat_cells, hd]
    · rw [hw']; exact (moved_sortedK _).below (fun i e => by rw [e]; exact hbase) (by omega)
end Go.Proofs.YtigmhljaoicdbaaGreat

namespace Go.Proofs.YtigmhljaoicdbaaGreat
open Go.RowKit Go.Maps

theorem all_nil (w : World) : Calls Tryz.prog 71 #[.pointer none] w fun e w' => e = .returned (.slice none 0 0) ∧ w' = w := by
  go_enter Tryz.func71, Tryz.ntmps71
  go_wp2
  go_ret
  exact ⟨rfl, rfl⟩
theorem twin_nil (w : World) : Calls Tryz.prog 75 #[.pointer none] w fun e w' => e = .returned (.pointer none) ∧ w' = w := by
  go_enter Tryz.func75, Tryz.ntmps75
  go_wp2
  go_ret
  exact ⟨rfl, rfl⟩
theorem cloned {w : World} {m : Option Nat} {l : List (Win AggV)} (h : (m = none ∧ l = []) ∨ ∃ b, m = some b ∧ MapIs w b l) :
    Calls Tryz.prog 102 #[.map m] w fun e w' => ∃ m', e = .returned (.map m') ∧ Below w.heap.size w w' ∧ (∀ b, m' = some b → w.heap.size ≤ b) ∧ ((m' = none ∧ l = []) ∨ ∃ b, m' = some b ∧ MapIs w' b l) := by
  rcases h with ⟨rfl, rfl⟩ | ⟨b, rfl, D, ho, hD⟩
  · refine (AnyW.maps_Clone_nil (P := Tryz.prog) (ρ := cloneMap_ren) cloneMap w).mono ?_
    rintro e w' ⟨rfl, rfl⟩
    exact ⟨none, rfl, Below.refl _ _, fun b e => (by cases e), .inl ⟨rfl, rfl⟩⟩
  · refine (AnyW.maps_Clone_owns (P := Tryz.prog) (ρ := cloneMap_ren) cloneMap 151 Rw b _ D w ho).mono ?_
    rintro e w' ⟨rfl, h1, _, hb⟩
    exact ⟨some w.heap.size, rfl, hb, fun b' e => by cases e; exact Nat.le_refl _, .inr ⟨_, rfl, D, h1, hD⟩⟩
theorem twin_any {w : World} {p : Nat} {F : Nat → Prop} {l : List (Win AggV)} (h : StIs w p F l) :
    Calls Tryz.prog 75 #[.pointer (some ⟨p, 0, none⟩)] w fun e w' => ∃ q F', e = .returned (.pointer (some ⟨q, 0, none⟩)) ∧ StIs w' q F' l ∧ (∀ k, F' k → w.heap.size ≤ k) ∧ Below w.heap.size w w' := by
  obtain ⟨m, h, rfl⟩ := h
  have hw := h.way
  have hc := hide (cloned h.what)
  have FI := hide h.fine
  clear h
  go_enter Tryz.func75, Tryz.ntmps75
  go_wp2_with fail
  refine (unhide hc).mono ?_
  rintro e v ⟨m', rfl, hb, hf, hm⟩
  have HB := hide hb
  have HF := hide hf
  have HM := hide hm
  clear hb hf hm
  go_wp2_with fail
  go_ret
  have hb := unhide HB
  refine ⟨v.heap.size, foot v.heap.size m', rfl, ⟨m', ⟨?_, ?_, ?_, ?_, unhide FI⟩, rfl⟩, ?_, hb.alloc hb.size _⟩
  · rw [World.cell?_alloc_new]; rfl
  · simp
  · refine (unhide HM).imp id ?_
    rintro ⟨b, e, hm⟩
    exact ⟨b, e, hm.keep (Below.heap_alloc _ _ b hm.lt)⟩
  · intro b e
    rcases unhide HM with ⟨h0, _⟩ | ⟨b', e', hm⟩
    · rw [h0] at e; cases e
    · rw [e] at e'; cases e'; have := hm.lt; omega
  · rintro k (rfl | e)
    · exact hb.size
    · exact unhide HF k e
theorem range_of {w : World} {b n : Nat} {D : DataW AggV} (h : w.ownsMap Tryz.prog 151 Rw b n D) : ∃ w', (Instr.range 135 (.map (some b))).run Tryz.prog w = .ok (.pointer (some ⟨w.heap.size, 0, none⟩)) w' ∧ w'.ranges Tryz.prog 151 Rw b w.heap.size n D (Maps.has D) (Maps.size D) ∧ w.grownBy w' none ∧ w'.heap.size = w.heap.size + 1 := h.range keyed Tryz.underlying135
theorem lies_new (w : World) (z : Win AggV) : OutK.Lies (w.alloc (.cells (outV z).toArray 52)) (some ⟨w.heap.size, 0, none⟩) [z] := by
  refine ⟨fun e => (by cases e), fun x e j u hu => ?_⟩
  cases e
  have hu' : (outV z)[j]? = some u := by simpa [RowK.cells, OutK] using hu
  have := (row_new w (outV z) 52).range j u hu'
  rwa [Addr.add_mid]
set_option maxRecDepth 100000 in
set_option maxHeartbeats 2000000 in
theorem all_map {w : World} {p b : Nat} {l : List (Win AggV)} (h : StAt w p (some b) l) (hl : l.length ≤ 1000) :
    Calls Tryz.prog 71 #[.pointer (some ⟨p, 0, none⟩)] w fun e w' => ∃ a cp, e = .returned (.slice a l.length cp) ∧ OutK.Row w' w.heap.size a cp l ∧ Below w.heap.size w w' := by
  obtain ⟨D, ho, hD⟩ : ∃ D, w.ownsMap Tryz.prog 151 Rw b l.length D ∧ DIs klw D l := by
    rcases h.what with ⟨h0, _⟩ | ⟨b', e, D, h1, h2⟩
    · cases h0
    · cases e; exact ⟨D, h1, h2⟩
  have hw := h.way
  have hr := h.fine.rise
  have hok := h.fine.oks
  have HR := hide hr
  have HOK := hide hok
  have HD := hide hD
  have HO := hide ho
  have BL := hide ho.lt
  obtain ⟨w0, hrun, hrg, hg, hs⟩ := range_of ho
  obtain ⟨r, hre⟩ : ∃ r, r = w.heap.size := ⟨_, rfl⟩
  rw [← hre] at hrun hrg
  have RE := hide hre
  clear h hr hok hD ho
  have START : Hid (OutK.Row w0 r none 0 [] ∧ w0.ranges Tryz.prog 151 Rw b r l.length D (has D) (size D) ∧ Coll klw l (has D) [] ∧ Below r w w0) :=
    hide ⟨row_none _ _, hrg, coll_start keyL (unhide HD) (unhide HOK) (unhide HR), ⟨hg.os, hg.tape, hg.output, hg.size, fun k hk => hg.block k (by rw [← hre]; exact hk) (by simp)⟩⟩
  clear hrg hg hs hre
  go_enter Tryz.func71, Tryz.ntmps71
  go_wp2_with fail
  go_loopw [3] (fun i wr => ∃ left cnt a cp, ∃ c : List (Win AggV), i = .slice a c.length cp ∧ OutK.Row wr r a cp c ∧ wr.ranges Tryz.prog 151 Rw b r l.length D left cnt ∧ Coll klw l left c ∧ Below r w wr) (fun _ wr => wr.rangeLeft b r)
  case atStart => exact ⟨_, _, none, 0, [], rfl, (unhide START).1, (unhide START).2.1, (unhide START).2.2.1, (unhide START).2.2.2⟩
  case round =>
    obtain ⟨left, cnt, a, cp, c, rfl, hrow, hrg, hco, hbl⟩ := hrel
    have HROW := hide hrow
    have HCO := hide hco
    have HBL := hide hbl
    have HRG := hide hrg
    clear hrow hco hbl hrg
    rcases (unhide HRG).next keyed 0 with ⟨_, hl0, hnx⟩ | ⟨key, v, kl, y, w2, cnt2, hkey, hlk, hv, hat, hnx, hrg2, hlt, hg2, hs2, hen⟩
    · have HP := hide (coll_end (unhide HCO) hl0)
      clear hl0
      go_wp2_with fail
      refine (sort_any (unhide HROW) (unhide HR) (unhide HP) (by have := (unhide HP).length_eq; omega)).mono ?_
      rintro e w9 ⟨rfl, hrow9, hb9⟩
      have R9 := hide hrow9
      have B9 := hide hb9
      have HLN := hide (unhide HP).length_eq
      clear hrow9 hb9
      go_wp2_with fail
      go_ret
      refine ⟨a, cp, by rw [← unhide HLN]; rfl, by rw [← unhide RE]; exact unhide R9, by rw [← unhide RE]; exact (unhide HBL).trans (unhide B9)⟩
    · obtain ⟨z, hz, hq, hy⟩ := dis_entry keyL (unhide HD) (unhide HOK) (unhide HR) hat
      obtain ⟨ag, rfl, hyy⟩ := Rw_inv hv
      have hagg : ag = z.agg := by rw [hyy] at hy; exact DataW.held.inj hy
      subst hagg
      have hkeyv : key = kv z.key z.start := klaw.inj hkey (by rw [hq]; exact keyOf_kv (unhide HOK z hz))
      subst hkeyv
      subst hq
      have HC2 := hide (coll_step keyL (unhide HOK) (unhide HR) (unhide HCO) hz hlk)
      have hlen := coll_len (unhide HC2)
      rw [List.length_append, List.length_singleton] at hlen
      have ROW2 := hide ((unhide HROW).kept hg2 (.inr (row_ne_iter (unhide HROW) (unhide HRG)).symm))
      have BL2 := hide ((unhide HBL).grown hg2 (Nat.le_of_lt (unhide HRG).lt) (fun k e => by cases e; exact Nat.le_refl _))
      have HRG2 := hide hrg2
      obtain ⟨W7, hW7⟩ : ∃ W7, W7 = (w2.alloc (.cells (cells2 z.key z.start).toArray 151)).alloc (.cells (cellsA z.agg).toArray 50) := ⟨_, rfl⟩
      obtain ⟨V, hV⟩ : ∃ V, V = W7.alloc (.cells (outV z).toArray 52) := ⟨_, rfl⟩
      obtain ⟨g, hgg⟩ : ∃ g, g = W7.heap.size := ⟨_, rfl⟩
      have rowV : OutK.Row V r a cp c := by rw [hV, hW7]; exact (((unhide ROW2).alloc _).alloc _).alloc _
      have rngV := by
        have h1 := ((hrg2.alloc (.cells (cells2 z.key z.start).toArray 151)).alloc (.cells (cellsA z.agg).toArray 50)).alloc (.cells (outV z).toArray 52)
        rw [← hW7, ← hV] at h1; exact h1
      have belV : Below r w V := by rw [hV, hW7]; exact ((((unhide BL2).alloc (by have := rngV.lt; have := hrg2.lt; omega) _).alloc (by have := hrg2.lt; simp; omega) _).alloc (by have := hrg2.lt; simp; omega) _)
      have hrV : r ≤ V.heap.size := Nat.le_of_lt rngV.lt
      have liesV : OutK.Lies V (some ⟨g, 0, none⟩) [z] := by rw [hV, hgg]; exact lies_new W7 z
      obtain ⟨a', c', w9, happ, row9, grow9⟩ := grow_app outK_law rowV (some ⟨g, 0, none⟩) 1 [z] liesV (by simp; omega) hrV 27
      have rng9 := rngV.kept grow9 (by
        have := unhide BL; have hre := unhide RE
        rcases rowV.2 with ⟨e, _⟩ | ⟨g', _, _, e, hb', _⟩
        · rw [e]; simp [Value.ownBlock]
        · rw [e]; simp only [Value.ownBlock, ne_eq, Option.some.injEq]; omega) (row_ne_iter rowV rngV)
      have bel9 := belV.grown grow9 hrV (fun k e => by
        rcases rowV.2 with ⟨e', _⟩ | ⟨g', _, _, e', hb', _⟩
        · rw [e'] at e; simp [Value.ownBlock] at e
        · rw [e'] at e; simp only [Value.ownBlock, Option.some.injEq] at e; omega)
      have hl9 : rng9.left_eq = rng9.left_eq := rfl
      have REL := hide (⟨row9, rng9, unhide HC2, bel9⟩ : OutK.Row w9 r a' c' (c ++ [z]) ∧ w9.ranges Tryz.prog 151 Rw b r l.length D _ cnt2 ∧ Coll klw l _ (c ++ [z]) ∧ Below r w w9)
      have MEAS : Hid (w9.rangeLeft b r < wr.rangeLeft b r) := hide (by rw [rng9.left_eq, (unhide HRG).left_eq]; exact hlt)
      have hlen9 : (c ++ [z]).length = c.length + 1 := by simp
      rw [hlen9, hV, hgg] at happ
      have hsz7 : W7.heap.size = w2.heap.size + 1 + 1 := by rw [hW7]; simp
      rw [hsz7, hW7] at happ
      obtain ⟨zk, zs, a0, a1, a2, a3, a4, a5, a6, a7⟩ := z
      simp only [kv, aggV, cellsA, I] at hnx hen
      have happ' : (Builtin.append_ #[27, 27] 27 #[.slice a c.length cp, .slice (some ⟨w2.heap.size + 1 + 1, 0, none⟩) 1 1]).run Tryz.prog (((w2.alloc (.cells #[.int .i64 zs, .string ⟨zk.toArray⟩] 151)).alloc (.cells #[.int .i64 a0, .int .i64 a1, .int .i64 a2, .int .i64 a3, .int .i64 a4, .int .i64 a5, .int .i64 a6, .int .i64 a7] 50)).alloc (.cells #[.string ⟨zk.toArray⟩, .int .i64 zs, .int .i64 a0, .int .i64 a1, .int .i64 a2, .int .i64 a3, .int .i64 a4, .int .i64 a5, .int .i64 a6, .int .i64 a7] 52)) = .ok (.slice a' (c.length + 1) c') w9 := happ
      clear happ hsz7
      have HL9 := hide hlen9
      clear hkey hlk hv hat hy hyy hz hg2 hs2 hrg2 rowV rngV belV hrV liesV row9 grow9 rng9 bel9 hl9 hlen hW7 hV hgg hlt hlen9
      go_upto_region 7 with fail
      have HAP := hide happ'
      clear happ'
      go_wp2_with (at_builtin; refine wpList_app rfl _ _ 27 27 27 rfl rfl rfl rfl (unhide HAP) ?_)
      exact ⟨⟨_, cnt2, a', c', _, by rw [unhide HL9], (unhide REL).1, (unhide REL).2.1, (unhide REL).2.2.1, (unhide REL).2.2.2⟩, unhide MEAS⟩
set_option maxRecDepth 100000 in
theorem all_empty {w : World} {p : Nat} (h : StAt w p none []) : Calls Tryz.prog 71 #[.pointer (some ⟨p, 0, none⟩)] w fun e w' => e = .returned (.slice none 0 0) ∧ Below w.heap.size w w' := by
  have hw := h.way
  have hrun := run_range_nilMap w 135 151 50 Tryz.underlying135
  have hnx := fun W => @run_next_nilMap Tryz.prog W
  have hso : ∀ W : World, Calls Tryz.prog 95 #[.slice none 0 0, .func (.func 96) #[] #[]] W fun e w' => e = .returned (.tuple #[]) ∧ w' = W := fun W => AnyF.slices_SortFunc_none (P := Tryz.prog) (ρ := sortOut_ren) sortOut none 0 (.func (.func 96) #[] #[]) W
  have HSO := hide hso
  clear h hso
  go_enter Tryz.func71, Tryz.ntmps71
  go_wp2_with fail
  refine wp_loop_rounds 1 ?_
  rw [rounds_succ]
  go_wp2_with fail
  refine (unhide HSO _).mono ?_
  rintro e w9 ⟨rfl, hw9⟩
  rw [hw9]
  go_wp2_with fail
  go_ret
  exact ⟨rfl, (Below.refl _ _).alloc (Nat.le_refl _) _⟩
theorem all_any {w : World} {p : Nat} {F : Nat → Prop} {l : List (Win AggV)} (h : StIs w p F l) (hl : l.length ≤ 1000) :
    Calls Tryz.prog 71 #[.pointer (some ⟨p, 0, none⟩)] w fun e w' => ∃ a cp, e = .returned (.slice a l.length cp) ∧ OutK.Row w' w.heap.size a cp l ∧ Below w.heap.size w w' := by
  obtain ⟨m, h, rfl⟩ := h
  rcases h.what with ⟨rfl, rfl⟩ | ⟨b, rfl, _⟩
  · refine (all_empty h).mono ?_
    rintro e w' ⟨rfl, hb⟩
    exact ⟨none, 0, rfl, row_none _ _, hb⟩
  · exact all_map h hl
end Go.Proofs.YtigmhljaoicdbaaGreat

namespace Go.Proofs.YtigmhljaoicdbaaGreat
open Go.RowKit Go.Maps

/-- What is left, and what was over, behind the first j of a row. -/
def leftT (m : Int) (l : List (Win AggV)) (j : Nat) : List (Win AggV) := (l.take j).filter (fun a => !Sp.overI a.start m) ++ l.drop j
def overT (m : Int) (l : List (Win AggV)) (j : Nat) : List (Win AggV) := (l.take j).filter (fun a => Sp.overI a.start m)
theorem leftT_zero (m : Int) (l : List (Win AggV)) : leftT m l 0 = l := by simp [leftT]
theorem leftT_end (m : Int) (l : List (Win AggV)) : leftT m l l.length = (takeS SO l m).1 := by simp [leftT, takeS, SO]
theorem overT_end (m : Int) (l : List (Win AggV)) : overT m l l.length = (takeS SO l m).2 := by simp [overT, takeS, SO]
theorem overT_len (m : Int) (l : List (Win AggV)) (j : Nat) : (overT m l j).length ≤ l.length := by
  unfold overT
  have h1 := List.length_filter_le (fun a : Win AggV => Sp.overI a.start m) (l.take j)
  have h2 : (l.take j).length ≤ l.length := by rw [List.length_take]; omega
  omega
theorem overT_yes {m : Int} {l : List (Win AggV)} {j : Nat} {x : Win AggV} (hx : l[j]? = some x) (h : Sp.overI x.start m = true) : overT m l (j + 1) = overT m l j ++ [x] := by
  obtain ⟨hj, rfl⟩ := List.getElem?_eq_some_iff.1 hx
  unfold overT
  rw [List.take_succ_eq_append_getElem hj, List.filter_append]
  simp [h]
theorem overT_no {m : Int} {l : List (Win AggV)} {j : Nat} {x : Win AggV} (hx : l[j]? = some x) (h : Sp.overI x.start m = false) : overT m l (j + 1) = overT m l j := by
  obtain ⟨hj, rfl⟩ := List.getElem?_eq_some_iff.1 hx
  unfold overT
  rw [List.take_succ_eq_append_getElem hj, List.filter_append]
  simp [h]
theorem leftT_no {m : Int} {l : List (Win AggV)} {j : Nat} {x : Win AggV} (hx : l[j]? = some x) (h : Sp.overI x.start m = false) : leftT m l (j + 1) = leftT m l j := by
  obtain ⟨hj, rfl⟩ := List.getElem?_eq_some_iff.1 hx
  unfold leftT
  rw [List.take_succ_eq_append_getElem hj, List.filter_append, List.drop_eq_getElem_cons hj]
  simp [h]
theorem leftT_yes {m : Int} {l : List (Win AggV)} (hr : Rise l) {j : Nat} {x : Win AggV} (hx : l[j]? = some x) (h : Sp.overI x.start m = true) : (leftT m l j).filter (fun a => !decide (at_ x.key x.start a)) = leftT m l (j + 1) := by
  obtain ⟨hj, rfl⟩ := List.getElem?_eq_some_iff.1 hx
  have hsplit : l = l.take j ++ l[j] :: l.drop (j + 1) := by rw [← List.drop_eq_getElem_cons hj, List.take_append_drop]
  have hr' := hr
  rw [hsplit] at hr'
  obtain ⟨_, r2, r3⟩ := List.pairwise_append.1 hr'
  obtain ⟨r4, _⟩ := List.pairwise_cons.1 r2
  unfold leftT
  rw [List.take_succ_eq_append_getElem hj, List.filter_append, List.filter_append, List.drop_eq_getElem_cons hj]
  have e1 : ((l.take j).filter (fun a => !Sp.overI a.start m)).filter (fun a => !decide (at_ l[j].key l[j].start a)) = (l.take j).filter (fun a => !Sp.overI a.start m) := List.filter_eq_self.2 fun a ha => by
    have := ahead_not (r3 a (List.mem_filter.1 ha).1 l[j] List.mem_cons_self)
    simp [this]
  have e2 : (l.drop (j + 1)).filter (fun a => !decide (at_ l[j].key l[j].start a)) = l.drop (j + 1) := List.filter_eq_self.2 fun a ha => by
    have h0 := ahead_not (r4 a ha)
    have : ¬ at_ l[j].key l[j].start a := fun k => h0 ⟨k.1.symm, k.2.symm⟩
    simp [this]
  rw [e1, List.filter_cons, if_neg (by simp [at_]), e2]
  simp [h]
theorem leftT_sub {m : Int} {l : List (Win AggV)} {j : Nat} : ∀ a ∈ leftT m l j, a ∈ l := fun a ha => by
  rcases List.mem_append.1 ha with h | h
  · exact List.mem_of_mem_take (List.mem_filter.1 h).1
  · exact List.mem_of_mem_drop h
theorem take_nil (m : Int) (w : World) : Calls Tryz.prog 81 #[.pointer none, .int .i64 m] w fun e w' => e = .returned (.slice none 0 0) ∧ w' = w := by
  go_enter Tryz.func81, Tryz.ntmps81
  go_wp2_with fail
  refine (all_nil w).mono ?_
  rintro e w' ⟨rfl, hw⟩
  rw [hw]
  go_wp2_with fail
  refine wp_loop_rounds 1 ?_
  rw [rounds_succ]
  go_wp2
  go_ret
  exact ⟨rfl, rfl⟩
set_option maxRecDepth 100000 in
set_option maxHeartbeats 4000000 in
theorem take_any {w : World} {p : Nat} {F : Nat → Prop} {l : List (Win AggV)} (h : StIs w p F l) (hl : l.length ≤ 1000) (m : Int) :
    Calls Tryz.prog 81 #[.pointer (some ⟨p, 0, none⟩), .int .i64 m] w fun e w' => ∃ a cp, e = .returned (.slice a (takeS SO l m).2.length cp) ∧ OutK.Row w' w.heap.size a cp (takeS SO l m).2 ∧ StIs w' p F (takeS SO l m).1 ∧ Moved F w w' := by
  obtain ⟨mp, hS, hF⟩ := id h
  have hr := hide hS.fine.rise
  have hok := hide hS.fine.oks
  have FL : ∀ i, F i → i < w.heap.size := h.lt
  go_enter Tryz.func81, Tryz.ntmps81
  go_wp2_with fail
  refine (all_any h hl).mono ?_
  rintro e v0 ⟨al, cl, rfl, hrow, hb⟩
  obtain ⟨B1, hB1⟩ : ∃ B1, B1 = v0.heap.size := ⟨_, rfl⟩
  have S0 := hS.keep (Moved.of_below (F := fun _ => False) hb) (fun _ f => f.elim)
  have M0 : Moved F w v0 := (Moved.of_below (F := fun _ => False) hb).mono fun _ f => f.elim
  have AL : Hid (∀ wr, Moved F v0 wr → OutK.Lies wr al l) := hide fun wr hm => by
    have h1 := row_lies hrow
    refine ⟨h1.1, fun x e j u hu => ?_⟩
    subst e
    have hc := h1.2 x rfl j u hu
    rcases hrow.2 with ⟨hv, _⟩ | ⟨g, cap, cur, hv, hbase, hbk, _⟩
    · simp at hv
    · simp only [Value.slice.injEq, Option.some.injEq] at hv
      obtain ⟨rfl, _⟩ := hv
      rw [Addr.add_mid] at hc ⊢
      exact (hm.cell (p := ⟨g, 0 + j, none⟩) (World.block_lt_of_cell? _ _ hc) (fun f => by have : g < w.heap.size := FL g f; omega)).trans hc
  have SHAPE : Hid ((∃ g, al = some ⟨g, 0, none⟩) ∨ l = []) := hide (by
    rcases hrow.2 with ⟨hv, h0⟩ | ⟨g, cap, cur, hv, _⟩
    · exact .inr (List.length_eq_zero_iff.1 h0)
    · simp only [Value.slice.injEq] at hv
      exact .inl ⟨g, hv.1⟩)
  have MPB : Hid ((∃ b, mp = some b) ∨ l = []) := hide (by
    rcases hS.what with ⟨_, h0⟩ | ⟨b, h0, _⟩
    · exact .inr h0
    · exact .inl ⟨b, h0⟩)
  have M0h := hide M0
  have S0h := hide S0
  have FLh := hide FL
  have WB := hide hb.size
  have HF := hide hF
  have HB1 := hide hB1
  have BB : Hid (∀ i, F i → i < B1) := hide (fun i hi => by have := FL i hi; have := hb.size; omega)
  clear hS hrow hb M0 S0 FL h hF
  go_wp2_with fail
  go_loopw [5, 11] (fun ov i wr => ∃ (j : Nat) (a : Option Addr) (cp : Nat), i = .int .i64 (j : Int) ∧ j ≤ l.length ∧ ov = .slice a (overT m l j).length cp ∧ OutK.Row wr B1 a cp (overT m l j) ∧ StAt wr p mp (leftT m l j) ∧ Moved F v0 wr) (fun _ i _ => l.length - (intOf i).toNat)
  case atStart => exact ⟨0, none, 0, rfl, Nat.zero_le _, rfl, row_none _ _, by rw [leftT_zero]; exact unhide S0h, Moved.refl _ _⟩
  case round =>
    obtain ⟨j, a, cp, rfl, hj, rfl, hrw, hst, hmv⟩ := hrel
    have HRW := hide hrw
    have HST := hide hst
    have HMV := hide hmv
    clear hrw hst hmv
    by_cases h1 : j < l.length
    · have g1 : (j : Int) < (l.length : Int) := by omega
      have hj0 : (0 : Int) ≤ (j : Int) := by omega
      have hwj : IntKind.i64.wrap ((j : Int) + 1) = (j : Int) + 1 := Go.IntWalk.i64_in _ (by omega)
      obtain ⟨x, hx⟩ : ∃ x, l[j]? = some x := ⟨_, List.getElem?_eq_getElem h1⟩
      have hmem : x ∈ l := List.mem_of_getElem? hx
      obtain ⟨g, rfl⟩ : ∃ g, al = some ⟨g, 0, none⟩ := by
        rcases unhide SHAPE with h | h
        · exact h
        · rw [h] at h1; simp at h1
      obtain ⟨b, hmpb⟩ : ∃ b, mp = some b := by
        rcases unhide MPB with h | h
        · exact h
        · rw [h] at h1; simp at h1
      have ry := lies_at outK_law (unhide AL _ (unhide HMV)) hx
      have OKX := unhide hok x hmem
      have HXj := hide hx
      have HBj : Hid (B1 ≤ wr.heap.size) := hide (by rw [unhide HB1]; exact (unhide HMV).size)
      have hov : ∀ W : World, Calls Tryz.prog 65 #[.int .i64 x.start, .int .i64 m] W fun e w' => e = .returned (.bool (Sp.overI x.start m)) ∧ w' = W := fun W => Sp.over_any x.start m W
      have HOV := hide hov
      clear hx hov
      obtain ⟨xk, xs, a0, a1, a2, a3, a4, a5, a6, a7⟩ := x
      have RY : Hid (wr.rangeAt g (j * 10) [.string ⟨xk.toArray⟩, .int .i64 xs, .int .i64 a0, .int .i64 a1, .int .i64 a2, .int .i64 a3, .int .i64 a4, .int .i64 a5, .int .i64 a6, .int .i64 a7]) := hide (by have := ry; rw [Nat.zero_add] at this; exact this)
      obtain ⟨W1, hW1⟩ : ∃ W1, W1 = wr.alloc (.cells #[.string ⟨xk.toArray⟩, .int .i64 xs, .int .i64 a0, .int .i64 a1, .int .i64 a2, .int .i64 a3, .int .i64 a4, .int .i64 a5, .int .i64 a6, .int .i64 a7] 52) := ⟨_, rfl⟩
      obtain ⟨H, hH⟩ : ∃ H, H = wr.heap.size := ⟨_, rfl⟩
      have b1 : Below wr.heap.size wr W1 := by rw [hW1]; exact (Below.refl _ _).alloc (Nat.le_refl _) _
      have R1 : RowAt W1 H [.string ⟨xk.toArray⟩, .int .i64 xs, .int .i64 a0, .int .i64 a1, .int .i64 a2, .int .i64 a3, .int .i64 a4, .int .i64 a5, .int .i64 a6, .int .i64 a7] := by rw [hW1, hH]; exact row_new _ _ _
      have c0 : W1.cell? ⟨H, 0, none⟩ = some (.string ⟨xk.toArray⟩) := R1.cell 0 (Nat.succ_pos _)
      have c1 : W1.cell? ⟨H, 1, none⟩ = some (.int .i64 xs) := R1.cell 1 (Nat.lt_of_sub_pos (Nat.succ_pos _))
      have S1 : StAt W1 p mp (leftT m l j) := (unhide HST).keep (Moved.of_below (F := fun _ => False) b1) (fun _ f => f.elim)
      have w1 : OutK.Row W1 B1 a cp (overT m l j) := by rw [hW1]; exact (unhide HRW).alloc _
      have m1 : Moved F v0 W1 := by rw [hW1]; exact (unhide HMV).alloc _
      have hsz1 : W1.heap.size = H + 1 := by rw [hW1, hH]; simp
      have HW1 := hide hW1
      have HH := hide hH
      have HR1 := hide R1
      have HS1 := hide S1
      have Hw1 := hide w1
      have Hm1 := hide m1
      have HSZ1 := hide hsz1
      subst hmpb
      clear hW1 hH R1 S1 w1 m1 b1 ry hsz1 hmem
      go_upto_region 4 with fail
      go_wp2_with (first | (refine wpList_load_on rfl 52 (.tmp 13) rfl g (j * 10) rfl [.string ⟨xk.toArray⟩, .int .i64 xs, .int .i64 a0, .int .i64 a1, .int .i64 a2, .int .i64 a3, .int .i64 a4, .int .i64 a5, .int .i64 a6, .int .i64 a7] _ (unhide RY) Tryz.underlying52 rfl (by kernel_rfl) ?_))
      rw [← unhide HH, ← unhide HW1]
      refine (unhide HOV _).mono ?_
      rintro e w' ⟨rfl, hw'⟩
      rw [hw']
      by_cases ho : Sp.overI xs m = true
      · rw [ho]
        have hbp : b ≠ p := (unhide HS1).off b rfl
        have hbF : b < B1 := unhide BB b (by rw [unhide HF]; exact .inr rfl)
        have hpF : p < B1 := unhide BB p (by rw [unhide HF]; exact .inl rfl)
        have hBH : B1 ≤ H := by rw [unhide HH]; exact unhide HBj
        obtain ⟨CL, hCL⟩ : ∃ CL : World → Prop, CL = fun v => Moved (fun i => i = b) W1 v := ⟨_, rfl⟩
        have un : ∀ v, CL v → Moved (fun i => i = b) W1 v := fun v k => by rw [hCL] at k; exact k
        have base : CL W1.drew := by rw [hCL]; exact (Moved.refl _ _).drew
        have q0 : ∀ q : SW CL, q.w.cell? ⟨p, 0, none⟩ = some (.map (some b)) := fun q => ((un _ q.ok).cell (p := ⟨p, 0, none⟩) ((unhide HS1).lt p (.inl rfl)) (Ne.symm hbp)).trans (unhide HS1).way
        have q1 : ∀ q : SW CL, q.w.cell? ⟨H, 0, none⟩ = some (.string ⟨xk.toArray⟩) := fun q => ((un _ q.ok).cell (p := ⟨H, 0, none⟩) (unhide HR1).lt (by show ¬ H = b; omega)).trans c0
        have q2 : ∀ q : SW CL, q.w.cell? ⟨H, 1, none⟩ = some (.int .i64 xs) := fun q => ((un _ q.ok).cell (p := ⟨H, 1, none⟩) (unhide HR1).lt (by show ¬ H = b; omega)).trans c1
        have hM : MapIs W1 b (leftT m l j) := by
          rcases (unhide HS1).what with ⟨h0, _⟩ | ⟨b', h1, h2⟩
          · cases h0
          · cases h1; exact h2
        obtain ⟨w6, hrun, hM6, hT⟩ := MapIs.drop (w := W1.drew) (hM.keep rfl) (unhide HS1).fine (k := xk) (s := xs) OKX 0
        have M6 : Moved (fun i => i = b) W1 w6 := moved_turned ((Moved.refl _ _).drew) hT (.inl rfl)
        have CL6 : Hid (CL w6) := hide (by rw [hCL]; exact M6)
        have hlft : (leftT m l j).filter (fun a => !decide (at_ xk xs a)) = leftT m l (j + 1) := leftT_yes (unhide hr) (unhide HXj) ho
        rw [hlft] at hM6
        have S6 : StAt w6 p (some b) (leftT m l (j + 1)) :=
          ⟨(M6.cell (p := ⟨p, 0, none⟩) ((unhide HS1).lt p (.inl rfl)) (Ne.symm hbp)).trans (unhide HS1).way, (M6.frozen (p := ⟨p, 0, none⟩) ((unhide HS1).lt p (.inl rfl)) (Ne.symm hbp)).trans (unhide HS1).free, .inr ⟨b, rfl, hM6⟩, (unhide HS1).off, hlft ▸ (unhide HS1).fine.filter _⟩
        have R6 := (unhide HR1).keep M6 (by omega)
        have w6r : OutK.Row w6 B1 a cp (overT m l j) := World.ownsRow.kept (w := W1.drew) (unhide Hw1) hT.grown (.inr (row_ne_low (unhide Hw1) hbF).symm)
        have m6 : Moved F v0 w6 := (unhide Hm1).trans M6 (fun i e => .inl (by rw [e, unhide HF]; exact .inr rfl))
        have rV := w6r.alloc (.cells #[.string ⟨xk.toArray⟩, .int .i64 xs, .int .i64 a0, .int .i64 a1, .int .i64 a2, .int .i64 a3, .int .i64 a4, .int .i64 a5, .int .i64 a6, .int .i64 a7] 52)
        have hB6 : B1 ≤ w6.heap.size := by rw [unhide HB1]; exact m6.size
        obtain ⟨a', c', w9, happ, row9, grow9⟩ := grow_app outK_law rV (some ⟨w6.heap.size, 0, none⟩) 1 [⟨xk, xs, ⟨a0, a1, a2, a3, a4, a5, a6, a7⟩⟩] (lies_new w6 _) (by have := overT_len m l j; simp; omega) (by simp; omega) 27
        have M9 : Moved (fun i => B1 ≤ i) (w6.alloc (.cells #[.string ⟨xk.toArray⟩, .int .i64 xs, .int .i64 a0, .int .i64 a1, .int .i64 a2, .int .i64 a3, .int .i64 a4, .int .i64 a5, .int .i64 a6, .int .i64 a7] 52)) w9 := (Moved.refl _ _).grown grow9 (fun k e => .inl (by have := (rV.lt k e).1; exact this))
        have S9 : StAt w9 p (some b) (leftT m l (j + 1)) := (S6.keep ((Moved.refl (fun _ => False) w6).alloc _) (fun _ f => f.elim)).keep M9 (fun i hi f => by
          rcases f with f | f
          · omega
          · cases f; omega)
        have m9 : Moved F v0 w9 := (m6.alloc _).trans M9 (fun i hi => .inr (by rw [← unhide HB1]; exact hi))
        have hov9 : overT m l j ++ [⟨xk, xs, ⟨a0, a1, a2, a3, a4, a5, a6, a7⟩⟩] = overT m l (j + 1) := (overT_yes (unhide HXj) ho).symm
        have hlen9 : (overT m l (j + 1)).length = (overT m l j).length + 1 := by rw [← hov9]; simp
        rw [hov9] at row9
        rw [show (overT m l j ++ [(⟨xk, xs, ⟨a0, a1, a2, a3, a4, a5, a6, a7⟩⟩ : Win AggV)]).length = (overT m l j).length + 1 by simp] at happ
        have HAP : Hid ((Builtin.append_ #[27, 27] 27 #[.slice a (overT m l j).length cp, .slice (some ⟨w6.heap.size, 0, none⟩) 1 1]).run Tryz.prog (w6.alloc (.cells #[.string ⟨xk.toArray⟩, .int .i64 xs, .int .i64 a0, .int .i64 a1, .int .i64 a2, .int .i64 a3, .int .i64 a4, .int .i64 a5, .int .i64 a6, .int .i64 a7] 52)) = .ok (.slice a' ((overT m l j).length + 1) c') w9) := hide happ
        have REL := hide (⟨row9, S9, m9⟩ : OutK.Row w9 B1 a' c' (overT m l (j + 1)) ∧ StAt w9 p (some b) (leftT m l (j + 1)) ∧ Moved F v0 w9)
        have R6r := hide R6.range
        have HL9 := hide hlen9
        have BS := hide base
        have hrun' : (Builtin.delete_ #[135, 151] 0 #[.map (some b), .agg #[.int .i64 xs, .string ⟨xk.toArray⟩]]).run Tryz.prog W1.drew = .ok (.tuple #[]) w6 := hrun
        have HRUN := hide hrun'
        clear hrun hrun' hM hM6 hT M6 hlft S6 R6 w6r m6 rV hB6 happ row9 grow9 M9 S9 m9 hov9 hlen9 base un hCL hbp hbF hpF hBH c0 c1
        go_upto_region 6 with fail
        refine wp_region_chain (S := CL) [true, true, true, true, true, true, true, true, true, false] [false, false, false, false, false, false, false, false, false, true] (by kernel_rfl) (by kernel_rfl) (by kernel_rfl) (unhide BS) ?_
        apply Exists.intro
        apply And.intro
        · intro q
          have n0 : Nonempty (SK CL q.w) := ⟨⟨q, rfl⟩⟩
          simp only [pickM]
          repeat (go_big_quiet_step (fail))
          exact wpQuiet_nil rfl
        · simp only [pickZ]
          have hrn := unhide HRUN
          refine chain_step (.tuple #[]) w6 rfl (by simp [go_sem, hrn, Result.andThen]) (unhide CL6) ?_
          simp only [chainM]
          clear hrn q0 q1 q2
          go_wp2_with (first | (refine wpList_load_on rfl 52 (.tmp 7) rfl H 0 rfl [.string ⟨xk.toArray⟩, .int .i64 xs, .int .i64 a0, .int .i64 a1, .int .i64 a2, .int .i64 a3, .int .i64 a4, .int .i64 a5, .int .i64 a6, .int .i64 a7] _ (unhide R6r) Tryz.underlying52 rfl (by kernel_rfl) ?_) | (at_builtin; refine wpList_app rfl _ _ 27 27 27 rfl rfl rfl rfl (unhide HAP) ?_))
          exact ⟨⟨j + 1, a', c', rfl, by omega, by rw [unhide HL9], (unhide REL).1, (unhide REL).2.1, (unhide REL).2.2⟩, by simp [intOf]; omega⟩
      · replace ho := Bool.eq_false_iff.2 ho
        rw [ho]
        have HO9 := hide (overT_no (unhide HXj) ho)
        have HL9 := hide (leftT_no (unhide HXj) ho)
        clear ho c0 c1
        go_wp2_with fail
        exact ⟨⟨j + 1, a, cp, rfl, by omega, by rw [unhide HO9], by rw [unhide HO9]; exact unhide Hw1, by rw [unhide HL9]; exact unhide HS1, unhide Hm1⟩, by simp [intOf]; omega⟩
    · have g1 : ¬ (j : Int) < (l.length : Int) := by omega
      have hje : j = l.length := by omega
      have E1 := hide (overT_end m l)
      have E2 := hide (leftT_end m l)
      rw [hje] at HRW HST
      rw [unhide E1] at HRW
      rw [unhide E2] at HST
      have HLE := hide (by rw [hje, unhide E1] : (overT m l j).length = (takeS SO l m).2.length)
      clear hje
      go_wp2_with fail
      go_ret
      refine ⟨a, cp, by rw [← unhide HLE]; rfl, ⟨(unhide HRW).1, (unhide HRW).2.imp id ?_⟩, ⟨mp, unhide HST, unhide HF⟩, (unhide M0h).trans (unhide HMV) (fun i hi => .inl hi)⟩
      rintro ⟨g, cap, cur, e1, e2, e3⟩
      exact ⟨g, cap, cur, e1, by have := unhide WB; have := unhide HB1; omega, e3⟩
end Go.Proofs.YtigmhljaoicdbaaGreat

/- What the store's Put does. Conditions: the key is no longer than a machine's texts, the numbers are int64's; the store has at most 32 windows, whose numbers are int64's. -/
import Derived.Test.YtmgmkdkdpeljmaaSetS
namespace Go.Proofs.Ytmgmkdkdpeljmaa
open Go.RowKit

theorem sput_nil (k : List UInt8) (at_ v : Int) (w : World) : Calls Try.prog 15 #[.pointer none, .string ⟨k.toArray⟩, .int .i64 at_, .int .i64 v] w fun e w' => e = .returned (.int .i64 2) ∧ w' = w := by
  go_enter Try.func15, Try.ntmps15
  go_wp2
  go_ret
  exact ⟨rfl, rfl⟩
theorem putS_in (l : List (Win AggV)) (k : List UInt8) (at_ v : Int) (h : keyOk k = true ∧ Sp.rightI at_ = true) (hf : (look l k (Sp.startI at_)).isSome = true ∨ ¬ 32 ≤ l.length) :
    putS SO l k at_ v = (ins ⟨k, Sp.startI at_, put ((look l k (Sp.startI at_)).getD zero) v⟩ l, 0) := by
  unfold putS
  rw [if_pos (show keyOk k = true ∧ SO.right at_ = true from h)]
  rw [show SO.start at_ = Sp.startI at_ from rfl]
  cases e : look l k (Sp.startI at_) with
  | some a => rfl
  | none =>
    rw [e] at hf
    rcases hf with hf | hf
    · cases hf
    · exact if_neg hf
theorem putS_full (l : List (Win AggV)) (k : List UInt8) (at_ v : Int) (h : keyOk k = true ∧ Sp.rightI at_ = true) (hn : (look l k (Sp.startI at_)).isSome = false) (hf : 32 ≤ l.length) : putS SO l k at_ v = (l, 6) := by
  unfold putS
  rw [if_pos (show keyOk k = true ∧ SO.right at_ = true from h)]
  rw [show SO.start at_ = Sp.startI at_ from rfl]
  cases e : look l k (Sp.startI at_) with
  | some a => rw [e] at hn; cases hn
  | none => exact if_pos hf
set_option maxRecDepth 100000 in
set_option maxHeartbeats 4000000 in
theorem sput_any {w : World} {p : Nat} {F : Nat → Prop} {l : List (Win AggV)} (h : StIs w p F l) (hl : l.length ≤ 32) (hIn : ∀ a ∈ l, a.agg.In) (k : List UInt8) (at_ v : Int) (hv : i64 v) :
    Calls Try.prog 15 #[.pointer (some ⟨p, 0, none⟩), .string ⟨k.toArray⟩, .int .i64 at_, .int .i64 v] w fun e w' => e = .returned (.int .i64 ((putS SO l k at_ v).2 : Int)) ∧ Did w w' p F (putS SO l k at_ v).1 := by
  have CKa := hide (fun v => key_any k v)
  have CRa := hide (fun v => Sp.right_any at_ v)
  by_cases hk : keyOk k = true
  · by_cases hr : Sp.rightI at_ = true
    · obtain ⟨s, hs⟩ : ∃ s, s = Sp.startI at_ := ⟨_, rfl⟩
      have hks : k.length ≤ 281474976710656 := by have := of_decide_eq_true hk; omega
      have hok : okk k s := ⟨by have := of_decide_eq_true hk; unfold maxLen; omega, by have := startI_i64 hr; rw [← hs] at this; unfold i64; omega⟩
      have hcs : ∀ W : World, Calls Try.prog 17 #[.int .i64 at_] W fun e w' => e = .returned (.int .i64 s) ∧ w' = W := fun W => by rw [hs]; exact Sp.start_any at_ W
      have CS := hide hcs
      have PI := hide (putS_in l k at_ v ⟨hk, hr⟩)
      have PF := hide (putS_full l k at_ v ⟨hk, hr⟩)
      rw [← hs] at PI PF
      have aIn : ((look l k s).getD zero).In := by
        cases e : look l k s with
        | none => exact zero_in
        | some y => exact hIn _ (look_some e)
      obtain ⟨W, hW⟩ : ∃ W, W = w.alloc (.cells (cells2 k s).toArray 84) := ⟨_, rfl⟩
      obtain ⟨H, hH⟩ : ∃ H, H = w.heap.size := ⟨_, rfl⟩
      have bW : Below w.heap.size w W := by rw [hW]; exact (Below.refl _ _).alloc (Nat.le_refl _) _
      have hsz : W.heap.size = H + 1 := by rw [hW, hH]; simp
      have R0 : RowAt W H (cells2 k s) := by rw [hW, hH]; exact row_new _ _ _
      have S0 := h.below bW
      have FH : ∀ i, F i → i < H := fun i hi => by rw [hH]; exact h.lt i hi
      obtain ⟨m, S0', hFm⟩ := id S0
      obtain ⟨CL, hCL⟩ : ∃ CL : World → Prop, CL = fun v => Below W.heap.size W v := ⟨_, rfl⟩
      have un : ∀ v, CL v → Below W.heap.size W v := fun v k => by rw [hCL] at k; exact k
      have base : CL W.drew := by rw [hCL]; exact (Below.refl _ _).drew
      have sk : ∀ q : SW CL, StAt q.w p m l := fun q => S0'.keep (Moved.of_below (F := fun _ => False) (un _ q.ok)) (fun _ f => f.elim)
      have q0 : ∀ q : SW CL, q.w.cell? ⟨p, 0, none⟩ = some (.map m) := fun q => (sk q).way
      have lk0 : ∀ q : SW CL, (Instr.lookup 78 (.map m) (.agg (cells2 k s).toArray) true).run Try.prog q.w = .ok (.tuple #[aggV ((look l k s).getD zero), .bool (look l k s).isSome]) q.w := fun q => (sk q).look hok
      have q1 : Hid (∀ q : SW CL, q.w.rangeAt H 0 (cells2 k s)) := hide fun q => (R0.below (un _ q.ok)).range
      have CA := hide (fun o : Obj => (by rw [hCL]; exact ((Below.refl _ W).drew.alloc (Nat.le_refl _) o) : CL (W.drew.alloc o)))
      generalize ha : (look l k s).getD zero = a at *
      obtain ⟨a0, a1, a2, a3, a4, a5, a6, a7⟩ := a
      have lk : ∀ q : SW CL, (Instr.lookup 78 (.map m) (.agg (cells2 k s).toArray) true).run Try.prog q.w = .ok (.tuple #[.agg #[.int .i64 a0, .int .i64 a1, .int .i64 a2, .int .i64 a3, .int .i64 a4, .int .i64 a5, .int .i64 a6, .int .i64 a7], .bool (look l k s).isSome]) q.w := lk0
      obtain ⟨V, hV⟩ : ∃ V, V = W.drew.alloc (.cells #[.int .i64 a0, .int .i64 a1, .int .i64 a2, .int .i64 a3, .int .i64 a4, .int .i64 a5, .int .i64 a6, .int .i64 a7] 34) := ⟨_, rfl⟩
      have bV : Below W.heap.size W V := by rw [hV]; exact (Below.refl _ W).drew.alloc (Nat.le_refl _) _
      have V0 : RowAt V H (cells2 k s) := R0.below bV
      have V1 : RowAt V (H + 1) (cellsA ⟨a0, a1, a2, a3, a4, a5, a6, a7⟩) := by
        have := row_new W.drew (cellsA ⟨a0, a1, a2, a3, a4, a5, a6, a7⟩) 34
        rw [← hsz, hV]; exact this
      have SVv := S0.below bV
      obtain ⟨CL2, hCL2⟩ : ∃ CL2 : World → Prop, CL2 = fun v => RowAt v H (cells2 k s) ∧ RowAt v (H + 1) (cellsA ⟨a0, a1, a2, a3, a4, a5, a6, a7⟩) := ⟨_, rfl⟩
      have un2 : ∀ v, CL2 v → RowAt v H (cells2 k s) ∧ RowAt v (H + 1) (cellsA ⟨a0, a1, a2, a3, a4, a5, a6, a7⟩) := fun v k => by rw [hCL2] at k; exact k
      have q3 : Hid (∀ q : SW CL2, q.w.rangeAt H 0 (cells2 k s)) := hide fun q => (un2 _ q.ok).1.range
      have q4 : Hid (∀ q : SW CL2, q.w.rangeAt (H + 1) 0 (cellsA ⟨a0, a1, a2, a3, a4, a5, a6, a7⟩)) := hide fun q => (un2 _ q.ok).2.range
      have dV : Below V.heap.size V V.drew := (Below.refl _ V).drew
      have B2 : Hid (CL2 V.drew) := hide (by rw [hCL2]; exact ⟨V0.below dV, V1.below dV⟩)
      have C2B := hide (fun (v1 : World) (hb : Below V.drew.heap.size V.drew v1) => (by rw [hCL2]; exact ⟨(V0.below dV).below hb, (V1.below dV).below hb⟩ : CL2 v1))
      have C2D := hide (fun (v1 w9 : World) (hb : Below V.drew.heap.size V.drew v1) (hd : Did v1 w9 p F (ins ⟨k, s, put ⟨a0, a1, a2, a3, a4, a5, a6, a7⟩ v⟩ l)) => (by
        obtain ⟨_, _, _, hm⟩ := hd
        rw [hCL2]; exact ⟨((V0.below dV).below hb).keep hm (fun f => by have := FH _ f; omega), ((V1.below dV).below hb).keep hm (fun f => by have := FH _ f; omega)⟩ : CL2 w9))
      have bAll : Below w.heap.size w V := bW.trans (bV.mono bW.size)
      have FIN := hide (fun (v1 w9 : World) (hb : Below V.drew.heap.size V.drew v1) (hd : Did v1 w9 p F (ins ⟨k, s, put ⟨a0, a1, a2, a3, a4, a5, a6, a7⟩ v⟩ l)) => (Did.below bAll (Did.below dV (Did.below hb hd)) : Did w w9 p F (ins ⟨k, s, put ⟨a0, a1, a2, a3, a4, a5, a6, a7⟩ v⟩ l)))
      have FIV := hide (Did.below bAll (Did.start SVv (Moved.refl _ _)) : Did w V p F l)
      have SV := hide SVv
      have AI := hide aIn
      have HW := hide hW
      have HH := hide hH
      have HSZ := hide hsz
      have HV := hide hV
      have BS := hide base
      clear hW hH hsz hV base bW R0 S0 S0' hFm hCL un sk bV V0 V1 SVv hCL2 un2 dV bAll lk0 aIn hcs FH ha hs hIn h
      have hkk := hk
      have hrr := hr
      have CK := hide (fun v => (unhide CKa v).mono (fun e w' (h : e = .returned (.bool (keyOk k)) ∧ w' = v) => (by rw [hk] at h; exact h : e = .returned (.bool true) ∧ w' = v)))
      have CR := hide (fun v => (unhide CRa v).mono (fun e w' (h : e = .returned (.bool (Sp.rightI at_)) ∧ w' = v) => (by rw [hr] at h; exact h : e = .returned (.bool true) ∧ w' = v)))
      clear CKa CRa hk hr hkk hrr
      by_cases ho : (look l k s).isSome = true
      · have RS := hide (unhide PI (.inl ho))
        clear PI PF
        rw [ho] at lk
        go_enter Try.func15, Try.ntmps15
        go_upto_region 5 with (first | (go_at_call 44; refine (unhide CK _).mono ?_; rintro e w' ⟨rfl, hw⟩; rw [hw]) | (go_at_call 45; refine (unhide CR _).mono ?_; rintro e w' ⟨rfl, hw⟩; rw [hw]))
        go_upto_region 6 with (first | (go_at_call 17; refine (unhide CS _).mono ?_; rintro e w' ⟨rfl, hw⟩; rw [hw]))
        rw [← unhide HH]
        try change Code.wp _ _ _ _ (w.alloc (.cells (cells2 k s).toArray 84))
        rw [← unhide HW]
        refine wp_region_chain (S := CL) [true, true, true, true, true, true, true, true, true, false, false, false] [false, false, false, false, false, false, false, false, false, true, true, true] (by kernel_rfl) (by kernel_rfl) (by kernel_rfl) (unhide BS) ?_
        apply Exists.intro
        apply And.intro
        · intro q
          have n0 : Nonempty (SK CL q.w) := ⟨⟨q, rfl⟩⟩
          simp only [pickM]
          repeat (go_big_quiet_step (fail))
          refine wpQuiet_load_onx rfl 84 (.tmp 9) rfl H 0 rfl (cells2 k s) _ (by rintro v ⟨q', rfl⟩; exact unhide q1 q'.s) Try.underlying84 rfl (by kernel_rfl) ?_
          go_simp
          repeat (first | go_big_quiet_step (fail) | quiet_step (fail))
          exact wpQuiet_nil rfl
        · simp only [pickZ]
          refine chain_step (.pointer (some ⟨H + 1, 0, none⟩)) (W.drew.alloc (.cells #[.int .i64 0, .int .i64 0, .int .i64 0, .int .i64 0, .int .i64 0, .int .i64 0, .int .i64 0, .int .i64 0] 34)) rfl (by simp [go_sem, unhide HSZ]) (unhide CA _) ?_
          refine chain_skip (W.drew.alloc (.cells #[.int .i64 a0, .int .i64 a1, .int .i64 a2, .int .i64 a3, .int .i64 a4, .int .i64 a5, .int .i64 a6, .int .i64 a7] 34)) rfl (by rw [← unhide HSZ]; simp [go_sem]) (unhide CA _) ?_
          rw [← unhide HV]
          refine chain_step _ V rfl (by simp [go_sem]; rfl) (by rw [unhide HV]; exact unhide CA _) ?_
          simp only [chainM]
          clear lk q0
          go_upto_region 9 with fail
          refine wp_region_chain (S := CL2) [true, true, true, true, false, false] [false, false, false, false, true, true] (by kernel_rfl) (by kernel_rfl) (by kernel_rfl) (unhide B2) ?_
          apply Exists.intro
          apply And.intro
          · intro q
            have n0 : Nonempty (SK CL2 q.w) := ⟨⟨q, rfl⟩⟩
            simp only [pickM]
            repeat (go_big_quiet_step (fail))
            refine wpQuiet_load_onx rfl 84 (.tmp 9) rfl H 0 rfl (cells2 k s) _ (by rintro v ⟨q', rfl⟩; exact unhide q3 q'.s) Try.underlying84 rfl (by kernel_rfl) ?_
            go_simp
            refine wpQuiet_load_onx rfl 34 (.tmp 10) rfl (H + 1) 0 rfl (cellsA ⟨a0, a1, a2, a3, a4, a5, a6, a7⟩) _ (by rintro v ⟨q', rfl⟩; exact unhide q4 q'.s) Try.underlying34 rfl (by kernel_rfl) ?_
            go_simp
            repeat (go_big_quiet_step (fail))
            exact wpQuiet_nil rfl
          · simp only [pickZ]
            refine chain_call 48 #[.agg (cellsA ⟨a0, a1, a2, a3, a4, a5, a6, a7⟩).toArray, .int .i64 v] rfl (by simp [go_sem]) ?_
            refine (put_any ⟨a0, a1, a2, a3, a4, a5, a6, a7⟩ v V.drew (unhide AI) hv).mono ?_
            rintro e v1 ⟨rfl, hb⟩
            refine ⟨_, rfl, unhide C2B _ hb, ?_⟩
            refine chain_call 47 #[.pointer (some ⟨p, 0, none⟩), .agg (cells2 k s).toArray, .agg (cellsA (put ⟨a0, a1, a2, a3, a4, a5, a6, a7⟩ v)).toArray] rfl (by simp [go_sem, aggV]) ?_
            refine (keep_any ((unhide SV).below (Below.drew (Below.refl _ V)) |>.below hb) (by omega) ⟨k, s, put ⟨a0, a1, a2, a3, a4, a5, a6, a7⟩ v⟩ hok hks).mono ?_
            rintro e w9 ⟨rfl, hd⟩
            refine ⟨_, rfl, unhide C2D _ _ hb hd, ?_⟩
            have HD := hide hd
            have HB := hide hb
            clear hd hb
            simp only [chainM]
            go_wp2_with fail
            go_ret
            exact ⟨by rw [unhide RS]; rfl, by rw [unhide RS]; exact unhide FIN _ _ (unhide HB) (unhide HD)⟩
      · replace ho := Bool.eq_false_iff.2 ho
        rw [ho] at lk
        by_cases hf : 32 ≤ l.length
        · have RS := hide (unhide PF ho hf)
          have hfd : decide (32 ≤ l.length) = true := decide_eq_true hf
          clear PI PF hf
          go_enter Try.func15, Try.ntmps15
          go_upto_region 5 with (first | (go_at_call 44; refine (unhide CK _).mono ?_; rintro e w' ⟨rfl, hw⟩; rw [hw]) | (go_at_call 45; refine (unhide CR _).mono ?_; rintro e w' ⟨rfl, hw⟩; rw [hw]))
          go_upto_region 6 with (first | (go_at_call 17; refine (unhide CS _).mono ?_; rintro e w' ⟨rfl, hw⟩; rw [hw]))
          rw [← unhide HH]
          try change Code.wp _ _ _ _ (w.alloc (.cells (cells2 k s).toArray 84))
          rw [← unhide HW]
          refine wp_region_chain (S := CL) [true, true, true, true, true, true, true, true, true, false, false, false] [false, false, false, false, false, false, false, false, false, true, true, true] (by kernel_rfl) (by kernel_rfl) (by kernel_rfl) (unhide BS) ?_
          apply Exists.intro
          apply And.intro
          · intro q
            have n0 : Nonempty (SK CL q.w) := ⟨⟨q, rfl⟩⟩
            simp only [pickM]
            repeat (go_big_quiet_step (fail))
            refine wpQuiet_load_onx rfl 84 (.tmp 9) rfl H 0 rfl (cells2 k s) _ (by rintro v ⟨q', rfl⟩; exact unhide q1 q'.s) Try.underlying84 rfl (by kernel_rfl) ?_
            go_simp
            repeat (first | go_big_quiet_step (fail) | quiet_step (fail))
            exact wpQuiet_nil rfl
          · simp only [pickZ]
            refine chain_step (.pointer (some ⟨H + 1, 0, none⟩)) (W.drew.alloc (.cells #[.int .i64 0, .int .i64 0, .int .i64 0, .int .i64 0, .int .i64 0, .int .i64 0, .int .i64 0, .int .i64 0] 34)) rfl (by simp [go_sem, unhide HSZ]) (unhide CA _) ?_
            refine chain_skip (W.drew.alloc (.cells #[.int .i64 a0, .int .i64 a1, .int .i64 a2, .int .i64 a3, .int .i64 a4, .int .i64 a5, .int .i64 a6, .int .i64 a7] 34)) rfl (by rw [← unhide HSZ]; simp [go_sem]) (unhide CA _) ?_
            rw [← unhide HV]
            refine chain_step _ V rfl (by simp [go_sem]; rfl) (by rw [unhide HV]; exact unhide CA _) ?_
            simp only [chainM]
            clear lk q0
            go_wp2_with (first | (go_at_call 46; refine (full_any (unhide SV)).mono ?_; rintro e w' ⟨rfl, hw⟩; rw [hw, hfd]))
            go_ret
            exact ⟨by rw [unhide RS]; rfl, by rw [unhide RS]; exact unhide FIV⟩
        · have RS := hide (unhide PI (.inr hf))
          have hfd : decide (32 ≤ l.length) = false := decide_eq_false hf
          clear PI PF hf
          go_enter Try.func15, Try.ntmps15
          go_upto_region 5 with (first | (go_at_call 44; refine (unhide CK _).mono ?_; rintro e w' ⟨rfl, hw⟩; rw [hw]) | (go_at_call 45; refine (unhide CR _).mono ?_; rintro e w' ⟨rfl, hw⟩; rw [hw]))
          go_upto_region 6 with (first | (go_at_call 17; refine (unhide CS _).mono ?_; rintro e w' ⟨rfl, hw⟩; rw [hw]))
          rw [← unhide HH]
          try change Code.wp _ _ _ _ (w.alloc (.cells (cells2 k s).toArray 84))
          rw [← unhide HW]
          refine wp_region_chain (S := CL) [true, true, true, true, true, true, true, true, true, false, false, false] [false, false, false, false, false, false, false, false, false, true, true, true] (by kernel_rfl) (by kernel_rfl) (by kernel_rfl) (unhide BS) ?_
          apply Exists.intro
          apply And.intro
          · intro q
            have n0 : Nonempty (SK CL q.w) := ⟨⟨q, rfl⟩⟩
            simp only [pickM]
            repeat (go_big_quiet_step (fail))
            refine wpQuiet_load_onx rfl 84 (.tmp 9) rfl H 0 rfl (cells2 k s) _ (by rintro v ⟨q', rfl⟩; exact unhide q1 q'.s) Try.underlying84 rfl (by kernel_rfl) ?_
            go_simp
            repeat (first | go_big_quiet_step (fail) | quiet_step (fail))
            exact wpQuiet_nil rfl
          · simp only [pickZ]
            refine chain_step (.pointer (some ⟨H + 1, 0, none⟩)) (W.drew.alloc (.cells #[.int .i64 0, .int .i64 0, .int .i64 0, .int .i64 0, .int .i64 0, .int .i64 0, .int .i64 0, .int .i64 0] 34)) rfl (by simp [go_sem, unhide HSZ]) (unhide CA _) ?_
            refine chain_skip (W.drew.alloc (.cells #[.int .i64 a0, .int .i64 a1, .int .i64 a2, .int .i64 a3, .int .i64 a4, .int .i64 a5, .int .i64 a6, .int .i64 a7] 34)) rfl (by rw [← unhide HSZ]; simp [go_sem]) (unhide CA _) ?_
            rw [← unhide HV]
            refine chain_step _ V rfl (by simp [go_sem]; rfl) (by rw [unhide HV]; exact unhide CA _) ?_
            simp only [chainM]
            clear lk q0
            go_upto_region 9 with (first | (go_at_call 46; refine (full_any (unhide SV)).mono ?_; rintro e w' ⟨rfl, hw⟩; rw [hw, hfd]))
            refine wp_region_chain (S := CL2) [true, true, true, true, false, false] [false, false, false, false, true, true] (by kernel_rfl) (by kernel_rfl) (by kernel_rfl) (unhide B2) ?_
            apply Exists.intro
            apply And.intro
            · intro q
              have n0 : Nonempty (SK CL2 q.w) := ⟨⟨q, rfl⟩⟩
              simp only [pickM]
              repeat (go_big_quiet_step (fail))
              refine wpQuiet_load_onx rfl 84 (.tmp 9) rfl H 0 rfl (cells2 k s) _ (by rintro v ⟨q', rfl⟩; exact unhide q3 q'.s) Try.underlying84 rfl (by kernel_rfl) ?_
              go_simp
              refine wpQuiet_load_onx rfl 34 (.tmp 10) rfl (H + 1) 0 rfl (cellsA ⟨a0, a1, a2, a3, a4, a5, a6, a7⟩) _ (by rintro v ⟨q', rfl⟩; exact unhide q4 q'.s) Try.underlying34 rfl (by kernel_rfl) ?_
              go_simp
              repeat (go_big_quiet_step (fail))
              exact wpQuiet_nil rfl
            · simp only [pickZ]
              refine chain_call 48 #[.agg (cellsA ⟨a0, a1, a2, a3, a4, a5, a6, a7⟩).toArray, .int .i64 v] rfl (by simp [go_sem]) ?_
              refine (put_any ⟨a0, a1, a2, a3, a4, a5, a6, a7⟩ v V.drew (unhide AI) hv).mono ?_
              rintro e v1 ⟨rfl, hb⟩
              refine ⟨_, rfl, unhide C2B _ hb, ?_⟩
              refine chain_call 47 #[.pointer (some ⟨p, 0, none⟩), .agg (cells2 k s).toArray, .agg (cellsA (put ⟨a0, a1, a2, a3, a4, a5, a6, a7⟩ v)).toArray] rfl (by simp [go_sem, aggV]) ?_
              refine (keep_any ((unhide SV).below (Below.drew (Below.refl _ V)) |>.below hb) (by omega) ⟨k, s, put ⟨a0, a1, a2, a3, a4, a5, a6, a7⟩ v⟩ hok hks).mono ?_
              rintro e w9 ⟨rfl, hd⟩
              refine ⟨_, rfl, unhide C2D _ _ hb hd, ?_⟩
              have HD := hide hd
              have HB := hide hb
              clear hd hb
              simp only [chainM]
              go_wp2_with fail
              go_ret
              exact ⟨by rw [unhide RS]; rfl, by rw [unhide RS]; exact unhide FIN _ _ (unhide HB) (unhide HD)⟩
    · have RS : Hid (putS SO l k at_ v = (l, 1)) := hide (put_no (fun h3 => hr h3.2))
      replace hr := Bool.eq_false_iff.2 hr
      have CK := hide (fun v => (unhide CKa v).mono (fun e w' (h : e = .returned (.bool (keyOk k)) ∧ w' = v) => (by rw [hk] at h; exact h : e = .returned (.bool true) ∧ w' = v)))
      have CR := hide (fun v => (unhide CRa v).mono (fun e w' (h : e = .returned (.bool (Sp.rightI at_)) ∧ w' = v) => (by rw [hr] at h; exact h : e = .returned (.bool false) ∧ w' = v)))
      clear CKa CRa hk hr
      go_enter Try.func15, Try.ntmps15
      go_wp2_with (first | (go_at_call 44; refine (unhide CK _).mono ?_; rintro e w' ⟨rfl, hw⟩; rw [hw]) | (go_at_call 45; refine (unhide CR _).mono ?_; rintro e w' ⟨rfl, hw⟩; rw [hw]))
      go_ret
      exact ⟨by rw [unhide RS]; rfl, by rw [unhide RS]; exact Did.start h (Moved.refl _ _)⟩
  · have RS : Hid (putS SO l k at_ v = (l, 1)) := hide (put_no (fun h3 => hk h3.1))
    replace hk := Bool.eq_false_iff.2 hk
    have CK := hide (fun v => (unhide CKa v).mono (fun e w' (h : e = .returned (.bool (keyOk k)) ∧ w' = v) => (by rw [hk] at h; exact h : e = .returned (.bool false) ∧ w' = v)))
    clear CKa CRa hk
    go_enter Try.func15, Try.ntmps15
    go_wp2_with (first | (go_at_call 44; refine (unhide CK _).mono ?_; rintro e w' ⟨rfl, hw⟩; rw [hw]))
    go_ret
    exact ⟨by rw [unhide RS]; rfl, by rw [unhide RS]; exact Did.start h (Moved.refl _ _)⟩
end Go.Proofs.Ytmgmkdkdpeljmaa

/- What TellOnce does: it answers true, and nothing that was there has turned. No conditions. -/
import Derived.Test.YtmgmkdkdpeljmaaOnceA
import Derived.Test.YtmgmkdkdpeljmaaEqW
namespace Go.Proofs.Ytmgmkdkdpeljmaa
open Go.RowKit
attribute [go_sem] sameA_self
@[go_sem high] theorem neq24o (a b : AggV) (w : World) : (binOp .neq 34 (aggV a) (aggV b)).run Try.prog w = .ok (.bool (!sameA a b)) w := by
  have h := eq24 a b w
  unfold aggV at h ⊢
  rw [run_neq_struct, h]; rfl
theorem wpQuiet_load_aggo {P : Program} {ops : Array Oper} {C : World → Prop} {Q : Act → Prop} {rest : List Oper} {op : Oper} {a : Act} (hw : Region.wanted op (yielded ops a.tmps) = true) (ty : TypeId) (x : Operand) (ho : op.op = .load ty x)
    (b o : Nat) (hx : a.eval x = .pointer (some ⟨b, o, none⟩)) (z : AggV) (d : TypeDesc) (hc : ∀ v, C v → v.rangeAt b o (cellsA z))
    (hu : P.underlying ty = some d) (hd : d.isRow = true) (hi : (P.info? ty).map (·.size) = some (cellsA z).length)
    (h : wpQuiet P ops C Q rest (a.put op.dst (aggV z))) : wpQuiet P ops C Q (op :: rest) a := wpQuiet_load_onx hw ty x ho b o hx (cellsA z) d hc hu hd hi h
theorem leq9 (a b : List UInt8) (w : World) : (binOp .leq 9 (.string ⟨a.toArray⟩) (.string ⟨b.toArray⟩)).run Try.prog w = .ok (.bool (!keyLt b a)) w := by
  have e : (Op.bytesLess a b || a == b) = !keyLt b a := by
    rw [bytesLess_keyLt]
    by_cases h : a = b
    · subst h; simp [keyLt_irrefl]
    · rcases keyLt_total h with k | k
      · have : keyLt b a = false := by
          cases e : keyLt b a with
          | false => rfl
          | true => have := keyLt_trans k e; rw [keyLt_irrefl] at this; cases this
        simp [k, this]
      · have : keyLt a b = false := by
          cases e : keyLt a b with
          | false => rfl
          | true => have := keyLt_trans k e; rw [keyLt_irrefl] at this; cases this
        simp [k, this, h]
  simp [binOp, Op.stringOp, e, go_sem]
set_option maxHeartbeats 1000000 in
theorem startI_wide1 (x : Int) : i64 (Sp.startI x) := by
  unfold Sp.startI i64
  split <;> omega
theorem actL_rangeO {v : World} {b o : Nat} {p : ActL} (h : ActLAt v b o p) : v.rangeAt b o (actLC p) := fun j u hu => by
  match j, hu with
  | 0, hu => cases hu; exact h.c0
  | 1, hu => cases hu; exact h.c1
  | 2, hu => cases hu; exact h.c2
  | 3, hu => cases hu; exact h.c3
  | j + 4, hu => cases hu
theorem short_actsO {w : World} {a : Option Addr} {len cap : Nat} {z : List ActL} (h : IsActL w a len cap z) (hg : ¬ tooGreatL z = true) : len ≤ 200 := by
  refine Nat.le_of_not_lt fun hl => hg ?_
  unfold tooGreatL
  rw [h.size_, decide_eq_true hl, Bool.true_or]
set_option maxRecDepth 100000 in
set_option maxHeartbeats 16000000 in
theorem oncelaw_any (a : Option Addr) (len cap : Nat) (z : List ActL) (w : World) (hz : IsActL w a len cap z) :
    Calls Try.prog 6 #[.slice a len cap] w fun e w' => e = .returned (.bool true) ∧ Below w.heap.size w w' := by
  have HZ := hide hz
  have GR := hide (greatL_any a len cap z w hz)
  have WK := hide twakes_any
  have hw0 := hide (HL.new (Below.refl w.heap.size w))
  clear hz
  by_cases hg : tooGreatL z = true
  · rw [hg] at GR
    go_enter Try.func6, Try.ntmps6
    go_wp2_with fail
    refine (unhide GR).mono ?_
    rintro e v' ⟨rfl, hw⟩
    rw [hw]
    clear hw v'
    go_wp2_with fail
    refine (unhide WK _).mono ?_
    rintro e v' ⟨rfl, hb⟩
    go_wp2_with fail
    go_ret
    exact ⟨rfl, hb⟩
  · have hl200 := hide (short_actsO (unhide HZ) hg)
    rw [Bool.eq_false_iff.2 hg] at GR
    clear hg
    go_enter Try.func6, Try.ntmps6
    go_upto_region 3 with fail
    refine (unhide GR).mono ?_
    rintro e v' ⟨rfl, hw⟩
    rw [hw]
    clear hw v'
    go_upto_region 3 with fail
    go_upto_region 4 with fail
    refine (unhide hw0).mono ?_
    rintro e u1 ⟨p0, rfl, HE⟩
    obtain ⟨bm, hbm⟩ : ∃ bm, bm = u1.heap.size := ⟨_, rfl⟩
    obtain ⟨u2, hu2⟩ : ∃ u2, u2 = u1.alloc (.map #[] 0) := ⟨_, rfl⟩
    have START : Hid (Fst w u2 p0 (fun k => k = bm) (fun _ => False) bm (newL, []) none 0 [] (fun _ _ => []) 0) := hide ⟨by rw [hu2, hbm]; exact OSF.start HE, once_new, mild_nil, Nat.zero_le _, Nat.le_refl _, fun _ _ => Nat.le_refl _, fun _ _ _ h => by cases h⟩
    have HBM := hide hbm
    have HU2 := hide hu2
    have hmm := @run_makeMap Try.prog
    clear hbm hu2 HE hw0 GR
    go_upto_region 5 with fail
    clear hmm
    rw [← unhide HBM]
    try change Code.wp _ _ _ _ (u1.alloc (.map #[] 0))
    rw [← unhide HU2]
    clear HBM HU2
    go_wp2_with fail
    go_loopw [5, 6] (fun t i wr => ∃ (k : Nat) (ta : Option Addr) (tc : Nat) (X Y : Nat → Prop) (l : List (Win Value)) (f : List UInt8 → Int → List Int), i = .int .i64 (k : Int) ∧ k ≤ len ∧ t = .slice ta (playL (newL, []) (z.take k)).2.length tc ∧ Fst w wr p0 X Y bm (playL (newL, []) (z.take k)) ta tc l f k) (fun _ i _ => len - (intOf i).toNat)
    case atStart => exact ⟨0, none, 0, _, _, _, _, rfl, by omega, by rw [List.take_zero]; rfl, by rw [List.take_zero]; exact unhide START⟩
    case round =>
      obtain ⟨k, ta, tc, X, Y, l, f, rfl, hk, rfl, hf⟩ := hrel
      have HON := hide hf.once
      have HMM := hide hf.mild
      have HTL := hide hf.len
      have HLL := hide hf.ll
      have HFL := hide hf.fl
      have HFI := hide hf.fi
      have HOS := hide hf.osf
      clear hf START
      by_cases hlt : k < len
      · have g1 : (k : Int) < (len : Int) := by omega
        have hk0 : (0 : Int) ≤ (k : Int) := by omega
        have hml := (unhide HZ).max
        unfold maxLen at hml
        have hwk : IntKind.i64.wrap ((k : Int) + 1) = (k : Int) + 1 := Go.IntWalk.i64_in _ (by omega)
        obtain ⟨bb, o', rfl, hat, ok, hbl⟩ := ((unhide HZ).below (unhide HOS).bel).at_ k hlt
        have HS1 : Hid (playL (newL, []) (z.take (k + 1)) = actL (playL (newL, []) (z.take k)) (z.getD k ActL.none_)) := hide (by rw [takeL_snoc (by rw [(unhide HZ).size_]; exact hlt), playL_snoc])
        have ra := actL_rangeO hat
        have HOK := hide ok
        clear hat ok hbl
        generalize z.getD k ActL.none_ = y at *
        generalize playL (newL, []) (z.take k) = S at *
        obtain ⟨L, T⟩ := S
        obtain ⟨yd, yk, ya, yn⟩ := y
        dsimp only at HON HMM HTL HOS
        have RACT : Hid (wr.rangeAt bb (o' + k * 4) [.int .u8 (yd : Int), .string ⟨yk.toArray⟩, .int .i64 ya, .int .i64 yn]) := hide ra
        obtain ⟨W1, hw1⟩ : ∃ W1, W1 = wr.alloc (.cells #[.int .u8 (yd : Int), .string ⟨yk.toArray⟩, .int .i64 ya, .int .i64 yn] 56) := ⟨_, rfl⟩
        obtain ⟨b, hbb⟩ : ∃ b, b = wr.heap.size := ⟨_, rfl⟩
        obtain ⟨X1, hX1⟩ : ∃ X1 : Nat → Prop, X1 = fun j => X j ∨ j = b := ⟨_, rfl⟩
        have OBW : Hid (OBF w W1 p0 X1 Y L [(ta, tc, T)] bm l f b [.int .u8 (yd : Int), .string ⟨yk.toArray⟩, .int .i64 ya, .int .i64 yn]) := hide (by rw [hX1, hw1, hbb]; exact (unhide HOS).act ((Moved.refl _ _).alloc _) (row_new _ _ _))
        have HW1 := hide hw1
        have HBB := hide hbb
        clear ra HOS hw1 hbb hX1
        go_upto_region 10 with (refine wpList_load_on rfl 56 (.tmp 29) rfl bb (o' + k * 4) rfl [.int .u8 (yd : Int), .string ⟨yk.toArray⟩, .int .i64 ya, .int .i64 yn] _ (unhide RACT) Try.underlying56 rfl (by kernel_rfl) ?_)
        rw [← unhide HBB]
        try change Code.wp _ _ _ _ (wr.alloc (.cells #[.int .u8 (yd : Int), .string ⟨yk.toArray⟩, .int .i64 ya, .int .i64 yn] 56))
        rw [← unhide HW1]
        clear RACT HBB HW1
        have W1c0 : W1.cell? ⟨b, 0, none⟩ = some (.int .u8 (yd : Int)) := (unhide OBW).rb.cell 0 (by simp)
        have W1c1 : W1.cell? ⟨b, 1, none⟩ = some (.string ⟨yk.toArray⟩) := (unhide OBW).rb.cell 1 (by simp)
        have W1c2 : W1.cell? ⟨b, 2, none⟩ = some (.int .i64 ya) := (unhide OBW).rb.cell 2 (by simp)
        have W1c3 : W1.cell? ⟨b, 3, none⟩ = some (.int .i64 yn) := (unhide OBW).rb.cell 3 (by simp)
        by_cases e0 : yd = 0
        · subst e0
          have hact : Hid (actL (L, T) ⟨0, yk, ya, yn⟩ = ((putL L yk ya yn).1, T)) := hide rfl
          rw [unhide hact] at HS1
          have HM := hide (mild_putL (unhide HMM) (k := yk) (a := ya) (unhide HOK).n)
          have HP := hide (once_put (unhide HON) (k := yk) (a := ya) (unhide HOK).n)
          have HCS := hide ((unhide OBW).put (unhide HMM) yk ya yn (unhide HOK).n)
          clear hact
          go_upto_region 13 with fail
          refine (unhide HCS).mono ?_
          rintro e v1 ⟨rfl, hp⟩
          have OB1 := hide hp
          have v1c1 : v1.cell? ⟨b, 1, none⟩ = some (.string ⟨yk.toArray⟩) := hp.rb.cell 1 (by simp)
          have v1c2 : v1.cell? ⟨b, 2, none⟩ = some (.int .i64 ya) := hp.rb.cell 2 (by simp)
          clear hp HCS OBW W1c0 W1c1 W1c2 W1c3
          obtain ⟨cd, hcd⟩ : ∃ cd, cd = (putL L yk ya yn).2 := ⟨_, rfl⟩
          obtain ⟨L1, hL1⟩ : ∃ L1, L1 = (putL L yk ya yn).1 := ⟨_, rfl⟩
          rw [← hcd, ← hL1] at HP
          rw [← hcd]
          rw [← hL1] at HM HS1 OB1
          clear hcd hL1
          by_cases hc : cd = 1
          · subst hc
            have HP1 : Hid (keyOk yk = true ∧ Once L1 T (more f yk (Sp.startI ya) yn)) := hide (by
              rcases unhide HP with ⟨_, h1, _, h2⟩ | ⟨h0, _⟩
              · exact ⟨h1, h2⟩
              · exact absurd rfl h0)
            have OKK : Hid (okk yk (Sp.startI ya)) := hide ⟨(unhide HOK).key, startI_wide1 ya⟩
            have CS := hide (fun u => Sp.start_any ya u)
            obtain ⟨sa, hsa⟩ : ∃ sa, sa = Sp.startI ya := ⟨_, rfl⟩
            rw [← hsa] at CS OKK HP1
            clear HP hsa
            obtain ⟨CL, hCL⟩ : ∃ CL : World → Prop, CL = fun v => Below v1.heap.size v1 v := ⟨_, rfl⟩
            have un : ∀ v, CL v → Below v1.heap.size v1 v := fun v k => by rw [hCL] at k; exact k
            have to_ : Hid (∀ v, Below v1.heap.size v1 v → CL v) := hide fun v k => by rw [hCL]; exact k
            have base : CL v1.drew := unhide to_ _ ((Below.refl _ _).drew)
            have q1 : ∀ q : SW CL, q.w.cell? ⟨b, 1, none⟩ = some (.string ⟨yk.toArray⟩) := fun q => ((unhide OB1).below (un _ q.ok)).rb.cell 1 (by simp)
            have q2 : ∀ q : SW CL, q.w.cell? ⟨b, 2, none⟩ = some (.int .i64 ya) := fun q => ((unhide OB1).below (un _ q.ok)).rb.cell 2 (by simp)
            have HSZ : Hid (v1.heap.size = v1.drew.heap.size) := hide rfl
            have CA : Hid (∀ o, CL (v1.drew.alloc o)) := hide fun o => unhide to_ _ (((Below.refl _ _).drew).alloc (Nat.le_refl _) o)
            clear hCL un v1c1 v1c2
            go_upto_region 13 with fail
            refine wp_region_chain (S := CL) [true, true, true, true, true, true, false, false] [false, false, false, false, false, false, true, true] (by kernel_rfl) (by kernel_rfl) (by kernel_rfl) base ?_
            apply Exists.intro
            apply And.intro
            · intro q
              have n0 : Nonempty (SK CL q.w) := ⟨⟨q, rfl⟩⟩
              simp only [pickM]
              repeat (go_big_quiet_step (first | (go_at_call 17; exact (unhide CS _).mono fun e w' ⟨he, hw⟩ => ⟨he, _, hw⟩)))
              exact wpQuiet_nil rfl
            · simp only [pickZ]
              refine chain_step (.pointer (some ⟨v1.heap.size, 0, none⟩)) (v1.drew.alloc (.cells #[.string ⟨#[]⟩, .int .i64 0, .int .i64 0, .int .i64 0, .int .i64 0, .int .i64 0, .int .i64 0, .int .i64 0, .int .i64 0, .int .i64 0] 38)) rfl (by simp [go_sem]) (unhide CA _) ?_
              refine chain_skip (v1.drew.alloc (.cells (ovC yk sa).toArray 38)) rfl (by simp [go_sem, ovC]) (unhide CA _) ?_
              simp only [chainM]
              obtain ⟨h, hh⟩ : ∃ h, h = v1.heap.size := ⟨_, rfl⟩
              obtain ⟨v3, hv3⟩ : ∃ v3, v3 = v1.drew.alloc (.cells (ovC yk sa).toArray 38) := ⟨_, rfl⟩
              have hb3 : Below v1.heap.size v1 v3 := by rw [hv3]; exact ((Below.refl _ _).drew).alloc (Nat.le_refl _) _
              have OB3 := hide ((unhide OB1).below hb3)
              have RB3 : RowAt v3 h (ovC yk sa) := by rw [hv3, hh]; exact row_new v1.drew (ovC yk sa) 38
              rw [← hh, ← hv3]
              have RG := hide RB3.range
              have v3c3 : v3.cell? ⟨b, 3, none⟩ = some (.int .i64 yn) := (unhide OB3).rb.cell 3 (by simp)
              clear hh hv3 hb3 RB3 base q1 q2 HSZ CA to_ CS OB1
              obtain ⟨st, w1, a0, c0, a', c', v2, w3, r1, r2, r3, mX, X', Y', l', hos, hXX, hll⟩ := (unhide OB3).osf.push yk sa yn (unhide OKK) (by have := unhide HLL; have := unhide hl200; omega) (by have := unhide HFL yk sa; have := unhide hl200; omega)
              rw [show (f yk sa ++ [yn]).length = (f yk sa).length + 1 by simp] at r2 r3
              have R1 := hide r1
              have R2 := hide r2
              have FS : Hid (Fst w w3 p0 X' Y' bm (L1, T) ta tc l' (more f yk sa yn) (k + 1)) := hide ⟨hos, (unhide HP1).2, unhide HM, by have := unhide HTL; show T.length ≤ _; omega, by have := unhide HLL; omega, more_len (unhide HFL), more_i64 (unhide HFI) (unhide HOK).n⟩
              clear r1 r2 mX hos hXX hll OB3
              go_simp
              go_wp2_with (first | (refine wpList_load_on rfl 38 (.tmp 8) rfl h 0 rfl (ovC yk sa) _ (unhide RG) Try.underlying38 rfl (by kernel_rfl) ?_) | (refine wpList_val rfl _ w1 (by simp [go_sem, ov_eq, unhide R1]; rfl) ?_) | (at_builtin; refine wpList_app rfl _ _ 68 68 68 rfl rfl rfl rfl (unhide R2) ?_) | (refine wpList_skp rfl w3 (by simp [go_sem, r3]; rfl) ?_))
              exact ⟨⟨k + 1, ta, tc, X', Y', l', more f yk sa yn, rfl, by omega, by rw [unhide HS1], by rw [unhide HS1]; exact unhide FS⟩, by simp [intOf]; omega⟩
          · have HL1 : Hid (L1 = L) := hide (by
              rcases unhide HP with ⟨h0, _⟩ | ⟨_, h0⟩
              · exact absurd h0 hc
              · exact h0)
            have hci : ¬ (cd : Int) = 1 := by omega
            have hcb : ((cd : Int) == 1) = false := by simpa using hci
            have FS : Hid (Fst w v1 p0 X1 Y bm (L1, T) ta tc l f (k + 1)) := hide ⟨(unhide OB1).osf, by rw [unhide HL1]; exact unhide HON, unhide HM, by have := unhide HTL; show T.length ≤ _; omega, by have := unhide HLL; omega, fun a s => by have := unhide HFL a s; omega, unhide HFI⟩
            clear HP hc v1c1 v1c2 OB1
            go_wp2_with fail
            exact ⟨⟨k + 1, ta, tc, X1, Y, l, f, rfl, by omega, by rw [unhide HS1], by rw [unhide HS1]; exact unhide FS⟩, by simp [intOf]; omega⟩
        · have n0 : ¬ (yd : Int) = 0 := by omega
          by_cases e1 : yd = 1
          · subst e1
            have hact : Hid (actL (L, T) ⟨1, yk, ya, yn⟩ = ((markL L ya).1, T ++ (markL L ya).2.2)) := hide rfl
            rw [unhide hact] at HS1
            have HCS := hide ((unhide OBW).mark (unhide HMM) ya)
            have HML := hide (mild_markL (unhide HMM) ya)
            have HO1 := hide (once_mark (unhide HON) ya)
            generalize markL L ya = M at *
            obtain ⟨L', cd, O⟩ := M
            dsimp only at HS1 HCS HML HO1
            clear hact
            go_upto_region 17 with fail
            refine (unhide HCS).mono ?_
            rintro e v1 ⟨a1, c1, rfl, he⟩
            obtain ⟨a', c', v2, hap, hg, _⟩ := he.osf.grow (by have := unhide HTL; have := (unhide HML).2; have := unhide hl200; omega) 28
            have HAP := hide hap
            have FS : Hid (Fst w v2 p0 X1 Y bm (L', T ++ O) a' c' l f (k + 1)) := hide ⟨hg, unhide HO1, (unhide HML).1, by show (T ++ O).length ≤ _; rw [List.length_append]; have := unhide HTL; have := (unhide HML).2; omega, by have := unhide HLL; omega, fun a s => by have := unhide HFL a s; omega, unhide HFI⟩
            clear he hap hg HCS W1c0 W1c1 W1c2 W1c3 OBW
            go_wp2_with (first | (at_builtin; refine wpList_app rfl _ _ 28 28 28 rfl rfl rfl rfl (unhide HAP) ?_))
            exact ⟨⟨k + 1, a', c', X1, Y, l, f, rfl, by omega, by rw [unhide HS1]; simp, by rw [unhide HS1]; exact unhide FS⟩, by simp [intOf]; omega⟩
          · have n1 : ¬ (yd : Int) = 1 := by omega
            have hact : Hid (actL (L, T) ⟨yd, yk, ya, yn⟩ = (L, T)) := hide (by unfold actL; rw [if_neg e0, if_neg e1])
            rw [unhide hact] at HS1
            have FS : Hid (Fst w W1 p0 X1 Y bm (L, T) ta tc l f (k + 1)) := hide ⟨(unhide OBW).osf, unhide HON, unhide HMM, by have := unhide HTL; show T.length ≤ _; omega, by have := unhide HLL; omega, fun a s => by have := unhide HFL a s; omega, unhide HFI⟩
            clear hact OBW
            go_wp2_with fail
            exact ⟨⟨k + 1, ta, tc, X1, Y, l, f, rfl, by omega, by rw [unhide HS1], by rw [unhide HS1]; exact unhide FS⟩, by simp [intOf]; omega⟩
      · have g1 : ¬ (k : Int) < (len : Int) := by omega
        have hke : k = len := by omega
        subst hke
        generalize playL (newL, []) (z.take k) = S at *
        obtain ⟨L, T⟩ := S
        dsimp only at HON HMM HTL HOS
        obtain ⟨H, hH⟩ : ∃ H, H = wr.heap.size := ⟨_, rfl⟩
        obtain ⟨z2, hz2⟩ : ∃ z2, z2 = (wr.alloc (.map #[] 0)).alloc (.cells (ovC [] (-1)).toArray 38) := ⟨_, rfl⟩
        have O2 : Hid (OSF w z2 p0 (fun j => (X j ∨ j = H) ∨ j = H + 1) Y L [(ta, tc, T)] bm l f) := hide (by rw [hz2, hH]; exact (unhide HOS).second)
        have STA : Hid (∀ v (A : List (Win AggV)) ta tc, OSF w v p0 (fun j => (X j ∨ j = H) ∨ j = H + 1) Y L [(ta, tc, A)] bm l f → Moved (fun j => ¬ ((X j ∨ j = H) ∨ j = H + 1)) z2 v → Snd w v p0 (fun j => (X j ∨ j = H) ∨ j = H + 1) Y bm H (H + 1) L A ta tc l f [] (-1) 0) := hide fun v A ta tc h1 h2 => by
          rw [hH] at h1 h2 ⊢
          rw [hz2] at h2
          exact Snd.start (unhide HOS) h1 h2
        obtain ⟨X2, hX2⟩ : ∃ X2 : Nat → Prop, X2 = fun j => (X j ∨ j = H) ∨ j = H + 1 := ⟨_, rfl⟩
        have HX2 := hide hX2
        have HH := hide hH
        have HZ2 := hide hz2
        have hmm := @run_makeMap Try.prog
        clear hH hz2 hX2 HOS
        go_upto_region 20 with fail
        clear hmm
        rw [← unhide HH]
        try change Code.wp _ _ _ _ ((wr.alloc (.map #[] 0)).alloc (.cells (ovC [] (-1)).toArray 38))
        rw [← unhide HZ2]
        clear HH HZ2
        go_upto_region 21 with fail
        refine ((unhide O2).open_ (unhide HMM)).mono ?_
        rintro e v3 ⟨ao, co, rfl, h3, m3⟩
        have hTn : T.length ≤ 6400 := by have := unhide HTL; have := unhide hl200; omega
        have hLn := (unhide HMM).most
        obtain ⟨aa, ca, v4, hap, h4, m4⟩ := h3.grow (by omega) 28
        obtain ⟨A, hA⟩ : ∃ A, A = T ++ L.row := ⟨_, rfl⟩
        obtain ⟨nA, hnA⟩ : ∃ nA, nA = A.length := ⟨_, rfl⟩
        have HNB : Hid (nA ≤ 6432) := hide (by rw [hnA, hA, List.length_append]; omega)
        have HRA : Hid (Rise A) := hide (by rw [hA]; exact (unhide HON).all)
        have OKS : Hid (∀ x ∈ A, okk x.key x.start) := hide (by rw [hA]; exact h4.vf.okk (unhide HON))
        have HIS : Hid (∀ x ∈ A, x.agg = ofV SO (f x.key x.start) ∧ ¬ f x.key x.start = []) := hide (by rw [hA]; exact fun x hx => (unhide HON).is hx)
        have LO0 : Hid (LastOk A T.length 0 [] (-1)) := hide (by rw [hA]; exact lastOk_start (unhide HON))
        have SN0 : Hid (Snd w v4 p0 X2 Y bm H (H + 1) L A (aa) ca l f [] (-1) 0) := hide (by
          rw [unhide HX2, hA]
          exact unhide STA v4 _ aa ca h4 (m3.trans m4 (fun _ e => .inl e)))
        rw [← hA, ← hnA] at hap
        have HA := hide hA
        have HNA := hide hnA
        have HAP := hide hap
        clear hap h3 h4 m3 m4 hA hnA O2 STA HX2 hTn hLn
        go_wp2_with (first | (at_builtin; refine wpList_app rfl _ _ 28 28 28 rfl rfl rfl rfl (unhide HAP) ?_))
        clear HAP
        go_loopw [14] (fun i wr => ∃ (j : Nat) (lk : List UInt8) (ls : Int), i = .int .i64 (j : Int) ∧ j ≤ nA ∧ Snd w wr p0 X2 Y bm H (H + 1) L A (aa) ca l f lk ls j ∧ LastOk A T.length j lk ls) (fun i _ => nA - (intOf i).toNat)
        case atStart => exact ⟨0, [], -1, rfl, Nat.zero_le _, unhide SN0, unhide LO0⟩
        case round =>
          obtain ⟨j, lk, ls, rfl, hj, hs, hlo⟩ := hrel
          have HS := hide hs
          have HLO := hide hlo
          clear hs hlo SN0 LO0
          by_cases hjl : j < nA
          · have g2 : (j : Int) < (nA : Int) := by omega
            have hj0 : (0 : Int) ≤ (j : Int) := by omega
            have hwj : IntKind.i64.wrap ((j : Int) + 1) = (j : Int) + 1 := Go.IntWalk.i64_in _ (by have := unhide HNB; omega)
            obtain ⟨x, hx⟩ : ∃ x, A[j]? = some x := ⟨_, List.getElem?_eq_getElem (by rw [← unhide HNA]; exact hjl)⟩
            have HX := hide hx
            have OKX := hide (unhide OKS x (List.mem_of_getElem? hx))
            have HXI := hide (unhide HIS x (List.mem_of_getElem? hx))
            have RXX : Hid (∀ u, OSF w u p0 X2 Y L [(aa, ca, A)] bm l f → ∃ g, aa = some ⟨g, 0, none⟩ ∧ u.rangeAt g (j * 10) (outV x)) := hide fun u hu => by
              obtain ⟨g, hg, hr, _⟩ := held_at (hu.hlx.hl.row (r := (aa, ca, A)) List.mem_cons_self) hx
              exact ⟨g, hg, hr⟩
            obtain ⟨gx, rfl, _⟩ := unhide RXX wr (unhide HS).osf
            have RX : Hid (∀ u, OSF w u p0 X2 Y L [(some ⟨gx, 0, none⟩, ca, A)] bm l f → u.rangeAt gx (j * 10) (outV x)) := hide fun u hu => by
              obtain ⟨g', hg, hr⟩ := unhide RXX u hu
              cases hg; exact hr
            obtain ⟨va, vc, hva, _⟩ := (unhide HS).osf.vf.at_ x.key x.start
            obtain ⟨nf, hnf⟩ : ∃ nf, nf = (f x.key x.start).length := ⟨_, rfl⟩
            have HVA := hide hva
            have HNF := hide hnf
            have HAG := hide (unhide HXI).1
            have nf0 : ¬ nf = 0 := by rw [hnf]; exact fun e => (unhide HXI).2 (List.length_eq_zero_iff.1 e)
            have nf1 : ((nf : Int) == 0) = false := by simpa using nf0
            have nf2 : ¬ (nf : Int) = 0 := by omega
            have nfb : nf ≤ 200 := by rw [hnf]; have := unhide HFL x.key x.start; have := unhide hl200; omega
            clear hx RXX hva hnf HXI
            obtain ⟨xk, xs, xa⟩ := x
            dsimp only at OKX HVA HNF HAG
            obtain ⟨CA, hCA⟩ : ∃ CA : World → Prop, CA = fun v => Snd w v p0 X2 Y bm H (H + 1) L A (some ⟨gx, 0, none⟩) ca l f lk ls j := ⟨_, rfl⟩
            have unA : ∀ v, CA v → Snd w v p0 X2 Y bm H (H + 1) L A (some ⟨gx, 0, none⟩) ca l f lk ls j := fun v k => by rw [hCA] at k; exact k
            have baseA : CA wr.drew := by rw [hCA]; exact (unhide HS).below (Below.refl _ _).drew
            have a0 : ∀ q : SW CA, q.w.cell? ⟨gx, j * 10, none⟩ = some (.string ⟨xk.toArray⟩) := fun q => unhide RX _ (unA _ q.ok).osf 0 _ rfl
            have a1 : ∀ q : SW CA, q.w.cell? ⟨gx, j * 10 + 1, none⟩ = some (.int .i64 xs) := fun q => unhide RX _ (unA _ q.ok).osf 1 _ rfl
            have CAL : Hid (∀ o, CA (wr.drew.alloc o)) := hide fun o => by rw [hCA]; exact (unhide HS).below (((Below.refl _ _).drew).alloc (Nat.le_refl _) o)
            clear hCA unA
            go_upto_region 24 with fail
            refine wp_region_chain (S := CA) [true, true, true, true, true, true, true, true, true, true, true, false, false] [false, false, false, false, false, false, false, false, false, false, false, true, true] (by kernel_rfl) (by kernel_rfl) (by kernel_rfl) baseA ?_
            apply Exists.intro
            apply And.intro
            · intro q
              have n0 : Nonempty (SK CA q.w) := ⟨⟨q, rfl⟩⟩
              simp only [pickM]
              repeat (go_big_quiet_step (fail))
              exact wpQuiet_nil rfl
            · simp only [pickZ]
              refine chain_step (.pointer (some ⟨wr.heap.size, 0, none⟩)) (wr.drew.alloc (.cells #[.string ⟨#[]⟩, .int .i64 0, .int .i64 0, .int .i64 0, .int .i64 0, .int .i64 0, .int .i64 0, .int .i64 0, .int .i64 0, .int .i64 0] 38)) rfl (by simp [go_sem]) (unhide CAL _) ?_
              refine chain_skip (wr.drew.alloc (.cells (ovC xk xs).toArray 38)) rfl (by simp [go_sem, ovC]) (unhide CAL _) ?_
              simp only [chainM]
              obtain ⟨b2, hb2⟩ : ∃ b2, b2 = wr.heap.size := ⟨_, rfl⟩
              obtain ⟨W2, hW2⟩ : ∃ W2, W2 = wr.drew.alloc (.cells (ovC xk xs).toArray 38) := ⟨_, rfl⟩
              have SW2 : Hid (Snd w W2 p0 X2 Y bm H (H + 1) L A (some ⟨gx, 0, none⟩) ca l f lk ls j ∧ RowAt W2 b2 (ovC xk xs)) := hide (by
                rw [hW2, hb2]
                exact ⟨(unhide HS).below (((Below.refl _ _).drew).alloc (Nat.le_refl _) _), row_new wr.drew (ovC xk xs) 38⟩)
              have BNE : Hid (¬ b2 = H + 1) := hide (by rw [hb2]; have := (unhide HS).last.lt; omega)
              rw [← hb2, ← hW2]
              clear hb2 hW2 baseA a0 a1 CAL HS
              go_simp
              by_cases hto : j < T.length
              · have HOV : Hid (Sp.overI xs L.mark = true) := hide ((unhide HON).told_at (by rw [← unhide HA]; exact unhide HX) hto).1
                have g3 : (j : Int) < (T.length : Int) := by omega
                have hcmp := unhide HLO _ (unhide HX) hto
                dsimp only at hcmp
                obtain ⟨CB, hCB⟩ : ∃ CB : World → Prop, CB = fun v => Snd w v p0 X2 Y bm H (H + 1) L A (some ⟨gx, 0, none⟩) ca l f lk ls j ∧ RowAt v b2 (ovC xk xs) := ⟨_, rfl⟩
                have unB : ∀ v, CB v → Snd w v p0 X2 Y bm H (H + 1) L A (some ⟨gx, 0, none⟩) ca l f lk ls j ∧ RowAt v b2 (ovC xk xs) := fun v k => by rw [hCB] at k; exact k
                have baseB : CB W2.drew := by rw [hCB]; exact ⟨(unhide SW2).1.below (Below.refl _ _).drew, (unhide SW2).2.below (Below.refl _ _).drew⟩
                have sAT := hide (fun q : SX CB => (((unB _ q.ok).1.osf.hlx.at_).mono fun e w'' ⟨he, hw⟩ => ⟨he, q, hw⟩ : Calls Try.prog 29 #[.pointer (some ⟨p0, 0, none⟩)] q.w fun e w'' => e = .returned (.int .i64 L.mark) ∧ ∃ r : SX CB, w'' = r.w))
                have sOV := hide (fun q : SX CB => ((Sp.over_any xs L.mark q.w).mono fun e w'' ⟨he, hw⟩ => ⟨by rw [unhide HOV] at he; exact he, q, hw⟩ : Calls Try.prog 32 #[.int .i64 xs, .int .i64 L.mark] q.w fun e w'' => e = .returned (.bool true) ∧ ∃ r : SX CB, w'' = r.w))
                have b0 : ∀ q : SX CB, q.w.cell? ⟨b2, 0, none⟩ = some (.string ⟨xk.toArray⟩) := fun q => (unB _ q.ok).2.cell 0 (by rw [ovC_len]; omega)
                have b1 : ∀ q : SX CB, q.w.cell? ⟨b2, 1, none⟩ = some (.int .i64 xs) := fun q => (unB _ q.ok).2.cell 1 (by rw [ovC_len]; omega)
                have l0' : ∀ q : SX CB, q.w.cell? ⟨H + 1, 0, none⟩ = some (.string ⟨lk.toArray⟩) := fun q => (unB _ q.ok).1.last.cell 0 (by rw [ovC_len]; omega)
                have l1' : ∀ q : SX CB, q.w.cell? ⟨H + 1, 1, none⟩ = some (.int .i64 ls) := fun q => (unB _ q.ok).1.last.cell 1 (by rw [ovC_len]; omega)
                clear hCB
                by_cases hlt2 : ls < xs
                · have d1 : decide (xs < ls) = false := decide_eq_false (by omega)
                  have d2 : (xs == ls) = false := by simp; omega
                  have d3 : ¬ xs = ls := by omega
                  have d4 : ¬ xs < ls := by omega
                  clear hcmp
                  have neB : Nonempty (SX CB) := ⟨⟨_, baseB⟩⟩
                  go_upto_region 26 with fail
                  refine wp_region_sx (St := CB) (by kernel_rfl) (by kernel_rfl) baseB ?_
                  repeat (go_big_quiet_step (first | (go_at_call 29; exact unhide sAT _) | (go_at_call 32; exact unhide sOV _)))
                  refine wpQuiet_nil ?_
                  rintro v8 ⟨p8, e8⟩
                  have S8 := hide (unB _ p8.ok)
                  rw [← e8] at S8
                  clear e8 p8
                  clear neB
                  try dsimp only
                  clear d1 d2 d3 d4 hlt2
                  have RGB := hide (unhide S8).2.range
                  obtain ⟨wf, hwf, hth, hrb, hsn⟩ := (unhide S8).1.keepLast (unhide S8).2 (unhide BNE)
                  have HWF := hide hwf
                  have TH := hide hth
                  have SF : Hid (Snd w wf p0 X2 Y bm H (H + 1) L A (some ⟨gx, 0, none⟩) ca l f xk xs j ∧ RowAt wf b2 (ovC xk xs)) := hide ⟨hsn, hrb⟩
                  clear hwf hth hrb hsn baseB sAT sOV b0 b1 l0' l1' unB S8 SW2
                  go_upto_region 31 with (first | (refine wpList_load_on rfl 38 (.tmp 15) rfl b2 0 rfl (ovC xk xs) _ (unhide RGB) Try.underlying38 rfl (by kernel_rfl) ?_) | (refine wpList_store_mid rfl 38 (.tmp 12) (.tmp 125) rfl (H + 1) 0 (ovC xk xs).toArray rfl rfl (unhide TH) (by kernel_rfl) (by simp [Value.oneCell', ovC]) ?_; change wpList _ _ _ _ _ (World.setCells _ (H + 1) 0 (ovC xk xs)); rw [unhide HWF]))
                  clear HWF TH RGB
                  obtain ⟨CL, hCL⟩ : ∃ CL : World → Prop, CL = fun v => Snd w v p0 X2 Y bm H (H + 1) L A (some ⟨gx, 0, none⟩) ca l f xk xs j ∧ RowAt v b2 (ovC xk xs) := ⟨_, rfl⟩
                  have un : ∀ v, CL v → Snd w v p0 X2 Y bm H (H + 1) L A (some ⟨gx, 0, none⟩) ca l f xk xs j ∧ RowAt v b2 (ovC xk xs) := fun v k => by rw [hCL] at k; exact k
                  have to_ : Hid (∀ v, (Snd w v p0 X2 Y bm H (H + 1) L A (some ⟨gx, 0, none⟩) ca l f xk xs j ∧ RowAt v b2 (ovC xk xs)) → CL v) := hide fun v k => by rw [hCL]; exact k
                  have base : CL wf.drew := unhide to_ _ ⟨(unhide SF).1.below (Below.refl _ _).drew, (unhide SF).2.below (Below.refl _ _).drew⟩
                  have lk0 : ∀ q : SX CL, (Instr.lookup 69 (.map (some H)) (.agg (ovC xk xs).toArray) false).run Try.prog q.w = .ok (.int .i64 0) q.w := fun q => by
                    have h1 := (un _ q.ok).1.seen.look (mty := 69) (ety := 3) Try.underlying69 zero3 (seen_fine (unhide HRA) (unhide OKS)) (unhide OKX)
                    rw [seen_none (unhide HRA) (unhide HX)] at h1
                    exact h1
                  have lk1 : ∀ q : SX CL, (Instr.lookup 67 (.map (some bm)) (.agg (ovC xk xs).toArray) false).run Try.prog q.w = .ok (.slice va nf vc) q.w := fun q => by
                    have h1 := (un _ q.ok).1.osf.vf.lookup (k := xk) (s := xs) (unhide OKX)
                    rw [unhide HVA, ← unhide HNF] at h1
                    exact h1
                  have sOF := hide (fun q : SX CL => (((of_any va vc (f xk xs) q.w ((un _ q.ok).1.osf.vf.rowOf (unhide HVA)) (unhide HFI xk xs) (by have := unhide HFL xk xs; have := unhide hl200; unfold maxLen; omega)).mono fun e w'' ⟨he, hb⟩ => ⟨by rw [show of (f xk xs) = ofV SO (f xk xs) from rfl, ← unhide HAG] at he; exact he, ⟨w'', unhide to_ _ ⟨(un _ q.ok).1.below hb, (un _ q.ok).2.below hb⟩⟩, rfl⟩) :
                    Calls Try.prog 33 #[.slice va (f xk xs).length vc] q.w fun e w'' => e = .returned (aggV xa) ∧ ∃ r : SX CL, w'' = r.w))
                  rw [← unhide HNF] at sOF
                  have RGQ : Hid (∀ v, (∃ q : SX CL, v = q.w) → v.rangeAt b2 0 (ovC xk xs)) := hide (by rintro v ⟨q, rfl⟩; exact (un _ q.ok).2.range)
                  have RGA : Hid (∀ v, (∃ q : SX CL, v = q.w) → v.rangeAt gx (j * 10 + 2) (cellsA xa)) := hide (by
                    rintro v ⟨q, rfl⟩ i u hu
                    have h1 := unhide RX _ (un _ q.ok).1.osf (2 + i) u (by rw [← hu, Nat.add_comm 2 i]; rfl)
                    rw [show j * 10 + 2 + i = j * 10 + (2 + i) by omega]; exact h1)
                  have NX : Hid (∀ v, CL v → ∃ v', (Instr.mapUpdate 69 (.map (some H)) (.agg (ovC xk xs).toArray) (.int .i64 1)).run Try.prog v = .ok () v' ∧ Snd w v' p0 X2 Y bm H (H + 1) L A (some ⟨gx, 0, none⟩) ca l f xk xs (j + 1)) := hide fun v k => (un _ k).1.next (unhide HRA) (unhide OKS) (unhide HX) (by have := unhide HNA; have := unhide HNB; omega)
                  have RWB : Hid (∀ v, CL v → v.rangeAt b2 0 (ovC xk xs)) := hide fun v k => (un _ k).2.range
                  have LOK : Hid (LastOk A T.length (j + 1) xk xs) := hide (lastOk_next (n := T.length) (unhide HRA) (unhide HX))
                  clear hCL un
                  have neL : Nonempty (SX CL) := ⟨⟨_, base⟩⟩
                  go_upto_region 31 with fail
                  refine wp_region_sx (St := CL) (by kernel_rfl) (by kernel_rfl) base ?_
                  try go_simp
                  repeat (go_big_quiet_step (fail))
                  refine wpQuiet_load_onx rfl 38 (.tmp 15) rfl b2 0 rfl (ovC xk xs) _ (unhide RGQ) Try.underlying38 rfl (by kernel_rfl) ?_
                  go_simp
                  repeat (go_big_quiet_step (fail))
                  refine wpQuiet_load_aggo rfl 34 (.tmp 139) rfl gx (j * 10 + 2) rfl xa _ (unhide RGA) Try.underlying34 rfl (by kernel_rfl) ?_
                  go_simp
                  repeat (go_big_quiet_step (fail))
                  refine wpQuiet_load_onx rfl 38 (.tmp 15) rfl b2 0 rfl (ovC xk xs) _ (unhide RGQ) Try.underlying38 rfl (by kernel_rfl) ?_
                  go_simp
                  repeat (go_big_quiet_step (first | (go_at_call 33; exact unhide sOF _)))
                  refine wpQuiet_load_onx rfl 38 (.tmp 15) rfl b2 0 rfl (ovC xk xs) _ (unhide RGQ) Try.underlying38 rfl (by kernel_rfl) ?_
                  go_simp
                  repeat (go_big_quiet_step (fail))
                  refine wpQuiet_nil ?_
                  first | (rintro v9 ⟨p9, e9⟩; have OK9 := p9.ok; rw [← e9] at OK9; clear e9 p9) | (intro p9; have OK9 := p9.ok; generalize p9.w = v9 at OK9 ⊢; clear p9)
                  clear base lk0 lk1 sOF RGQ RGA neL
                  try dsimp only
                  obtain ⟨v10, hmu, hs10⟩ := unhide NX v9 OK9
                  have RGB := hide (unhide RWB v9 OK9)
                  have S10 := hide hs10
                  clear hs10 OK9 NX RWB to_
                  go_wp2_with (first | (refine wpList_load_on rfl 38 (.tmp 15) rfl b2 0 rfl (ovC xk xs) _ (unhide RGB) Try.underlying38 rfl (by kernel_rfl) ?_) | (refine wpList_skp rfl v10 (by simp [go_sem, hmu]; rfl) ?_))
                  exact ⟨⟨j + 1, xk, xs, rfl, by omega, unhide S10, unhide LOK⟩, by simp [intOf]; omega⟩
                · obtain ⟨e1, hkl⟩ : ls = xs ∧ keyLt lk xk = true := hcmp.resolve_left hlt2
                  subst e1
                  have d4 : ¬ ls < ls := by omega
                  have hle : ∀ u, (binOp .leq 9 (.string ⟨xk.toArray⟩) (.string ⟨lk.toArray⟩)).run Try.prog u = .ok (.bool false) u := fun u => by rw [leq9, hkl]; rfl
                  clear hcmp hlt2 hkl
                  have neB : Nonempty (SX CB) := ⟨⟨_, baseB⟩⟩
                  go_upto_region 26 with fail
                  refine wp_region_sx (St := CB) (by kernel_rfl) (by kernel_rfl) baseB ?_
                  repeat (go_big_quiet_step (first | (go_at_call 29; exact unhide sAT _) | (go_at_call 32; exact unhide sOV _)))
                  refine wpQuiet_nil ?_
                  rintro v8 ⟨p8, e8⟩
                  have S8 := hide (unB _ p8.ok)
                  rw [← e8] at S8
                  clear e8 p8
                  clear neB
                  try dsimp only
                  clear d4 hle
                  have RGB := hide (unhide S8).2.range
                  obtain ⟨wf, hwf, hth, hrb, hsn⟩ := (unhide S8).1.keepLast (unhide S8).2 (unhide BNE)
                  have HWF := hide hwf
                  have TH := hide hth
                  have SF : Hid (Snd w wf p0 X2 Y bm H (H + 1) L A (some ⟨gx, 0, none⟩) ca l f xk ls j ∧ RowAt wf b2 (ovC xk ls)) := hide ⟨hsn, hrb⟩
                  clear hwf hth hrb hsn baseB sAT sOV b0 b1 l0' l1' unB S8 SW2
                  go_upto_region 31 with (first | (refine wpList_load_on rfl 38 (.tmp 15) rfl b2 0 rfl (ovC xk ls) _ (unhide RGB) Try.underlying38 rfl (by kernel_rfl) ?_) | (refine wpList_store_mid rfl 38 (.tmp 12) (.tmp 125) rfl (H + 1) 0 (ovC xk ls).toArray rfl rfl (unhide TH) (by kernel_rfl) (by simp [Value.oneCell', ovC]) ?_; change wpList _ _ _ _ _ (World.setCells _ (H + 1) 0 (ovC xk ls)); rw [unhide HWF]))
                  clear HWF TH RGB
                  obtain ⟨CL, hCL⟩ : ∃ CL : World → Prop, CL = fun v => Snd w v p0 X2 Y bm H (H + 1) L A (some ⟨gx, 0, none⟩) ca l f xk ls j ∧ RowAt v b2 (ovC xk ls) := ⟨_, rfl⟩
                  have un : ∀ v, CL v → Snd w v p0 X2 Y bm H (H + 1) L A (some ⟨gx, 0, none⟩) ca l f xk ls j ∧ RowAt v b2 (ovC xk ls) := fun v k => by rw [hCL] at k; exact k
                  have to_ : Hid (∀ v, (Snd w v p0 X2 Y bm H (H + 1) L A (some ⟨gx, 0, none⟩) ca l f xk ls j ∧ RowAt v b2 (ovC xk ls)) → CL v) := hide fun v k => by rw [hCL]; exact k
                  have base : CL wf.drew := unhide to_ _ ⟨(unhide SF).1.below (Below.refl _ _).drew, (unhide SF).2.below (Below.refl _ _).drew⟩
                  have lk0 : ∀ q : SX CL, (Instr.lookup 69 (.map (some H)) (.agg (ovC xk ls).toArray) false).run Try.prog q.w = .ok (.int .i64 0) q.w := fun q => by
                    have h1 := (un _ q.ok).1.seen.look (mty := 69) (ety := 3) Try.underlying69 zero3 (seen_fine (unhide HRA) (unhide OKS)) (unhide OKX)
                    rw [seen_none (unhide HRA) (unhide HX)] at h1
                    exact h1
                  have lk1 : ∀ q : SX CL, (Instr.lookup 67 (.map (some bm)) (.agg (ovC xk ls).toArray) false).run Try.prog q.w = .ok (.slice va nf vc) q.w := fun q => by
                    have h1 := (un _ q.ok).1.osf.vf.lookup (k := xk) (s := ls) (unhide OKX)
                    rw [unhide HVA, ← unhide HNF] at h1
                    exact h1
                  have sOF := hide (fun q : SX CL => (((of_any va vc (f xk ls) q.w ((un _ q.ok).1.osf.vf.rowOf (unhide HVA)) (unhide HFI xk ls) (by have := unhide HFL xk ls; have := unhide hl200; unfold maxLen; omega)).mono fun e w'' ⟨he, hb⟩ => ⟨by rw [show of (f xk ls) = ofV SO (f xk ls) from rfl, ← unhide HAG] at he; exact he, ⟨w'', unhide to_ _ ⟨(un _ q.ok).1.below hb, (un _ q.ok).2.below hb⟩⟩, rfl⟩) :
                    Calls Try.prog 33 #[.slice va (f xk ls).length vc] q.w fun e w'' => e = .returned (aggV xa) ∧ ∃ r : SX CL, w'' = r.w))
                  rw [← unhide HNF] at sOF
                  have RGQ : Hid (∀ v, (∃ q : SX CL, v = q.w) → v.rangeAt b2 0 (ovC xk ls)) := hide (by rintro v ⟨q, rfl⟩; exact (un _ q.ok).2.range)
                  have RGA : Hid (∀ v, (∃ q : SX CL, v = q.w) → v.rangeAt gx (j * 10 + 2) (cellsA xa)) := hide (by
                    rintro v ⟨q, rfl⟩ i u hu
                    have h1 := unhide RX _ (un _ q.ok).1.osf (2 + i) u (by rw [← hu, Nat.add_comm 2 i]; rfl)
                    rw [show j * 10 + 2 + i = j * 10 + (2 + i) by omega]; exact h1)
                  have NX : Hid (∀ v, CL v → ∃ v', (Instr.mapUpdate 69 (.map (some H)) (.agg (ovC xk ls).toArray) (.int .i64 1)).run Try.prog v = .ok () v' ∧ Snd w v' p0 X2 Y bm H (H + 1) L A (some ⟨gx, 0, none⟩) ca l f xk ls (j + 1)) := hide fun v k => (un _ k).1.next (unhide HRA) (unhide OKS) (unhide HX) (by have := unhide HNA; have := unhide HNB; omega)
                  have RWB : Hid (∀ v, CL v → v.rangeAt b2 0 (ovC xk ls)) := hide fun v k => (un _ k).2.range
                  have LOK : Hid (LastOk A T.length (j + 1) xk ls) := hide (lastOk_next (n := T.length) (unhide HRA) (unhide HX))
                  clear hCL un
                  have neL : Nonempty (SX CL) := ⟨⟨_, base⟩⟩
                  go_upto_region 31 with fail
                  refine wp_region_sx (St := CL) (by kernel_rfl) (by kernel_rfl) base ?_
                  try go_simp
                  repeat (go_big_quiet_step (fail))
                  refine wpQuiet_load_onx rfl 38 (.tmp 15) rfl b2 0 rfl (ovC xk ls) _ (unhide RGQ) Try.underlying38 rfl (by kernel_rfl) ?_
                  go_simp
                  repeat (go_big_quiet_step (fail))
                  refine wpQuiet_load_aggo rfl 34 (.tmp 139) rfl gx (j * 10 + 2) rfl xa _ (unhide RGA) Try.underlying34 rfl (by kernel_rfl) ?_
                  go_simp
                  repeat (go_big_quiet_step (fail))
                  refine wpQuiet_load_onx rfl 38 (.tmp 15) rfl b2 0 rfl (ovC xk ls) _ (unhide RGQ) Try.underlying38 rfl (by kernel_rfl) ?_
                  go_simp
                  repeat (go_big_quiet_step (first | (go_at_call 33; exact unhide sOF _)))
                  refine wpQuiet_load_onx rfl 38 (.tmp 15) rfl b2 0 rfl (ovC xk ls) _ (unhide RGQ) Try.underlying38 rfl (by kernel_rfl) ?_
                  go_simp
                  repeat (go_big_quiet_step (fail))
                  refine wpQuiet_nil ?_
                  first | (rintro v9 ⟨p9, e9⟩; have OK9 := p9.ok; rw [← e9] at OK9; clear e9 p9) | (intro p9; have OK9 := p9.ok; generalize p9.w = v9 at OK9 ⊢; clear p9)
                  clear base lk0 lk1 sOF RGQ RGA neL
                  try dsimp only
                  obtain ⟨v10, hmu, hs10⟩ := unhide NX v9 OK9
                  have RGB := hide (unhide RWB v9 OK9)
                  have S10 := hide hs10
                  clear hs10 OK9 NX RWB to_
                  go_wp2_with (first | (refine wpList_load_on rfl 38 (.tmp 15) rfl b2 0 rfl (ovC xk ls) _ (unhide RGB) Try.underlying38 rfl (by kernel_rfl) ?_) | (refine wpList_skp rfl v10 (by simp [go_sem, hmu]; rfl) ?_))
                  exact ⟨⟨j + 1, xk, ls, rfl, by omega, unhide S10, unhide LOK⟩, by simp [intOf]; omega⟩
              · have HOV : Hid (Sp.overI xs L.mark = false) := hide ((unhide HON).open_at (by rw [← unhide HA]; exact unhide HX) hto)
                have g3 : ¬ (j : Int) < (T.length : Int) := by omega
                obtain ⟨CB, hCB⟩ : ∃ CB : World → Prop, CB = fun v => Snd w v p0 X2 Y bm H (H + 1) L A (some ⟨gx, 0, none⟩) ca l f lk ls j ∧ RowAt v b2 (ovC xk xs) := ⟨_, rfl⟩
                have unB : ∀ v, CB v → Snd w v p0 X2 Y bm H (H + 1) L A (some ⟨gx, 0, none⟩) ca l f lk ls j ∧ RowAt v b2 (ovC xk xs) := fun v k => by rw [hCB] at k; exact k
                have baseB : CB W2.drew := by rw [hCB]; exact ⟨(unhide SW2).1.below (Below.refl _ _).drew, (unhide SW2).2.below (Below.refl _ _).drew⟩
                have sAT := hide (fun q : SX CB => (((unB _ q.ok).1.osf.hlx.at_).mono fun e w'' ⟨he, hw⟩ => ⟨he, q, hw⟩ : Calls Try.prog 29 #[.pointer (some ⟨p0, 0, none⟩)] q.w fun e w'' => e = .returned (.int .i64 L.mark) ∧ ∃ r : SX CB, w'' = r.w))
                have sOV := hide (fun q : SX CB => ((Sp.over_any xs L.mark q.w).mono fun e w'' ⟨he, hw⟩ => ⟨by rw [unhide HOV] at he; exact he, q, hw⟩ : Calls Try.prog 32 #[.int .i64 xs, .int .i64 L.mark] q.w fun e w'' => e = .returned (.bool false) ∧ ∃ r : SX CB, w'' = r.w))
                have b0 : ∀ q : SX CB, q.w.cell? ⟨b2, 0, none⟩ = some (.string ⟨xk.toArray⟩) := fun q => (unB _ q.ok).2.cell 0 (by rw [ovC_len]; omega)
                have b1 : ∀ q : SX CB, q.w.cell? ⟨b2, 1, none⟩ = some (.int .i64 xs) := fun q => (unB _ q.ok).2.cell 1 (by rw [ovC_len]; omega)
                have l0' : ∀ q : SX CB, q.w.cell? ⟨H + 1, 0, none⟩ = some (.string ⟨lk.toArray⟩) := fun q => (unB _ q.ok).1.last.cell 0 (by rw [ovC_len]; omega)
                have l1' : ∀ q : SX CB, q.w.cell? ⟨H + 1, 1, none⟩ = some (.int .i64 ls) := fun q => (unB _ q.ok).1.last.cell 1 (by rw [ovC_len]; omega)
                clear hCB
                have neB : Nonempty (SX CB) := ⟨⟨_, baseB⟩⟩
                go_upto_region 29 with fail
                refine wp_region_sx (St := CB) (by kernel_rfl) (by kernel_rfl) baseB ?_
                repeat (go_big_quiet_step (first | (go_at_call 29; exact unhide sAT _) | (go_at_call 32; exact unhide sOV _)))
                refine wpQuiet_nil ?_
                rintro v8 ⟨p8, e8⟩
                have S8 := hide (unB _ p8.ok)
                rw [← e8] at S8
                clear e8 p8
                clear neB
                try dsimp only
                clear baseB sAT sOV b0 b1 l0' l1' unB SW2
                obtain ⟨CL, hCL⟩ : ∃ CL : World → Prop, CL = fun v => Snd w v p0 X2 Y bm H (H + 1) L A (some ⟨gx, 0, none⟩) ca l f lk ls j ∧ RowAt v b2 (ovC xk xs) := ⟨_, rfl⟩
                have un : ∀ v, CL v → Snd w v p0 X2 Y bm H (H + 1) L A (some ⟨gx, 0, none⟩) ca l f lk ls j ∧ RowAt v b2 (ovC xk xs) := fun v k => by rw [hCL] at k; exact k
                have to_ : Hid (∀ v, (Snd w v p0 X2 Y bm H (H + 1) L A (some ⟨gx, 0, none⟩) ca l f lk ls j ∧ RowAt v b2 (ovC xk xs)) → CL v) := hide fun v k => by rw [hCL]; exact k
                have base : CL v8.drew := unhide to_ _ ⟨(unhide S8).1.below (Below.refl _ _).drew, (unhide S8).2.below (Below.refl _ _).drew⟩
                have lk0 : ∀ q : SX CL, (Instr.lookup 69 (.map (some H)) (.agg (ovC xk xs).toArray) false).run Try.prog q.w = .ok (.int .i64 0) q.w := fun q => by
                  have h1 := (un _ q.ok).1.seen.look (mty := 69) (ety := 3) Try.underlying69 zero3 (seen_fine (unhide HRA) (unhide OKS)) (unhide OKX)
                  rw [seen_none (unhide HRA) (unhide HX)] at h1
                  exact h1
                have lk1 : ∀ q : SX CL, (Instr.lookup 67 (.map (some bm)) (.agg (ovC xk xs).toArray) false).run Try.prog q.w = .ok (.slice va nf vc) q.w := fun q => by
                  have h1 := (un _ q.ok).1.osf.vf.lookup (k := xk) (s := xs) (unhide OKX)
                  rw [unhide HVA, ← unhide HNF] at h1
                  exact h1
                have sOF := hide (fun q : SX CL => (((of_any va vc (f xk xs) q.w ((un _ q.ok).1.osf.vf.rowOf (unhide HVA)) (unhide HFI xk xs) (by have := unhide HFL xk xs; have := unhide hl200; unfold maxLen; omega)).mono fun e w'' ⟨he, hb⟩ => ⟨by rw [show of (f xk xs) = ofV SO (f xk xs) from rfl, ← unhide HAG] at he; exact he, ⟨w'', unhide to_ _ ⟨(un _ q.ok).1.below hb, (un _ q.ok).2.below hb⟩⟩, rfl⟩) :
                  Calls Try.prog 33 #[.slice va (f xk xs).length vc] q.w fun e w'' => e = .returned (aggV xa) ∧ ∃ r : SX CL, w'' = r.w))
                rw [← unhide HNF] at sOF
                have RGQ : Hid (∀ v, (∃ q : SX CL, v = q.w) → v.rangeAt b2 0 (ovC xk xs)) := hide (by rintro v ⟨q, rfl⟩; exact (un _ q.ok).2.range)
                have RGA : Hid (∀ v, (∃ q : SX CL, v = q.w) → v.rangeAt gx (j * 10 + 2) (cellsA xa)) := hide (by
                  rintro v ⟨q, rfl⟩ i u hu
                  have h1 := unhide RX _ (un _ q.ok).1.osf (2 + i) u (by rw [← hu, Nat.add_comm 2 i]; rfl)
                  rw [show j * 10 + 2 + i = j * 10 + (2 + i) by omega]; exact h1)
                have NX : Hid (∀ v, CL v → ∃ v', (Instr.mapUpdate 69 (.map (some H)) (.agg (ovC xk xs).toArray) (.int .i64 1)).run Try.prog v = .ok () v' ∧ Snd w v' p0 X2 Y bm H (H + 1) L A (some ⟨gx, 0, none⟩) ca l f lk ls (j + 1)) := hide fun v k => (un _ k).1.next (unhide HRA) (unhide OKS) (unhide HX) (by have := unhide HNA; have := unhide HNB; omega)
                have RWB : Hid (∀ v, CL v → v.rangeAt b2 0 (ovC xk xs)) := hide fun v k => (un _ k).2.range
                have LOK : Hid (LastOk A T.length (j + 1) lk ls) := hide (lastOk_off (A := A) (n := T.length) hto)
                clear hCL un
                have neL : Nonempty (SX CL) := ⟨⟨_, base⟩⟩
                go_upto_region 31 with fail
                refine wp_region_sx (St := CL) (by kernel_rfl) (by kernel_rfl) base ?_
                try go_simp
                repeat (go_big_quiet_step (fail))
                refine wpQuiet_load_onx rfl 38 (.tmp 15) rfl b2 0 rfl (ovC xk xs) _ (unhide RGQ) Try.underlying38 rfl (by kernel_rfl) ?_
                go_simp
                repeat (go_big_quiet_step (fail))
                refine wpQuiet_load_aggo rfl 34 (.tmp 139) rfl gx (j * 10 + 2) rfl xa _ (unhide RGA) Try.underlying34 rfl (by kernel_rfl) ?_
                go_simp
                repeat (go_big_quiet_step (fail))
                refine wpQuiet_load_onx rfl 38 (.tmp 15) rfl b2 0 rfl (ovC xk xs) _ (unhide RGQ) Try.underlying38 rfl (by kernel_rfl) ?_
                go_simp
                repeat (go_big_quiet_step (first | (go_at_call 33; exact unhide sOF _)))
                refine wpQuiet_load_onx rfl 38 (.tmp 15) rfl b2 0 rfl (ovC xk xs) _ (unhide RGQ) Try.underlying38 rfl (by kernel_rfl) ?_
                go_simp
                repeat (go_big_quiet_step (fail))
                refine wpQuiet_nil ?_
                first | (rintro v9 ⟨p9, e9⟩; have OK9 := p9.ok; rw [← e9] at OK9; clear e9 p9) | (intro p9; have OK9 := p9.ok; generalize p9.w = v9 at OK9 ⊢; clear p9)
                clear base lk0 lk1 sOF RGQ RGA neL
                try dsimp only
                obtain ⟨v10, hmu, hs10⟩ := unhide NX v9 OK9
                have RGB := hide (unhide RWB v9 OK9)
                have S10 := hide hs10
                clear hs10 OK9 NX RWB to_
                go_wp2_with (first | (refine wpList_load_on rfl 38 (.tmp 15) rfl b2 0 rfl (ovC xk xs) _ (unhide RGB) Try.underlying38 rfl (by kernel_rfl) ?_) | (refine wpList_skp rfl v10 (by simp [go_sem, hmu]; rfl) ?_))
                exact ⟨⟨j + 1, lk, ls, rfl, by omega, unhide S10, unhide LOK⟩, by simp [intOf]; omega⟩
          · have g2 : ¬ (j : Int) < (nA : Int) := by omega
            have hjn : j = nA := by omega
            have hl0 : (seenOf A j).length = nA := by rw [seen_len (by have := unhide HNA; omega), hjn]
            have hl1 : l.length = nA := by rw [unhide HNA, unhide HA]; exact ((unhide HS).osf.vf.count (unhide HON)).symm
            have n0 := (unhide HS).seen.len Try.underlying69 3
            have n1 := (unhide HS).osf.vf.len 3
            rw [hl0] at n0
            rw [hl1] at n1
            have BEL := hide (unhide HS).osf.bel
            clear HS hl0 hl1 hjn
            go_wp2_with fail
            refine (unhide WK _).mono ?_
            rintro e v' ⟨rfl, hb⟩
            go_wp2_with fail
            go_ret
            exact ⟨rfl, (unhide BEL).trans (hb.mono (unhide BEL).size)⟩
end Go.Proofs.Ytmgmkdkdpeljmaa

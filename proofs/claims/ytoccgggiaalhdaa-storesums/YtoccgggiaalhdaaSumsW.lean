/- What StoreSums does: it answers true, and nothing that was there has turned. No conditions. -/
import Derived.Test.YtoccgggiaalhdaaSb
import Derived.Test.YtoccgggiaalhdaaSeqL
import Derived.Test.YtoccgggiaalhdaaLaw
import Derived.Test.YtoccgggiaalhdaaActs
import Derived.Test.YtoccgggiaalhdaaWakes
namespace Go.Proofs.Ytoccgggiaalhdaa
open Go.RowKit
attribute [go_sem] sameA_self
@[go_sem high] theorem neq24v' (a b : AggV) (w : World) : (binOp .neq 32 (aggV a) (aggV b)).run Try.prog w = .ok (.bool (!sameA a b)) w := by
  have h := eq24 a b w
  unfold aggV at h ⊢
  rw [run_neq_struct, h]; rfl
theorem wpQuiet_load_aggx {P : Program} {ops : Array Oper} {C : World → Prop} {Q : Act → Prop} {rest : List Oper} {op : Oper} {a : Act} (hw : Region.wanted op (yielded ops a.tmps) = true) (ty : TypeId) (x : Operand) (ho : op.op = .load ty x)
    (b o : Nat) (hx : a.eval x = .pointer (some ⟨b, o, none⟩)) (z : AggV) (d : TypeDesc) (hc : ∀ v, C v → v.rangeAt b o (cellsA z))
    (hu : P.underlying ty = some d) (hd : d.isRow = true) (hi : (P.info? ty).map (·.size) = some (cellsA z).length)
    (h : wpQuiet P ops C Q rest (a.put op.dst (aggV z))) : wpQuiet P ops C Q (op :: rest) a := wpQuiet_load_onx hw ty x ho b o hx (cellsA z) d hc hu hd hi h
theorem act_range {v : World} {b o : Nat} {p : ActZ} (h : ActAt v b o p) : v.rangeAt b o (actC p) := fun j u hu => by
  match j, hu with
  | 0, hu => cases hu; exact h.c0
  | 1, hu => cases hu; exact h.c1
  | 2, hu => cases hu; exact h.c2
  | 3, hu => cases hu; exact h.c3
  | j + 4, hu =>
    have := h.out j u hu
    rw [show o + (j + 4) = o + 4 + j by omega]; exact this
theorem next_miss {o : List (Win AggV)} {n : Nat} {x : Win AggV} {kk : List UInt8} {sa : Int} {U V : List Int} (hx : o[n]? = some x) (hn : ¬ at_ kk sa x) (h : (U = V ∧ ∀ j x, j < n → o[j]? = some x → ¬ at_ kk sa x) ∨ (U = [] ∧ ∃ j x, j < n ∧ o[j]? = some x ∧ at_ kk sa x)) :
    (U = V ∧ ∀ j x, j < n + 1 → o[j]? = some x → ¬ at_ kk sa x) ∨ (U = [] ∧ ∃ j x, j < n + 1 ∧ o[j]? = some x ∧ at_ kk sa x) := by
  rcases h with ⟨h1, h2⟩ | ⟨h1, j, y, hj, hy, hat⟩
  · refine .inl ⟨h1, fun j y hj hy => ?_⟩
    by_cases e : j = n
    · subst e
      rw [hx] at hy; cases hy; exact hn
    · exact h2 j y (by omega) hy
  · exact .inr ⟨h1, j, y, by omega, hy, hat⟩
/-- The acts of this statement: Put and Take alone. -/
def actS' (l : List (Win AggV)) (a : ActZ) : List (Win AggV) := if a.do_ = 0 then (putS SO l a.key a.at_ a.n).1 else if a.do_ = 2 then (takeS SO l a.at_).1 else l
def l0 (z : List ActZ) : List (Win AggV) := z.foldl actS' []
theorem l0_snoc (z : List ActZ) (a : ActZ) : l0 (z ++ [a]) = actS' (l0 z) a := by simp [l0]
theorem mild_act' {l : List (Win AggV)} (h : Mild l) {p : ActZ} (hp : p.Ok) : Mild (actS' l p) := by
  unfold actS'
  split
  · exact mild_put h hp.n
  · split
    · exact mild_take h _
    · exact h
theorem startI_wide0 (x : Int) : i64 (Sp.startI x) := by
  unfold Sp.startI i64
  split <;> omega
theorem chain_nil {P : Program} {md : Region.Mode} {ops : Array Oper} {S : World → Prop} {K : Act → World → Prop} {a : Act} {w : World} (h : K a w) : chainM P md ops S K [] a w := h
theorem short_z {w : World} {a : Option Addr} {len cap : Nat} {z : List ActZ} (h : IsActs w a len cap z) (hg : ¬ tooGreat z = true) : len ≤ 200 := by
  refine Nat.le_of_not_lt fun hl => hg ?_
  unfold tooGreat
  rw [h.size_, decide_eq_true hl, Bool.true_or]
set_option maxRecDepth 100000 in
set_option maxHeartbeats 16000000 in
theorem sumslaw_any (a : Option Addr) (len cap : Nat) (z : List ActZ) (s : ByteArray) (at0 : Int) (w : World) (hz : IsActs w a len cap z) (hs : s.size ≤ maxLen) :
    Calls Try.prog 5 #[.slice a len cap, .string s, .int .i64 at0] w fun e w' => e = .returned (.bool true) ∧ Below w.heap.size w w' := by
  obtain ⟨kk, rfl⟩ : ∃ k : List UInt8, s = ⟨k.toArray⟩ := ⟨s.data.toList, by cases s; simp⟩
  have hzk : (⟨kk.toArray⟩ : ByteArray).size = kk.length := by simp [ByteArray.size]
  have OKK : Hid (okk kk (Sp.startI at0)) := hide ⟨by rw [← hzk]; exact hs, startI_wide0 at0⟩
  have HZ := hide hz
  have GR := hide (great_any a len cap z w hz)
  have WK := hide wakes_any
  have BW := hide (Below.refl w.heap.size w)
  have CST := hide (fun u => Sp.start_any at0 u)
  have hw0 := hide (Here.new (Below.refl w.heap.size w) (R := []) (fun _ h => by cases h))
  clear hz hs
  by_cases hg : tooGreat z = true
  · rw [hg] at GR
    go_enter Try.func5, Try.ntmps5
    go_wp2_with fail
    refine (unhide GR).mono ?_
    rintro e v' ⟨rfl, hw⟩
    rw [hw]
    clear hw v'
    go_wp2_with fail
    refine (unhide WK _).mono ?_
    rintro e v' ⟨rfl, hb⟩
    go_wp2_with fail
    go_ret
    exact ⟨rfl, (unhide BW).trans (hb.mono (unhide BW).size)⟩
  · have hl200 := hide (short_z (unhide HZ) hg)
    rw [Bool.eq_false_iff.2 hg] at GR
    by_cases h1 : (100 : Int) < (kk.length : Int)
    · go_enter Try.func5, Try.ntmps5
      go_wp2_with fail
      refine (unhide GR).mono ?_
      rintro e v' ⟨rfl, hw⟩
      rw [hw]
      clear hw v'
      go_wp2_with fail
      refine (unhide WK _).mono ?_
      rintro e v' ⟨rfl, hb⟩
      go_wp2_with fail
      go_ret
      exact ⟨rfl, (unhide BW).trans (hb.mono (unhide BW).size)⟩
    · have d1 : decide ((100 : Int) < (kk.length : Int)) = false := decide_eq_false h1
      go_enter Try.func5, Try.ntmps5
      go_upto_region 3 with fail
      refine (unhide GR).mono ?_
      rintro e v' ⟨rfl, hw⟩
      rw [hw]
      clear hw v'
      go_upto_region 3 with fail
      go_upto_region 4 with fail
      refine (unhide hw0).mono ?_
      rintro e u1 ⟨rfl, HE⟩
      have START := hide (SI.start HE)
      clear HE hw0 GR hg BW d1 h1
      generalize w.heap.size = p0 at START ⊢
      go_upto_region 5 with fail
      refine (unhide CST _).mono ?_
      rintro e v' ⟨rfl, hw⟩
      rw [hw]
      clear hw v'
      obtain ⟨sa, hsa⟩ : ∃ sa, sa = Sp.startI at0 := ⟨_, rfl⟩
      rw [← hsa] at OKK ⊢
      have HST : Hid (Sp.startI at0 = sa) := hide hsa.symm
      clear hsa CST
      go_wp2_with fail
      go_loopw [9, 10] (fun vs i wr => ∃ (k : Nat) (va : Option Addr) (vc : Nat) (V : List Int), i = .int .i64 (k : Int) ∧ k ≤ len ∧ vs = .slice va V.length vc ∧ SI w wr p0 (l0 (z.take k)) va vc V ∧ Mild (l0 (z.take k)) ∧ Sums SO kk sa (l0 (z.take k)) V ∧ (∀ v ∈ V, i64 v) ∧ V.length ≤ k) (fun _ i _ => len - (intOf i).toNat)
      case atStart => exact ⟨0, none, 0, [], rfl, by omega, rfl, by rw [List.take_zero]; exact unhide START, by rw [List.take_zero]; exact mild_nil, by rw [List.take_zero]; exact sums_nil kk sa, fun v hv => (by cases hv), Nat.le_refl _⟩
      case round =>
        obtain ⟨k, va, vc, V, rfl, hk, rfl, hsi, hmm, hsum, hvi, hvl⟩ := hrel
        have HSI := hide hsi
        have HMM := hide hmm
        have HSUM := hide hsum
        have HVI := hide hvi
        have HVL := hide hvl
        clear hsi hmm hsum hvi hvl START
        by_cases hlt : k < len
        · have g1 : (k : Int) < (len : Int) := by omega
          have hk0 : (0 : Int) ≤ (k : Int) := by omega
          have hml := (unhide HZ).max
          unfold maxLen at hml
          have hwk : IntKind.i64.wrap ((k : Int) + 1) = (k : Int) + 1 := Go.IntWalk.i64_in _ (by omega)
          obtain ⟨bb, o, rfl, hat, ok, hbl⟩ := ((unhide HZ).below (unhide HSI).bel).at_ k hlt
          have HS1 : Hid (l0 (z.take (k + 1)) = actS' (l0 (z.take k)) (z.getD k ActZ.none_)) := hide (by rw [take_snoc (by rw [(unhide HZ).size_]; exact hlt), l0_snoc])
          have HM := hide (mild_act' (unhide HMM) ok)
          have ra := act_range hat
          have HOK := hide ok
          clear hat ok hbl
          generalize z.getD k ActZ.none_ = y at *
          generalize l0 (z.take k) = l at *
          obtain ⟨yd, yk, ya, yn, ⟨xk, xs, ⟨g0, g1', g2, g3, g4, g5, g6, g7⟩⟩⟩ := y
          have RACT : Hid (wr.rangeAt bb (o + k * 14) [.int .u8 (yd : Int), .string ⟨yk.toArray⟩, .int .i64 ya, .int .i64 yn, .string ⟨xk.toArray⟩, .int .i64 xs, .int .i64 g0, .int .i64 g1', .int .i64 g2, .int .i64 g3, .int .i64 g4, .int .i64 g5, .int .i64 g6, .int .i64 g7]) := hide ra
          obtain ⟨W1, hw1⟩ : ∃ W1, W1 = wr.alloc (.cells #[.int .u8 (yd : Int), .string ⟨yk.toArray⟩, .int .i64 ya, .int .i64 yn, .string ⟨xk.toArray⟩, .int .i64 xs, .int .i64 g0, .int .i64 g1', .int .i64 g2, .int .i64 g3, .int .i64 g4, .int .i64 g5, .int .i64 g6, .int .i64 g7] 36) := ⟨_, rfl⟩
          obtain ⟨b, hbb⟩ : ∃ b, b = wr.heap.size := ⟨_, rfl⟩
          have SBW : Hid (SB w W1 p0 b [.int .u8 (yd : Int), .string ⟨yk.toArray⟩, .int .i64 ya, .int .i64 yn, .string ⟨xk.toArray⟩, .int .i64 xs, .int .i64 g0, .int .i64 g1', .int .i64 g2, .int .i64 g3, .int .i64 g4, .int .i64 g5, .int .i64 g6, .int .i64 g7] l [] va vc V) := hide (by rw [hw1, hbb]; exact (unhide HSI).box ((Moved.refl _ _).alloc _) (row_new _ _ _))
          have HW1 := hide hw1
          have HBB := hide hbb
          clear ra HSI hw1 hbb
          go_upto_region 10 with (refine wpList_load_on rfl 36 (.tmp 38) rfl bb (o + k * 14) rfl [.int .u8 (yd : Int), .string ⟨yk.toArray⟩, .int .i64 ya, .int .i64 yn, .string ⟨xk.toArray⟩, .int .i64 xs, .int .i64 g0, .int .i64 g1', .int .i64 g2, .int .i64 g3, .int .i64 g4, .int .i64 g5, .int .i64 g6, .int .i64 g7] _ (unhide RACT) Try.underlying36 rfl (by kernel_rfl) ?_)
          rw [← unhide HBB]
          try change Code.wp _ _ _ _ (wr.alloc (.cells #[.int .u8 (yd : Int), .string ⟨yk.toArray⟩, .int .i64 ya, .int .i64 yn, .string ⟨xk.toArray⟩, .int .i64 xs, .int .i64 g0, .int .i64 g1', .int .i64 g2, .int .i64 g3, .int .i64 g4, .int .i64 g5, .int .i64 g6, .int .i64 g7] 36))
          rw [← unhide HW1]
          clear RACT HBB HW1
          have W1c0 : W1.cell? ⟨b, 0, none⟩ = some (.int .u8 (yd : Int)) := (unhide SBW).rb.cell 0 (by simp)
          have W1c1 : W1.cell? ⟨b, 1, none⟩ = some (.string ⟨yk.toArray⟩) := (unhide SBW).rb.cell 1 (by simp)
          have W1c2 : W1.cell? ⟨b, 2, none⟩ = some (.int .i64 ya) := (unhide SBW).rb.cell 2 (by simp)
          have W1c3 : W1.cell? ⟨b, 3, none⟩ = some (.int .i64 yn) := (unhide SBW).rb.cell 3 (by simp)
          by_cases e0 : yd = 0
          · subst e0
            have hact : Hid (actS' l ⟨0, yk, ya, yn, ⟨xk, xs, ⟨g0, g1', g2, g3, g4, g5, g6, g7⟩⟩⟩ = (putS SO l yk ya yn).1) := hide rfl
            rw [unhide hact] at HM HS1
            have HCS := hide ((unhide SBW).put (unhide HMM) yk ya yn (unhide HOK).n)
            clear hact
            go_upto_region 12 with fail
            refine (unhide HCS).mono ?_
            rintro e v1 ⟨rfl, hp⟩
            have SB1 := hide hp
            have v1c0 : v1.cell? ⟨b, 0, none⟩ = some (.int .u8 0) := hp.rb.cell 0 (by simp)
            have v1c1 : v1.cell? ⟨b, 1, none⟩ = some (.string ⟨yk.toArray⟩) := hp.rb.cell 1 (by simp)
            have v1c2 : v1.cell? ⟨b, 2, none⟩ = some (.int .i64 ya) := hp.rb.cell 2 (by simp)
            have v1c3 : v1.cell? ⟨b, 3, none⟩ = some (.int .i64 yn) := hp.rb.cell 3 (by simp)
            clear hp HCS SBW W1c0 W1c1 W1c2 W1c3
            have CS := hide (fun u => Sp.start_any ya u)
            by_cases hc : (putS SO l yk ya yn).2 = 0
            · by_cases hke : yk = kk
              · by_cases hst : Sp.startI ya = Sp.startI at0
                · have SUM := hide (sums_put so_law (unhide HSUM) (k' := yk) (a := ya) (v := yn) (unhide HOK).n)
                  rw [if_pos ⟨hc, hke, hst.trans (unhide HST)⟩] at SUM
                  have hci : ((putS SO l yk ya yn).2 : Int) = 0 := by omega
                  have VI : Hid (∀ v ∈ V ++ [yn], i64 v) := hide fun v hv => (List.mem_append.1 hv).elim (unhide HVI v) (fun h => by rw [List.mem_singleton.1 h]; exact (unhide HOK).n)
                  have VL : Hid ((V ++ [yn]).length ≤ k + 1) := hide (by rw [List.length_append]; have := unhide HVL; simp; omega)
                  obtain ⟨a', c', v2, hap, hsb⟩ := (unhide SB1).push yn (by have := unhide HVL; have := unhide hl200; omega)
                  have HAP := hide hap
                  have SB2 := hide hsb
                  have hlen : (V ++ [yn]).length = V.length + 1 := by simp
                  have d0 : v2.cell? ⟨b, 0, none⟩ = some (.int .u8 0) := hsb.rb.cell 0 (by simp)
                  subst hke
                  rw [unhide HST] at hst
                  rw [hst] at CS
                  clear hap hsb hst hc hlen
                  generalize (putS SO l yk ya yn).2 = ec at *
                  go_wp2_with fail
                  refine (unhide CS _).mono ?_
                  rintro e v' ⟨rfl, hw⟩
                  rw [hw]
                  clear hw v'
                  go_wp2_with (first | (at_builtin; refine wpList_app rfl _ _ 54 54 54 rfl rfl rfl rfl (unhide HAP) ?_))
                  exact ⟨⟨k + 1, a', c', V ++ [yn], rfl, by omega, by simp, by rw [unhide HS1]; exact (unhide SB2).end_, by rw [unhide HS1]; exact unhide HM, by rw [unhide HS1]; exact unhide SUM, unhide VI, unhide VL⟩, by simp [intOf]; omega⟩
                · have SUM := hide (sums_put so_law (unhide HSUM) (k' := yk) (a := ya) (v := yn) (unhide HOK).n)
                  rw [if_neg (fun h => hst (h.2.2.trans (unhide HST).symm))] at SUM
                  have VI := HVI
                  have VL : Hid (V.length ≤ k + 1) := hide (Nat.le_succ_of_le (unhide HVL))
                  have hci : ((putS SO l yk ya yn).2 : Int) = 0 := by omega
                  have hsb : (Sp.startI ya == sa) = false := by rw [← unhide HST]; simpa using hst
                  have hsd : ¬ Sp.startI ya = sa := by rw [← unhide HST]; exact hst
                  subst hke
                  clear hst hc
                  generalize (putS SO l yk ya yn).2 = ec at *
                  go_wp2_with fail
                  refine (unhide CS _).mono ?_
                  rintro e v' ⟨rfl, hw⟩
                  rw [hw]
                  clear hw v'
                  go_wp2_with fail
                  exact ⟨⟨k + 1, va, vc, V, rfl, by omega, rfl, by rw [unhide HS1]; exact (unhide SB1).end_, by rw [unhide HS1]; exact unhide HM, by rw [unhide HS1]; exact unhide SUM, unhide VI, unhide VL⟩, by simp [intOf]; omega⟩
              · have SUM := hide (sums_put so_law (unhide HSUM) (k' := yk) (a := ya) (v := yn) (unhide HOK).n)
                rw [if_neg (fun h => hke h.2.1)] at SUM
                have VI := HVI
                have VL : Hid (V.length ≤ k + 1) := hide (Nat.le_succ_of_le (unhide HVL))
                have hci : ((putS SO l yk ya yn).2 : Int) = 0 := by omega
                have hkb : ¬ (⟨yk.toArray⟩ : ByteArray) = ⟨kk.toArray⟩ := fun h => hke (by simpa using h)
                clear hc
                generalize (putS SO l yk ya yn).2 = ec at *
                go_wp2_with fail
                exact ⟨⟨k + 1, va, vc, V, rfl, by omega, rfl, by rw [unhide HS1]; exact (unhide SB1).end_, by rw [unhide HS1]; exact unhide HM, by rw [unhide HS1]; exact unhide SUM, unhide VI, unhide VL⟩, by simp [intOf]; omega⟩
            · have SUM := hide (sums_put so_law (unhide HSUM) (k' := yk) (a := ya) (v := yn) (unhide HOK).n)
              rw [if_neg (fun h => hc h.1)] at SUM
              have VI := HVI
              have VL : Hid (V.length ≤ k + 1) := hide (Nat.le_succ_of_le (unhide HVL))
              have hci : ¬ ((putS SO l yk ya yn).2 : Int) = 0 := by omega
              have hcb : (((putS SO l yk ya yn).2 : Int) == 0) = false := by simpa using hci
              clear hc
              generalize (putS SO l yk ya yn).2 = ec at *
              go_wp2_with fail
              exact ⟨⟨k + 1, va, vc, V, rfl, by omega, rfl, by rw [unhide HS1]; exact (unhide SB1).end_, by rw [unhide HS1]; exact unhide HM, by rw [unhide HS1]; exact unhide SUM, unhide VI, unhide VL⟩, by simp [intOf]; omega⟩
          · have n0 : ¬ (yd : Int) = 0 := by omega
            by_cases e2 : yd = 2
            · subst e2
              have hact : Hid (actS' l ⟨2, yk, ya, yn, ⟨xk, xs, ⟨g0, g1', g2, g3, g4, g5, g6, g7⟩⟩⟩ = (takeS SO l ya).1) := hide rfl
              rw [unhide hact] at HM HS1
              clear hact
              go_upto_region 14 with fail
              refine ((unhide SBW).all (unhide HMM)).mono ?_
              rintro e v1 ⟨a1, c1, rfl, hp⟩
              have SB1 := hide hp
              have v1c0 : v1.cell? ⟨b, 0, none⟩ = some (.int .u8 2) := hp.rb.cell 0 (by simp)
              have v1c1 : v1.cell? ⟨b, 1, none⟩ = some (.string ⟨yk.toArray⟩) := hp.rb.cell 1 (by simp)
              have v1c2 : v1.cell? ⟨b, 2, none⟩ = some (.int .i64 ya) := hp.rb.cell 2 (by simp)
              have v1c3 : v1.cell? ⟨b, 3, none⟩ = some (.int .i64 yn) := hp.rb.cell 3 (by simp)
              clear hp SBW W1c0 W1c1 W1c2 W1c3
              go_upto_region 15 with fail
              refine ((unhide SB1).taken (unhide HMM) ya).mono ?_
              rintro e v2 ⟨a2, c2, rfl, hp⟩
              have SB2 := hide hp
              have HTK := hide (sums_take (unhide HSUM) ya)
              have HLEN := hide (take_len (O := SO) l ya)
              have HOV : Hid (∀ x ∈ (takeS SO l ya).2, Sp.overI x.start ya = true) := hide fun x hx => take_over.1 hx
              have HRE : Hid (∀ x ∈ (takeS SO l ya).1, Sp.overI x.start ya = false) := hide fun x hx => take_over.2 hx
              have HRI := hide (take_good (unhide HSUM).good ya).2.rise
              clear hp SB1 v1c0 v1c1 v1c2 v1c3
              generalize (takeS SO l ya).1 = l2 at *
              generalize (takeS SO l ya).2 = o2 at *
              go_upto_region 16 with fail
              refine ((unhide SB2).all (unhide HM)).mono ?_
              rintro e v3 ⟨a3, c3, rfl, hp⟩
              have SB3 := hide hp
              have v3c2 : v3.cell? ⟨b, 2, none⟩ = some (.int .i64 ya) := hp.rb.cell 2 (by simp)
              have hlen : ((o2.length : Int) + (l2.length : Int)) = (l.length : Int) := by have := unhide HLEN; omega
              have hmo := (unhide HMM).most
              have hw1 : IntKind.i64.wrap ((o2.length : Int) + (l2.length : Int)) = (l.length : Int) := by rw [hlen]; exact Go.IntWalk.i64_in _ (by omega)
              have ho32 : o2.length ≤ 32 := by omega
              have hl32 : l2.length ≤ 32 := by omega
              clear hp SB2 hlen
              go_wp2_with fail
              obtain ⟨wo, hwo⟩ : ∃ wo : World, wo = wr := ⟨_, rfl⟩
              go_loopw [9, 15] (fun vs i wr => ∃ (n : Nat) (va : Option Addr) (vc : Nat) (U : List Int), i = .int .i64 (n : Int) ∧ n ≤ o2.length ∧ vs = .slice va U.length vc ∧ SB w wr p0 b [.int .u8 2, .string ⟨yk.toArray⟩, .int .i64 ya, .int .i64 yn, .string ⟨xk.toArray⟩, .int .i64 xs, .int .i64 g0, .int .i64 g1', .int .i64 g2, .int .i64 g3, .int .i64 g4, .int .i64 g5, .int .i64 g6, .int .i64 g7] l2 [(a3, c3, l2), (a2, c2, o2), (a1, c1, l)] va vc U ∧ Hid ((U = V ∧ ∀ j x, j < n → o2[j]? = some x → ¬ at_ kk sa x) ∨ (U = [] ∧ ∃ j x, j < n ∧ o2[j]? = some x ∧ at_ kk sa x))) (fun _ i _ => o2.length - (intOf i).toNat)
              case atStart => exact ⟨0, va, vc, V, rfl, Nat.zero_le _, rfl, unhide SB3, hide (.inl ⟨rfl, fun j x hj => absurd hj (Nat.not_lt_zero _)⟩)⟩
              case round =>
                obtain ⟨n, ua, uc, U, rfl, hn, rfl, hs, HU⟩ := hrel
                have SBU := hide hs
                clear hs SB3 v3c2
                by_cases hnl : n < o2.length
                · have g1 : (n : Int) < (o2.length : Int) := by omega
                  have hn0 : (0 : Int) ≤ (n : Int) := by omega
                  have hwn : IntKind.i64.wrap ((n : Int) + 1) = (n : Int) + 1 := Go.IntWalk.i64_in _ (by omega)
                  obtain ⟨x, hx⟩ : ∃ x, o2[n]? = some x := ⟨_, List.getElem?_eq_getElem hnl⟩
                  have hxm : x ∈ o2 := List.mem_of_getElem? hx
                  have HX := hide hx
                  have HOX := hide (unhide HOV x hxm)
                  have HTX := hide ((unhide HTK).2.1 x hxm)
                  have RXX : Hid (∀ (u : World) ua uc U, SB w u p0 b [.int .u8 2, .string ⟨yk.toArray⟩, .int .i64 ya, .int .i64 yn, .string ⟨xk.toArray⟩, .int .i64 xs, .int .i64 g0, .int .i64 g1', .int .i64 g2, .int .i64 g3, .int .i64 g4, .int .i64 g5, .int .i64 g6, .int .i64 g7] l2 [(a3, c3, l2), (a2, c2, o2), (a1, c1, l)] ua uc U → ∃ g, a2 = some ⟨g, 0, none⟩ ∧ u.rangeAt g (n * 10) (outV x)) := hide fun u ua uc U hu => by
                    obtain ⟨g, hg, hr, _⟩ := held_at (hu.row (r := (a2, c2, o2)) (List.mem_cons_of_mem _ List.mem_cons_self)) hx
                    exact ⟨g, hg, hr⟩
                  obtain ⟨gx, rfl, _⟩ := unhide RXX wr ua uc U (unhide SBU)
                  have RX : Hid (∀ (u : World) ua uc U, SB w u p0 b [.int .u8 2, .string ⟨yk.toArray⟩, .int .i64 ya, .int .i64 yn, .string ⟨xk.toArray⟩, .int .i64 xs, .int .i64 g0, .int .i64 g1', .int .i64 g2, .int .i64 g3, .int .i64 g4, .int .i64 g5, .int .i64 g6, .int .i64 g7] l2 [(a3, c3, l2), (some ⟨gx, 0, none⟩, c2, o2), (a1, c1, l)] ua uc U → u.rangeAt gx (n * 10) (outV x)) := hide fun u ua uc U hu => by
                    obtain ⟨g', hg, hr⟩ := unhide RXX u ua uc U hu
                    cases hg; exact hr
                  clear hx hxm RXX
                  obtain ⟨zk, zs, za⟩ := x
                  dsimp only at HOX HTX
                  obtain ⟨CL, hCL⟩ : ∃ CL : World → Prop, CL = fun v => SB w v p0 b [.int .u8 2, .string ⟨yk.toArray⟩, .int .i64 ya, .int .i64 yn, .string ⟨xk.toArray⟩, .int .i64 xs, .int .i64 g0, .int .i64 g1', .int .i64 g2, .int .i64 g3, .int .i64 g4, .int .i64 g5, .int .i64 g6, .int .i64 g7] l2 [(a3, c3, l2), (some ⟨gx, 0, none⟩, c2, o2), (a1, c1, l)] ua uc U := ⟨_, rfl⟩
                  have un : ∀ v, CL v → SB w v p0 b [.int .u8 2, .string ⟨yk.toArray⟩, .int .i64 ya, .int .i64 yn, .string ⟨xk.toArray⟩, .int .i64 xs, .int .i64 g0, .int .i64 g1', .int .i64 g2, .int .i64 g3, .int .i64 g4, .int .i64 g5, .int .i64 g6, .int .i64 g7] l2 [(a3, c3, l2), (some ⟨gx, 0, none⟩, c2, o2), (a1, c1, l)] ua uc U := fun v k => by rw [hCL] at k; exact k
                  have TO : Hid (∀ v, SB w v p0 b [.int .u8 2, .string ⟨yk.toArray⟩, .int .i64 ya, .int .i64 yn, .string ⟨xk.toArray⟩, .int .i64 xs, .int .i64 g0, .int .i64 g1', .int .i64 g2, .int .i64 g3, .int .i64 g4, .int .i64 g5, .int .i64 g6, .int .i64 g7] l2 [(a3, c3, l2), (some ⟨gx, 0, none⟩, c2, o2), (a1, c1, l)] ua uc U → CL v) := hide fun v k => by rw [hCL]; exact k
                  have UN := hide un
                  have base : CL wr.drew := unhide TO _ ((unhide SBU).below (Below.refl _ _).drew)
                  have q1 : ∀ q : SW CL, q.w.cell? ⟨gx, n * 10 + 1, none⟩ = some (.int .i64 zs) := fun q => unhide RX _ _ _ _ (un _ q.ok) 1 _ rfl
                  have q2 : ∀ q : SW CL, q.w.cell? ⟨b, 2, none⟩ = some (.int .i64 ya) := fun q => (un _ q.ok).rb.cell 2 (by simp)
                  have CO := hide (fun u => Sp.over_any zs ya u)
                  rw [unhide HOX] at CO
                  clear hCL un
                  go_upto_region 21 with fail
                  refine wp_region_chain (S := CL) [true, true, true, true, true, true, true, true, true] [false, false, false, false, false, false, false, false, false] (by kernel_rfl) (by kernel_rfl) (by kernel_rfl) base ?_
                  apply Exists.intro
                  apply And.intro
                  · intro q
                    have n0 : Nonempty (SK CL q.w) := ⟨⟨q, rfl⟩⟩
                    simp only [pickM]
                    repeat (go_big_quiet_step (first | (go_at_call 27; exact (unhide CO _).mono fun e w' ⟨he, hw⟩ => ⟨he, _, hw⟩)))
                    exact wpQuiet_nil rfl
                  · simp only [pickZ]
                    simp only [chainM]
                    clear q1 q2 CO
                    go_simp
                    obtain ⟨wd, hwd⟩ : ∃ wd, wd = wr.drew := ⟨_, rfl⟩
                    rw [← hwd] at base ⊢
                    have SBD := hide (unhide UN _ base)
                    have e0 : wd.cell? ⟨gx, n * 10, none⟩ = some (.string ⟨zk.toArray⟩) := unhide RX _ _ _ _ (unhide SBD) 0 _ rfl
                    have e1 : wd.cell? ⟨gx, n * 10 + 1, none⟩ = some (.int .i64 zs) := unhide RX _ _ _ _ (unhide SBD) 1 _ rfl
                    clear base hwd
                    by_cases hke : zk = kk
                    · by_cases hst : zs = sa
                      · have hUV : U = V := by
                          rcases unhide HU with ⟨h, _⟩ | ⟨_, j, x', hj, hx', hat⟩
                          · exact h
                          · exfalso
                            have hr := unhide HRI
                            have hj2 : o2[j]? = some x' := hx'
                            obtain ⟨hjl, ej⟩ := List.getElem?_eq_some_iff.1 hj2
                            obtain ⟨hnl', en⟩ := List.getElem?_eq_some_iff.1 (unhide HX)
                            have := List.pairwise_iff_getElem.1 hr j n hjl hnl' hj
                            rw [ej, en] at this
                            exact ahead_not this ⟨hat.1.trans hke.symm, hat.2.trans hst.symm⟩
                        subst hUV
                        have hza := ((unhide HTX) ⟨hke, hst⟩).1
                        subst hke
                        subst hst
                        have COF := hide (of_any ua uc U wd (unhide SBD).ints (unhide HVI) (by have := unhide HVL; have := unhide hl200; unfold maxLen; omega))
                        rw [show of U = ofV SO U from rfl, ← hza] at COF
                        have NX : Hid ((([] : List Int) = U ∧ ∀ j x, j < n + 1 → o2[j]? = some x → ¬ at_ zk zs x) ∨ (([] : List Int) = [] ∧ ∃ j x, j < n + 1 ∧ o2[j]? = some x ∧ at_ zk zs x)) := hide (.inr ⟨rfl, n, _, Nat.lt_succ_self n, unhide HX, rfl, rfl⟩)
                        clear hza
                        go_upto_region 24 with fail
                        clear e0 e1
                        have basd : CL wd.drew := unhide TO _ ((unhide SBD).below (Below.refl _ _).drew)
                        have RA : Hid (∀ v, (∃ q : SW CL, v = q.w) → v.rangeAt gx (n * 10 + 2) (cellsA za)) := hide (by
                          rintro v ⟨q, rfl⟩ i u hu
                          have := unhide RX _ _ _ _ (unhide UN _ q.ok) (2 + i) u (by rw [← hu, Nat.add_comm 2 i]; rfl)
                          rw [show n * 10 + 2 + i = n * 10 + (2 + i) by omega]; exact this)
                        have COD := hide (of_any ua uc U wd.drew (unhide UN _ basd).ints (unhide HVI) (by have := unhide HVL; have := unhide hl200; unfold maxLen; omega))
                        rw [show of U = ofV SO U from rfl] at COD
                        have HZA : Hid (ofV SO U = za) := hide ((unhide HTX) ⟨rfl, rfl⟩).1.symm
                        rw [unhide HZA] at COD
                        refine wp_region_chain (S := CL) [true, true, true, true, true, true, false, false] [false, false, false, false, false, false, true, true] (by kernel_rfl) (by kernel_rfl) (by kernel_rfl) basd ?_
                        apply Exists.intro
                        apply And.intro
                        · intro q
                          have n0 : Nonempty (SK CL q.w) := ⟨⟨q, rfl⟩⟩
                          simp only [pickM]
                          repeat (go_big_quiet_step (fail))
                          refine wpQuiet_load_aggx rfl 32 (.tmp 125) rfl gx (n * 10 + 2) rfl za _ (fun v ⟨q1, hq⟩ => by rw [hq]; exact unhide RA _ ⟨q1.s, rfl⟩) Try.underlying32 rfl (by kernel_rfl) ?_
                          go_simp
                          repeat (go_big_quiet_step (fail))
                          exact wpQuiet_nil rfl
                        · simp only [pickZ]
                          refine chain_call 28 #[.slice ua U.length uc] rfl (by simp [go_sem]) ?_
                          refine (unhide COD).mono ?_
                          rintro e v5 ⟨rfl, hb⟩
                          have C5 := hide (unhide TO _ ((unhide UN _ basd).below hb))
                          have S5 := hide ((unhide UN _ basd).below hb)
                          refine ⟨_, rfl, unhide C5, ?_⟩
                          clear hb COD basd
                          go_simp
                          refine chain_step (.bool false) v5 rfl (by simp [go_sem]) (unhide C5) ?_
                          simp only [chainM]
                          go_simp
                          go_wp2_with fail
                          exact ⟨⟨n + 1, none, 0, [], rfl, by omega, rfl, (unhide S5).none_, NX⟩, by simp [intOf]; omega⟩
                      · have hsb : (zs == sa) = false := by simpa using hst
                        have NX : Hid ((U = V ∧ ∀ j x, j < n + 1 → o2[j]? = some x → ¬ at_ kk sa x) ∨ (U = [] ∧ ∃ j x, j < n + 1 ∧ o2[j]? = some x ∧ at_ kk sa x)) := hide (next_miss (unhide HX) (fun h => hst h.2) (unhide HU))
                        subst hke
                        go_wp2_with fail
                        exact ⟨⟨n + 1, ua, uc, U, rfl, by omega, rfl, unhide SBD, NX⟩, by simp [intOf]; omega⟩
                    · have hkb : ¬ (⟨zk.toArray⟩ : ByteArray) = ⟨kk.toArray⟩ := fun h => hke (by simpa using h)
                      have NX : Hid ((U = V ∧ ∀ j x, j < n + 1 → o2[j]? = some x → ¬ at_ kk sa x) ∨ (U = [] ∧ ∃ j x, j < n + 1 ∧ o2[j]? = some x ∧ at_ kk sa x)) := hide (next_miss (unhide HX) (fun h => hke h.1) (unhide HU))
                      go_wp2_with fail
                      exact ⟨⟨n + 1, ua, uc, U, rfl, by omega, rfl, unhide SBD, NX⟩, by simp [intOf]; omega⟩
                · have g1 : ¬ (n : Int) < (o2.length : Int) := by omega
                  have hU : U = if SO.over sa ya = true then [] else V := by
                    rcases unhide HU with ⟨h, hno⟩ | ⟨h, j, x, _, hx, hat⟩
                    · rw [h]
                      exact ((unhide HTK).2.2 (fun a ha hk => by
                        obtain ⟨j, hj, rfl⟩ := List.mem_iff_getElem.1 ha
                        exact hno j _ (by omega) (List.getElem?_eq_getElem hj) hk)).symm
                    · rw [h, if_pos ((unhide HTK).2.1 x (List.mem_of_getElem? hx) hat).2]
                  have SUM : Hid (Sums SO kk sa l2 U) := hide (by rw [hU]; exact (unhide HTK).1)
                  have VI : Hid (∀ v ∈ U, i64 v) := hide (by
                    rcases unhide HU with ⟨h, _⟩ | ⟨h, _⟩
                    · rw [h]; exact unhide HVI
                    · rw [h]; intro v hv; cases hv)
                  have VL : Hid (U.length ≤ k + 1) := hide (by
                    rcases unhide HU with ⟨h, _⟩ | ⟨h, _⟩
                    · rw [h]; exact Nat.le_succ_of_le (unhide HVL)
                    · rw [h]; exact Nat.zero_le _)
                  clear hU HU
                  go_wp2_with fail
                  go_loopw [16] (fun i wr => ∃ n : Nat, i = .int .i64 (n : Int) ∧ n ≤ l2.length ∧ SB w wr p0 b [.int .u8 2, .string ⟨yk.toArray⟩, .int .i64 ya, .int .i64 yn, .string ⟨xk.toArray⟩, .int .i64 xs, .int .i64 g0, .int .i64 g1', .int .i64 g2, .int .i64 g3, .int .i64 g4, .int .i64 g5, .int .i64 g6, .int .i64 g7] l2 [(a3, c3, l2), (a2, c2, o2), (a1, c1, l)] ua uc U) (fun i _ => l2.length - (intOf i).toNat)
                  case atStart => exact ⟨0, rfl, Nat.zero_le _, unhide SBU⟩
                  case round =>
                    obtain ⟨m, rfl, hm, hs⟩ := hrel
                    clear SBU
                    have SBU := hide hs
                    clear hs
                    by_cases hml2 : m < l2.length
                    · have gm2 : (m : Int) < (l2.length : Int) := by omega
                      have hm0 : (0 : Int) ≤ (m : Int) := by omega
                      have hwm : IntKind.i64.wrap ((m : Int) + 1) = (m : Int) + 1 := Go.IntWalk.i64_in _ (by omega)
                      obtain ⟨x, hx⟩ : ∃ x, l2[m]? = some x := ⟨_, List.getElem?_eq_getElem hml2⟩
                      have CO := hide (fun u => Sp.over_any x.start ya u)
                      rw [unhide HRE x (List.mem_of_getElem? hx)] at CO
                      have RXX : Hid (∀ u : World, SB w u p0 b [.int .u8 2, .string ⟨yk.toArray⟩, .int .i64 ya, .int .i64 yn, .string ⟨xk.toArray⟩, .int .i64 xs, .int .i64 g0, .int .i64 g1', .int .i64 g2, .int .i64 g3, .int .i64 g4, .int .i64 g5, .int .i64 g6, .int .i64 g7] l2 [(a3, c3, l2), (a2, c2, o2), (a1, c1, l)] ua uc U → ∃ g, a3 = some ⟨g, 0, none⟩ ∧ u.rangeAt g (m * 10) (outV x)) := hide fun u hu => by
                        obtain ⟨g, hg, hr, _⟩ := held_at (hu.row (r := (a3, c3, l2)) List.mem_cons_self) hx
                        exact ⟨g, hg, hr⟩
                      obtain ⟨gx, rfl, _⟩ := unhide RXX wr (unhide SBU)
                      have RX : Hid (∀ u : World, SB w u p0 b [.int .u8 2, .string ⟨yk.toArray⟩, .int .i64 ya, .int .i64 yn, .string ⟨xk.toArray⟩, .int .i64 xs, .int .i64 g0, .int .i64 g1', .int .i64 g2, .int .i64 g3, .int .i64 g4, .int .i64 g5, .int .i64 g6, .int .i64 g7] l2 [(some ⟨gx, 0, none⟩, c3, l2), (a2, c2, o2), (a1, c1, l)] ua uc U → u.rangeAt gx (m * 10) (outV x)) := hide fun u hu => by
                        obtain ⟨g', hg, hr⟩ := unhide RXX u hu
                        cases hg; exact hr
                      clear hx RXX
                      obtain ⟨zk, zs, za⟩ := x
                      dsimp only at CO
                      obtain ⟨CL, hCL⟩ : ∃ CL : World → Prop, CL = fun v => SB w v p0 b [.int .u8 2, .string ⟨yk.toArray⟩, .int .i64 ya, .int .i64 yn, .string ⟨xk.toArray⟩, .int .i64 xs, .int .i64 g0, .int .i64 g1', .int .i64 g2, .int .i64 g3, .int .i64 g4, .int .i64 g5, .int .i64 g6, .int .i64 g7] l2 [(some ⟨gx, 0, none⟩, c3, l2), (a2, c2, o2), (a1, c1, l)] ua uc U := ⟨_, rfl⟩
                      have un : ∀ v, CL v → SB w v p0 b [.int .u8 2, .string ⟨yk.toArray⟩, .int .i64 ya, .int .i64 yn, .string ⟨xk.toArray⟩, .int .i64 xs, .int .i64 g0, .int .i64 g1', .int .i64 g2, .int .i64 g3, .int .i64 g4, .int .i64 g5, .int .i64 g6, .int .i64 g7] l2 [(some ⟨gx, 0, none⟩, c3, l2), (a2, c2, o2), (a1, c1, l)] ua uc U := fun v k => by rw [hCL] at k; exact k
                      have base : CL wr.drew := by rw [hCL]; exact (unhide SBU).below (Below.refl _ _).drew
                      have q1 : ∀ q : SW CL, q.w.cell? ⟨gx, m * 10 + 1, none⟩ = some (.int .i64 zs) := fun q => unhide RX _ (un _ q.ok) 1 _ rfl
                      have q2 : ∀ q : SW CL, q.w.cell? ⟨b, 2, none⟩ = some (.int .i64 ya) := fun q => (un _ q.ok).rb.cell 2 (by simp)
                      have SBD := hide (un _ base)
                      clear hCL un
                      go_upto_region 30 with fail
                      refine wp_region_chain (S := CL) [true, true, true, true, true, true, true, true] [false, false, false, false, false, false, false, false] (by kernel_rfl) (by kernel_rfl) (by kernel_rfl) base ?_
                      apply Exists.intro
                      apply And.intro
                      · intro q
                        have n0 : Nonempty (SK CL q.w) := ⟨⟨q, rfl⟩⟩
                        simp only [pickM]
                        repeat (go_big_quiet_step (first | (go_at_call 27; exact (unhide CO _).mono fun e w' ⟨he, hw⟩ => ⟨he, _, hw⟩)))
                        exact wpQuiet_nil rfl
                      · simp only [pickZ]
                        simp only [chainM]
                        clear q1 q2 CO base
                        go_simp
                        go_wp2_with fail
                        exact ⟨⟨m + 1, rfl, by omega, unhide SBD⟩, by simp [intOf]; omega⟩
                    · have gm2 : ¬ (m : Int) < (l2.length : Int) := by omega
                      go_wp2_with fail
                      exact ⟨⟨k + 1, ua, uc, U, rfl, by omega, rfl, by rw [unhide HS1]; exact (unhide SBU).end_, by rw [unhide HS1]; exact unhide HM, by rw [unhide HS1]; exact unhide SUM, unhide VI, unhide VL⟩, by simp [intOf]; omega⟩
            · have n2 : ¬ (yd : Int) = 2 := by omega
              have hact : Hid (actS' l ⟨yd, yk, ya, yn, ⟨xk, xs, ⟨g0, g1', g2, g3, g4, g5, g6, g7⟩⟩⟩ = l) := hide (by unfold actS'; rw [if_neg e0, if_neg e2])
              rw [unhide hact] at HM HS1
              have SUM := HSUM
              have VI := HVI
              have VL : Hid (V.length ≤ k + 1) := hide (Nat.le_succ_of_le (unhide HVL))
              clear hact
              go_wp2_with fail
              exact ⟨⟨k + 1, va, vc, V, rfl, by omega, rfl, by rw [unhide HS1]; exact (unhide SBW).end_, by rw [unhide HS1]; exact unhide HM, by rw [unhide HS1]; exact unhide SUM, unhide VI, unhide VL⟩, by simp [intOf]; omega⟩
        · have g1 : ¬ (k : Int) < (len : Int) := by omega
          have hke : k = len := by omega
          subst hke
          generalize l0 (z.take k) = l at *
          have HG0 := sums_get (unhide HSUM)
          obtain ⟨hg1, hg2⟩ := HG0
          have CG := hide ((unhide HSI).get (key := kk) (s := sa) (unhide OKK))
          rw [show (look l kk sa).getD zero = ofV SO V from hg1] at CG
          obtain ⟨op, hop⟩ : ∃ op, op = (look l kk sa).isSome := ⟨_, rfl⟩
          rw [← hop] at CG
          have hopv : op = decide (0 < (V.length : Int)) := by
            rw [hop]
            by_cases hV : V = []
            · subst hV
              have : ¬ (look l kk sa).isSome = true := fun h => (hg2.1 h) rfl
              simpa using this
            · have h2 := hg2.2 hV
              rw [h2]
              have : 0 < V.length := List.length_pos_iff.2 hV
              exact (decide_eq_true (by omega)).symm
          subst hopv
          clear hg1 hg2 hop
          generalize hY : ofV SO V = y at *
          have HY := hide hY
          clear hY
          go_upto_region 33 with fail
          refine (unhide CG).mono ?_
          rintro e v1 ⟨rfl, hb⟩
          obtain ⟨v2, hu, hr2, hmf, hth⟩ := keep_row v1 32 [.int .i64 0, .int .i64 0, .int .i64 0, .int .i64 0, .int .i64 0, .int .i64 0, .int .i64 0, .int .i64 0] (cellsA y) rfl
          have hm0 := hmf.below (fun _ f => f.elim) (Nat.le_refl _)
          have SI2 := hide (((unhide HSI).below hb).below hm0)
          have R2 := hide hr2
          have U2 := hide hu
          have T2 := hide hth
          clear hb hu hr2 hmf hth hm0 CG HSI
          go_upto_region 33 with (refine wpList_store_mid rfl 32 (.tmp 17) (.tmp 149) rfl v1.heap.size 0 (cellsA y).toArray rfl rfl (unhide T2) (by kernel_rfl) (by simp [Value.oneCell', cellsA, I]) ?_; change wpList _ _ _ _ _ (World.setCells _ v1.heap.size 0 (cellsA y)); rw [unhide U2])
          clear U2 T2
          generalize v1.heap.size = hb5 at *
          obtain ⟨CL, hCL⟩ : ∃ CL : World → Prop, CL = fun v => SI w v p0 l va vc V ∧ RowAt v hb5 (cellsA y) := ⟨_, rfl⟩
          have un : ∀ v, CL v → SI w v p0 l va vc V ∧ RowAt v hb5 (cellsA y) := fun v k => by rw [hCL] at k; exact k
          have LOW : Hid (∀ v v', CL v → Below v.heap.size v v' → CL v') := hide fun v v' k hb => by rw [hCL] at k ⊢; exact ⟨k.1.below hb, k.2.below hb⟩
          have base : CL v2.drew := by rw [hCL]; exact ⟨(unhide SI2).below (Below.refl _ _).drew, (unhide R2).below (Below.refl _ _).drew⟩
          have RY : Hid (∀ v, (∃ q : SW CL, v = q.w) → v.rangeAt hb5 0 (cellsA y)) := hide (by rintro v ⟨q, rfl⟩; exact (un _ q.ok).2.range)
          have COD := hide (of_any va vc V v2.drew (un _ base).1.ints (unhide HVI) (by have := unhide HVL; have := unhide hl200; unfold maxLen; omega))
          rw [show of V = ofV SO V from rfl, unhide HY] at COD
          have UN := hide un
          clear hCL un SI2 R2
          refine wp_region_seq (S := CL) [true, true, false, false, false, false, false, false, false, false, false, false, false, false, false] [false, false, true, false, false, false, false, false, false, false, false, false, false, false, false] [false, false, false, true, true, true, true, true, true, true, true, true, false, false, false] [false, false, false, false, false, false, false, false, false, false, false, false, true, true, true] (by kernel_rfl) (by kernel_rfl) (by kernel_rfl) base ?_
          apply Exists.intro
          apply And.intro
          · intro q
            have n0 : Nonempty (SK CL q.w) := ⟨⟨q, rfl⟩⟩
            simp only [pickM]
            repeat (go_big_quiet_step (fail))
            refine wpQuiet_load_aggx rfl 32 (.tmp 17) rfl hb5 0 rfl y _ (fun v ⟨q1, hq⟩ => by rw [hq]; exact unhide RY _ ⟨q1.s, rfl⟩) Try.underlying32 rfl (by kernel_rfl) ?_
            go_simp
            repeat (go_big_quiet_step (fail))
            exact wpQuiet_nil rfl
          · simp only [pickZ]
            refine chain_call 28 #[.slice va V.length vc] rfl (by simp [go_sem]) ?_
            refine (unhide COD).mono ?_
            rintro e v5 ⟨rfl, hb⟩
            have C5 := hide (unhide LOW _ _ base hb)
            refine ⟨_, rfl, unhide C5, ?_⟩
            clear hb COD base
            refine chain_nil ?_
            go_simp
            refine ⟨unhide C5, by kernel_rfl, ?_⟩
            apply Exists.intro
            apply And.intro
            · intro q
              have n0 : Nonempty (SK CL q.w) := ⟨⟨q, rfl⟩⟩
              simp only [pickM]
              repeat (go_big_quiet_step (fail))
              exact wpQuiet_nil rfl
            · try simp only [pickZ]
              refine chain_call_on 10 #[] rfl (by simp [go_sem]) ?_
              refine (unhide WK _).mono ?_
              rintro e v6 ⟨rfl, hb⟩
              have C6 := hide (unhide LOW _ _ (unhide C5) hb)
              refine ⟨_, rfl, unhide C6, ?_⟩
              clear hb
              go_simp
              refine chain_step_on (.bool true) v6 rfl (by simp [go_sem]) (unhide C6) ?_
              go_simp
              refine chain_step_on (.bool true) v6 rfl (by simp [go_sem]) (unhide C6) ?_
              simp only [chainM]
              go_simp
              go_wp2_with fail
              go_ret
              exact ⟨rfl, (unhide UN _ (unhide C6)).1.bel⟩
end Go.Proofs.Ytoccgggiaalhdaa

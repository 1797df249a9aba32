/- Two states held against each other, and a state made of what one has. Conditions: a state has at most 32 windows, whose numbers are 64 bits wide. -/
import Derived.Test.YtigmhljaoicdbaaGreatShObj
namespace Go.Proofs.YtigmhljaoicdbaaGreat
open Go.RowKit

section
variable {w0 v v' : World} {R : List Sn.Held}
theorem eqOut_hr (h : Sn.HR w0 v R) {a b : Option Addr} {c d : Nat} {l m : List (Win AggV)} (hl : hOuts a c l ∈ R) (hm : hOuts b d m ∈ R) (hs : l.length ≤ 1000) :
    Calls Tryz.prog 48 #[.slice a l.length c, .slice b m.length d] v fun e v' => e = .returned (.bool (decide (l = m))) ∧ Sn.HR w0 v' R :=
  (eqOut_any (Sn.HR.row h hl) (Sn.HR.row h hm) hs).mono fun _ _ ⟨h1, h2⟩ => ⟨h1, h.below (below_of_none h2)⟩
theorem eqInt_hr (h : Sn.HR w0 v R) {a b : Option Addr} {c d : Nat} {l m : List Int} (hl : Sn.hRow Sn.IntK a c l ∈ R) (hm : Sn.hRow Sn.IntK b d m ∈ R) (hs : l.length ≤ 1000) :
    Calls Tryz.prog 49 #[.slice a l.length c, .slice b m.length d] v fun e v' => e = .returned (.bool (decide (l = m))) ∧ Sn.HR w0 v' R :=
  (eqInt_any (Sn.HR.row h hl) (Sn.HR.row h hm) hs).mono fun _ _ ⟨h1, h2⟩ => ⟨h1, h.below (below_of_none h2)⟩
theorem eqEnt_hr (h : Sn.HR w0 v R) {a b : Option Addr} {c d : Nat} {l m : List Sn.Ent} (hl : Sn.hRow Sn.EntK a c l ∈ R) (hm : Sn.hRow Sn.EntK b d m ∈ R) (hs : l.length ≤ 1000) :
    Calls Tryz.prog 50 #[.slice a l.length c, .slice b m.length d] v fun e v' => e = .returned (.bool (decide (l = m))) ∧ Sn.HR w0 v' R :=
  (eqEnt_any (Sn.HR.row h hl) (Sn.HR.row h hm) hs).mono fun _ _ ⟨h1, h2⟩ => ⟨h1, h.below (below_of_none h2)⟩
end
theorem eq_nil_ptr {tp te : TypeId} (hp : Tryz.prog.underlying tp = some (.pointer te)) (a : Addr) (w : World) : (binOp .eql tp (.pointer none) (.pointer (some a))).run Tryz.prog w = .ok (.bool false) w := by
  have h : ∀ d : Nat, (Op.equalIn (d + 1) tp (.pointer none) (.pointer (some a))).run Tryz.prog w = .ok false w := fun d => by
    simp [Op.equalIn, run_underlying hp]
  simp only [binOp]
  simp [Op.equal, Op.maxDepth, h 9999]
set_option maxRecDepth 100000 in
theorem same_nil2 (w : World) : Calls Tryz.prog 24 #[.pointer none, .pointer none] w fun e w' => e = .returned (.bool true) ∧ w' = w := by
  go_enter Tryz.func24, Tryz.ntmps24
  go_wp2
  go_ret
  exact ⟨rfl, rfl⟩
set_option maxRecDepth 100000 in
theorem same_nil1 (p : Nat) (w : World) : Calls Tryz.prog 24 #[.pointer none, .pointer (some ⟨p, 0, none⟩)] w fun e w' => e = .returned (.bool false) ∧ w' = w := by
  have E := fun a w => eq_nil_ptr Tryz.underlying25 a w
  go_enter Tryz.func24, Tryz.ntmps24
  go_wp2_with fail
  go_ret
  exact ⟨rfl, rfl⟩
set_option maxRecDepth 100000 in
set_option maxHeartbeats 2000000 in
theorem hs_same {w0 v : World} {p q : Nat} {F G : Nat → Prop} {S T : StV} {R : List Sn.Held} (h : Sn.HR w0 v R) (ms : hState p F S ∈ R) (mt : hState q G T ∈ R) (gs : GoodS S) (gt : GoodS T) :
    Calls Tryz.prog 24 #[.pointer (some ⟨p, 0, none⟩), .pointer (some ⟨q, 0, none⟩)] v fun e v' => e = .returned (.bool (sameS S T)) ∧ Sn.HR w0 v' R := by
  have H := hide h
  have MS := hide ms
  have MT := hide mt
  have GS := hide gs
  have GT := hide gt
  have K1 := hide (hs_mark h ms)
  have K2 := hide (hs_mark h mt)
  have Lo : Hid (S.line.row.length ≤ 1000) := hide (Nat.le_trans gs.mild.most (by omega))
  have Ll : Hid ((Sn.lows S.tab).length ≤ 1000) := hide (by rw [Sn.lows_length]; omega)
  have Ls : Hid ((Sn.all S.tab).length ≤ 1000) := hide (Nat.le_trans (Sn.all_length gs.tab) (by omega))
  have S0 : sameS S T = decide (S.line.mark = T.line.mark ∧ S.line.row = T.line.row ∧ Sn.lows S.tab = Sn.lows T.tab ∧ Sn.all S.tab = Sn.all T.tab) := rfl
  clear h ms mt gs gt
  by_cases e1 : S.line.mark = T.line.mark
  · have d1 : decide (S.line.mark = T.line.mark) = true := decide_eq_true e1
    have b1 : (S.line.mark == T.line.mark) = true := by rw [e1]; exact beq_self_eq_true _
    by_cases e2 : S.line.row = T.line.row
    · have Eo : Hid (decide (S.line.row = T.line.row) = true) := hide (decide_eq_true e2)
      by_cases e3 : Sn.lows S.tab = Sn.lows T.tab
      · have El : Hid (decide (Sn.lows S.tab = Sn.lows T.tab) = true) := hide (decide_eq_true e3)
        by_cases e4 : Sn.all S.tab = Sn.all T.tab
        · have Es : Hid (decide (Sn.all S.tab = Sn.all T.tab) = true) := hide (decide_eq_true e4)
          have SM : Hid (sameS S T = true) := hide (S0.trans (decide_eq_true ⟨e1, e2, e3, e4⟩))
          clear S0 e1 e2 e3 e4
          go_enter Tryz.func24, Tryz.ntmps24
          go_wp2_with fail
          refine (unhide K1).mono ?_
          rintro e w' ⟨rfl, hw⟩
          rw [hw]
          clear hw w' K1
          go_wp2_with fail
          refine (unhide K2).mono ?_
          rintro e w' ⟨rfl, hw⟩
          rw [hw]
          clear hw w' K2
          go_wp2_with fail
          refine (hs_open (unhide H) (unhide MS) (unhide GS)).mono ?_
          rintro e v1 ⟨a1, c1, rfl, h1⟩
          have Ho1 := hide h1
          clear h1 H
          go_wp2_with fail
          refine (hs_open (unhide Ho1) (List.mem_cons_of_mem _ (unhide MT)) (unhide GT)).mono ?_
          rintro e v2 ⟨a2, c2, rfl, h2⟩
          have Ho2 := hide h2
          clear h2 Ho1
          go_wp2_with fail
          refine (eqOut_hr (l := S.line.row) (m := T.line.row) (unhide Ho2) (List.mem_cons_of_mem _ List.mem_cons_self) List.mem_cons_self (unhide Lo)).mono ?_
          rintro e v3 ⟨rfl, h3⟩
          have Ho3 := hide ((h3.drop1).drop1)
          rw [unhide Eo]
          clear h3 Ho2
          go_wp2_with fail
          refine (hs_lows (unhide Ho3) (unhide MS)).mono ?_
          rintro e v1 ⟨a1, c1, rfl, h1⟩
          have Hl1 := hide h1
          clear h1 Ho3
          go_wp2_with fail
          refine (hs_lows (unhide Hl1) (List.mem_cons_of_mem _ (unhide MT))).mono ?_
          rintro e v2 ⟨a2, c2, rfl, h2⟩
          have Hl2 := hide h2
          clear h2 Hl1
          go_wp2_with fail
          refine (eqInt_hr (l := Sn.lows S.tab) (m := Sn.lows T.tab) (unhide Hl2) (List.mem_cons_of_mem _ List.mem_cons_self) List.mem_cons_self (unhide Ll)).mono ?_
          rintro e v3 ⟨rfl, h3⟩
          have Hl3 := hide ((h3.drop1).drop1)
          rw [unhide El]
          clear h3 Hl2
          go_wp2_with fail
          refine (hs_ans (unhide Hl3) (unhide MS) (unhide GS)).mono ?_
          rintro e v1 ⟨a1, c1, rfl, h1⟩
          have Hs1 := hide h1
          clear h1 Hl3
          go_wp2_with fail
          refine (hs_ans (unhide Hs1) (List.mem_cons_of_mem _ (unhide MT)) (unhide GT)).mono ?_
          rintro e v2 ⟨a2, c2, rfl, h2⟩
          have Hs2 := hide h2
          clear h2 Hs1
          go_wp2_with fail
          refine (eqEnt_hr (l := Sn.all S.tab) (m := Sn.all T.tab) (unhide Hs2) (List.mem_cons_of_mem _ List.mem_cons_self) List.mem_cons_self (unhide Ls)).mono ?_
          rintro e v3 ⟨rfl, h3⟩
          have Hs3 := hide ((h3.drop1).drop1)
          rw [unhide Es]
          clear h3 Hs2
          go_wp2_with fail
          go_ret
          exact ⟨by rw [unhide SM]; rfl, unhide Hs3⟩
        · have Es : Hid (decide (Sn.all S.tab = Sn.all T.tab) = false) := hide (decide_eq_false e4)
          have SM : Hid (sameS S T = false) := hide (S0.trans (decide_eq_false fun h => e4 h.2.2.2))
          clear S0 e1 e2 e3 e4
          go_enter Tryz.func24, Tryz.ntmps24
          go_wp2_with fail
          refine (unhide K1).mono ?_
          rintro e w' ⟨rfl, hw⟩
          rw [hw]
          clear hw w' K1
          go_wp2_with fail
          refine (unhide K2).mono ?_
          rintro e w' ⟨rfl, hw⟩
          rw [hw]
          clear hw w' K2
          go_wp2_with fail
          refine (hs_open (unhide H) (unhide MS) (unhide GS)).mono ?_
          rintro e v1 ⟨a1, c1, rfl, h1⟩
          have Ho1 := hide h1
          clear h1 H
          go_wp2_with fail
          refine (hs_open (unhide Ho1) (List.mem_cons_of_mem _ (unhide MT)) (unhide GT)).mono ?_
          rintro e v2 ⟨a2, c2, rfl, h2⟩
          have Ho2 := hide h2
          clear h2 Ho1
          go_wp2_with fail
          refine (eqOut_hr (l := S.line.row) (m := T.line.row) (unhide Ho2) (List.mem_cons_of_mem _ List.mem_cons_self) List.mem_cons_self (unhide Lo)).mono ?_
          rintro e v3 ⟨rfl, h3⟩
          have Ho3 := hide ((h3.drop1).drop1)
          rw [unhide Eo]
          clear h3 Ho2
          go_wp2_with fail
          refine (hs_lows (unhide Ho3) (unhide MS)).mono ?_
          rintro e v1 ⟨a1, c1, rfl, h1⟩
          have Hl1 := hide h1
          clear h1 Ho3
          go_wp2_with fail
          refine (hs_lows (unhide Hl1) (List.mem_cons_of_mem _ (unhide MT))).mono ?_
          rintro e v2 ⟨a2, c2, rfl, h2⟩
          have Hl2 := hide h2
          clear h2 Hl1
          go_wp2_with fail
          refine (eqInt_hr (l := Sn.lows S.tab) (m := Sn.lows T.tab) (unhide Hl2) (List.mem_cons_of_mem _ List.mem_cons_self) List.mem_cons_self (unhide Ll)).mono ?_
          rintro e v3 ⟨rfl, h3⟩
          have Hl3 := hide ((h3.drop1).drop1)
          rw [unhide El]
          clear h3 Hl2
          go_wp2_with fail
          refine (hs_ans (unhide Hl3) (unhide MS) (unhide GS)).mono ?_
          rintro e v1 ⟨a1, c1, rfl, h1⟩
          have Hs1 := hide h1
          clear h1 Hl3
          go_wp2_with fail
          refine (hs_ans (unhide Hs1) (List.mem_cons_of_mem _ (unhide MT)) (unhide GT)).mono ?_
          rintro e v2 ⟨a2, c2, rfl, h2⟩
          have Hs2 := hide h2
          clear h2 Hs1
          go_wp2_with fail
          refine (eqEnt_hr (l := Sn.all S.tab) (m := Sn.all T.tab) (unhide Hs2) (List.mem_cons_of_mem _ List.mem_cons_self) List.mem_cons_self (unhide Ls)).mono ?_
          rintro e v3 ⟨rfl, h3⟩
          have Hs3 := hide ((h3.drop1).drop1)
          rw [unhide Es]
          clear h3 Hs2
          go_wp2_with fail
          go_ret
          exact ⟨by rw [unhide SM]; rfl, unhide Hs3⟩
      · have El : Hid (decide (Sn.lows S.tab = Sn.lows T.tab) = false) := hide (decide_eq_false e3)
        have SM : Hid (sameS S T = false) := hide (S0.trans (decide_eq_false fun h => e3 h.2.2.1))
        clear S0 e1 e2 e3
        go_enter Tryz.func24, Tryz.ntmps24
        go_wp2_with fail
        refine (unhide K1).mono ?_
        rintro e w' ⟨rfl, hw⟩
        rw [hw]
        clear hw w' K1
        go_wp2_with fail
        refine (unhide K2).mono ?_
        rintro e w' ⟨rfl, hw⟩
        rw [hw]
        clear hw w' K2
        go_wp2_with fail
        refine (hs_open (unhide H) (unhide MS) (unhide GS)).mono ?_
        rintro e v1 ⟨a1, c1, rfl, h1⟩
        have Ho1 := hide h1
        clear h1 H
        go_wp2_with fail
        refine (hs_open (unhide Ho1) (List.mem_cons_of_mem _ (unhide MT)) (unhide GT)).mono ?_
        rintro e v2 ⟨a2, c2, rfl, h2⟩
        have Ho2 := hide h2
        clear h2 Ho1
        go_wp2_with fail
        refine (eqOut_hr (l := S.line.row) (m := T.line.row) (unhide Ho2) (List.mem_cons_of_mem _ List.mem_cons_self) List.mem_cons_self (unhide Lo)).mono ?_
        rintro e v3 ⟨rfl, h3⟩
        have Ho3 := hide ((h3.drop1).drop1)
        rw [unhide Eo]
        clear h3 Ho2
        go_wp2_with fail
        refine (hs_lows (unhide Ho3) (unhide MS)).mono ?_
        rintro e v1 ⟨a1, c1, rfl, h1⟩
        have Hl1 := hide h1
        clear h1 Ho3
        go_wp2_with fail
        refine (hs_lows (unhide Hl1) (List.mem_cons_of_mem _ (unhide MT))).mono ?_
        rintro e v2 ⟨a2, c2, rfl, h2⟩
        have Hl2 := hide h2
        clear h2 Hl1
        go_wp2_with fail
        refine (eqInt_hr (l := Sn.lows S.tab) (m := Sn.lows T.tab) (unhide Hl2) (List.mem_cons_of_mem _ List.mem_cons_self) List.mem_cons_self (unhide Ll)).mono ?_
        rintro e v3 ⟨rfl, h3⟩
        have Hl3 := hide ((h3.drop1).drop1)
        rw [unhide El]
        clear h3 Hl2
        go_wp2_with fail
        go_ret
        exact ⟨by rw [unhide SM]; rfl, unhide Hl3⟩
    · have Eo : Hid (decide (S.line.row = T.line.row) = false) := hide (decide_eq_false e2)
      have SM : Hid (sameS S T = false) := hide (S0.trans (decide_eq_false fun h => e2 h.2.1))
      clear S0 e1 e2
      go_enter Tryz.func24, Tryz.ntmps24
      go_wp2_with fail
      refine (unhide K1).mono ?_
      rintro e w' ⟨rfl, hw⟩
      rw [hw]
      clear hw w' K1
      go_wp2_with fail
      refine (unhide K2).mono ?_
      rintro e w' ⟨rfl, hw⟩
      rw [hw]
      clear hw w' K2
      go_wp2_with fail
      refine (hs_open (unhide H) (unhide MS) (unhide GS)).mono ?_
      rintro e v1 ⟨a1, c1, rfl, h1⟩
      have Ho1 := hide h1
      clear h1 H
      go_wp2_with fail
      refine (hs_open (unhide Ho1) (List.mem_cons_of_mem _ (unhide MT)) (unhide GT)).mono ?_
      rintro e v2 ⟨a2, c2, rfl, h2⟩
      have Ho2 := hide h2
      clear h2 Ho1
      go_wp2_with fail
      refine (eqOut_hr (l := S.line.row) (m := T.line.row) (unhide Ho2) (List.mem_cons_of_mem _ List.mem_cons_self) List.mem_cons_self (unhide Lo)).mono ?_
      rintro e v3 ⟨rfl, h3⟩
      have Ho3 := hide ((h3.drop1).drop1)
      rw [unhide Eo]
      clear h3 Ho2
      go_wp2_with fail
      go_ret
      exact ⟨by rw [unhide SM]; rfl, unhide Ho3⟩
  · have d1 : decide (S.line.mark = T.line.mark) = false := decide_eq_false e1
    have b1 : (S.line.mark == T.line.mark) = false := Bool.eq_false_iff.2 fun h => e1 (eq_of_beq h)
    have SM : Hid (sameS S T = false) := hide (S0.trans (decide_eq_false fun h => e1 h.1))
    clear S0 e1
    go_enter Tryz.func24, Tryz.ntmps24
    go_wp2_with fail
    refine (unhide K1).mono ?_
    rintro e w' ⟨rfl, hw⟩
    rw [hw]
    clear hw w' K1
    go_wp2_with fail
    refine (unhide K2).mono ?_
    rintro e w' ⟨rfl, hw⟩
    rw [hw]
    clear hw w' K2
    go_wp2_with fail
    go_ret
    exact ⟨by rw [unhide SM]; rfl, unhide H⟩
end Go.Proofs.YtigmhljaoicdbaaGreat

/- Two that tell one another what came know the same: the walk of the statement's own function. No conditions but those of the row. -/
import Derived.Test.YtdmjkbcjljnleaaActs
namespace Go.Proofs.Ytdmjkbcjljnleaa
open Go.RowKit

section
variable {w0 v : World} {x y z u t : Held} {R : List Held}
theorem HR.pick2 (h : HR w0 v (x :: y :: z :: R)) : HR w0 v (z :: x :: y :: R) := h.perm (((List.Perm.swap _ _ _).cons _).trans (List.Perm.swap _ _ _))
theorem HR.pick3 (h : HR w0 v (x :: y :: z :: u :: R)) : HR w0 v (u :: x :: y :: z :: R) := h.perm ((((List.Perm.swap _ _ _).cons _).cons _).trans (((List.Perm.swap _ _ _).cons _).trans (List.Perm.swap _ _ _)))
theorem HR.pick4 (h : HR w0 v (x :: y :: z :: u :: t :: R)) : HR w0 v (t :: x :: y :: z :: u :: R) := h.perm (((((List.Perm.swap _ _ _).cons _).cons _).cons _).trans ((((List.Perm.swap _ _ _).cons _).cons _).trans (((List.Perm.swap _ _ _).cons _).trans (List.Perm.swap _ _ _))))
theorem HR.drop2 (h : HR w0 v (x :: y :: R)) : HR w0 v (x :: R) := h.swap.drop1
theorem HR.same {a b : Option Addr} {c d : Nat} {l m : List Int} (h : HR w0 v R) (ha : hRow IntK a c l ∈ R) (hb : hRow IntK b d m ∈ R) (hz : l.length ≤ 1000000000000) :
    Calls Try.prog 11 #[.slice a l.length c, .slice b m.length d] v fun e v' => e = .returned (.bool (sameL l m)) ∧ HR w0 v' R :=
  (same_any (h.row ha) (h.row hb) hz).mono fun _ _ ⟨h1, hb⟩ => ⟨h1, h.below hb⟩
end
theorem Fine.ins {s : AckV} (h : Fine s) : ∀ y ∈ s.set, i64 y := fun y hy => by
  have := h.beh y hy
  have := h.lo
  unfold i64; omega
theorem sameL_self (l : List Int) : sameL l l = true := decide_eq_true rfl
theorem join_one {S T : AckV} (hS : Fine S) (hT : Fine T) (lS : S.low ≤ 1048576) (lT : T.low ≤ 1048576) : S.merge T.low T.set = T.merge S.low S.set :=
  (hS.adds _).ext (hT.adds _) fun n => by
    show (S.merge T.low T.set).has n = true ↔ (T.merge S.low S.set).has n = true
    rw [has_merge hS hT lT, has_merge hT hS lS]
    exact Or.comm
theorem join_two {S T : AckV} (hS : Fine S) (hT : Fine T) (lS : S.low ≤ 1048576) {U : AckV} (hU : U = T.merge S.low S.set) (lU : U.low ≤ 1048576) : S.merge U.low U.set = U := by
  have fU : Fine U := by rw [hU]; exact hT.adds _
  refine (hS.adds _).ext fU fun n => ?_
  show (S.merge U.low U.set).has n = true ↔ U.has n = true
  rw [has_merge hS fU lU]
  refine ⟨fun h => h.elim (fun h => ?_) id, .inr⟩
  rw [hU, has_merge hT hS lS]
  exact .inr h
theorem join_has {S T : AckV} (hS : Fine S) (hT : Fine T) (lS : S.low ≤ 1048576) {U : AckV} (hU : U = T.merge S.low S.set) (n : Int) : U.has n = (S.has n || T.has n) := by
  have := has_merge hT hS lS n
  rw [← hU] at this
  rw [Bool.eq_iff_iff, this, Bool.or_eq_true]
  exact Or.comm
theorem news_none {U : AckV} (l : U.low ≤ 1048576) : U.news (told U.low U.set) = 0 := by
  have := merge_same (s := U) (t := U) l fun _ h => h
  unfold AckV.merge at this
  unfold AckV.news
  rw [this]; omega
theorem told_len {U : AckV} (h : Fine U) (l : U.low ≤ 1048576) : ((told U.low U.set).length : Int) ≤ U.total := by
  have := h.lo
  unfold told cut20 AckV.total
  rw [List.length_append, length_upTo]; omega
theorem join_total {S T : AckV} (hS : Fine S) (l : S.low ≤ 1048576) : (T.merge S.low S.set).total ≤ T.total + S.total := by
  have h1 := (total_adds_le T (told S.low S.set)).2
  have h2 := told_len hS l
  unfold AckV.merge
  omega

set_option maxRecDepth 100000 in
set_option maxHeartbeats 4000000 in
theorem joinW_any (a : Option Addr) (c : Nat) (l : List ActM) (b : Option Addr) (d : Nat) (m : List ActM) (n : Int) (w : World) (hz : l.length ≤ maxLen) (hl : ActK.At w a l) (hin : ∀ x ∈ l, x.In w) (kz : m.length ≤ maxLen) (kl : ActK.At w b m) (kin : ∀ x ∈ m, x.In w) (hn : i64 n) :
    Calls Try.prog 7 #[.slice a l.length c, .slice b m.length d, .int .i64 n] w fun e w' => e = .returned (.bool true) ∧ Below w.heap.size w w' := by
  have AW := hide (awake_any w)
  have HL := hide hl
  have HI := hide hin
  have HZ := hide hz
  have KL := hide kl
  have KI := hide kin
  have KZ := hide kz
  have HN := hide hn
  clear hl hin hz kl kin kz hn
  go_enter Try.func7, Try.ntmps7
  go_wp2_with fail
  refine (unhide AW).mono ?_
  rintro e v0 ⟨rfl, b1⟩
  have H0 := hide ((HR.start w).below b1)
  have G1 := hide (great_any ((unhide HL).below (Nat.le_refl _) b1) (c := c) (unhide HZ))
  have G2 := hide (great_any ((unhide KL).below (Nat.le_refl _) b1) (c := d) (unhide KZ))
  clear b1
  go_wp2_with fail
  refine (unhide G1).mono ?_
  rintro e w' ⟨rfl, hw'⟩
  rw [hw']
  clear hw'
  cases hg : great l with
  | true =>
    clear hg
    go_wp2_with fail
    go_ret
    exact ⟨rfl, (unhide H0).bel⟩
  | false =>
    have HM := hide (mild_of hg)
    clear hg
    go_wp2_with fail
    refine (unhide G2).mono ?_
    rintro e w' ⟨rfl, hw'⟩
    rw [hw']
    clear hw'
    cases hg : great m with
    | true =>
      clear hg
      go_wp2_with fail
      go_ret
      exact ⟨rfl, (unhide H0).bel⟩
    | false =>
      have KM := hide (mild_of hg)
      clear hg
      obtain ⟨S, hS⟩ : ∃ S, S = after l := ⟨_, rfl⟩
      obtain ⟨T, hT⟩ : ∃ T, T = after m := ⟨_, rfl⟩
      obtain ⟨U, hU⟩ : ∃ U, U = T.merge S.low S.set := ⟨_, rfl⟩
      have fS : Fine S := by rw [hS]; exact after_fine l
      have fT : Fine T := by rw [hT]; exact after_fine m
      have tS : S.total ≤ 13200 := by rw [hS]; exact after_total (unhide HM)
      have tT : T.total ≤ 13200 := by rw [hT]; exact after_total (unhide KM)
      have lS : S.low ≤ 1048576 := Int.le_trans low_total (by omega)
      have lT : T.low ≤ 1048576 := Int.le_trans low_total (by omega)
      have fU : Fine U := by rw [hU]; exact fT.adds _
      have tU : U.total ≤ 26400 := by have := join_total (T := T) fS lS; rw [← hU] at this; omega
      have lU : U.low ≤ 1048576 := Int.le_trans low_total (by omega)
      have U1 : Hid (T.merge S.low S.set = U) := hide hU.symm
      have U2 : Hid (S.merge U.low U.set = U) := hide (join_two fS fT lS hU lU)
      have U3 : Hid (S.merge T.low T.set = U) := hide (by rw [hU]; exact join_one fS fT lS lT)
      have U4 : Hid (U.news (told U.low U.set) = 0) := hide (news_none lU)
      have U5 : Hid (U.merge U.low U.set = U) := hide (merge_same lU fun _ h => h)
      have UH : Hid (U.has n = (S.has n || T.has n)) := hide (join_has fS fT lS hU n)
      have IS := hide fS.ins
      have IT := hide fT.ins
      have IU := hide fU.ins
      have BS : Hid (S.total ≤ 13200 ∧ S.set.length ≤ 13200) := hide ⟨tS, by have := set_total fS; omega⟩
      have BT : Hid (T.total ≤ 13200 ∧ T.set.length ≤ 13200) := hide ⟨tT, by have := set_total fT; omega⟩
      have BU : Hid (U.total ≤ 26400 ∧ U.set.length ≤ 26400) := hide ⟨tU, by have := set_total fU; omega⟩
      have ES := hide hS
      have ET := hide hT
      clear hS hT hU fS fT fU tS tT tU lS lT lU
      go_wp2_with fail
      refine (after_any (unhide H0) (unhide HL) (unhide HI) (unhide HM)).mono ?_
      rintro e v1 ⟨p1, m1, rfl, h⟩
      rw [← unhide ES] at h
      have H1 : Hid (HR w v1 (hAck p1 m1 S :: [])) := hide h
      clear h
      go_wp2_with fail
      refine (after_any (unhide H1) (unhide KL) (unhide KI) (unhide KM)).mono ?_
      rintro e v2 ⟨p2, m2, rfl, h⟩
      rw [← unhide ET] at h
      have H2 : Hid (HR w v2 (hAck p2 m2 T :: hAck p1 m1 S :: [])) := hide h
      clear h
      go_wp2_with fail
      refine ((unhide H2).has (List.mem_cons_of_mem _ List.mem_cons_self) (unhide HN)).mono ?_
      rintro e v3 ⟨rfl, h⟩
      have H3 : Hid (HR w v3 (hAck p2 m2 T :: hAck p1 m1 S :: [])) := hide h
      clear h
      cases hs : S.has n with
      | true =>
        have C : Hid ((S.has n || T.has n) = true) := hide (by rw [hs]; rfl)
        clear hs
        go_wp2_with fail
        refine ((unhide H3).low (List.mem_cons_of_mem _ List.mem_cons_self)).mono ?_
        rintro e w' ⟨rfl, hw'⟩
        rw [hw']
        clear hw'
        go_wp2_with fail
        refine ((unhide H3).set (List.mem_cons_of_mem _ List.mem_cons_self) (by have := unhide BS; omega)).mono ?_
        rintro e v4 ⟨a4, c4, rfl, h⟩
        have H4 : Hid (HR w v4 (hRow IntK a4 c4 S.set :: hAck p2 m2 T :: hAck p1 m1 S :: [])) := hide h
        clear h
        go_wp2_with fail
        refine ((unhide H4).swap.mergeRow S.low List.mem_cons_self (unhide IS) (by have := unhide BT; have := unhide BS; omega)).mono ?_
        rintro e v5 ⟨rfl, n5, h⟩
        rw [unhide U1] at h
        have H5 : Hid (HR w v5 (hAck p2 n5 U :: hAck p1 m1 S :: [])) := hide h.drop2
        clear h
        go_wp2_with fail
        refine ((unhide H5).low List.mem_cons_self).mono ?_
        rintro e w' ⟨rfl, hw'⟩
        rw [hw']
        clear hw'
        go_wp2_with fail
        refine ((unhide H5).set List.mem_cons_self (by have := unhide BU; omega)).mono ?_
        rintro e v6 ⟨a6, c6, rfl, h⟩
        have H6 : Hid (HR w v6 (hRow IntK a6 c6 U.set :: hAck p2 n5 U :: hAck p1 m1 S :: [])) := hide h
        clear h
        go_wp2_with fail
        refine ((unhide H6).pick2.mergeRow U.low List.mem_cons_self (unhide IU) (by have := unhide BS; have := unhide BU; omega)).mono ?_
        rintro e v7 ⟨rfl, n7, h⟩
        rw [unhide U2] at h
        have H7 : Hid (HR w v7 (hAck p1 n7 U :: hAck p2 n5 U :: [])) := hide h.drop2
        clear h
        go_wp2_with fail
        refine (after_any (unhide H7) (unhide HL) (unhide HI) (unhide HM)).mono ?_
        rintro e v8 ⟨p3, m3, rfl, h⟩
        rw [← unhide ES] at h
        have H8 : Hid (HR w v8 (hAck p3 m3 S :: hAck p1 n7 U :: hAck p2 n5 U :: [])) := hide h
        clear h
        go_wp2_with fail
        refine (after_any (unhide H8) (unhide KL) (unhide KI) (unhide KM)).mono ?_
        rintro e v9 ⟨p4, m4, rfl, h⟩
        rw [← unhide ET] at h
        have H9 : Hid (HR w v9 (hAck p4 m4 T :: hAck p3 m3 S :: hAck p1 n7 U :: hAck p2 n5 U :: [])) := hide h
        clear h
        go_wp2_with fail
        refine ((unhide H9).low List.mem_cons_self).mono ?_
        rintro e w' ⟨rfl, hw'⟩
        rw [hw']
        clear hw'
        go_wp2_with fail
        refine ((unhide H9).set List.mem_cons_self (by have := unhide BT; omega)).mono ?_
        rintro e v10 ⟨a10, c10, rfl, h⟩
        have H10 : Hid (HR w v10 (hRow IntK a10 c10 T.set :: hAck p4 m4 T :: hAck p3 m3 S :: hAck p1 n7 U :: hAck p2 n5 U :: [])) := hide h
        clear h
        go_wp2_with fail
        refine ((unhide H10).pick2.mergeRow T.low List.mem_cons_self (unhide IT) (by have := unhide BS; have := unhide BT; omega)).mono ?_
        rintro e v11 ⟨rfl, n11, h⟩
        rw [unhide U3] at h
        have H11 : Hid (HR w v11 (hAck p3 n11 U :: hAck p4 m4 T :: hAck p1 n7 U :: hAck p2 n5 U :: [])) := hide h.drop2
        clear h
        go_wp2_with fail
        refine ((unhide H11).low (List.mem_cons_of_mem _ (List.mem_cons_of_mem _ List.mem_cons_self))).mono ?_
        rintro e w' ⟨rfl, hw'⟩
        rw [hw']
        clear hw'
        go_wp2_with fail
        refine ((unhide H11).low (List.mem_cons_of_mem _ (List.mem_cons_of_mem _ (List.mem_cons_of_mem _ List.mem_cons_self)))).mono ?_
        rintro e w' ⟨rfl, hw'⟩
        rw [hw']
        clear hw'
        go_wp2_with fail
        refine ((unhide H11).set (List.mem_cons_of_mem _ (List.mem_cons_of_mem _ List.mem_cons_self)) (by have := unhide BU; omega)).mono ?_
        rintro e v12 ⟨a12, c12, rfl, h⟩
        have H12 : Hid (HR w v12 (hRow IntK a12 c12 U.set :: hAck p3 n11 U :: hAck p4 m4 T :: hAck p1 n7 U :: hAck p2 n5 U :: [])) := hide h
        clear h
        go_wp2_with fail
        refine ((unhide H12).set (List.mem_cons_of_mem _ (List.mem_cons_of_mem _ (List.mem_cons_of_mem _ (List.mem_cons_of_mem _ List.mem_cons_self)))) (by have := unhide BU; omega)).mono ?_
        rintro e v13 ⟨a13, c13, rfl, h⟩
        have H13 : Hid (HR w v13 (hRow IntK a13 c13 U.set :: hRow IntK a12 c12 U.set :: hAck p3 n11 U :: hAck p4 m4 T :: hAck p1 n7 U :: hAck p2 n5 U :: [])) := hide h
        clear h
        go_wp2_with fail
        refine ((unhide H13).same (List.mem_cons_of_mem _ List.mem_cons_self) List.mem_cons_self (by have := unhide BU; omega)).mono ?_
        rintro e v14 ⟨rfl, h⟩
        rw [sameL_self]
        have H14 : Hid (HR w v14 (hAck p3 n11 U :: hAck p4 m4 T :: hAck p1 n7 U :: hAck p2 n5 U :: [])) := hide h.drop1.drop1
        clear h
        go_wp2_with fail
        refine ((unhide H14).low (List.mem_cons_of_mem _ (List.mem_cons_of_mem _ List.mem_cons_self))).mono ?_
        rintro e w' ⟨rfl, hw'⟩
        rw [hw']
        clear hw'
        go_wp2_with fail
        refine ((unhide H14).low List.mem_cons_self).mono ?_
        rintro e w' ⟨rfl, hw'⟩
        rw [hw']
        clear hw'
        go_wp2_with fail
        refine ((unhide H14).set (List.mem_cons_of_mem _ (List.mem_cons_of_mem _ List.mem_cons_self)) (by have := unhide BU; omega)).mono ?_
        rintro e v15 ⟨a15, c15, rfl, h⟩
        have H15 : Hid (HR w v15 (hRow IntK a15 c15 U.set :: hAck p3 n11 U :: hAck p4 m4 T :: hAck p1 n7 U :: hAck p2 n5 U :: [])) := hide h
        clear h
        go_wp2_with fail
        refine ((unhide H15).set (List.mem_cons_of_mem _ List.mem_cons_self) (by have := unhide BU; omega)).mono ?_
        rintro e v16 ⟨a16, c16, rfl, h⟩
        have H16 : Hid (HR w v16 (hRow IntK a16 c16 U.set :: hRow IntK a15 c15 U.set :: hAck p3 n11 U :: hAck p4 m4 T :: hAck p1 n7 U :: hAck p2 n5 U :: [])) := hide h
        clear h
        go_wp2_with fail
        refine ((unhide H16).same (List.mem_cons_of_mem _ List.mem_cons_self) List.mem_cons_self (by have := unhide BU; omega)).mono ?_
        rintro e v17 ⟨rfl, h⟩
        rw [sameL_self]
        have H17 : Hid (HR w v17 (hAck p3 n11 U :: hAck p4 m4 T :: hAck p1 n7 U :: hAck p2 n5 U :: [])) := hide h.drop1.drop1
        clear h
        go_wp2_with fail
        refine ((unhide H17).has (List.mem_cons_of_mem _ (List.mem_cons_of_mem _ List.mem_cons_self)) (unhide HN)).mono ?_
        rintro e v18 ⟨rfl, h⟩
        rw [unhide UH, unhide C]
        have H18 : Hid (HR w v18 (hAck p3 n11 U :: hAck p4 m4 T :: hAck p1 n7 U :: hAck p2 n5 U :: [])) := hide h
        clear h
        go_wp2_with fail
        refine ((unhide H18).has (List.mem_cons_of_mem _ (List.mem_cons_of_mem _ (List.mem_cons_of_mem _ List.mem_cons_self))) (unhide HN)).mono ?_
        rintro e v19 ⟨rfl, h⟩
        rw [unhide UH, unhide C]
        have H19 : Hid (HR w v19 (hAck p3 n11 U :: hAck p4 m4 T :: hAck p1 n7 U :: hAck p2 n5 U :: [])) := hide h
        clear h
        go_wp2_with fail
        refine ((unhide H19).low (List.mem_cons_of_mem _ (List.mem_cons_of_mem _ (List.mem_cons_of_mem _ List.mem_cons_self)))).mono ?_
        rintro e w' ⟨rfl, hw'⟩
        rw [hw']
        clear hw'
        go_wp2_with fail
        refine ((unhide H19).set (List.mem_cons_of_mem _ (List.mem_cons_of_mem _ (List.mem_cons_of_mem _ List.mem_cons_self))) (by have := unhide BU; omega)).mono ?_
        rintro e v20 ⟨a20, c20, rfl, h⟩
        have H20 : Hid (HR w v20 (hRow IntK a20 c20 U.set :: hAck p3 n11 U :: hAck p4 m4 T :: hAck p1 n7 U :: hAck p2 n5 U :: [])) := hide h
        clear h
        go_wp2_with fail
        refine ((unhide H20).pick3.mergeRow U.low List.mem_cons_self (unhide IU) (by have := unhide BU; have := unhide BU; omega)).mono ?_
        rintro e v21 ⟨rfl, n21, h⟩
        rw [unhide U4]
        rw [unhide U5] at h
        have H21 : Hid (HR w v21 (hAck p1 n21 U :: hAck p3 n11 U :: hAck p4 m4 T :: hAck p2 n5 U :: [])) := hide h.drop2
        clear h
        go_wp2_with fail
        refine ((unhide H21).low (List.mem_cons_of_mem _ List.mem_cons_self)).mono ?_
        rintro e w' ⟨rfl, hw'⟩
        rw [hw']
        clear hw'
        go_wp2_with fail
        refine ((unhide H21).set (List.mem_cons_of_mem _ List.mem_cons_self) (by have := unhide BU; omega)).mono ?_
        rintro e v22 ⟨a22, c22, rfl, h⟩
        have H22 : Hid (HR w v22 (hRow IntK a22 c22 U.set :: hAck p1 n21 U :: hAck p3 n11 U :: hAck p4 m4 T :: hAck p2 n5 U :: [])) := hide h
        clear h
        go_wp2_with fail
        refine ((unhide H22).pick4.mergeRow U.low List.mem_cons_self (unhide IU) (by have := unhide BU; have := unhide BU; omega)).mono ?_
        rintro e v23 ⟨rfl, n23, h⟩
        rw [unhide U4]
        rw [unhide U5] at h
        have H23 : Hid (HR w v23 (hAck p2 n23 U :: hAck p1 n21 U :: hAck p3 n11 U :: hAck p4 m4 T :: [])) := hide h.drop2
        clear h
        go_wp2_with fail
        go_ret
        exact ⟨rfl, (unhide H23).bel⟩
      | false =>
        obtain ⟨bt, hbt⟩ : ∃ bt, bt = T.has n := ⟨_, rfl⟩
        have C : Hid ((S.has n || T.has n) = bt) := hide (by rw [hs, hbt]; rfl)
        have EB := hide hbt.symm
        clear hs hbt
        go_wp2_with fail
        refine ((unhide H3).has List.mem_cons_self (unhide HN)).mono ?_
        rintro e v4 ⟨rfl, h⟩
        rw [unhide EB]
        have H4 : Hid (HR w v4 (hAck p2 m2 T :: hAck p1 m1 S :: [])) := hide h
        clear h
        go_wp2_with fail
        refine ((unhide H4).low (List.mem_cons_of_mem _ List.mem_cons_self)).mono ?_
        rintro e w' ⟨rfl, hw'⟩
        rw [hw']
        clear hw'
        go_wp2_with fail
        refine ((unhide H4).set (List.mem_cons_of_mem _ List.mem_cons_self) (by have := unhide BS; omega)).mono ?_
        rintro e v5 ⟨a5, c5, rfl, h⟩
        have H5 : Hid (HR w v5 (hRow IntK a5 c5 S.set :: hAck p2 m2 T :: hAck p1 m1 S :: [])) := hide h
        clear h
        go_wp2_with fail
        refine ((unhide H5).swap.mergeRow S.low List.mem_cons_self (unhide IS) (by have := unhide BT; have := unhide BS; omega)).mono ?_
        rintro e v6 ⟨rfl, n6, h⟩
        rw [unhide U1] at h
        have H6 : Hid (HR w v6 (hAck p2 n6 U :: hAck p1 m1 S :: [])) := hide h.drop2
        clear h
        go_wp2_with fail
        refine ((unhide H6).low List.mem_cons_self).mono ?_
        rintro e w' ⟨rfl, hw'⟩
        rw [hw']
        clear hw'
        go_wp2_with fail
        refine ((unhide H6).set List.mem_cons_self (by have := unhide BU; omega)).mono ?_
        rintro e v7 ⟨a7, c7, rfl, h⟩
        have H7 : Hid (HR w v7 (hRow IntK a7 c7 U.set :: hAck p2 n6 U :: hAck p1 m1 S :: [])) := hide h
        clear h
        go_wp2_with fail
        refine ((unhide H7).pick2.mergeRow U.low List.mem_cons_self (unhide IU) (by have := unhide BS; have := unhide BU; omega)).mono ?_
        rintro e v8 ⟨rfl, n8, h⟩
        rw [unhide U2] at h
        have H8 : Hid (HR w v8 (hAck p1 n8 U :: hAck p2 n6 U :: [])) := hide h.drop2
        clear h
        go_wp2_with fail
        refine (after_any (unhide H8) (unhide HL) (unhide HI) (unhide HM)).mono ?_
        rintro e v9 ⟨p3, m3, rfl, h⟩
        rw [← unhide ES] at h
        have H9 : Hid (HR w v9 (hAck p3 m3 S :: hAck p1 n8 U :: hAck p2 n6 U :: [])) := hide h
        clear h
        go_wp2_with fail
        refine (after_any (unhide H9) (unhide KL) (unhide KI) (unhide KM)).mono ?_
        rintro e v10 ⟨p4, m4, rfl, h⟩
        rw [← unhide ET] at h
        have H10 : Hid (HR w v10 (hAck p4 m4 T :: hAck p3 m3 S :: hAck p1 n8 U :: hAck p2 n6 U :: [])) := hide h
        clear h
        go_wp2_with fail
        refine ((unhide H10).low List.mem_cons_self).mono ?_
        rintro e w' ⟨rfl, hw'⟩
        rw [hw']
        clear hw'
        go_wp2_with fail
        refine ((unhide H10).set List.mem_cons_self (by have := unhide BT; omega)).mono ?_
        rintro e v11 ⟨a11, c11, rfl, h⟩
        have H11 : Hid (HR w v11 (hRow IntK a11 c11 T.set :: hAck p4 m4 T :: hAck p3 m3 S :: hAck p1 n8 U :: hAck p2 n6 U :: [])) := hide h
        clear h
        go_wp2_with fail
        refine ((unhide H11).pick2.mergeRow T.low List.mem_cons_self (unhide IT) (by have := unhide BS; have := unhide BT; omega)).mono ?_
        rintro e v12 ⟨rfl, n12, h⟩
        rw [unhide U3] at h
        have H12 : Hid (HR w v12 (hAck p3 n12 U :: hAck p4 m4 T :: hAck p1 n8 U :: hAck p2 n6 U :: [])) := hide h.drop2
        clear h
        go_wp2_with fail
        refine ((unhide H12).low (List.mem_cons_of_mem _ (List.mem_cons_of_mem _ List.mem_cons_self))).mono ?_
        rintro e w' ⟨rfl, hw'⟩
        rw [hw']
        clear hw'
        go_wp2_with fail
        refine ((unhide H12).low (List.mem_cons_of_mem _ (List.mem_cons_of_mem _ (List.mem_cons_of_mem _ List.mem_cons_self)))).mono ?_
        rintro e w' ⟨rfl, hw'⟩
        rw [hw']
        clear hw'
        go_wp2_with fail
        refine ((unhide H12).set (List.mem_cons_of_mem _ (List.mem_cons_of_mem _ List.mem_cons_self)) (by have := unhide BU; omega)).mono ?_
        rintro e v13 ⟨a13, c13, rfl, h⟩
        have H13 : Hid (HR w v13 (hRow IntK a13 c13 U.set :: hAck p3 n12 U :: hAck p4 m4 T :: hAck p1 n8 U :: hAck p2 n6 U :: [])) := hide h
        clear h
        go_wp2_with fail
        refine ((unhide H13).set (List.mem_cons_of_mem _ (List.mem_cons_of_mem _ (List.mem_cons_of_mem _ (List.mem_cons_of_mem _ List.mem_cons_self)))) (by have := unhide BU; omega)).mono ?_
        rintro e v14 ⟨a14, c14, rfl, h⟩
        have H14 : Hid (HR w v14 (hRow IntK a14 c14 U.set :: hRow IntK a13 c13 U.set :: hAck p3 n12 U :: hAck p4 m4 T :: hAck p1 n8 U :: hAck p2 n6 U :: [])) := hide h
        clear h
        go_wp2_with fail
        refine ((unhide H14).same (List.mem_cons_of_mem _ List.mem_cons_self) List.mem_cons_self (by have := unhide BU; omega)).mono ?_
        rintro e v15 ⟨rfl, h⟩
        rw [sameL_self]
        have H15 : Hid (HR w v15 (hAck p3 n12 U :: hAck p4 m4 T :: hAck p1 n8 U :: hAck p2 n6 U :: [])) := hide h.drop1.drop1
        clear h
        go_wp2_with fail
        refine ((unhide H15).low (List.mem_cons_of_mem _ (List.mem_cons_of_mem _ List.mem_cons_self))).mono ?_
        rintro e w' ⟨rfl, hw'⟩
        rw [hw']
        clear hw'
        go_wp2_with fail
        refine ((unhide H15).low List.mem_cons_self).mono ?_
        rintro e w' ⟨rfl, hw'⟩
        rw [hw']
        clear hw'
        go_wp2_with fail
        refine ((unhide H15).set (List.mem_cons_of_mem _ (List.mem_cons_of_mem _ List.mem_cons_self)) (by have := unhide BU; omega)).mono ?_
        rintro e v16 ⟨a16, c16, rfl, h⟩
        have H16 : Hid (HR w v16 (hRow IntK a16 c16 U.set :: hAck p3 n12 U :: hAck p4 m4 T :: hAck p1 n8 U :: hAck p2 n6 U :: [])) := hide h
        clear h
        go_wp2_with fail
        refine ((unhide H16).set (List.mem_cons_of_mem _ List.mem_cons_self) (by have := unhide BU; omega)).mono ?_
        rintro e v17 ⟨a17, c17, rfl, h⟩
        have H17 : Hid (HR w v17 (hRow IntK a17 c17 U.set :: hRow IntK a16 c16 U.set :: hAck p3 n12 U :: hAck p4 m4 T :: hAck p1 n8 U :: hAck p2 n6 U :: [])) := hide h
        clear h
        go_wp2_with fail
        refine ((unhide H17).same (List.mem_cons_of_mem _ List.mem_cons_self) List.mem_cons_self (by have := unhide BU; omega)).mono ?_
        rintro e v18 ⟨rfl, h⟩
        rw [sameL_self]
        have H18 : Hid (HR w v18 (hAck p3 n12 U :: hAck p4 m4 T :: hAck p1 n8 U :: hAck p2 n6 U :: [])) := hide h.drop1.drop1
        clear h
        go_wp2_with fail
        refine ((unhide H18).has (List.mem_cons_of_mem _ (List.mem_cons_of_mem _ List.mem_cons_self)) (unhide HN)).mono ?_
        rintro e v19 ⟨rfl, h⟩
        rw [unhide UH, unhide C]
        have H19 : Hid (HR w v19 (hAck p3 n12 U :: hAck p4 m4 T :: hAck p1 n8 U :: hAck p2 n6 U :: [])) := hide h
        clear h
        go_wp2_with fail
        refine ((unhide H19).has (List.mem_cons_of_mem _ (List.mem_cons_of_mem _ (List.mem_cons_of_mem _ List.mem_cons_self))) (unhide HN)).mono ?_
        rintro e v20 ⟨rfl, h⟩
        rw [unhide UH, unhide C]
        have H20 : Hid (HR w v20 (hAck p3 n12 U :: hAck p4 m4 T :: hAck p1 n8 U :: hAck p2 n6 U :: [])) := hide h
        clear h
        go_wp2_with fail
        refine ((unhide H20).low (List.mem_cons_of_mem _ (List.mem_cons_of_mem _ (List.mem_cons_of_mem _ List.mem_cons_self)))).mono ?_
        rintro e w' ⟨rfl, hw'⟩
        rw [hw']
        clear hw'
        go_wp2_with fail
        refine ((unhide H20).set (List.mem_cons_of_mem _ (List.mem_cons_of_mem _ (List.mem_cons_of_mem _ List.mem_cons_self))) (by have := unhide BU; omega)).mono ?_
        rintro e v21 ⟨a21, c21, rfl, h⟩
        have H21 : Hid (HR w v21 (hRow IntK a21 c21 U.set :: hAck p3 n12 U :: hAck p4 m4 T :: hAck p1 n8 U :: hAck p2 n6 U :: [])) := hide h
        clear h
        go_wp2_with fail
        refine ((unhide H21).pick3.mergeRow U.low List.mem_cons_self (unhide IU) (by have := unhide BU; have := unhide BU; omega)).mono ?_
        rintro e v22 ⟨rfl, n22, h⟩
        rw [unhide U4]
        rw [unhide U5] at h
        have H22 : Hid (HR w v22 (hAck p1 n22 U :: hAck p3 n12 U :: hAck p4 m4 T :: hAck p2 n6 U :: [])) := hide h.drop2
        clear h
        go_wp2_with fail
        refine ((unhide H22).low (List.mem_cons_of_mem _ List.mem_cons_self)).mono ?_
        rintro e w' ⟨rfl, hw'⟩
        rw [hw']
        clear hw'
        go_wp2_with fail
        refine ((unhide H22).set (List.mem_cons_of_mem _ List.mem_cons_self) (by have := unhide BU; omega)).mono ?_
        rintro e v23 ⟨a23, c23, rfl, h⟩
        have H23 : Hid (HR w v23 (hRow IntK a23 c23 U.set :: hAck p1 n22 U :: hAck p3 n12 U :: hAck p4 m4 T :: hAck p2 n6 U :: [])) := hide h
        clear h
        go_wp2_with fail
        refine ((unhide H23).pick4.mergeRow U.low List.mem_cons_self (unhide IU) (by have := unhide BU; have := unhide BU; omega)).mono ?_
        rintro e v24 ⟨rfl, n24, h⟩
        rw [unhide U4]
        rw [unhide U5] at h
        have H24 : Hid (HR w v24 (hAck p2 n24 U :: hAck p1 n22 U :: hAck p3 n12 U :: hAck p4 m4 T :: [])) := hide h.drop2
        clear h
        go_wp2_with fail
        go_ret
        exact ⟨rfl, (unhide H24).bel⟩
end Go.Proofs.Ytdmjkbcjljnleaa

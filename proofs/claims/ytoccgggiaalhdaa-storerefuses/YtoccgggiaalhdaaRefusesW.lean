/- What StoreRefuses does: it answers true, and nothing that was there has turned. Conditions: the numbers are 64 bits wide. -/
import Derived.Test.YtoccgggiaalhdaaPlays
import Derived.Test.YtoccgggiaalhdaaSameW
namespace Go.Proofs.Ytoccgggiaalhdaa
open Go.RowKit
theorem startI_wide (x : Int) : i64 (Sp.startI x) := by
  unfold Sp.startI i64
  split <;> omega
theorem same_self {w : World} {a b : Option Addr} {c d : Nat} {l : List (Win AggV)} (hl : Lay w a l) (hm : Lay w b l) :
    Calls Try.prog 18 #[.slice a l.length c, .slice b l.length d] w fun e w' => e = .returned (.bool true) ∧ Moved (fun _ => False) w w' :=
  (same_any hl hm).mono fun e w' ⟨h1, h2⟩ => ⟨by rw [h1, show decide (l = l) = true from decide_eq_true rfl], h2⟩
set_option maxRecDepth 100000 in
set_option maxHeartbeats 8000000 in
theorem refuses_any (a : Option Addr) (len cap : Nat) (z : List ActZ) (s : ByteArray) (at_ v : Int) (w : World) (hz : IsActs w a len cap z) (hs : s.size ≤ maxLen) (_hat : i64 at_) (hv : i64 v) :
    Calls Try.prog 8 #[.slice a len cap, .string s, .int .i64 at_, .int .i64 v] w fun e w' => e = .returned (.bool true) ∧ Below w.heap.size w w' := by
  obtain ⟨k, rfl⟩ : ∃ k : List UInt8, s = ⟨k.toArray⟩ := ⟨s.data.toList, by cases s; simp⟩
  have hz1 : (⟨k.toArray⟩ : ByteArray).size = k.length := by simp [ByteArray.size]
  rw [hz1] at hs
  have HZ := hide hz
  have HK := hide hs
  have GR := hide (great_any a len cap z w hz)
  have BEL := hide (Below.refl w.heap.size w)
  have WK := hide wakes_any
  have hw0 := hide (Here.new (Below.refl w.heap.size w) (R := []) (fun _ h => by cases h))
  clear hz hs
  by_cases hg : tooGreat z = true
  · rw [hg] at GR
    go_enter Try.func8, Try.ntmps8
    go_wp2_with fail
    refine (unhide GR).mono ?_
    rintro e v' ⟨rfl, hw⟩
    rw [hw]
    clear hw v'
    go_wp2_with fail
    refine (unhide WK _).mono ?_
    rintro e v' ⟨rfl, hb⟩
    go_wp2_with fail
    go_ret
    exact ⟨rfl, (unhide BEL).trans (hb.mono (unhide BEL).size)⟩
  · rw [Bool.eq_false_iff.2 hg] at GR
    by_cases h1 : (100 : Int) < (k.length : Int)
    · go_enter Try.func8, Try.ntmps8
      go_wp2_with fail
      refine (unhide GR).mono ?_
      rintro e v' ⟨rfl, hw⟩
      rw [hw]
      clear hw v'
      go_wp2_with fail
      refine (unhide WK _).mono ?_
      rintro e v' ⟨rfl, hb⟩
      go_wp2_with fail
      go_ret
      exact ⟨rfl, (unhide BEL).trans (hb.mono (unhide BEL).size)⟩
    · go_enter Try.func8, Try.ntmps8
      go_upto_region 3 with fail
      refine (unhide GR).mono ?_
      rintro e v' ⟨rfl, hw⟩
      rw [hw]
      clear hw v'
      go_upto_region 3 with fail
      go_upto_region 4 with fail
      refine (unhide hw0).mono ?_
      rintro e u1 ⟨rfl, HE⟩
      have HERE := hide HE
      clear HE hw0 GR BEL hg h1
      generalize w.heap.size = p0 at HERE ⊢
      go_upto_region 4 with fail
      go_upto_region 5 with fail
      refine (plays_any (unhide HERE) mild_nil a len cap z (unhide HZ)).mono ?_
      rintro e u2 ⟨rfl, HE, hm⟩
      have HMM := hide hm
      clear HERE
      have HERE := hide HE
      clear HE hm
      generalize playS SO [] z = l at *
      go_upto_region 5 with fail
      go_upto_region 6 with fail
      refine ((unhide HERE).all (Nat.le_trans (unhide HMM).most (by omega))).mono ?_
      rintro e u3 ⟨a1, c1, rfl, HE⟩
      clear HERE
      have HERE := hide HE
      clear HE
      go_upto_region 6 with fail
      go_upto_region 7 with fail
      refine (Sp.start_any at_ _).mono ?_
      rintro e v' ⟨rfl, hw⟩
      rw [hw]
      clear hw v'
      go_upto_region 7 with fail
      refine ((unhide HERE).get (k := k) (s := Sp.startI at_) ⟨unhide HK, startI_wide at_⟩).mono ?_
      rintro e u5 ⟨rfl, HE⟩
      clear HERE
      obtain ⟨x, hx⟩ : ∃ x, x = (look l k (Sp.startI at_)).getD zero := ⟨_, rfl⟩
      rw [← hx]
      obtain ⟨u6, hu, hrow, hmf, hth⟩ := keep_row u5 32 [.int .i64 0, .int .i64 0, .int .i64 0, .int .i64 0, .int .i64 0, .int .i64 0, .int .i64 0, .int .i64 0] (cellsA x) rfl
      have U := hide hu
      have T := hide hth
      have HERE := hide (HE.below (hmf.below (fun _ f => f.elim) (Nat.le_refl _)))
      clear HE hu hth hmf hrow hx
      obtain ⟨op, hop⟩ : ∃ op, op = (look l k (Sp.startI at_)).isSome := ⟨_, rfl⟩
      rw [← hop]
      have HOP := hide hop
      clear hop
      go_upto_region 7 with (first | (refine wpList_store_mid rfl 32 (.tmp 11) (.tmp 34) rfl u5.heap.size 0 (cellsA x).toArray rfl rfl (unhide T) (by kernel_rfl) (by simp [Value.oneCell', cellsA, I]) ?_; change wpList _ _ _ _ _ (World.setCells _ u5.heap.size 0 (cellsA x)); rw [unhide U]))
      have CKEY := hide (fun u => key_any k u)
      have CRIGHT := hide (fun u => Sp.right_any at_ u)
      rcases put_ways (O := SO) l k at_ v with ⟨hn, he⟩ | ⟨hk, ⟨y, hy, he⟩ | ⟨hy, ⟨hl, he⟩ | ⟨hl, he⟩⟩⟩
      · have CP := (unhide HERE).put (unhide HMM).most (unhide HMM).ins_ k at_ v hv
        rw [he] at CP
        have HP : Hid (Calls Try.prog 12 #[.pointer (some ⟨p0, 0, none⟩), .string ⟨k.toArray⟩, .int .i64 at_, .int .i64 v] u6 _) := hide CP
        clear CP
        go_upto_region 8 with fail
        refine (unhide HP).mono ?_
        rintro e u7 ⟨rfl, HE⟩
        clear HERE HP
        have BEL := hide HE.bel
        have HALL := hide (HE.all (Nat.le_trans (unhide HMM).most (by omega)))
        clear HE
        go_wp2_with fail
        by_cases hko : keyOk k = true
        · have hro : Sp.rightI at_ = false := Bool.eq_false_iff.2 (fun h => hn ⟨hko, h⟩)
          rw [hko] at CKEY
          rw [hro] at CRIGHT
          refine (unhide CKEY _).mono ?_
          rintro e v' ⟨rfl, hw⟩
          rw [hw]
          clear hw v'
          go_wp2_with fail
          refine (unhide CRIGHT _).mono ?_
          rintro e v' ⟨rfl, hw⟩
          rw [hw]
          clear hw v'
          go_wp2_with fail
          refine (unhide HALL).mono ?_
          rintro e v8 ⟨a2, c2, rfl, HE⟩
          have R1 := Held.lay (HE.row List.mem_cons_self) (Nat.le_trans (unhide HMM).most (by omega))
          have R2 := Held.lay (HE.row (List.mem_cons_of_mem _ List.mem_cons_self)) (Nat.le_trans (unhide HMM).most (by omega))
          have SM := hide (same_self (c := c2) (d := c1) R1 R2)
          have BEL0 := hide HE.bel
          clear HE R1 R2
          go_wp2_with fail
          refine (unhide SM).mono ?_
          rintro e v9 ⟨rfl, hm9⟩
          have BEL := hide ((unhide BEL0).trans ((hm9.below (fun _ f => f.elim) (Nat.le_refl _)).mono (unhide BEL0).size))
          clear hm9 BEL0
          go_wp2_with fail
          refine (unhide WK _).mono ?_
          rintro e v' ⟨rfl, hb⟩
          go_wp2_with fail
          go_ret
          exact ⟨rfl, (unhide BEL).trans (hb.mono (unhide BEL).size)⟩
        · rw [Bool.eq_false_iff.2 hko] at CKEY
          refine (unhide CKEY _).mono ?_
          rintro e v' ⟨rfl, hw⟩
          rw [hw]
          clear hw v'
          go_wp2_with fail
          refine (unhide HALL).mono ?_
          rintro e v8 ⟨a2, c2, rfl, HE⟩
          have R1 := Held.lay (HE.row List.mem_cons_self) (Nat.le_trans (unhide HMM).most (by omega))
          have R2 := Held.lay (HE.row (List.mem_cons_of_mem _ List.mem_cons_self)) (Nat.le_trans (unhide HMM).most (by omega))
          have SM := hide (same_self (c := c2) (d := c1) R1 R2)
          have BEL0 := hide HE.bel
          clear HE R1 R2
          go_wp2_with fail
          refine (unhide SM).mono ?_
          rintro e v9 ⟨rfl, hm9⟩
          have BEL := hide ((unhide BEL0).trans ((hm9.below (fun _ f => f.elim) (Nat.le_refl _)).mono (unhide BEL0).size))
          clear hm9 BEL0
          go_wp2_with fail
          refine (unhide WK _).mono ?_
          rintro e v' ⟨rfl, hb⟩
          go_wp2_with fail
          go_ret
          exact ⟨rfl, (unhide BEL).trans (hb.mono (unhide BEL).size)⟩
      · have hoo := unhide HOP
        rw [show look l k (Sp.startI at_) = some y from hy] at hoo
        subst hoo
        rw [show keyOk k = true from hk.1] at CKEY
        rw [show Sp.rightI at_ = true from hk.2] at CRIGHT
        have CP := (unhide HERE).put (unhide HMM).most (unhide HMM).ins_ k at_ v hv
        rw [he] at CP
        have HP : Hid (Calls Try.prog 12 #[.pointer (some ⟨p0, 0, none⟩), .string ⟨k.toArray⟩, .int .i64 at_, .int .i64 v] u6 _) := hide CP
        clear CP
        go_upto_region 8 with fail
        refine (unhide HP).mono ?_
        rintro e u7 ⟨rfl, HE⟩
        clear HERE HP
        have BEL := hide HE.bel

        clear HE
        go_wp2_with fail
        refine (unhide CKEY _).mono ?_
        rintro e v' ⟨rfl, hw⟩
        rw [hw]
        clear hw v'
        go_wp2_with fail
        refine (unhide CRIGHT _).mono ?_
        rintro e v' ⟨rfl, hw⟩
        rw [hw]
        clear hw v'
        go_wp2_with fail
        refine (unhide WK _).mono ?_
        rintro e v' ⟨rfl, hb⟩
        go_wp2_with fail
        go_ret
        exact ⟨rfl, (unhide BEL).trans (hb.mono (unhide BEL).size)⟩
      · have hoo := unhide HOP
        rw [show look l k (Sp.startI at_) = none from hy] at hoo
        subst hoo
        have hl32 : (l.length : Int) = 32 := by have := (unhide HMM).most; omega
        rw [show keyOk k = true from hk.1] at CKEY
        rw [show Sp.rightI at_ = true from hk.2] at CRIGHT
        have CP := (unhide HERE).put (unhide HMM).most (unhide HMM).ins_ k at_ v hv
        rw [he] at CP
        have HP : Hid (Calls Try.prog 12 #[.pointer (some ⟨p0, 0, none⟩), .string ⟨k.toArray⟩, .int .i64 at_, .int .i64 v] u6 _) := hide CP
        clear CP
        go_upto_region 8 with fail
        refine (unhide HP).mono ?_
        rintro e u7 ⟨rfl, HE⟩
        clear HERE HP
        have BEL := hide HE.bel
        have HALL := hide (HE.all (Nat.le_trans (unhide HMM).most (by omega)))
        clear HE
        go_wp2_with fail
        refine (unhide CKEY _).mono ?_
        rintro e v' ⟨rfl, hw⟩
        rw [hw]
        clear hw v'
        go_wp2_with fail
        refine (unhide CRIGHT _).mono ?_
        rintro e v' ⟨rfl, hw⟩
        rw [hw]
        clear hw v'
        go_wp2_with fail
        refine (unhide HALL).mono ?_
        rintro e v8 ⟨a2, c2, rfl, HE⟩
        have R1 := Held.lay (HE.row List.mem_cons_self) (Nat.le_trans (unhide HMM).most (by omega))
        have R2 := Held.lay (HE.row (List.mem_cons_of_mem _ List.mem_cons_self)) (Nat.le_trans (unhide HMM).most (by omega))
        have SM := hide (same_self (c := c2) (d := c1) R1 R2)
        have BEL0 := hide HE.bel
        clear HE R1 R2
        go_wp2_with fail
        refine (unhide SM).mono ?_
        rintro e v9 ⟨rfl, hm9⟩
        have BEL := hide ((unhide BEL0).trans ((hm9.below (fun _ f => f.elim) (Nat.le_refl _)).mono (unhide BEL0).size))
        clear hm9 BEL0
        go_wp2_with fail
        refine (unhide WK _).mono ?_
        rintro e v' ⟨rfl, hb⟩
        go_wp2_with fail
        go_ret
        exact ⟨rfl, (unhide BEL).trans (hb.mono (unhide BEL).size)⟩
      · have hoo := unhide HOP
        rw [show look l k (Sp.startI at_) = none from hy] at hoo
        subst hoo
        have hl32 : (l.length : Int) < 32 := by omega
        rw [show keyOk k = true from hk.1] at CKEY
        rw [show Sp.rightI at_ = true from hk.2] at CRIGHT
        have CP := (unhide HERE).put (unhide HMM).most (unhide HMM).ins_ k at_ v hv
        rw [he] at CP
        have HP : Hid (Calls Try.prog 12 #[.pointer (some ⟨p0, 0, none⟩), .string ⟨k.toArray⟩, .int .i64 at_, .int .i64 v] u6 _) := hide CP
        clear CP
        go_upto_region 8 with fail
        refine (unhide HP).mono ?_
        rintro e u7 ⟨rfl, HE⟩
        clear HERE HP
        have BEL := hide HE.bel

        clear HE
        go_wp2_with fail
        refine (unhide CKEY _).mono ?_
        rintro e v' ⟨rfl, hw⟩
        rw [hw]
        clear hw v'
        go_wp2_with fail
        refine (unhide CRIGHT _).mono ?_
        rintro e v' ⟨rfl, hw⟩
        rw [hw]
        clear hw v'
        go_wp2_with fail
        refine (unhide WK _).mono ?_
        rintro e v' ⟨rfl, hb⟩
        go_wp2_with fail
        go_ret
        exact ⟨rfl, (unhide BEL).trans (hb.mono (unhide BEL).size)⟩
end Go.Proofs.Ytoccgggiaalhdaa

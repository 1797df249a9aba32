/- What ShardKnown does: it answers true, and nothing that was there has turned. No conditions. -/
import Derived.Test.YtigmhljaoicdbaaGreatGShIns
namespace Go.Proofs.YtigmhljaoicdbaaGreat
open Go.RowKit
def kx4 : ItemV := ⟨0, 3, 3, 1, [97], 0, 4, 0⟩
theorem kx4_n : i64 kx4.n := by unfold i64 kx4; simp
def ks4 : StV := appS ws3 kx4
theorem ks4_good : GoodS ks4 := goodS_app ws3_good kx4_n
theorem kc4 : codeS ws3 kx4 = 2 ∧ (outsS ws3 kx4).length = 0 ∧ freshS ws3 kx4 = true := ⟨by kernel_rfl, by kernel_rfl, by kernel_rfl⟩
def ks5 : StV := appS ks4 wx1
theorem ks5_good : GoodS ks5 := goodS_app ks4_good wx1_n
theorem kc5 : codeS ks4 wx1 = 0 ∧ (outsS ks4 wx1).length = 0 ∧ freshS ks4 wx1 = false := ⟨by kernel_rfl, by kernel_rfl, by kernel_rfl⟩
def kx6 : ItemV := ⟨9, 4, 3, 1, [97], 0, 30, 0⟩
theorem kx6_n : i64 kx6.n := by unfold i64 kx6; simp
def ks6 : StV := appS ks5 kx6
theorem ks6_good : GoodS ks6 := goodS_app ks5_good kx6_n
theorem kc6 : codeS ks5 kx6 = 4 ∧ (outsS ks5 kx6).length = 0 ∧ freshS ks5 kx6 = false := ⟨by kernel_rfl, by kernel_rfl, by kernel_rfl⟩
def kx7 : ItemV := ⟨0, 4, 3, 7, [], 0, 0, 0⟩
theorem kx7_n : i64 kx7.n := by unfold i64 kx7; simp
def ks7 : StV := appS ks6 kx7
theorem ks7_good : GoodS ks7 := goodS_app ks6_good kx7_n
theorem kc7 : codeS ks6 kx7 = 4 ∧ (outsS ks6 kx7).length = 0 ∧ freshS ks6 kx7 = true := ⟨by kernel_rfl, by kernel_rfl, by kernel_rfl⟩
def kx8 : ItemV := ⟨0, 5, 3, 2, [], 0, 15, 0⟩
theorem kx8_n : i64 kx8.n := by unfold i64 kx8; simp
def ks8 : StV := appS ks7 kx8
theorem ks8_good : GoodS ks8 := goodS_app ks7_good kx8_n
theorem kc8 : codeS ks7 kx8 = 1 ∧ (outsS ks7 kx8).length = 0 ∧ freshS ks7 kx8 = true := ⟨by kernel_rfl, by kernel_rfl, by kernel_rfl⟩
def kx9 : ItemV := ⟨0, 6, 3, 2, [], 0, -1, 0⟩
theorem kx9_n : i64 kx9.n := by unfold i64 kx9; simp
def ks9 : StV := appS ks8 kx9
theorem ks9_good : GoodS ks9 := goodS_app ks8_good kx9_n
theorem kc9 : codeS ks8 kx9 = 4 ∧ (outsS ks8 kx9).length = 0 ∧ freshS ks8 kx9 = true := ⟨by kernel_rfl, by kernel_rfl, by kernel_rfl⟩
theorem ks_mark : ks9.line.mark = 15 := by kernel_rfl
theorem ks_all : (Sn.all ks9.tab).length = 4 := by kernel_rfl
theorem sameS_self (S : StV) : sameS S S = true := decide_eq_true ⟨rfl, rfl, rfl, rfl⟩
theorem ks_new : sameS ks9 newS = false := decide_eq_false fun h => absurd (ks_mark.symm.trans h.1) (by decide)
section
variable {w0 v : World} {p : Nat} {F : Nat → Prop} {R : List Sn.Held} {S : StV}
theorem hs_app (h : Sn.HR w0 v (hState p F S :: R)) (hS : GoodS S) (x : ItemV) (hn : i64 x.n) (hk : x.kind < 256) {c : Int} {n : Nat} {f : Bool} (e : codeS S x = c ∧ (outsS S x).length = n ∧ freshS S x = f) :
    Calls Tryz.prog 12 #[.pointer (some ⟨p, 0, none⟩), .agg (itemC x).toArray] v fun e v' => ∃ a cp F', e = .returned (.tuple #[.int .i64 c, .slice a n cp, .bool f]) ∧ Sn.HR w0 v' (hState p F' (appS S x) :: R) := by
  have := hs_apply h hS x hn hk
  rw [e.1, e.2.1, e.2.2] at this
  exact this.mono fun _ _ ⟨a, c, F', h1, h2⟩ => ⟨a, c, F', h1, h2.drop1⟩
theorem kn_app3 (h : Sn.HR w0 v (hState p F ws2 :: R)) : Calls Tryz.prog 12 #[.pointer (some ⟨p, 0, none⟩), .agg (itemC wx2).toArray] v fun e v' => ∃ g c F', e = .returned (.tuple #[.int .i64 1, .slice (some ⟨g, 0, none⟩) 1 c, .bool true]) ∧ Sn.HR w0 v' (hState p F' ws3 :: hOuts (some ⟨g, 0, none⟩) c [⟨[97], 0, put zero 5⟩] :: R) := by
  have := hs_apply h ws2_good wx2 wx2_n (by decide)
  rw [wc3.1, wc3.2.1, wc3.2.2] at this
  refine this.mono fun _ _ ⟨a, c, F', h1, h2⟩ => ?_
  have hr : OutK.Row _ 0 a c [⟨[97], 0, put zero 5⟩] := h2.ok _ List.mem_cons_self
  obtain ⟨g, rfl, hg⟩ := out_row hr (j := 0) rfl
  exact ⟨g, c, F', h1, h2.swap⟩
theorem kn_cell {g c : Nat} (h : Sn.HR w0 v R) (m : hOuts (some ⟨g, 0, none⟩) c [⟨[97], 0, put zero 5⟩] ∈ R) : v.cell? ⟨g, 3, none⟩ = some (.int .i64 5) := by
  have hr : OutK.Row v 0 (some ⟨g, 0, none⟩) c [⟨[97], 0, put zero 5⟩] := h.ok _ m
  obtain ⟨g', e, hg⟩ := out_row hr (j := 0) rfl
  cases e
  exact hg 3 _ rfl
end
set_option maxRecDepth 100000 in
set_option maxHeartbeats 8000000 in
theorem known_any (w : World) : Calls Tryz.prog 7 #[] w fun e w' => e = .returned (.bool true) ∧ Below w.heap.size w w' := by
  have H0 := hide (Sn.HR.start w)
  go_enter Tryz.func7, Tryz.ntmps7
  go_upto_region 2 with fail
  refine (hs_new (unhide H0)).mono ?_
  rintro e v1 ⟨p, F1, rfl, h⟩
  obtain ⟨b, hb⟩ : ∃ b, b = v1.heap.size := ⟨_, rfl⟩
  obtain ⟨V, hV⟩ : ∃ V, V = v1.alloc (.cells #[.int .i64 0, .int .i64 1, .int .i64 1, .int .u8 1, .string ⟨#[97]⟩, .int .i64 0, .int .i64 3, .int .i64 5] 42) := ⟨_, rfl⟩
  have H1 : Hid (Sn.HR w V (hState p F1 newS :: hItem b wx1 :: [])) := hide (by
    have := HR.boxed (v' := V) h wx1 (by rw [hV]; exact (Below.refl _ _).alloc (Nat.le_refl _) _) (by
      rw [hV]
      intro j u hu
      rw [Nat.zero_add, World.cell?_alloc_new]
      have : (itemC wx1).toArray[j]? = some u := by simpa using hu
      exact this)
    rw [← hb] at this
    exact this.swap)
  have HB := hide hb
  have HV := hide hV
  clear h hb hV H0
  go_upto_region 3 with fail
  rw [← unhide HV, ← unhide HB]
  clear HV HB
  have RI := hide (HR.item (unhide H1) (List.mem_cons_of_mem _ List.mem_cons_self))
  go_wp2_with (refine Sn.wpList_load_on rfl 42 (.tmp 2) rfl b 0 rfl (itemC wx1) _ (unhide RI) Tryz.underlying42 rfl (by kernel_rfl) ?_)
  refine (wk_app1 (unhide H1)).mono ?_
  rintro e v2 ⟨a2, c2, F2, rfl, h⟩
  have H2 := hide h
  have RJ := hide (HR.item h (List.mem_cons_of_mem _ List.mem_cons_self))
  clear h H1 RI
  go_wp2_with (refine Sn.wpList_load_on rfl 42 (.tmp 2) rfl b 0 rfl (itemC wx1) _ (unhide RJ) Tryz.underlying42 rfl (by kernel_rfl) ?_)
  refine (wk_app2 (unhide H2)).mono ?_
  rintro e v3 ⟨a3, c3, F3, rfl, h⟩
  have H3 := hide h
  clear h H2 RJ
  go_wp2_with fail
  refine (kn_app3 (unhide H3)).mono ?_
  rintro e v4 ⟨g, c4, F4, rfl, h⟩
  have H4 := hide h
  clear h H3
  go_wp2_with fail
  refine (hs_app (unhide H4) ws3_good kx4 kx4_n (by decide) kc4).mono ?_
  rintro e u4 ⟨b4, d4, G4, rfl, h⟩
  have K4 : Hid (Sn.HR w u4 (hState p G4 ks4 :: hOuts (some ⟨g, 0, none⟩) c4 [⟨[97], 0, put zero 5⟩] :: hItem b wx1 :: [])) := hide h
  clear h H4
  have RK := hide (HR.item (unhide K4) (List.mem_cons_of_mem _ (List.mem_cons_of_mem _ List.mem_cons_self)))
  go_wp2_with (refine Sn.wpList_load_on rfl 42 (.tmp 2) rfl b 0 rfl (itemC wx1) _ (unhide RK) Tryz.underlying42 rfl (by kernel_rfl) ?_)
  refine (hs_app (unhide K4) ks4_good wx1 wx1_n (by decide) kc5).mono ?_
  rintro e u5 ⟨b5, d5, G5, rfl, h⟩
  have K5 : Hid (Sn.HR w u5 (hState p G5 ks5 :: hOuts (some ⟨g, 0, none⟩) c4 [⟨[97], 0, put zero 5⟩] :: hItem b wx1 :: [])) := hide h
  clear h K4
  have hc := kn_cell (unhide K5) (List.mem_cons_of_mem _ List.mem_cons_self)
  clear RK
  go_wp2_with fail
  refine (hs_app (unhide K5) ks5_good kx6 kx6_n (by decide) kc6).mono ?_
  rintro e u6 ⟨b6, d6, G6, rfl, h⟩
  have K6 : Hid (Sn.HR w u6 (hState p G6 ks6 :: hOuts (some ⟨g, 0, none⟩) c4 [⟨[97], 0, put zero 5⟩] :: hItem b wx1 :: [])) := hide h
  clear h K5
  clear hc
  go_wp2_with fail
  refine (hs_app (unhide K6) ks6_good kx7 kx7_n (by decide) kc7).mono ?_
  rintro e u7 ⟨b7, d7, G7, rfl, h⟩
  have K7 : Hid (Sn.HR w u7 (hState p G7 ks7 :: hOuts (some ⟨g, 0, none⟩) c4 [⟨[97], 0, put zero 5⟩] :: hItem b wx1 :: [])) := hide h
  clear h K6
  go_wp2_with fail
  refine (hs_app (unhide K7) ks7_good kx8 kx8_n (by decide) kc8).mono ?_
  rintro e u8 ⟨b8, d8, G8, rfl, h⟩
  have K8 : Hid (Sn.HR w u8 (hState p G8 ks8 :: hOuts (some ⟨g, 0, none⟩) c4 [⟨[97], 0, put zero 5⟩] :: hItem b wx1 :: [])) := hide h
  clear h K7
  go_wp2_with fail
  refine (hs_app (unhide K8) ks8_good kx9 kx9_n (by decide) kc9).mono ?_
  rintro e u9 ⟨b9, d9, G9, rfl, h⟩
  have K9 : Hid (Sn.HR w u9 (hState p G9 ks9 :: hOuts (some ⟨g, 0, none⟩) c4 [⟨[97], 0, put zero 5⟩] :: hItem b wx1 :: [])) := hide h
  clear h K8
  go_wp2_with fail
  refine (hs_ans (unhide K9) List.mem_cons_self ks9_good).mono ?_
  rintro e v5 ⟨a5, c5, rfl, h⟩
  rw [ks_all]
  have H5 := hide h.drop1
  clear h K9
  go_wp2_with fail
  refine (hs_mark (unhide H5) List.mem_cons_self).mono ?_
  rintro e v' ⟨rfl, hw⟩
  rw [hw, ks_mark]
  clear hw v'
  go_wp2_with fail
  refine (hs_twin (unhide H5) List.mem_cons_self).mono ?_
  rintro e v6 ⟨p6, F6, rfl, h⟩
  have H6 := hide h
  clear h H5
  go_wp2_with fail
  refine (hs_same (unhide H6) (List.mem_cons_of_mem _ List.mem_cons_self) List.mem_cons_self ks9_good ks9_good).mono ?_
  rintro e v7 ⟨rfl, h⟩
  rw [sameS_self]
  have H7 := hide h
  clear h H6
  go_wp2_with fail
  refine (hs_new (unhide H7)).mono ?_
  rintro e v8 ⟨p8, F8, rfl, h⟩
  have H8 := hide h
  clear h H7
  go_wp2_with fail
  refine (hs_same (unhide H8) (List.mem_cons_of_mem _ (List.mem_cons_of_mem _ List.mem_cons_self)) List.mem_cons_self ks9_good goodS_new).mono ?_
  rintro e v9 ⟨rfl, h⟩
  rw [ks_new]
  have H9 := hide h
  clear h H8
  go_wp2_with fail
  refine (wakes_any v9).mono ?_
  rintro e va ⟨rfl, h⟩
  have HA := hide ((unhide H9).bel.trans (h.mono (unhide H9).bel.size))
  clear h H9
  go_wp2_with fail
  go_ret
  exact ⟨rfl, unhide HA⟩
end Go.Proofs.YtigmhljaoicdbaaGreat

/- What the program does with parts of a message through its reader: whose an item is, a whole item, a table. No conditions. -/
import Derived.Test.YtkbmbcmcnpeabaaDoorRdL
import Derived.Test.YtkbmbcmcnpeabaaDoorSameB
namespace Go.Proofs.YtkbmbcmcnpeabaaDoor
open Pk Go.RowKit

/-- A reader behind the interface. -/
def sr (p : Nat) : Value := .iface 72 (.pointer (some ⟨p, 0, none⟩))
theorem rahead_number (p : Nat) (w : World) : (nilAhead 253 72 (.pointer (some ⟨p, 0, none⟩)) "meter/msg.number").run Tryd.prog w = .ok (some false) w := by kernel_rfl
theorem rmeth_number (p : Nat) (w : World) : (method 253 72 (.pointer (some ⟨p, 0, none⟩)) "meter/msg.number").run Tryd.prog w = .ok (105, .pointer (some ⟨p, 0, none⟩)) w := by kernel_rfl
theorem rahead_octet (p : Nat) (w : World) : (nilAhead 253 72 (.pointer (some ⟨p, 0, none⟩)) "meter/msg.octet").run Tryd.prog w = .ok (some false) w := by kernel_rfl
theorem rmeth_octet (p : Nat) (w : World) : (method 253 72 (.pointer (some ⟨p, 0, none⟩)) "meter/msg.octet").run Tryd.prog w = .ok (37, .pointer (some ⟨p, 0, none⟩)) w := by kernel_rfl
theorem rahead_text (p : Nat) (w : World) : (nilAhead 253 72 (.pointer (some ⟨p, 0, none⟩)) "meter/msg.text").run Tryd.prog w = .ok (some false) w := by kernel_rfl
theorem rmeth_text (p : Nat) (w : World) : (method 253 72 (.pointer (some ⟨p, 0, none⟩)) "meter/msg.text").run Tryd.prog w = .ok (106, .pointer (some ⟨p, 0, none⟩)) w := by kernel_rfl
theorem rahead_integer (p : Nat) (w : World) : (nilAhead 253 72 (.pointer (some ⟨p, 0, none⟩)) "meter/msg.integer").run Tryd.prog w = .ok (some false) w := by kernel_rfl
theorem rmeth_integer (p : Nat) (w : World) : (method 253 72 (.pointer (some ⟨p, 0, none⟩)) "meter/msg.integer").run Tryd.prog w = .ok (103, .pointer (some ⟨p, 0, none⟩)) w := by kernel_rfl
theorem rahead_wide (p : Nat) (w : World) : (nilAhead 253 72 (.pointer (some ⟨p, 0, none⟩)) "meter/msg.wide").run Tryd.prog w = .ok (some false) w := by kernel_rfl
theorem rmeth_wide (p : Nat) (w : World) : (method 253 72 (.pointer (some ⟨p, 0, none⟩)) "meter/msg.wide").run Tryd.prog w = .ok (107, .pointer (some ⟨p, 0, none⟩)) w := by kernel_rfl
theorem rahead_list (p : Nat) (w : World) : (nilAhead 253 72 (.pointer (some ⟨p, 0, none⟩)) "meter/msg.list").run Tryd.prog w = .ok (some false) w := by kernel_rfl
theorem rmeth_list (p : Nat) (w : World) : (method 253 72 (.pointer (some ⟨p, 0, none⟩)) "meter/msg.list").run Tryd.prog w = .ok (104, .pointer (some ⟨p, 0, none⟩)) w := by kernel_rfl
section
variable {α β γ : Type} {A : Cod α} {B : Cod β} {C : Cod γ} {za ya : α} {zb yb : β} {yc : γ} {y2 : β × γ} {s : ByteArray} {k : Nat} {F : Nat → Prop} {w0 w' : World} {e : Ending}
theorem seq_split {l : List UInt8} {x : α × β} {t : Nat} (h : (A.seq B za zb).dec l = (x, t, 0)) : ∃ t1 t2, A.dec l = (x.1, t1, 0) ∧ B.dec (l.drop t1) = (x.2, t2, 0) ∧ t = t1 + t2 := by
  simp only [Cod.seq] at h
  by_cases e1 : (A.dec l).2.2 = 0
  · rw [if_neg (fun h' => h' e1)] at h
    by_cases e2 : (B.dec (l.drop (A.dec l).2.1)).2.2 = 0
    · rw [if_neg (fun h' => h' e2)] at h
      simp only [Prod.mk.injEq, and_true] at h
      obtain ⟨rfl, rfl⟩ := h
      exact ⟨_, _, Prod.ext rfl (Prod.ext rfl e1), Prod.ext rfl (Prod.ext rfl e2), rfl⟩
    · rw [if_pos e2] at h
      simp only [Prod.mk.injEq] at h
      exact absurd h.2.2 e2
  · rw [if_pos e1] at h
    simp only [Prod.mk.injEq] at h
    exact absurd h.2.2 e1
theorem seq_fault {l : List UInt8} {c : Nat} (h : ((A.seq B za zb).dec l).2.2 = c) (hc : c ≠ 0) : (A.dec l).2.2 = c ∨ ∃ a t, A.dec l = (a, t, 0) ∧ (B.dec (l.drop t)).2.2 = c := by
  simp only [Cod.seq] at h
  by_cases e1 : (A.dec l).2.2 = 0
  · rw [if_neg (fun h' => h' e1)] at h
    by_cases e2 : (B.dec (l.drop (A.dec l).2.1)).2.2 = 0
    · rw [if_neg (fun h' => h' e2)] at h
      exact absurd h.symm hc
    · rw [if_pos e2] at h
      exact .inr ⟨_, _, Prod.ext rfl (Prod.ext rfl e1), h⟩
  · rw [if_pos e1] at h
    exact .inl h
theorem RdR.step2 {St : α × β × γ → Nat → World → Prop} {x : α × β} {t : Nat} (D : (A.seq B za zb).dec (s.data.toList.drop k) = (x, t, 0)) (h : RdR C s (k + t) F w0 (fun c k' w' => St (x.1, x.2, c) k' w') e w') : RdR (A.seq (B.seq C yb yc) ya y2) s k F w0 St e w' := by
  obtain ⟨t1, t2, h1, h2, rfl⟩ := seq_split D
  rw [List.drop_drop] at h2
  refine RdR.step h1 (RdR.step h2 ?_)
  rw [Nat.add_assoc]
  exact h
theorem RdR.stop2 {St : α × β × γ → Nat → World → Prop} {c : Nat} (D : ((A.seq B za zb).dec (s.data.toList.drop k)).2.2 = c) (hc : c ≠ 0) (m : Moved F w0 w') : RdR (A.seq (B.seq C yb yc) ya y2) s k F w0 St (.panicked (refused (c : Int))) w' := by
  rcases seq_fault D hc with h | ⟨a, t, h1, h2⟩
  · exact RdR.stop h hc m
  · rw [List.drop_drop] at h2
    exact RdR.step h1 (RdR.stop h2 hc m)
end

set_option maxHeartbeats 4000000 in
set_option maxRecDepth 100000 in
/-- Whose an item is. -/
theorem whose_r {w0 w : World} {r x B : Nat} {vs : List Value} {s : ByteArray} {k : Nat} (h : RSt w0 w r x B vs s k) (o : Nat) (ho : o + 1 < vs.length) :
    Calls Tryd.prog 52 #[sr r, .pointer (some ⟨B, o, none⟩)] w (RdR (P.seq P 0 0) s k (fun i => i = x ∨ i = B) w0 fun a k' w' => RSt w0 w' r x B ((vs.set o (.int .i64 a.1)).set (o + 1) (.int .i64 a.2)) s k') := by
  have ha_number := rahead_number r
  have hm_number := rmeth_number r
  have HD0 := hide h.drew
  clear h
  unfold sr
  go_enter Tryd.func52, Tryd.ntmps52
  go_wp2_with fail
  go_region_with (go_at_call 105; refine (rnumber_any (unhide HD0) o (by first | omega | (simp only [List.length_set]; omega))).mono ?_; rintro e w1 hh; rcases hh with ⟨a0, t0, hd, rfl, hs⟩ | ⟨c, hd, hc, rfl, hm⟩; rotate_left; exact ⟨rfl, RdR.stop hd hc hm⟩; have HS1 := hide hs; have HD1 := hide hs.drew; have E0 := hide hd; clear hs hd)
  go_wp2_with fail
  go_region_with (go_at_call 105; refine (rnumber_any (unhide HD1) (o + 1) (by first | omega | (simp only [List.length_set]; omega))).mono ?_; rintro e w2 hh; rcases hh with ⟨a1, t1, hd, rfl, hs⟩ | ⟨c, hd, hc, rfl, hm⟩; rotate_left; exact ⟨rfl, RdR.step (unhide E0) (RdR.stop1 hd hc hm)⟩; have HS2 := hide hs; have HD2 := hide hs.drew; have E1 := hide hd; clear hs hd)
  go_wp2_with fail
  go_end0
  exact RdR.step (unhide E0) (RdR.done (unhide E1) (unhide HS2))

/-- A table that is read. -/
def tableC : Cod (Int × Int × List Int) := P.seq (P.seq ownersC 0 []) 0 (0, [])
set_option maxHeartbeats 4000000 in
set_option maxRecDepth 100000 in
/-- A table. -/
theorem table_r {w0 w : World} {r x B : Nat} {vs : List Value} {s : ByteArray} {k : Nat} (h : RSt w0 w r x B vs s k) (o : Nat) (ho : o + 2 < vs.length) :
    Calls Tryd.prog 53 #[sr r, .pointer (some ⟨B, o, none⟩)] w (RdR tableC s k (fun i => i = x ∨ i = B) w0 fun y k' w' => ∃ a c, RSt w0 w' r x B (((vs.set o (.int .i64 y.1)).set (o + 1) (.int .i64 y.2.1)).set (o + 2) (.slice a y.2.2.length c)) s k' ∧ Ints w' a y.2.2 ∧ ∀ z, a = some z → w0.heap.size ≤ z.block) := by
  have ha_number := rahead_number r
  have hm_number := rmeth_number r
  have ha_list := rahead_list r
  have hm_list := rmeth_list r
  have HD0 := hide h.drew
  clear h
  unfold sr
  go_enter Tryd.func53, Tryd.ntmps53
  go_wp2_with fail
  go_region_with (go_at_call 105; refine (rnumber_any (unhide HD0) o (by first | omega | (simp only [List.length_set]; omega))).mono ?_; rintro e w1 hh; rcases hh with ⟨a0, t0, hd, rfl, hs⟩ | ⟨c, hd, hc, rfl, hm⟩; rotate_left; exact ⟨rfl, RdR.stop hd hc hm⟩; have HS1 := hide hs; have HD1 := hide hs.drew; have E0 := hide hd; clear hs hd)
  go_wp2_with fail
  go_region_with (go_at_call 105; refine (rnumber_any (unhide HD1) (o + 1) (by first | omega | (simp only [List.length_set]; omega))).mono ?_; rintro e w2 hh; rcases hh with ⟨a1, t1, hd, rfl, hs⟩ | ⟨c, hd, hc, rfl, hm⟩; rotate_left; exact ⟨rfl, RdR.step (unhide E0) (RdR.stop hd hc hm)⟩; have HS2 := hide hs; have HD2 := hide hs.drew; have E1 := hide hd; clear hs hd)
  go_wp2_with fail
  go_region_with (go_at_call 104; refine (rlist_any (unhide HD2) (o + 2) (by first | omega | (simp only [List.length_set]; omega)) 64 (by decide)).mono ?_; rintro e w3 hh; rcases hh with ⟨a2, t2, hd, rfl, hs⟩ | ⟨c, hd, hc, rfl, hm⟩; rotate_left; exact ⟨rfl, RdR.step (unhide E0) (RdR.step (unhide E1) (RdR.stop1 hd hc hm))⟩; have HS3 := hide hs; have E2 := hide hd; clear hs hd)
  go_wp2_with fail
  go_end0
  exact RdR.step (unhide E0) (RdR.step (unhide E1) (RdR.done (unhide E2) (unhide HS3)))

set_option maxHeartbeats 4000000 in
set_option maxRecDepth 100000 in
/-- A whole item. -/
theorem item_r {w0 w : World} {r x B : Nat} {vs : List Value} {s : ByteArray} {k : Nat} (h : RSt w0 w r x B vs s k) (o : Nat) (ho : o + 7 < vs.length) :
    Calls Tryd.prog 51 #[sr r, .pointer (some ⟨B, o, none⟩)] w (RdR itemC s k (fun i => i = x ∨ i = B) w0 fun y k' w' => RSt w0 w' r x B ((((((((vs.set o (.int .i64 y.src)).set (o + 1) (.int .i64 y.seq)).set (o + 2) (.int .i64 y.low)).set (o + 3) (.int .u8 (y.kind.toNat : Int))).set (o + 4) (.string ⟨y.key.toArray⟩)).set (o + 5) (.int .i64 y.part)).set (o + 6) (.int .i64 y.at_)).set (o + 7) (.int .i64 y.n)) s k') := by
  have ha_number := rahead_number r
  have hm_number := rmeth_number r
  have ha_octet := rahead_octet r
  have hm_octet := rmeth_octet r
  have ha_text := rahead_text r
  have hm_text := rmeth_text r
  have ha_integer := rahead_integer r
  have hm_integer := rmeth_integer r
  have HS0 := hide h
  clear h
  unfold sr
  go_enter Tryd.func51, Tryd.ntmps51
  go_wp2_with fail
  refine (whose_r (unhide HS0) o (by omega)).mono ?_
  rintro e w1 hh
  rcases hh with ⟨a0, t0, hd, rfl, hs⟩ | ⟨c, hd, hc, rfl, hm⟩
  rotate_left
  · have HE := hide hd
    have HC := hide hc
    have HM := hide hm
    clear hd hc hm
    go_wp2_with fail
    exact ⟨rfl, RdR.map (RdR.stop2 (unhide HE) (unhide HC) (unhide HM))⟩
  have HS1 := hide hs
  have HD1 := hide hs.drew
  have E0 := hide hd
  clear hs hd
  go_wp2_with fail
  go_region_with (go_at_call 105; refine (rnumber_any (unhide HD1) (o + 2) (by first | omega | (simp only [List.length_set]; omega))).mono ?_; rintro e w2 hh; rcases hh with ⟨a1, t1, hd, rfl, hs⟩ | ⟨c, hd, hc, rfl, hm⟩; rotate_left; exact ⟨rfl, RdR.map (RdR.step2 (unhide E0) (RdR.stop hd hc hm))⟩; have HS2 := hide hs; have HD2 := hide hs.drew; have E1 := hide hd; clear hs hd)
  go_wp2_with fail
  go_region_with (go_at_call 37; refine (roctet_any (unhide HD2) (o + 3) (by first | omega | (simp only [List.length_set]; omega))).mono ?_; rintro e w3 hh; rcases hh with ⟨a2, t2, hd, rfl, hs⟩ | ⟨c, hd, hc, rfl, hm⟩; rotate_left; exact ⟨rfl, RdR.map (RdR.step2 (unhide E0) (RdR.step (unhide E1) (RdR.stop hd hc hm)))⟩; have HS3 := hide hs; have HD3 := hide hs.drew; have E2 := hide hd; clear hs hd)
  go_wp2_with fail
  go_region_with (go_at_call 106; refine (rtext_any (unhide HD3) (o + 4) (by first | omega | (simp only [List.length_set]; omega)) 255 (by decide)).mono ?_; rintro e w4 hh; rcases hh with ⟨a3, t3, hd, rfl, hs⟩ | ⟨c, hd, hc, rfl, hm⟩; rotate_left; exact ⟨rfl, RdR.map (RdR.step2 (unhide E0) (RdR.step (unhide E1) (RdR.step (unhide E2) (RdR.stop hd hc hm))))⟩; have HS4 := hide hs; have HD4 := hide hs.drew; have E3 := hide hd; clear hs hd)
  go_wp2_with fail
  go_region_with (go_at_call 105; refine (rnumber_any (unhide HD4) (o + 5) (by first | omega | (simp only [List.length_set]; omega))).mono ?_; rintro e w5 hh; rcases hh with ⟨a4, t4, hd, rfl, hs⟩ | ⟨c, hd, hc, rfl, hm⟩; rotate_left; exact ⟨rfl, RdR.map (RdR.step2 (unhide E0) (RdR.step (unhide E1) (RdR.step (unhide E2) (RdR.step (unhide E3) (RdR.stop hd hc hm)))))⟩; have HS5 := hide hs; have HD5 := hide hs.drew; have E4 := hide hd; clear hs hd)
  go_wp2_with fail
  go_region_with (go_at_call 103; refine (rinteger_any (unhide HD5) (o + 6) (by first | omega | (simp only [List.length_set]; omega))).mono ?_; rintro e w6 hh; rcases hh with ⟨a5, t5, hd, rfl, hs⟩ | ⟨c, hd, hc, rfl, hm⟩; rotate_left; exact ⟨rfl, RdR.map (RdR.step2 (unhide E0) (RdR.step (unhide E1) (RdR.step (unhide E2) (RdR.step (unhide E3) (RdR.step (unhide E4) (RdR.stop hd hc hm))))))⟩; have HS6 := hide hs; have HD6 := hide hs.drew; have E5 := hide hd; clear hs hd)
  go_wp2_with fail
  go_region_with (go_at_call 103; refine (rinteger_any (unhide HD6) (o + 7) (by first | omega | (simp only [List.length_set]; omega))).mono ?_; rintro e w7 hh; rcases hh with ⟨a6, t6, hd, rfl, hs⟩ | ⟨c, hd, hc, rfl, hm⟩; rotate_left; exact ⟨rfl, RdR.map (RdR.step2 (unhide E0) (RdR.step (unhide E1) (RdR.step (unhide E2) (RdR.step (unhide E3) (RdR.step (unhide E4) (RdR.step (unhide E5) (RdR.stop1 hd hc hm)))))))⟩; have HS7 := hide hs; have HD7 := hide hs.drew; have E6 := hide hd; clear hs hd)
  go_wp2_with fail
  go_end0
  exact RdR.map (RdR.step2 (unhide E0) (RdR.step (unhide E1) (RdR.step (unhide E2) (RdR.step (unhide E3) (RdR.step (unhide E4) (RdR.step (unhide E5) (RdR.done (unhide E6) (unhide HS7))))))))
end Go.Proofs.YtkbmbcmcnpeabaaDoor

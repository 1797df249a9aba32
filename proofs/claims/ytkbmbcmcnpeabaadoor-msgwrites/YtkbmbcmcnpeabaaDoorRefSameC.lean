/- The document's own Same: the last of its regions, a long row of comparisons. No conditions. -/
import Derived.Test.YtkbmbcmcnpeabaaDoorSameC
import Derived.Deep.QuietTactic
namespace Go.Proofs.YtkbmbcmcnpeabaaDoor
open Pk Go.RowKit

/-- The operations of the body's last region. -/
def lastOf : Option Code → Array Oper
  | some (.seq _ (.seq _ (.seq _ (.seq _ (.seq (.region _ o _) _))))) => o
  | _ => #[]
/-- Are two messages the same, their lists aside? -/
def same13 (m n : MsgV) : Bool := ((((((((((((decide (m.kind = n.kind)) && decide (m.move = n.move)) && decide (m.part = n.part)) && decide (m.to_ = n.to_)) && decide (m.n = n.n)) && decide (m.count = n.count)) && decide (m.code = n.code)) && decide (m.digest = n.digest)) && decide (m.at_ = n.at_)) && sameItem m.item n.item) && decide (m.epoch = n.epoch)) && decide (m.nodes = n.nodes)) && decide (m.data = n.data)
theorem rs0_ops {ops : Array Oper} (hops : ops = lastOf Tryd.f15.body) : Cmp1 ops 0 64 none 29 5 2 3 0 := ⟨by rw [hops]; first | kernel_rfl | (unfold OpAt; kernel_rfl), by rw [hops]; first | kernel_rfl | (unfold OpAt; kernel_rfl), by rw [hops]; first | kernel_rfl | (unfold OpAt; kernel_rfl), by rw [hops]; first | kernel_rfl | (unfold OpAt; kernel_rfl)⟩
theorem rs0_eq {ops : Array Oper} (hops : ops = lastOf Tryd.f15.body) : OpAt ops (0 + 4) (.binOp .eql 5 (.tmp (0 + 1 + 64)) (.tmp (0 + 2 + 1 + 64)) 5) (some (0 + 4 + 64)) none := by rw [hops]; first | kernel_rfl | (unfold OpAt; kernel_rfl)
theorem rs0_mv {ops : Array Oper} (hops : ops = lastOf Tryd.f15.body) : OpAt ops 5 (.move (.tmp 68)) (some (5 + 64)) none := by rw [hops]; first | kernel_rfl | (unfold OpAt; kernel_rfl)
theorem rs0 {ops : Array Oper} (hops : ops = lastOf Tryd.f15.body) {W : World → Prop} {A B : Nat} {a : Act} {w : World} (hW : W w) (hs : a.tmps.size = 157) (ha : a.tmps[2]? = some (.pointer (some ⟨A, 0, none⟩))) (hb : a.tmps[3]? = some (.pointer (some ⟨B, 0, none⟩))) {u v : Value} {r : Bool} (la : Ld Tryd.prog W 5 (.pointer (some ⟨A, 0, none⟩)) u) (lb : Ld Tryd.prog W 5 (.pointer (some ⟨B, 0, none⟩)) v) (he : Eqv Tryd.prog 5 u v r) : Seg Tryd.prog ops 0 6 (Val W 64 69 (.bool r) a) a w := by
  have HW : Wants ops a none := trivial
  have HG : Grd ops none (0 + 64) := fun j b e => by cases e
  refine Seg.trans (Seg.cmp1 (rs0_ops hops) ha hb (by decide) (fld0 A) (fld0 B) la lb HW HG hW (by rw [hs]; decide) (fun a' w' hW' hw' hz hu hv => Seg.put (rs0_eq hops) hw' hW' (by rw [hz, hs]; decide) fun o ho => run_eqv ho hu hv he)) ?_
  rintro a1 w1 ⟨hW1, hl1, hv1⟩
  refine Seg.mono (Seg.move (c := 64) (rs0_mv hops) hv1 hW1 (by rw [hl1.1, hs]; decide)) ?_
  rintro a2 w2 ⟨hW2, hl2, hv2⟩
  exact ⟨hW2, hl1.trans hl2 (by decide), hv2⟩
theorem rs1_ops {ops : Array Oper} (hops : ops = lastOf Tryd.f15.body) : Cmp1 ops 6 64 (some (5, true)) 29 3 2 3 1 := ⟨by rw [hops]; first | kernel_rfl | (unfold OpAt; kernel_rfl), by rw [hops]; first | kernel_rfl | (unfold OpAt; kernel_rfl), by rw [hops]; first | kernel_rfl | (unfold OpAt; kernel_rfl), by rw [hops]; first | kernel_rfl | (unfold OpAt; kernel_rfl)⟩
theorem rs1_eq {ops : Array Oper} (hops : ops = lastOf Tryd.f15.body) : OpAt ops (6 + 4) (.binOp .eql 3 (.tmp (6 + 1 + 64)) (.tmp (6 + 2 + 1 + 64)) 3) (some (6 + 4 + 64)) (some (5, true)) := by rw [hops]; first | kernel_rfl | (unfold OpAt; kernel_rfl)
theorem rs1_dst {ops : Array Oper} (hops : ops = lastOf Tryd.f15.body) : (ops[5]?).bind (·.dst) = some 69 := by rw [hops]; first | kernel_rfl | (unfold OpAt; kernel_rfl)
theorem rs1_grd {ops : Array Oper} (hops : ops = lastOf Tryd.f15.body) : GuardedB ops 5 64 6 (4 + 1) = true := by rw [hops]; first | kernel_rfl | (unfold OpAt; kernel_rfl)
theorem rs1_pick {ops : Array Oper} (hops : ops = lastOf Tryd.f15.body) : OpAt ops (6 + (4 + 1)) (.pick (.tmp 69) (.tmp (6 + 4 + 64)) (.const (.bool false))) (some (6 + (4 + 1) + 64)) none := by rw [hops]; first | kernel_rfl | (unfold OpAt; kernel_rfl)
theorem rs1_mv {ops : Array Oper} (hops : ops = lastOf Tryd.f15.body) : OpAt ops 12 (.move (.tmp 75)) (some (12 + 64)) none := by rw [hops]; first | kernel_rfl | (unfold OpAt; kernel_rfl)
theorem rs1 {ops : Array Oper} (hops : ops = lastOf Tryd.f15.body) {W : World → Prop} {A B : Nat} {a : Act} {w : World} (hW : W w) (hs : a.tmps.size = 157) (ha : a.tmps[2]? = some (.pointer (some ⟨A, 0, none⟩))) (hb : a.tmps[3]? = some (.pointer (some ⟨B, 0, none⟩))) {u v : Value} {r : Bool} {b : Bool} (ht : a.tmps[69]? = some (.bool b)) (la : Ld Tryd.prog W 3 (.pointer (some ⟨A, 1, none⟩)) u) (lb : Ld Tryd.prog W 3 (.pointer (some ⟨B, 1, none⟩)) v) (he : Eqv Tryd.prog 3 u v r) : Seg Tryd.prog ops 6 13 (Val W 64 76 (.bool (b && r)) a) a w := by
  refine Seg.trans (Seg.conj (c := 64) (k := 4) (r := r) (rs1_dst hops) (by decide) (rs1_grd hops) (rs1_pick hops) ht hW (by rw [hs]; decide) fun HW => ?_) ?_
  · have HG : Grd ops (some (5, true)) (6 + 64) := grd_of (rs1_dst hops) (by decide)
    exact Seg.cmp1 (rs1_ops hops) ha hb (by decide) (fld1 A) (fld1 B) la lb HW HG hW (by rw [hs]; decide) (fun a' w' hW' hw' hz hu hv => Seg.put (rs1_eq hops) hw' hW' (by rw [hz, hs]; decide) fun o ho => run_eqv ho hu hv he)
  rintro a1 w1 ⟨hW1, hl1, hv1⟩
  refine Seg.mono (Seg.move (c := 64) (rs1_mv hops) hv1 hW1 (by rw [hl1.1, hs]; decide)) ?_
  rintro a2 w2 ⟨hW2, hl2, hv2⟩
  exact ⟨hW2, (hl1.trans hl2 (by decide)).cut (by decide), hv2⟩
theorem rs2_ops {ops : Array Oper} (hops : ops = lastOf Tryd.f15.body) : Cmp1 ops 13 64 (some (12, true)) 29 3 2 3 2 := ⟨by rw [hops]; first | kernel_rfl | (unfold OpAt; kernel_rfl), by rw [hops]; first | kernel_rfl | (unfold OpAt; kernel_rfl), by rw [hops]; first | kernel_rfl | (unfold OpAt; kernel_rfl), by rw [hops]; first | kernel_rfl | (unfold OpAt; kernel_rfl)⟩
theorem rs2_eq {ops : Array Oper} (hops : ops = lastOf Tryd.f15.body) : OpAt ops (13 + 4) (.binOp .eql 3 (.tmp (13 + 1 + 64)) (.tmp (13 + 2 + 1 + 64)) 3) (some (13 + 4 + 64)) (some (12, true)) := by rw [hops]; first | kernel_rfl | (unfold OpAt; kernel_rfl)
theorem rs2_dst {ops : Array Oper} (hops : ops = lastOf Tryd.f15.body) : (ops[12]?).bind (·.dst) = some 76 := by rw [hops]; first | kernel_rfl | (unfold OpAt; kernel_rfl)
theorem rs2_grd {ops : Array Oper} (hops : ops = lastOf Tryd.f15.body) : GuardedB ops 12 64 13 (4 + 1) = true := by rw [hops]; first | kernel_rfl | (unfold OpAt; kernel_rfl)
theorem rs2_pick {ops : Array Oper} (hops : ops = lastOf Tryd.f15.body) : OpAt ops (13 + (4 + 1)) (.pick (.tmp 76) (.tmp (13 + 4 + 64)) (.const (.bool false))) (some (13 + (4 + 1) + 64)) none := by rw [hops]; first | kernel_rfl | (unfold OpAt; kernel_rfl)
theorem rs2_mv {ops : Array Oper} (hops : ops = lastOf Tryd.f15.body) : OpAt ops 19 (.move (.tmp 82)) (some (19 + 64)) none := by rw [hops]; first | kernel_rfl | (unfold OpAt; kernel_rfl)
theorem rs2 {ops : Array Oper} (hops : ops = lastOf Tryd.f15.body) {W : World → Prop} {A B : Nat} {a : Act} {w : World} (hW : W w) (hs : a.tmps.size = 157) (ha : a.tmps[2]? = some (.pointer (some ⟨A, 0, none⟩))) (hb : a.tmps[3]? = some (.pointer (some ⟨B, 0, none⟩))) {u v : Value} {r : Bool} {b : Bool} (ht : a.tmps[76]? = some (.bool b)) (la : Ld Tryd.prog W 3 (.pointer (some ⟨A, 2, none⟩)) u) (lb : Ld Tryd.prog W 3 (.pointer (some ⟨B, 2, none⟩)) v) (he : Eqv Tryd.prog 3 u v r) : Seg Tryd.prog ops 13 20 (Val W 64 83 (.bool (b && r)) a) a w := by
  refine Seg.trans (Seg.conj (c := 64) (k := 4) (r := r) (rs2_dst hops) (by decide) (rs2_grd hops) (rs2_pick hops) ht hW (by rw [hs]; decide) fun HW => ?_) ?_
  · have HG : Grd ops (some (12, true)) (13 + 64) := grd_of (rs2_dst hops) (by decide)
    exact Seg.cmp1 (rs2_ops hops) ha hb (by decide) (fld2 A) (fld2 B) la lb HW HG hW (by rw [hs]; decide) (fun a' w' hW' hw' hz hu hv => Seg.put (rs2_eq hops) hw' hW' (by rw [hz, hs]; decide) fun o ho => run_eqv ho hu hv he)
  rintro a1 w1 ⟨hW1, hl1, hv1⟩
  refine Seg.mono (Seg.move (c := 64) (rs2_mv hops) hv1 hW1 (by rw [hl1.1, hs]; decide)) ?_
  rintro a2 w2 ⟨hW2, hl2, hv2⟩
  exact ⟨hW2, (hl1.trans hl2 (by decide)).cut (by decide), hv2⟩
theorem rs3_ops {ops : Array Oper} (hops : ops = lastOf Tryd.f15.body) : Cmp1 ops 20 64 (some (19, true)) 29 3 2 3 3 := ⟨by rw [hops]; first | kernel_rfl | (unfold OpAt; kernel_rfl), by rw [hops]; first | kernel_rfl | (unfold OpAt; kernel_rfl), by rw [hops]; first | kernel_rfl | (unfold OpAt; kernel_rfl), by rw [hops]; first | kernel_rfl | (unfold OpAt; kernel_rfl)⟩
theorem rs3_eq {ops : Array Oper} (hops : ops = lastOf Tryd.f15.body) : OpAt ops (20 + 4) (.binOp .eql 3 (.tmp (20 + 1 + 64)) (.tmp (20 + 2 + 1 + 64)) 3) (some (20 + 4 + 64)) (some (19, true)) := by rw [hops]; first | kernel_rfl | (unfold OpAt; kernel_rfl)
theorem rs3_dst {ops : Array Oper} (hops : ops = lastOf Tryd.f15.body) : (ops[19]?).bind (·.dst) = some 83 := by rw [hops]; first | kernel_rfl | (unfold OpAt; kernel_rfl)
theorem rs3_grd {ops : Array Oper} (hops : ops = lastOf Tryd.f15.body) : GuardedB ops 19 64 20 (4 + 1) = true := by rw [hops]; first | kernel_rfl | (unfold OpAt; kernel_rfl)
theorem rs3_pick {ops : Array Oper} (hops : ops = lastOf Tryd.f15.body) : OpAt ops (20 + (4 + 1)) (.pick (.tmp 83) (.tmp (20 + 4 + 64)) (.const (.bool false))) (some (20 + (4 + 1) + 64)) none := by rw [hops]; first | kernel_rfl | (unfold OpAt; kernel_rfl)
theorem rs3_mv {ops : Array Oper} (hops : ops = lastOf Tryd.f15.body) : OpAt ops 26 (.move (.tmp 89)) (some (26 + 64)) none := by rw [hops]; first | kernel_rfl | (unfold OpAt; kernel_rfl)
theorem rs3 {ops : Array Oper} (hops : ops = lastOf Tryd.f15.body) {W : World → Prop} {A B : Nat} {a : Act} {w : World} (hW : W w) (hs : a.tmps.size = 157) (ha : a.tmps[2]? = some (.pointer (some ⟨A, 0, none⟩))) (hb : a.tmps[3]? = some (.pointer (some ⟨B, 0, none⟩))) {u v : Value} {r : Bool} {b : Bool} (ht : a.tmps[83]? = some (.bool b)) (la : Ld Tryd.prog W 3 (.pointer (some ⟨A, 3, none⟩)) u) (lb : Ld Tryd.prog W 3 (.pointer (some ⟨B, 3, none⟩)) v) (he : Eqv Tryd.prog 3 u v r) : Seg Tryd.prog ops 20 27 (Val W 64 90 (.bool (b && r)) a) a w := by
  refine Seg.trans (Seg.conj (c := 64) (k := 4) (r := r) (rs3_dst hops) (by decide) (rs3_grd hops) (rs3_pick hops) ht hW (by rw [hs]; decide) fun HW => ?_) ?_
  · have HG : Grd ops (some (19, true)) (20 + 64) := grd_of (rs3_dst hops) (by decide)
    exact Seg.cmp1 (rs3_ops hops) ha hb (by decide) (fld3 A) (fld3 B) la lb HW HG hW (by rw [hs]; decide) (fun a' w' hW' hw' hz hu hv => Seg.put (rs3_eq hops) hw' hW' (by rw [hz, hs]; decide) fun o ho => run_eqv ho hu hv he)
  rintro a1 w1 ⟨hW1, hl1, hv1⟩
  refine Seg.mono (Seg.move (c := 64) (rs3_mv hops) hv1 hW1 (by rw [hl1.1, hs]; decide)) ?_
  rintro a2 w2 ⟨hW2, hl2, hv2⟩
  exact ⟨hW2, (hl1.trans hl2 (by decide)).cut (by decide), hv2⟩
theorem rs4_ops {ops : Array Oper} (hops : ops = lastOf Tryd.f15.body) : Cmp1 ops 27 64 (some (26, true)) 29 3 2 3 4 := ⟨by rw [hops]; first | kernel_rfl | (unfold OpAt; kernel_rfl), by rw [hops]; first | kernel_rfl | (unfold OpAt; kernel_rfl), by rw [hops]; first | kernel_rfl | (unfold OpAt; kernel_rfl), by rw [hops]; first | kernel_rfl | (unfold OpAt; kernel_rfl)⟩
theorem rs4_eq {ops : Array Oper} (hops : ops = lastOf Tryd.f15.body) : OpAt ops (27 + 4) (.binOp .eql 3 (.tmp (27 + 1 + 64)) (.tmp (27 + 2 + 1 + 64)) 3) (some (27 + 4 + 64)) (some (26, true)) := by rw [hops]; first | kernel_rfl | (unfold OpAt; kernel_rfl)
theorem rs4_dst {ops : Array Oper} (hops : ops = lastOf Tryd.f15.body) : (ops[26]?).bind (·.dst) = some 90 := by rw [hops]; first | kernel_rfl | (unfold OpAt; kernel_rfl)
theorem rs4_grd {ops : Array Oper} (hops : ops = lastOf Tryd.f15.body) : GuardedB ops 26 64 27 (4 + 1) = true := by rw [hops]; first | kernel_rfl | (unfold OpAt; kernel_rfl)
theorem rs4_pick {ops : Array Oper} (hops : ops = lastOf Tryd.f15.body) : OpAt ops (27 + (4 + 1)) (.pick (.tmp 90) (.tmp (27 + 4 + 64)) (.const (.bool false))) (some (27 + (4 + 1) + 64)) none := by rw [hops]; first | kernel_rfl | (unfold OpAt; kernel_rfl)
theorem rs4_mv {ops : Array Oper} (hops : ops = lastOf Tryd.f15.body) : OpAt ops 33 (.move (.tmp 96)) (some (33 + 64)) none := by rw [hops]; first | kernel_rfl | (unfold OpAt; kernel_rfl)
theorem rs4 {ops : Array Oper} (hops : ops = lastOf Tryd.f15.body) {W : World → Prop} {A B : Nat} {a : Act} {w : World} (hW : W w) (hs : a.tmps.size = 157) (ha : a.tmps[2]? = some (.pointer (some ⟨A, 0, none⟩))) (hb : a.tmps[3]? = some (.pointer (some ⟨B, 0, none⟩))) {u v : Value} {r : Bool} {b : Bool} (ht : a.tmps[90]? = some (.bool b)) (la : Ld Tryd.prog W 3 (.pointer (some ⟨A, 4, none⟩)) u) (lb : Ld Tryd.prog W 3 (.pointer (some ⟨B, 4, none⟩)) v) (he : Eqv Tryd.prog 3 u v r) : Seg Tryd.prog ops 27 34 (Val W 64 97 (.bool (b && r)) a) a w := by
  refine Seg.trans (Seg.conj (c := 64) (k := 4) (r := r) (rs4_dst hops) (by decide) (rs4_grd hops) (rs4_pick hops) ht hW (by rw [hs]; decide) fun HW => ?_) ?_
  · have HG : Grd ops (some (26, true)) (27 + 64) := grd_of (rs4_dst hops) (by decide)
    exact Seg.cmp1 (rs4_ops hops) ha hb (by decide) (fld4 A) (fld4 B) la lb HW HG hW (by rw [hs]; decide) (fun a' w' hW' hw' hz hu hv => Seg.put (rs4_eq hops) hw' hW' (by rw [hz, hs]; decide) fun o ho => run_eqv ho hu hv he)
  rintro a1 w1 ⟨hW1, hl1, hv1⟩
  refine Seg.mono (Seg.move (c := 64) (rs4_mv hops) hv1 hW1 (by rw [hl1.1, hs]; decide)) ?_
  rintro a2 w2 ⟨hW2, hl2, hv2⟩
  exact ⟨hW2, (hl1.trans hl2 (by decide)).cut (by decide), hv2⟩
theorem rs5_ops {ops : Array Oper} (hops : ops = lastOf Tryd.f15.body) : Cmp1 ops 34 64 (some (33, true)) 29 3 2 3 5 := ⟨by rw [hops]; first | kernel_rfl | (unfold OpAt; kernel_rfl), by rw [hops]; first | kernel_rfl | (unfold OpAt; kernel_rfl), by rw [hops]; first | kernel_rfl | (unfold OpAt; kernel_rfl), by rw [hops]; first | kernel_rfl | (unfold OpAt; kernel_rfl)⟩
theorem rs5_eq {ops : Array Oper} (hops : ops = lastOf Tryd.f15.body) : OpAt ops (34 + 4) (.binOp .eql 3 (.tmp (34 + 1 + 64)) (.tmp (34 + 2 + 1 + 64)) 3) (some (34 + 4 + 64)) (some (33, true)) := by rw [hops]; first | kernel_rfl | (unfold OpAt; kernel_rfl)
theorem rs5_dst {ops : Array Oper} (hops : ops = lastOf Tryd.f15.body) : (ops[33]?).bind (·.dst) = some 97 := by rw [hops]; first | kernel_rfl | (unfold OpAt; kernel_rfl)
theorem rs5_grd {ops : Array Oper} (hops : ops = lastOf Tryd.f15.body) : GuardedB ops 33 64 34 (4 + 1) = true := by rw [hops]; first | kernel_rfl | (unfold OpAt; kernel_rfl)
theorem rs5_pick {ops : Array Oper} (hops : ops = lastOf Tryd.f15.body) : OpAt ops (34 + (4 + 1)) (.pick (.tmp 97) (.tmp (34 + 4 + 64)) (.const (.bool false))) (some (34 + (4 + 1) + 64)) none := by rw [hops]; first | kernel_rfl | (unfold OpAt; kernel_rfl)
theorem rs5_mv {ops : Array Oper} (hops : ops = lastOf Tryd.f15.body) : OpAt ops 40 (.move (.tmp 103)) (some (40 + 64)) none := by rw [hops]; first | kernel_rfl | (unfold OpAt; kernel_rfl)
theorem rs5 {ops : Array Oper} (hops : ops = lastOf Tryd.f15.body) {W : World → Prop} {A B : Nat} {a : Act} {w : World} (hW : W w) (hs : a.tmps.size = 157) (ha : a.tmps[2]? = some (.pointer (some ⟨A, 0, none⟩))) (hb : a.tmps[3]? = some (.pointer (some ⟨B, 0, none⟩))) {u v : Value} {r : Bool} {b : Bool} (ht : a.tmps[97]? = some (.bool b)) (la : Ld Tryd.prog W 3 (.pointer (some ⟨A, 5, none⟩)) u) (lb : Ld Tryd.prog W 3 (.pointer (some ⟨B, 5, none⟩)) v) (he : Eqv Tryd.prog 3 u v r) : Seg Tryd.prog ops 34 41 (Val W 64 104 (.bool (b && r)) a) a w := by
  refine Seg.trans (Seg.conj (c := 64) (k := 4) (r := r) (rs5_dst hops) (by decide) (rs5_grd hops) (rs5_pick hops) ht hW (by rw [hs]; decide) fun HW => ?_) ?_
  · have HG : Grd ops (some (33, true)) (34 + 64) := grd_of (rs5_dst hops) (by decide)
    exact Seg.cmp1 (rs5_ops hops) ha hb (by decide) (fld5 A) (fld5 B) la lb HW HG hW (by rw [hs]; decide) (fun a' w' hW' hw' hz hu hv => Seg.put (rs5_eq hops) hw' hW' (by rw [hz, hs]; decide) fun o ho => run_eqv ho hu hv he)
  rintro a1 w1 ⟨hW1, hl1, hv1⟩
  refine Seg.mono (Seg.move (c := 64) (rs5_mv hops) hv1 hW1 (by rw [hl1.1, hs]; decide)) ?_
  rintro a2 w2 ⟨hW2, hl2, hv2⟩
  exact ⟨hW2, (hl1.trans hl2 (by decide)).cut (by decide), hv2⟩
theorem rs6_ops {ops : Array Oper} (hops : ops = lastOf Tryd.f15.body) : Cmp1 ops 41 64 (some (40, true)) 29 3 2 3 6 := ⟨by rw [hops]; first | kernel_rfl | (unfold OpAt; kernel_rfl), by rw [hops]; first | kernel_rfl | (unfold OpAt; kernel_rfl), by rw [hops]; first | kernel_rfl | (unfold OpAt; kernel_rfl), by rw [hops]; first | kernel_rfl | (unfold OpAt; kernel_rfl)⟩
theorem rs6_eq {ops : Array Oper} (hops : ops = lastOf Tryd.f15.body) : OpAt ops (41 + 4) (.binOp .eql 3 (.tmp (41 + 1 + 64)) (.tmp (41 + 2 + 1 + 64)) 3) (some (41 + 4 + 64)) (some (40, true)) := by rw [hops]; first | kernel_rfl | (unfold OpAt; kernel_rfl)
theorem rs6_dst {ops : Array Oper} (hops : ops = lastOf Tryd.f15.body) : (ops[40]?).bind (·.dst) = some 104 := by rw [hops]; first | kernel_rfl | (unfold OpAt; kernel_rfl)
theorem rs6_grd {ops : Array Oper} (hops : ops = lastOf Tryd.f15.body) : GuardedB ops 40 64 41 (4 + 1) = true := by rw [hops]; first | kernel_rfl | (unfold OpAt; kernel_rfl)
theorem rs6_pick {ops : Array Oper} (hops : ops = lastOf Tryd.f15.body) : OpAt ops (41 + (4 + 1)) (.pick (.tmp 104) (.tmp (41 + 4 + 64)) (.const (.bool false))) (some (41 + (4 + 1) + 64)) none := by rw [hops]; first | kernel_rfl | (unfold OpAt; kernel_rfl)
theorem rs6_mv {ops : Array Oper} (hops : ops = lastOf Tryd.f15.body) : OpAt ops 47 (.move (.tmp 110)) (some (47 + 64)) none := by rw [hops]; first | kernel_rfl | (unfold OpAt; kernel_rfl)
theorem rs6 {ops : Array Oper} (hops : ops = lastOf Tryd.f15.body) {W : World → Prop} {A B : Nat} {a : Act} {w : World} (hW : W w) (hs : a.tmps.size = 157) (ha : a.tmps[2]? = some (.pointer (some ⟨A, 0, none⟩))) (hb : a.tmps[3]? = some (.pointer (some ⟨B, 0, none⟩))) {u v : Value} {r : Bool} {b : Bool} (ht : a.tmps[104]? = some (.bool b)) (la : Ld Tryd.prog W 3 (.pointer (some ⟨A, 6, none⟩)) u) (lb : Ld Tryd.prog W 3 (.pointer (some ⟨B, 6, none⟩)) v) (he : Eqv Tryd.prog 3 u v r) : Seg Tryd.prog ops 41 48 (Val W 64 111 (.bool (b && r)) a) a w := by
  refine Seg.trans (Seg.conj (c := 64) (k := 4) (r := r) (rs6_dst hops) (by decide) (rs6_grd hops) (rs6_pick hops) ht hW (by rw [hs]; decide) fun HW => ?_) ?_
  · have HG : Grd ops (some (40, true)) (41 + 64) := grd_of (rs6_dst hops) (by decide)
    exact Seg.cmp1 (rs6_ops hops) ha hb (by decide) (fld6 A) (fld6 B) la lb HW HG hW (by rw [hs]; decide) (fun a' w' hW' hw' hz hu hv => Seg.put (rs6_eq hops) hw' hW' (by rw [hz, hs]; decide) fun o ho => run_eqv ho hu hv he)
  rintro a1 w1 ⟨hW1, hl1, hv1⟩
  refine Seg.mono (Seg.move (c := 64) (rs6_mv hops) hv1 hW1 (by rw [hl1.1, hs]; decide)) ?_
  rintro a2 w2 ⟨hW2, hl2, hv2⟩
  exact ⟨hW2, (hl1.trans hl2 (by decide)).cut (by decide), hv2⟩
theorem rs7_ops {ops : Array Oper} (hops : ops = lastOf Tryd.f15.body) : Cmp1 ops 48 64 (some (47, true)) 29 22 2 3 7 := ⟨by rw [hops]; first | kernel_rfl | (unfold OpAt; kernel_rfl), by rw [hops]; first | kernel_rfl | (unfold OpAt; kernel_rfl), by rw [hops]; first | kernel_rfl | (unfold OpAt; kernel_rfl), by rw [hops]; first | kernel_rfl | (unfold OpAt; kernel_rfl)⟩
theorem rs7_eq {ops : Array Oper} (hops : ops = lastOf Tryd.f15.body) : OpAt ops (48 + 4) (.binOp .eql 22 (.tmp (48 + 1 + 64)) (.tmp (48 + 2 + 1 + 64)) 22) (some (48 + 4 + 64)) (some (47, true)) := by rw [hops]; first | kernel_rfl | (unfold OpAt; kernel_rfl)
theorem rs7_dst {ops : Array Oper} (hops : ops = lastOf Tryd.f15.body) : (ops[47]?).bind (·.dst) = some 111 := by rw [hops]; first | kernel_rfl | (unfold OpAt; kernel_rfl)
theorem rs7_grd {ops : Array Oper} (hops : ops = lastOf Tryd.f15.body) : GuardedB ops 47 64 48 (4 + 1) = true := by rw [hops]; first | kernel_rfl | (unfold OpAt; kernel_rfl)
theorem rs7_pick {ops : Array Oper} (hops : ops = lastOf Tryd.f15.body) : OpAt ops (48 + (4 + 1)) (.pick (.tmp 111) (.tmp (48 + 4 + 64)) (.const (.bool false))) (some (48 + (4 + 1) + 64)) none := by rw [hops]; first | kernel_rfl | (unfold OpAt; kernel_rfl)
theorem rs7_mv {ops : Array Oper} (hops : ops = lastOf Tryd.f15.body) : OpAt ops 54 (.move (.tmp 117)) (some (54 + 64)) none := by rw [hops]; first | kernel_rfl | (unfold OpAt; kernel_rfl)
theorem rs7 {ops : Array Oper} (hops : ops = lastOf Tryd.f15.body) {W : World → Prop} {A B : Nat} {a : Act} {w : World} (hW : W w) (hs : a.tmps.size = 157) (ha : a.tmps[2]? = some (.pointer (some ⟨A, 0, none⟩))) (hb : a.tmps[3]? = some (.pointer (some ⟨B, 0, none⟩))) {u v : Value} {r : Bool} {b : Bool} (ht : a.tmps[111]? = some (.bool b)) (la : Ld Tryd.prog W 22 (.pointer (some ⟨A, 7, none⟩)) u) (lb : Ld Tryd.prog W 22 (.pointer (some ⟨B, 7, none⟩)) v) (he : Eqv Tryd.prog 22 u v r) : Seg Tryd.prog ops 48 55 (Val W 64 118 (.bool (b && r)) a) a w := by
  refine Seg.trans (Seg.conj (c := 64) (k := 4) (r := r) (rs7_dst hops) (by decide) (rs7_grd hops) (rs7_pick hops) ht hW (by rw [hs]; decide) fun HW => ?_) ?_
  · have HG : Grd ops (some (47, true)) (48 + 64) := grd_of (rs7_dst hops) (by decide)
    exact Seg.cmp1 (rs7_ops hops) ha hb (by decide) (fld7 A) (fld7 B) la lb HW HG hW (by rw [hs]; decide) (fun a' w' hW' hw' hz hu hv => Seg.put (rs7_eq hops) hw' hW' (by rw [hz, hs]; decide) fun o ho => run_eqv ho hu hv he)
  rintro a1 w1 ⟨hW1, hl1, hv1⟩
  refine Seg.mono (Seg.move (c := 64) (rs7_mv hops) hv1 hW1 (by rw [hl1.1, hs]; decide)) ?_
  rintro a2 w2 ⟨hW2, hl2, hv2⟩
  exact ⟨hW2, (hl1.trans hl2 (by decide)).cut (by decide), hv2⟩
theorem rs8_ops {ops : Array Oper} (hops : ops = lastOf Tryd.f15.body) : Cmp1 ops 55 64 (some (54, true)) 29 2 2 3 8 := ⟨by rw [hops]; first | kernel_rfl | (unfold OpAt; kernel_rfl), by rw [hops]; first | kernel_rfl | (unfold OpAt; kernel_rfl), by rw [hops]; first | kernel_rfl | (unfold OpAt; kernel_rfl), by rw [hops]; first | kernel_rfl | (unfold OpAt; kernel_rfl)⟩
theorem rs8_eq {ops : Array Oper} (hops : ops = lastOf Tryd.f15.body) : OpAt ops (55 + 4) (.binOp .eql 2 (.tmp (55 + 1 + 64)) (.tmp (55 + 2 + 1 + 64)) 2) (some (55 + 4 + 64)) (some (54, true)) := by rw [hops]; first | kernel_rfl | (unfold OpAt; kernel_rfl)
theorem rs8_dst {ops : Array Oper} (hops : ops = lastOf Tryd.f15.body) : (ops[54]?).bind (·.dst) = some 118 := by rw [hops]; first | kernel_rfl | (unfold OpAt; kernel_rfl)
theorem rs8_grd {ops : Array Oper} (hops : ops = lastOf Tryd.f15.body) : GuardedB ops 54 64 55 (4 + 1) = true := by rw [hops]; first | kernel_rfl | (unfold OpAt; kernel_rfl)
theorem rs8_pick {ops : Array Oper} (hops : ops = lastOf Tryd.f15.body) : OpAt ops (55 + (4 + 1)) (.pick (.tmp 118) (.tmp (55 + 4 + 64)) (.const (.bool false))) (some (55 + (4 + 1) + 64)) none := by rw [hops]; first | kernel_rfl | (unfold OpAt; kernel_rfl)
theorem rs8_mv {ops : Array Oper} (hops : ops = lastOf Tryd.f15.body) : OpAt ops 61 (.move (.tmp 124)) (some (61 + 64)) none := by rw [hops]; first | kernel_rfl | (unfold OpAt; kernel_rfl)
theorem rs8 {ops : Array Oper} (hops : ops = lastOf Tryd.f15.body) {W : World → Prop} {A B : Nat} {a : Act} {w : World} (hW : W w) (hs : a.tmps.size = 157) (ha : a.tmps[2]? = some (.pointer (some ⟨A, 0, none⟩))) (hb : a.tmps[3]? = some (.pointer (some ⟨B, 0, none⟩))) {u v : Value} {r : Bool} {b : Bool} (ht : a.tmps[118]? = some (.bool b)) (la : Ld Tryd.prog W 2 (.pointer (some ⟨A, 8, none⟩)) u) (lb : Ld Tryd.prog W 2 (.pointer (some ⟨B, 8, none⟩)) v) (he : Eqv Tryd.prog 2 u v r) : Seg Tryd.prog ops 55 62 (Val W 64 125 (.bool (b && r)) a) a w := by
  refine Seg.trans (Seg.conj (c := 64) (k := 4) (r := r) (rs8_dst hops) (by decide) (rs8_grd hops) (rs8_pick hops) ht hW (by rw [hs]; decide) fun HW => ?_) ?_
  · have HG : Grd ops (some (54, true)) (55 + 64) := grd_of (rs8_dst hops) (by decide)
    exact Seg.cmp1 (rs8_ops hops) ha hb (by decide) (fld8 A) (fld8 B) la lb HW HG hW (by rw [hs]; decide) (fun a' w' hW' hw' hz hu hv => Seg.put (rs8_eq hops) hw' hW' (by rw [hz, hs]; decide) fun o ho => run_eqv ho hu hv he)
  rintro a1 w1 ⟨hW1, hl1, hv1⟩
  refine Seg.mono (Seg.move (c := 64) (rs8_mv hops) hv1 hW1 (by rw [hl1.1, hs]; decide)) ?_
  rintro a2 w2 ⟨hW2, hl2, hv2⟩
  exact ⟨hW2, (hl1.trans hl2 (by decide)).cut (by decide), hv2⟩
theorem rs9_ops {ops : Array Oper} (hops : ops = lastOf Tryd.f15.body) : Cmp1 ops 62 64 (some (61, true)) 29 24 2 3 9 := ⟨by rw [hops]; first | kernel_rfl | (unfold OpAt; kernel_rfl), by rw [hops]; first | kernel_rfl | (unfold OpAt; kernel_rfl), by rw [hops]; first | kernel_rfl | (unfold OpAt; kernel_rfl), by rw [hops]; first | kernel_rfl | (unfold OpAt; kernel_rfl)⟩
theorem rs9_eq {ops : Array Oper} (hops : ops = lastOf Tryd.f15.body) : OpAt ops (62 + 4) (.binOp .eql 24 (.tmp (62 + 1 + 64)) (.tmp (62 + 2 + 1 + 64)) 24) (some (62 + 4 + 64)) (some (61, true)) := by rw [hops]; first | kernel_rfl | (unfold OpAt; kernel_rfl)
theorem rs9_dst {ops : Array Oper} (hops : ops = lastOf Tryd.f15.body) : (ops[61]?).bind (·.dst) = some 125 := by rw [hops]; first | kernel_rfl | (unfold OpAt; kernel_rfl)
theorem rs9_grd {ops : Array Oper} (hops : ops = lastOf Tryd.f15.body) : GuardedB ops 61 64 62 (4 + 1) = true := by rw [hops]; first | kernel_rfl | (unfold OpAt; kernel_rfl)
theorem rs9_pick {ops : Array Oper} (hops : ops = lastOf Tryd.f15.body) : OpAt ops (62 + (4 + 1)) (.pick (.tmp 125) (.tmp (62 + 4 + 64)) (.const (.bool false))) (some (62 + (4 + 1) + 64)) none := by rw [hops]; first | kernel_rfl | (unfold OpAt; kernel_rfl)
theorem rs9_mv {ops : Array Oper} (hops : ops = lastOf Tryd.f15.body) : OpAt ops 68 (.move (.tmp 131)) (some (68 + 64)) none := by rw [hops]; first | kernel_rfl | (unfold OpAt; kernel_rfl)
theorem rs9 {ops : Array Oper} (hops : ops = lastOf Tryd.f15.body) {W : World → Prop} {A B : Nat} {a : Act} {w : World} (hW : W w) (hs : a.tmps.size = 157) (ha : a.tmps[2]? = some (.pointer (some ⟨A, 0, none⟩))) (hb : a.tmps[3]? = some (.pointer (some ⟨B, 0, none⟩))) {u v : Value} {r : Bool} {b : Bool} (ht : a.tmps[125]? = some (.bool b)) (la : Ld Tryd.prog W 24 (.pointer (some ⟨A, 9, none⟩)) u) (lb : Ld Tryd.prog W 24 (.pointer (some ⟨B, 9, none⟩)) v) (he : Eqv Tryd.prog 24 u v r) : Seg Tryd.prog ops 62 69 (Val W 64 132 (.bool (b && r)) a) a w := by
  refine Seg.trans (Seg.conj (c := 64) (k := 4) (r := r) (rs9_dst hops) (by decide) (rs9_grd hops) (rs9_pick hops) ht hW (by rw [hs]; decide) fun HW => ?_) ?_
  · have HG : Grd ops (some (61, true)) (62 + 64) := grd_of (rs9_dst hops) (by decide)
    exact Seg.cmp1 (rs9_ops hops) ha hb (by decide) (fld9 A) (fld9 B) la lb HW HG hW (by rw [hs]; decide) (fun a' w' hW' hw' hz hu hv => Seg.put (rs9_eq hops) hw' hW' (by rw [hz, hs]; decide) fun o ho => run_eqv ho hu hv he)
  rintro a1 w1 ⟨hW1, hl1, hv1⟩
  refine Seg.mono (Seg.move (c := 64) (rs9_mv hops) hv1 hW1 (by rw [hl1.1, hs]; decide)) ?_
  rintro a2 w2 ⟨hW2, hl2, hv2⟩
  exact ⟨hW2, (hl1.trans hl2 (by decide)).cut (by decide), hv2⟩
theorem rs10_ops {ops : Array Oper} (hops : ops = lastOf Tryd.f15.body) : Cmp2 ops 69 64 (some (68, true)) 29 27 3 2 3 10 0 := ⟨by rw [hops]; first | kernel_rfl | (unfold OpAt; kernel_rfl), by rw [hops]; first | kernel_rfl | (unfold OpAt; kernel_rfl), by rw [hops]; first | kernel_rfl | (unfold OpAt; kernel_rfl), by rw [hops]; first | kernel_rfl | (unfold OpAt; kernel_rfl), by rw [hops]; first | kernel_rfl | (unfold OpAt; kernel_rfl), by rw [hops]; first | kernel_rfl | (unfold OpAt; kernel_rfl)⟩
theorem rs10_eq {ops : Array Oper} (hops : ops = lastOf Tryd.f15.body) : OpAt ops (69 + 6) (.binOp .eql 3 (.tmp (69 + 2 + 64)) (.tmp (69 + 3 + 2 + 64)) 3) (some (69 + 6 + 64)) (some (68, true)) := by rw [hops]; first | kernel_rfl | (unfold OpAt; kernel_rfl)
theorem rs10_dst {ops : Array Oper} (hops : ops = lastOf Tryd.f15.body) : (ops[68]?).bind (·.dst) = some 132 := by rw [hops]; first | kernel_rfl | (unfold OpAt; kernel_rfl)
theorem rs10_grd {ops : Array Oper} (hops : ops = lastOf Tryd.f15.body) : GuardedB ops 68 64 69 (6 + 1) = true := by rw [hops]; first | kernel_rfl | (unfold OpAt; kernel_rfl)
theorem rs10_pick {ops : Array Oper} (hops : ops = lastOf Tryd.f15.body) : OpAt ops (69 + (6 + 1)) (.pick (.tmp 132) (.tmp (69 + 6 + 64)) (.const (.bool false))) (some (69 + (6 + 1) + 64)) none := by rw [hops]; first | kernel_rfl | (unfold OpAt; kernel_rfl)
theorem rs10_mv {ops : Array Oper} (hops : ops = lastOf Tryd.f15.body) : OpAt ops 77 (.move (.tmp 140)) (some (77 + 64)) none := by rw [hops]; first | kernel_rfl | (unfold OpAt; kernel_rfl)
theorem rs10 {ops : Array Oper} (hops : ops = lastOf Tryd.f15.body) {W : World → Prop} {A B : Nat} {a : Act} {w : World} (hW : W w) (hs : a.tmps.size = 157) (ha : a.tmps[2]? = some (.pointer (some ⟨A, 0, none⟩))) (hb : a.tmps[3]? = some (.pointer (some ⟨B, 0, none⟩))) {u v : Value} {r : Bool} {b : Bool} (ht : a.tmps[132]? = some (.bool b)) (la : Ld Tryd.prog W 3 (.pointer (some ⟨A, 17, none⟩)) u) (lb : Ld Tryd.prog W 3 (.pointer (some ⟨B, 17, none⟩)) v) (he : Eqv Tryd.prog 3 u v r) : Seg Tryd.prog ops 69 78 (Val W 64 141 (.bool (b && r)) a) a w := by
  refine Seg.trans (Seg.conj (c := 64) (k := 6) (r := r) (rs10_dst hops) (by decide) (rs10_grd hops) (rs10_pick hops) ht hW (by rw [hs]; decide) fun HW => ?_) ?_
  · have HG : Grd ops (some (68, true)) (69 + 64) := grd_of (rs10_dst hops) (by decide)
    exact Seg.cmp2 (rs10_ops hops) ha hb (by decide) (fld10 A) (fld10 B) (fldT0 A) (fldT0 B) la lb HW HG hW (by rw [hs]; decide) (fun a' w' hW' hw' hz hu hv => Seg.put (rs10_eq hops) hw' hW' (by rw [hz, hs]; decide) fun o ho => run_eqv ho hu hv he)
  rintro a1 w1 ⟨hW1, hl1, hv1⟩
  refine Seg.mono (Seg.move (c := 64) (rs10_mv hops) hv1 hW1 (by rw [hl1.1, hs]; decide)) ?_
  rintro a2 w2 ⟨hW2, hl2, hv2⟩
  exact ⟨hW2, (hl1.trans hl2 (by decide)).cut (by decide), hv2⟩
theorem rs11_ops {ops : Array Oper} (hops : ops = lastOf Tryd.f15.body) : Cmp2 ops 78 64 (some (77, true)) 29 27 3 2 3 10 1 := ⟨by rw [hops]; first | kernel_rfl | (unfold OpAt; kernel_rfl), by rw [hops]; first | kernel_rfl | (unfold OpAt; kernel_rfl), by rw [hops]; first | kernel_rfl | (unfold OpAt; kernel_rfl), by rw [hops]; first | kernel_rfl | (unfold OpAt; kernel_rfl), by rw [hops]; first | kernel_rfl | (unfold OpAt; kernel_rfl), by rw [hops]; first | kernel_rfl | (unfold OpAt; kernel_rfl)⟩
theorem rs11_eq {ops : Array Oper} (hops : ops = lastOf Tryd.f15.body) : OpAt ops (78 + 6) (.binOp .eql 3 (.tmp (78 + 2 + 64)) (.tmp (78 + 3 + 2 + 64)) 3) (some (78 + 6 + 64)) (some (77, true)) := by rw [hops]; first | kernel_rfl | (unfold OpAt; kernel_rfl)
theorem rs11_dst {ops : Array Oper} (hops : ops = lastOf Tryd.f15.body) : (ops[77]?).bind (·.dst) = some 141 := by rw [hops]; first | kernel_rfl | (unfold OpAt; kernel_rfl)
theorem rs11_grd {ops : Array Oper} (hops : ops = lastOf Tryd.f15.body) : GuardedB ops 77 64 78 (6 + 1) = true := by rw [hops]; first | kernel_rfl | (unfold OpAt; kernel_rfl)
theorem rs11_pick {ops : Array Oper} (hops : ops = lastOf Tryd.f15.body) : OpAt ops (78 + (6 + 1)) (.pick (.tmp 141) (.tmp (78 + 6 + 64)) (.const (.bool false))) (some (78 + (6 + 1) + 64)) none := by rw [hops]; first | kernel_rfl | (unfold OpAt; kernel_rfl)
theorem rs11_mv {ops : Array Oper} (hops : ops = lastOf Tryd.f15.body) : OpAt ops 86 (.move (.tmp 149)) (some (86 + 64)) none := by rw [hops]; first | kernel_rfl | (unfold OpAt; kernel_rfl)
theorem rs11 {ops : Array Oper} (hops : ops = lastOf Tryd.f15.body) {W : World → Prop} {A B : Nat} {a : Act} {w : World} (hW : W w) (hs : a.tmps.size = 157) (ha : a.tmps[2]? = some (.pointer (some ⟨A, 0, none⟩))) (hb : a.tmps[3]? = some (.pointer (some ⟨B, 0, none⟩))) {u v : Value} {r : Bool} {b : Bool} (ht : a.tmps[141]? = some (.bool b)) (la : Ld Tryd.prog W 3 (.pointer (some ⟨A, 18, none⟩)) u) (lb : Ld Tryd.prog W 3 (.pointer (some ⟨B, 18, none⟩)) v) (he : Eqv Tryd.prog 3 u v r) : Seg Tryd.prog ops 78 87 (Val W 64 150 (.bool (b && r)) a) a w := by
  refine Seg.trans (Seg.conj (c := 64) (k := 6) (r := r) (rs11_dst hops) (by decide) (rs11_grd hops) (rs11_pick hops) ht hW (by rw [hs]; decide) fun HW => ?_) ?_
  · have HG : Grd ops (some (77, true)) (78 + 64) := grd_of (rs11_dst hops) (by decide)
    exact Seg.cmp2 (rs11_ops hops) ha hb (by decide) (fld10 A) (fld10 B) (fldT1 A) (fldT1 B) la lb HW HG hW (by rw [hs]; decide) (fun a' w' hW' hw' hz hu hv => Seg.put (rs11_eq hops) hw' hW' (by rw [hz, hs]; decide) fun o ho => run_eqv ho hu hv he)
  rintro a1 w1 ⟨hW1, hl1, hv1⟩
  refine Seg.mono (Seg.move (c := 64) (rs11_mv hops) hv1 hW1 (by rw [hl1.1, hs]; decide)) ?_
  rintro a2 w2 ⟨hW2, hl2, hv2⟩
  exact ⟨hW2, (hl1.trans hl2 (by decide)).cut (by decide), hv2⟩
theorem rs12_ops {ops : Array Oper} (hops : ops = lastOf Tryd.f15.body) : Cmp1 ops 87 64 (some (86, true)) 29 9 2 3 12 := ⟨by rw [hops]; first | kernel_rfl | (unfold OpAt; kernel_rfl), by rw [hops]; first | kernel_rfl | (unfold OpAt; kernel_rfl), by rw [hops]; first | kernel_rfl | (unfold OpAt; kernel_rfl), by rw [hops]; first | kernel_rfl | (unfold OpAt; kernel_rfl)⟩
theorem rs12_eq {ops : Array Oper} (hops : ops = lastOf Tryd.f15.body) : OpAt ops (87 + 4) (.binOp .eql 9 (.tmp (87 + 1 + 64)) (.tmp (87 + 2 + 1 + 64)) 9) (some (87 + 4 + 64)) (some (86, true)) := by rw [hops]; first | kernel_rfl | (unfold OpAt; kernel_rfl)
theorem rs12_dst {ops : Array Oper} (hops : ops = lastOf Tryd.f15.body) : (ops[86]?).bind (·.dst) = some 150 := by rw [hops]; first | kernel_rfl | (unfold OpAt; kernel_rfl)
theorem rs12_grd {ops : Array Oper} (hops : ops = lastOf Tryd.f15.body) : GuardedB ops 86 64 87 (4 + 1) = true := by rw [hops]; first | kernel_rfl | (unfold OpAt; kernel_rfl)
theorem rs12_pick {ops : Array Oper} (hops : ops = lastOf Tryd.f15.body) : OpAt ops (87 + (4 + 1)) (.pick (.tmp 150) (.tmp (87 + 4 + 64)) (.const (.bool false))) (some (87 + (4 + 1) + 64)) none := by rw [hops]; first | kernel_rfl | (unfold OpAt; kernel_rfl)
theorem rs12_as {ops : Array Oper} (hops : ops = lastOf Tryd.f15.body) : OpAt ops 93 (.assign (.tmp 156)) (some 4) none := by rw [hops]; first | kernel_rfl | (unfold OpAt; kernel_rfl)
theorem rs12 {ops : Array Oper} (hops : ops = lastOf Tryd.f15.body) {W : World → Prop} {A B : Nat} {a : Act} {w : World} (hW : W w) (hs : a.tmps.size = 157) (ha : a.tmps[2]? = some (.pointer (some ⟨A, 0, none⟩))) (hb : a.tmps[3]? = some (.pointer (some ⟨B, 0, none⟩))) {u v : Value} {r : Bool} {b : Bool} (ht : a.tmps[150]? = some (.bool b)) (la : Ld Tryd.prog W 9 (.pointer (some ⟨A, 21, none⟩)) u) (lb : Ld Tryd.prog W 9 (.pointer (some ⟨B, 21, none⟩)) v) (he : Eqv Tryd.prog 9 u v r) : Seg Tryd.prog ops 87 94 (fun a' w' => W w' ∧ a'.defers = a.defers ∧ a'.tmps[4]? = some (.bool (b && r))) a w := by
  refine Seg.trans (Seg.conj (c := 64) (k := 4) (r := r) (rs12_dst hops) (by decide) (rs12_grd hops) (rs12_pick hops) ht hW (by rw [hs]; decide) fun HW => ?_) ?_
  · have HG : Grd ops (some (86, true)) (87 + 64) := grd_of (rs12_dst hops) (by decide)
    exact Seg.cmp1 (rs12_ops hops) ha hb (by decide) (fld12 A) (fld12 B) la lb HW HG hW (by rw [hs]; decide) (fun a' w' hW' hw' hz hu hv => Seg.put (rs12_eq hops) hw' hW' (by rw [hz, hs]; decide) fun o ho => run_eqv ho hu hv he)
  rintro a1 w1 ⟨hW1, hl1, hv1⟩
  refine Seg.value (rs12_as hops) trivial (fun o ho => by simp [execOp, ho, eval_tmp hv1]) ⟨hW1, hl1.2.1, put_same _ (by rw [hl1.1, hs]; decide)⟩
theorem rs_size {ops : Array Oper} (hops : ops = lastOf Tryd.f15.body) : ops.size = 94 := by rw [hops]; first | kernel_rfl | (unfold OpAt; kernel_rfl)
/-- The whole row. -/
theorem rs_all (m n : MsgV) (a1 a2 b1 b2 : Option Addr) (ac1 ac2 bc1 bc2 : Nat) {ops : Array Oper} (hops : ops = lastOf Tryd.f15.body) {W : World → Prop} {A B : Nat} (hB : ∀ w', W w' → Both w' A B (msgCells m a1 ac1 a2 ac2) (msgCells n b1 bc1 b2 bc2)) {a0 : Act} {w : World} (hW0 : W w) (hs0 : a0.tmps.size = 157) (hA0 : a0.tmps[2]? = some (.pointer (some ⟨A, 0, none⟩))) (hB0 : a0.tmps[3]? = some (.pointer (some ⟨B, 0, none⟩))) :
    Seg Tryd.prog ops 0 94 (fun a' w' => W w' ∧ a'.defers = a0.defers ∧ a'.tmps[4]? = some (.bool (same13 m n))) a0 w := by
  have hd0 : a0.defers = a0.defers := rfl
  refine Seg.trans (rs0 hops hW0 hs0 hA0 hB0 (fun w' h => ld_u8 ((hB w' h).ca (i := 0) rfl)) (fun w' h => ld_u8 ((hB w' h).cb (i := 0) rfl)) (eqv_kind _ _)) ?_
  rintro a1 w1 ⟨hW1, hl1, hv1⟩
  have hs1 := hl1.1.trans hs0
  have hA1 := (hl1.2.2 2 (by decide)).trans hA0
  have hB1 := (hl1.2.2 3 (by decide)).trans hB0
  have hd1 := hl1.2.1.trans hd0
  refine Seg.trans (rs1 hops hW1 hs1 hA1 hB1 hv1 (fun w' h => ld_int ((hB w' h).ca (i := 1) rfl)) (fun w' h => ld_int ((hB w' h).cb (i := 1) rfl)) (eqv_int _ _)) ?_
  rintro a2 w2 ⟨hW2, hl2, hv2⟩
  have hs2 := hl2.1.trans hs1
  have hA2 := (hl2.2.2 2 (by decide)).trans hA1
  have hB2 := (hl2.2.2 3 (by decide)).trans hB1
  have hd2 := hl2.2.1.trans hd1
  refine Seg.trans (rs2 hops hW2 hs2 hA2 hB2 hv2 (fun w' h => ld_int ((hB w' h).ca (i := 2) rfl)) (fun w' h => ld_int ((hB w' h).cb (i := 2) rfl)) (eqv_int _ _)) ?_
  rintro a3 w3 ⟨hW3, hl3, hv3⟩
  have hs3 := hl3.1.trans hs2
  have hA3 := (hl3.2.2 2 (by decide)).trans hA2
  have hB3 := (hl3.2.2 3 (by decide)).trans hB2
  have hd3 := hl3.2.1.trans hd2
  refine Seg.trans (rs3 hops hW3 hs3 hA3 hB3 hv3 (fun w' h => ld_int ((hB w' h).ca (i := 3) rfl)) (fun w' h => ld_int ((hB w' h).cb (i := 3) rfl)) (eqv_int _ _)) ?_
  rintro a4 w4 ⟨hW4, hl4, hv4⟩
  have hs4 := hl4.1.trans hs3
  have hA4 := (hl4.2.2 2 (by decide)).trans hA3
  have hB4 := (hl4.2.2 3 (by decide)).trans hB3
  have hd4 := hl4.2.1.trans hd3
  refine Seg.trans (rs4 hops hW4 hs4 hA4 hB4 hv4 (fun w' h => ld_int ((hB w' h).ca (i := 4) rfl)) (fun w' h => ld_int ((hB w' h).cb (i := 4) rfl)) (eqv_int _ _)) ?_
  rintro a5 w5 ⟨hW5, hl5, hv5⟩
  have hs5 := hl5.1.trans hs4
  have hA5 := (hl5.2.2 2 (by decide)).trans hA4
  have hB5 := (hl5.2.2 3 (by decide)).trans hB4
  have hd5 := hl5.2.1.trans hd4
  refine Seg.trans (rs5 hops hW5 hs5 hA5 hB5 hv5 (fun w' h => ld_int ((hB w' h).ca (i := 5) rfl)) (fun w' h => ld_int ((hB w' h).cb (i := 5) rfl)) (eqv_int _ _)) ?_
  rintro a6 w6 ⟨hW6, hl6, hv6⟩
  have hs6 := hl6.1.trans hs5
  have hA6 := (hl6.2.2 2 (by decide)).trans hA5
  have hB6 := (hl6.2.2 3 (by decide)).trans hB5
  have hd6 := hl6.2.1.trans hd5
  refine Seg.trans (rs6 hops hW6 hs6 hA6 hB6 hv6 (fun w' h => ld_int ((hB w' h).ca (i := 6) rfl)) (fun w' h => ld_int ((hB w' h).cb (i := 6) rfl)) (eqv_int _ _)) ?_
  rintro a7 w7 ⟨hW7, hl7, hv7⟩
  have hs7 := hl7.1.trans hs6
  have hA7 := (hl7.2.2 2 (by decide)).trans hA6
  have hB7 := (hl7.2.2 3 (by decide)).trans hB6
  have hd7 := hl7.2.1.trans hd6
  refine Seg.trans (rs7 hops hW7 hs7 hA7 hB7 hv7 (fun w' h => ld_u64 ((hB w' h).ca (i := 7) rfl)) (fun w' h => ld_u64 ((hB w' h).cb (i := 7) rfl)) (eqv_dig _ _)) ?_
  rintro a8 w8 ⟨hW8, hl8, hv8⟩
  have hs8 := hl8.1.trans hs7
  have hA8 := (hl8.2.2 2 (by decide)).trans hA7
  have hB8 := (hl8.2.2 3 (by decide)).trans hB7
  have hd8 := hl8.2.1.trans hd7
  refine Seg.trans (rs8 hops hW8 hs8 hA8 hB8 hv8 (fun w' h => ld_i64 ((hB w' h).ca (i := 8) rfl)) (fun w' h => ld_i64 ((hB w' h).cb (i := 8) rfl)) (eqv_i64 _ _)) ?_
  rintro a9 w9 ⟨hW9, hl9, hv9⟩
  have hs9 := hl9.1.trans hs8
  have hA9 := (hl9.2.2 2 (by decide)).trans hA8
  have hB9 := (hl9.2.2 3 (by decide)).trans hB8
  have hd9 := hl9.2.1.trans hd8
  refine Seg.trans (rs9 hops hW9 hs9 hA9 hB9 hv9 (fun w' h => run_loadAt_mid w' A 9 24 (itemCells m.item) _ (range_item (hB w' h).ra) Tryd.underlying24 rfl (by kernel_rfl)) (fun w' h => run_loadAt_mid w' B 9 24 (itemCells n.item) _ (range_item (hB w' h).rb) Tryd.underlying24 rfl (by kernel_rfl)) (eqv_item _ _)) ?_
  rintro a10 w10 ⟨hW10, hl10, hv10⟩
  have hs10 := hl10.1.trans hs9
  have hA10 := (hl10.2.2 2 (by decide)).trans hA9
  have hB10 := (hl10.2.2 3 (by decide)).trans hB9
  have hd10 := hl10.2.1.trans hd9
  refine Seg.trans (rs10 hops hW10 hs10 hA10 hB10 hv10 (fun w' h => ld_int ((hB w' h).ca (i := 17) rfl)) (fun w' h => ld_int ((hB w' h).cb (i := 17) rfl)) (eqv_int _ _)) ?_
  rintro a11 w11 ⟨hW11, hl11, hv11⟩
  have hs11 := hl11.1.trans hs10
  have hA11 := (hl11.2.2 2 (by decide)).trans hA10
  have hB11 := (hl11.2.2 3 (by decide)).trans hB10
  have hd11 := hl11.2.1.trans hd10
  refine Seg.trans (rs11 hops hW11 hs11 hA11 hB11 hv11 (fun w' h => ld_int ((hB w' h).ca (i := 18) rfl)) (fun w' h => ld_int ((hB w' h).cb (i := 18) rfl)) (eqv_int _ _)) ?_
  rintro a12 w12 ⟨hW12, hl12, hv12⟩
  have hs12 := hl12.1.trans hs11
  have hA12 := (hl12.2.2 2 (by decide)).trans hA11
  have hB12 := (hl12.2.2 3 (by decide)).trans hB11
  have hd12 := hl12.2.1.trans hd11
  refine Seg.mono (rs12 hops hW12 hs12 hA12 hB12 hv12 (fun w' h => ld_str ((hB w' h).ca (i := 21) rfl)) (fun w' h => ld_str ((hB w' h).cb (i := 21) rfl)) (eqv_str _ _)) ?_
  rintro a13 w13 ⟨hW13, hd13, hv13⟩
  exact ⟨hW13, hd13.trans hd12, hv13⟩
end Go.Proofs.YtkbmbcmcnpeabaaDoor

namespace Go.Proofs.YtkbmbcmcnpeabaaDoor
open Pk Go.RowKit

theorem list_parts {a b : List Int} (h : a.length = b.length) : a = b ↔ ∀ i, i < a.length → a.getD i 0 = b.getD i 0 := by
  constructor
  · rintro rfl i _; rfl
  · intro h'
    apply List.ext_getElem h
    intro i h1 h2
    have := h' i h1
    rwa [List.getD_eq_getElem?_getD, List.getD_eq_getElem?_getD, List.getElem?_eq_getElem h1, List.getElem?_eq_getElem h2] at this
theorem same13_iff (m n : MsgV) (h1 : m.owner = n.owner) (h2 : m.set = n.set) : same13 m n = sameMsg m n := by
  unfold same13 sameMsg
  rw [decide_eq_true h1, decide_eq_true h2]
  simp only [Bool.and_true]
theorem moved_drewN {w w' : World} (h : Moved (fun _ => False) w w') (n : Nat) : Moved (fun _ => False) w (w'.drewN n) := ⟨h.os, h.tape, h.output, h.size, h.block⟩
theorem sameMsg_no {m n : MsgV} (h : m ≠ n) : sameMsg m n = false := by
  cases e : sameMsg m n
  · rfl
  · exact absurd ((sameMsg_iff m n).1 e) h
set_option maxRecDepth 100000 in
set_option maxHeartbeats 20000000 in
theorem refsame_any (m n : MsgV) (a1 a2 b1 b2 : Option Addr) (ac1 ac2 bc1 bc2 : Nat) (w : World) (ha1 : Ints w a1 m.owner) (ha2 : Ints w a2 m.set) (hb1 : Ints w b1 n.owner) (hb2 : Ints w b2 n.set)
    (l1 : m.owner.length ≤ maxLen) (l2 : m.set.length ≤ maxLen) (l3 : n.owner.length ≤ maxLen) (l4 : n.set.length ≤ maxLen) :
    Calls Tryd.prog 15 #[.agg (msgCells m a1 ac1 a2 ac2).toArray, .agg (msgCells n b1 bc1 b2 bc2).toArray] w fun e w' => e = .returned (.bool (sameMsg m n)) ∧ Moved (fun _ => False) w w' := by
  unfold maxLen at l1 l2 l3 l4
  obtain ⟨A, hA⟩ : ∃ A, A = w.heap.size := ⟨_, rfl⟩
  obtain ⟨w0, hw0⟩ : ∃ w0, w0 = (w.alloc (.cells (msgCells m a1 ac1 a2 ac2).toArray 29)).alloc (.cells (msgCells n b1 bc1 b2 bc2).toArray 29) := ⟨_, rfl⟩
  have B0 : Moved (fun _ => False) w w0 := by rw [hw0]; exact ((Moved.refl _ _).alloc _).alloc _
  have R1 : RowAt w0 A (msgCells m a1 ac1 a2 ac2) := by rw [hw0, hA]; exact row_old (row_new _ _ _) _
  have R2 : RowAt w0 (A + 1) (msgCells n b1 bc1 b2 bc2) := by rw [hw0, hA]; exact row_new2 _ _ _ _ _
  have HA1 := hide (ha1.keep B0 fun _ _ => id)
  have HA2 := hide (ha2.keep B0 fun _ _ => id)
  have HB1 := hide (hb1.keep B0 fun _ _ => id)
  have HB2 := hide (hb2.keep B0 fun _ _ => id)
  have B := hide B0
  have c19 : w0.cell? ⟨A, 19, none⟩ = some (.slice a1 m.owner.length ac1) := R1.cell 19 (show 19 < 22 by decide)
  have d19 : w0.cell? ⟨A + 1, 19, none⟩ = some (.slice b1 n.owner.length bc1) := R2.cell 19 (show 19 < 22 by decide)
  have c20 : w0.cell? ⟨A, 20, none⟩ = some (.slice a2 m.set.length ac2) := R1.cell 20 (show 20 < 22 by decide)
  have d20 : w0.cell? ⟨A + 1, 20, none⟩ = some (.slice b2 n.set.length bc2) := R2.cell 20 (show 20 < 22 by decide)
  have RR := hide (And.intro R1 R2)
  have HW := hide hw0
  have HAA := hide hA
  clear ha1 ha2 hb1 hb2 B0 R1 R2 hw0 hA
  have HL := hide (And.intro l1 (And.intro l2 (And.intro l3 l4)))
  by_cases hs : m.set.length = n.set.length
  · by_cases ho : m.owner.length = n.owner.length
    · have es : (((m.set.length : Nat) : Int) != ((n.set.length : Nat) : Int)) = false := by simp; omega
      have eo : (((m.owner.length : Nat) : Int) != ((n.owner.length : Nat) : Int)) = false := by simp; omega
      have HS := hide (And.intro hs ho)
      clear hs ho
      go_enter Tryd.func15, Tryd.ntmps15
      go_upto_region 1 with fail
      rw [← unhide HAA, ← unhide HW]
      generalize hLs : m.set.length = ls at *
      generalize hLo : m.owner.length = lo at *
      generalize hMs : n.set.length = ms at *
      generalize hMo : n.owner.length = mo at *
      have HLen := hide (And.intro hLs (And.intro hLo (And.intro hMs hMo)))
      clear hLs hLo hMs hMo
      go_wp2_with fail
      go_loopw [5] (fun i wr => ∃ j d : Nat, j ≤ ls ∧ i = .int .i64 (j : Int) ∧ wr = w0.drewN d ∧ ∀ q, q < j → m.set.getD q 0 = n.set.getD q 0) (fun i _ => ls - (intOf i).toNat)
      case atStart => exact ⟨0, 0, by omega, rfl, rfl, fun q hq => by omega⟩
      case round =>
        obtain ⟨j, d, hj, rfl, rfl, hall⟩ := hrel
        have HAll5 := hide hall
        clear hall
        by_cases hlt : j < ls
        · obtain ⟨x, hx, hcx⟩ := unhide HA2 j (by rw [(unhide HLen).1]; exact hlt)
          obtain ⟨y, hy, hcy⟩ := unhide HB2 j (by rw [(unhide HLen).2.2.1, ← (unhide HS).1]; exact hlt)
          subst hx
          subst hy
          have hlt2 : (j : Int) < (ms : Int) := by have := unhide HS; omega
          generalize hu : m.set.getD j 0 = u at *
          generalize hv : n.set.getD j 0 = v at *
          have HUV := hide (And.intro hu hv)
          clear hu hv
          have hcx' : (w0.drewN d).cell? (x.add j) = some (.int .i64 u) := hcx
          have hcy' : (w0.drewN d).cell? (y.add j) = some (.int .i64 v) := hcy
          by_cases he : u = v
          · subst he
            go_wp2_with fail
            go_quiet (fail)
            go_wp2_with fail
            go_roundw
            case rel =>
              refine ⟨j + 1, d + nq, by omega, by go_num, by first | rfl | (rw [World.drewN_drewN]) | (simp [World.drewN, Nat.add_assoc]), fun q hq => ?_⟩
              by_cases hqj : q = j
              · subst hqj; rw [(unhide HUV).1, (unhide HUV).2]
              · exact unhide HAll5 q (by omega)
            case measure => simp [intOf]; omega
          · have hne : (u != v) = true := by simpa using he
            have HNE := hide (sameMsg_no (m := m) (n := n) fun h => he (by rw [← (unhide HUV).1, ← (unhide HUV).2, h]))
            go_wp2_with fail
            go_quiet (fail)
            go_wp2_with fail
            go_ret
            exact ⟨by rw [unhide HNE]; rfl, moved_drewN (moved_drewN (unhide B) d) nq⟩
        · have hjl : j = ls := by omega
          have HJ := hide hjl
          clear hjl
          go_wp2_with fail
          go_loopw [6] (fun i wr => ∃ j d : Nat, j ≤ lo ∧ i = .int .i64 (j : Int) ∧ wr = w0.drewN d ∧ ∀ q, q < j → m.owner.getD q 0 = n.owner.getD q 0) (fun i _ => lo - (intOf i).toNat)
          case atStart => exact ⟨0, d, by omega, rfl, rfl, fun q hq => by omega⟩
          case round =>
            obtain ⟨k, d2, hk, rfl, rfl, hall⟩ := hrel
            have HAll6 := hide hall
            clear hall
            by_cases hlt6 : k < lo
            · obtain ⟨x, hx, hcx⟩ := unhide HA1 k (by rw [(unhide HLen).2.1]; exact hlt6)
              obtain ⟨y, hy, hcy⟩ := unhide HB1 k (by rw [(unhide HLen).2.2.2, ← (unhide HS).2]; exact hlt6)
              subst hx
              subst hy
              have hlt2 : (k : Int) < (mo : Int) := by have := unhide HS; omega
              generalize hu : m.owner.getD k 0 = u at *
              generalize hv : n.owner.getD k 0 = v at *
              have HUV := hide (And.intro hu hv)
              clear hu hv
              have hcx' : (w0.drewN d2).cell? (x.add k) = some (.int .i64 u) := hcx
              have hcy' : (w0.drewN d2).cell? (y.add k) = some (.int .i64 v) := hcy
              by_cases he : u = v
              · subst he
                go_wp2_with fail
                go_quiet (fail)
                go_wp2_with fail
                go_roundw
                case rel =>
                  refine ⟨k + 1, d2 + nq, by omega, by go_num, by first | rfl | (rw [World.drewN_drewN]) | (simp [World.drewN, Nat.add_assoc]), fun q hq => ?_⟩
                  by_cases hqj : q = k
                  · subst hqj; rw [(unhide HUV).1, (unhide HUV).2]
                  · exact unhide HAll6 q (by omega)
                case measure => simp [intOf]; omega
              · have hne : (u != v) = true := by simpa using he
                have HNE := hide (sameMsg_no (m := m) (n := n) fun h => he (by rw [← (unhide HUV).1, ← (unhide HUV).2, h]))
                go_wp2_with fail
                go_quiet (fail)
                go_wp2_with fail
                go_ret
                exact ⟨by rw [unhide HNE]; rfl, moved_drewN (moved_drewN (unhide B) d2) nq⟩
            · have hkl : k = lo := by omega
              have HK := hide hkl
              clear hkl
              have e1 : m.set = n.set := (list_parts (by have := unhide HS; have := unhide HLen; omega)).2 (fun q hq => unhide HAll5 q (by have := unhide HJ; have := (unhide HLen).1; omega))
              have e2 : m.owner = n.owner := (list_parts (by have := unhide HS; have := unhide HLen; omega)).2 (fun q hq => unhide HAll6 q (by have := unhide HK; have := (unhide HLen).2.1; omega))
              have E := hide (same13_iff m n e2 e1)
              have hseg := fun (a0 : Act) (hs0 : a0.tmps.size = 157) (hA0 : a0.tmps[2]? = some (.pointer (some ⟨A, 0, none⟩))) (hB0 : a0.tmps[3]? = some (.pointer (some ⟨A + 1, 0, none⟩))) (ops : Array Oper) (hops : ops = lastOf Tryd.f15.body) (hd0 : a0.defers = []) =>
                Seg.mono (D := fun a' w' => Moved (fun _ => False) w0 w' ∧ a'.defers = [] ∧ a'.tmps[4]? = some (.bool (same13 m n))) (rs_all m n a1 a2 b1 b2 ac1 ac2 bc1 bc2 hops (W := fun w' => Moved (fun _ => False) w0 w') (fun w' h => Both.keep ⟨(unhide RR).1, (unhide RR).2⟩ h) (a0 := a0) (w := w0.drewN d2) (moved_drewN (Moved.refl _ _) d2) hs0 hA0 hB0) fun a' w' ⟨h1, h2, h3⟩ => ⟨h1, h2.trans hd0, h3⟩
              have SG := hide hseg
              clear e1 e2 c20 d20 d19 hseg
              go_upto_region 13 with fail
              refine wp_region ?_
              refine ops_all (C := fun a' w' => Moved (fun _ => False) w0 w' ∧ a'.defers = [] ∧ a'.tmps[4]? = some (.bool (same13 m n))) ?_ (unhide SG _ ?_ ?_ ?_ _ ?_ ?_) ?_
              · kernel_rfl
              · rfl
              · rfl
              · rfl
              · kernel_rfl
              · rfl
              · rintro a' w' ⟨hWf, hdf, hvf⟩
                refine ‹∀ (a : Act) (w : World), Code.wp Tryd.prog Code.ret _ a w → _› a' w' ?_
                refine wp_ret ⟨hdf, .bool (same13 m n), ?_, ?_, (unhide B).trans hWf fun _ f => f.elim⟩
                · simp [results, Tryd.results15, hvf]
                · rw [unhide E]
    · have HNE := hide (sameMsg_no (m := m) (n := n) fun h => ho (by rw [h]))
      have es : (((m.set.length : Nat) : Int) != ((n.set.length : Nat) : Int)) = false := by simp; omega
      have eo : (((m.owner.length : Nat) : Int) != ((n.owner.length : Nat) : Int)) = true := by simp; omega
      clear hs ho
      go_enter Tryd.func15, Tryd.ntmps15
      go_upto_region 1 with fail
      rw [← unhide HAA, ← unhide HW]
      go_wp2_with fail
      go_ret
      exact ⟨by rw [unhide HNE]; rfl, unhide B⟩
  · have HNE := hide (sameMsg_no (m := m) (n := n) fun h => hs (by rw [h]))
    have es : (((m.set.length : Nat) : Int) != ((n.set.length : Nat) : Int)) = true := by simp; omega
    clear hs
    go_enter Tryd.func15, Tryd.ntmps15
    go_upto_region 1 with fail
    rw [← unhide HAA, ← unhide HW]
    go_wp2_with fail
    go_ret
    exact ⟨by rw [unhide HNE]; rfl, unhide B⟩
end Go.Proofs.YtkbmbcmcnpeabaaDoor

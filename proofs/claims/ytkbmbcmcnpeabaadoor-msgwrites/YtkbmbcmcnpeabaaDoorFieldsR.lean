/- What the program's fields does through its reader, a kind at a time. No conditions. -/
import Derived.Test.YtkbmbcmcnpeabaaDoorFr
namespace Go.Proofs.YtkbmbcmcnpeabaaDoor
open Pk Go.RowKit

/-- A reader behind which a whole message lies in memory. -/
def RMsg (w0 w : World) (r x B : Nat) (s : ByteArray) (m : MsgV) (k : Nat) : Prop := ∃ a c a2 c2, RSt w0 w r x B (msgCells m a c a2 c2) s k ∧ Ints w a m.owner ∧ Ints w a2 m.set ∧ (∀ y, a = some y → w0.heap.size ≤ y.block) ∧ (∀ y, a2 = some y → w0.heap.size ≤ y.block)
theorem ints_nil (w : World) (a : Option Addr) : Ints w a [] := fun i hi => by simp at hi

set_option maxHeartbeats 4000000 in
set_option maxRecDepth 100000 in
theorem fields_r1 {w0 w : World} {r x B : Nat} {s : ByteArray} {k : Nat} (h : RSt w0 w r x B (msgCells { MsgV.zero with kind := 1 } none 0 none 0) s k) :
    Calls Tryd.prog 22 #[sr r, .int .u8 1, .pointer (some ⟨B, 0, none⟩)] w (RdR b1 s k (fun i => i = x ∨ i = B) w0 fun m k' w' => RMsg w0 w' r x B s m k') := by
  have hlen : (msgCells { MsgV.zero with kind := 1 } none 0 none 0).length = 22 := rfl
  generalize hv : msgCells { MsgV.zero with kind := 1 } none 0 none 0 = vs at *
  have HV := hide hv
  have HS0 := hide h
  have HD0 := hide h.drew
  clear h hv
  unfold sr
  go_enter Tryd.func22, Tryd.ntmps22
  go_wp2_with fail
  refine (item_r (unhide HS0) 9 (by first | omega | (simp only [List.length_set]; omega))).mono ?_
  rintro e w1 hh
  rcases hh with ⟨a0, t0, hd, rfl, hs⟩ | ⟨c, hd, hc, rfl, hm⟩
  rotate_left
  · have HE := hide hd
    have HC := hide hc
    have HM := hide hm
    clear hd hc hm
    go_wp2_with fail
    exact ⟨rfl, RdR.map (RdR.stop1 (unhide HE) (unhide HC) (unhide HM))⟩
  have HS1 := hide hs
  have HD1 := hide hs.drew
  have E0 := hide hd
  clear hs hd
  go_wp2_with fail
  go_end0
  refine RdR.map (RdR.done (unhide E0) ?_)
  have hv := unhide HV
  subst hv
  exact ⟨none, 0, none, 0, unhide HS1, ints_nil _ _, ints_nil _ _, (fun _ h => by cases h), (fun _ h => by cases h)⟩

set_option maxHeartbeats 4000000 in
set_option maxRecDepth 100000 in
theorem fields_r2 {w0 w : World} {r x B : Nat} {s : ByteArray} {k : Nat} (h : RSt w0 w r x B (msgCells { MsgV.zero with kind := 2 } none 0 none 0) s k) :
    Calls Tryd.prog 22 #[sr r, .int .u8 2, .pointer (some ⟨B, 0, none⟩)] w (RdR b2 s k (fun i => i = x ∨ i = B) w0 fun m k' w' => RMsg w0 w' r x B s m k') := by
  have ha_number := rahead_number r
  have hm_number := rmeth_number r
  have hlen : (msgCells { MsgV.zero with kind := 2 } none 0 none 0).length = 22 := rfl
  generalize hv : msgCells { MsgV.zero with kind := 2 } none 0 none 0 = vs at *
  have HV := hide hv
  have HS0 := hide h
  have HD0 := hide h.drew
  clear h hv
  unfold sr
  go_enter Tryd.func22, Tryd.ntmps22
  go_wp2_with fail
  refine (whose_r (unhide HS0) 9 (by first | omega | (simp only [List.length_set]; omega))).mono ?_
  rintro e w1 hh
  rcases hh with ⟨a0, t0, hd, rfl, hs⟩ | ⟨c, hd, hc, rfl, hm⟩
  rotate_left
  · have HE := hide hd
    have HC := hide hc
    have HM := hide hm
    clear hd hc hm
    go_wp2_with fail
    exact ⟨rfl, RdR.map (RdR.stop2 (unhide HE) (unhide HC) (unhide HM))⟩
  have HS1 := hide hs
  have HD1 := hide hs.drew
  have E0 := hide hd
  clear hs hd
  go_wp2_with fail
  go_region_with (go_at_call 105; refine (rnumber_any (unhide HD1) 6 (by first | omega | (simp only [List.length_set]; omega))).mono ?_; rintro e w2 hh; rcases hh with ⟨a1, t1, hd, rfl, hs⟩ | ⟨c, hd, hc, rfl, hm⟩; rotate_left; exact ⟨rfl, RdR.map (RdR.step2 (unhide E0) (RdR.stop1 hd hc hm))⟩; have HS2 := hide hs; have HD2 := hide hs.drew; have E1 := hide hd; clear hs hd)
  go_wp2_with fail
  go_end0
  refine RdR.map (RdR.step2 (unhide E0) (RdR.done (unhide E1) ?_))
  have hv := unhide HV
  subst hv
  exact ⟨none, 0, none, 0, unhide HS2, ints_nil _ _, ints_nil _ _, (fun _ h => by cases h), (fun _ h => by cases h)⟩

set_option maxHeartbeats 4000000 in
set_option maxRecDepth 100000 in
theorem fields_r3 {w0 w : World} {r x B : Nat} {s : ByteArray} {k : Nat} (h : RSt w0 w r x B (msgCells { MsgV.zero with kind := 3 } none 0 none 0) s k) :
    Calls Tryd.prog 22 #[sr r, .int .u8 3, .pointer (some ⟨B, 0, none⟩)] w (RdR b3 s k (fun i => i = x ∨ i = B) w0 fun m k' w' => RMsg w0 w' r x B s m k') := by
  have hlen : (msgCells { MsgV.zero with kind := 3 } none 0 none 0).length = 22 := rfl
  generalize hv : msgCells { MsgV.zero with kind := 3 } none 0 none 0 = vs at *
  have HV := hide hv
  have HS0 := hide h
  have HD0 := hide h.drew
  clear h hv
  unfold sr
  go_enter Tryd.func22, Tryd.ntmps22
  go_wp2_with fail
  refine (whose_r (unhide HS0) 9 (by first | omega | (simp only [List.length_set]; omega))).mono ?_
  rintro e w1 hh
  rcases hh with ⟨a0, t0, hd, rfl, hs⟩ | ⟨c, hd, hc, rfl, hm⟩
  rotate_left
  · have HE := hide hd
    have HC := hide hc
    have HM := hide hm
    clear hd hc hm
    go_wp2_with fail
    exact ⟨rfl, RdR.map (RdR.stop2 (unhide HE) (unhide HC) (unhide HM))⟩
  have HS1 := hide hs
  have HD1 := hide hs.drew
  have E0 := hide hd
  clear hs hd
  go_wp2_with fail
  refine (table_r (unhide HS1) 17 (by first | omega | (simp only [List.length_set]; omega))).mono ?_
  rintro e w2 hh
  rcases hh with ⟨a1, t1, hd, rfl, hs⟩ | ⟨c, hd, hc, rfl, hm⟩
  rotate_left
  · have HE := hide hd
    have HC := hide hc
    have HM := hide hm
    clear hd hc hm
    go_wp2_with fail
    exact ⟨rfl, RdR.map (RdR.step2 (unhide E0) (RdR.stop1 (unhide HE) (unhide HC) (unhide HM)))⟩
  have HS2 := hide hs
  have E1 := hide hd
  clear hs hd
  go_wp2_with fail
  go_end0
  refine RdR.map (RdR.step2 (unhide E0) (RdR.done (unhide E1) ?_))
  have hv := unhide HV
  subst hv
  obtain ⟨a, c, hs, hi, hn⟩ := unhide HS2
  exact ⟨a, c, none, 0, hs, hi, ints_nil _ _, hn, (fun _ h => by cases h)⟩

set_option maxHeartbeats 4000000 in
set_option maxRecDepth 100000 in
theorem fields_r4 {w0 w : World} {r x B : Nat} {s : ByteArray} {k : Nat} (h : RSt w0 w r x B (msgCells { MsgV.zero with kind := 4 } none 0 none 0) s k) :
    Calls Tryd.prog 22 #[sr r, .int .u8 4, .pointer (some ⟨B, 0, none⟩)] w (RdR b4 s k (fun i => i = x ∨ i = B) w0 fun m k' w' => RMsg w0 w' r x B s m k') := by
  have ha_number := rahead_number r
  have hm_number := rmeth_number r
  have hlen : (msgCells { MsgV.zero with kind := 4 } none 0 none 0).length = 22 := rfl
  generalize hv : msgCells { MsgV.zero with kind := 4 } none 0 none 0 = vs at *
  have HV := hide hv
  have HS0 := hide h
  have HD0 := hide h.drew
  clear h hv
  unfold sr
  go_enter Tryd.func22, Tryd.ntmps22
  go_wp2_with fail
  go_region_with (go_at_call 105; refine (rnumber_any (unhide HD0) 1 (by first | omega | (simp only [List.length_set]; omega))).mono ?_; rintro e w1 hh; rcases hh with ⟨a0, t0, hd, rfl, hs⟩ | ⟨c, hd, hc, rfl, hm⟩; rotate_left; exact ⟨rfl, RdR.map (RdR.stop hd hc hm)⟩; have HS1 := hide hs; have HD1 := hide hs.drew; have E0 := hide hd; clear hs hd)
  go_wp2_with fail
  go_region_with (go_at_call 105; refine (rnumber_any (unhide HD1) 2 (by first | omega | (simp only [List.length_set]; omega))).mono ?_; rintro e w2 hh; rcases hh with ⟨a1, t1, hd, rfl, hs⟩ | ⟨c, hd, hc, rfl, hm⟩; rotate_left; exact ⟨rfl, RdR.map (RdR.step (unhide E0) (RdR.stop hd hc hm))⟩; have HS2 := hide hs; have HD2 := hide hs.drew; have E1 := hide hd; clear hs hd)
  go_wp2_with fail
  go_region_with (go_at_call 105; refine (rnumber_any (unhide HD2) 3 (by first | omega | (simp only [List.length_set]; omega))).mono ?_; rintro e w3 hh; rcases hh with ⟨a2, t2, hd, rfl, hs⟩ | ⟨c, hd, hc, rfl, hm⟩; rotate_left; exact ⟨rfl, RdR.map (RdR.step (unhide E0) (RdR.step (unhide E1) (RdR.stop1 hd hc hm)))⟩; have HS3 := hide hs; have HD3 := hide hs.drew; have E2 := hide hd; clear hs hd)
  go_wp2_with fail
  go_end0
  refine RdR.map (RdR.step (unhide E0) (RdR.step (unhide E1) (RdR.done (unhide E2) ?_)))
  have hv := unhide HV
  subst hv
  exact ⟨none, 0, none, 0, unhide HS3, ints_nil _ _, ints_nil _ _, (fun _ h => by cases h), (fun _ h => by cases h)⟩

set_option maxHeartbeats 4000000 in
set_option maxRecDepth 100000 in
theorem fields_r5 {w0 w : World} {r x B : Nat} {s : ByteArray} {k : Nat} (h : RSt w0 w r x B (msgCells { MsgV.zero with kind := 5 } none 0 none 0) s k) :
    Calls Tryd.prog 22 #[sr r, .int .u8 5, .pointer (some ⟨B, 0, none⟩)] w (RdR b5 s k (fun i => i = x ∨ i = B) w0 fun m k' w' => RMsg w0 w' r x B s m k') := by
  have ha_number := rahead_number r
  have hm_number := rmeth_number r
  have ha_text := rahead_text r
  have hm_text := rmeth_text r
  have hlen : (msgCells { MsgV.zero with kind := 5 } none 0 none 0).length = 22 := rfl
  generalize hv : msgCells { MsgV.zero with kind := 5 } none 0 none 0 = vs at *
  have HV := hide hv
  have HS0 := hide h
  have HD0 := hide h.drew
  clear h hv
  unfold sr
  go_enter Tryd.func22, Tryd.ntmps22
  go_wp2_with fail
  go_region_with (go_at_call 105; refine (rnumber_any (unhide HD0) 1 (by first | omega | (simp only [List.length_set]; omega))).mono ?_; rintro e w1 hh; rcases hh with ⟨a0, t0, hd, rfl, hs⟩ | ⟨c, hd, hc, rfl, hm⟩; rotate_left; exact ⟨rfl, RdR.map (RdR.stop hd hc hm)⟩; have HS1 := hide hs; have HD1 := hide hs.drew; have E0 := hide hd; clear hs hd)
  go_wp2_with fail
  go_region_with (go_at_call 105; refine (rnumber_any (unhide HD1) 2 (by first | omega | (simp only [List.length_set]; omega))).mono ?_; rintro e w2 hh; rcases hh with ⟨a1, t1, hd, rfl, hs⟩ | ⟨c, hd, hc, rfl, hm⟩; rotate_left; exact ⟨rfl, RdR.map (RdR.step (unhide E0) (RdR.stop hd hc hm))⟩; have HS2 := hide hs; have HD2 := hide hs.drew; have E1 := hide hd; clear hs hd)
  go_wp2_with fail
  go_region_with (go_at_call 105; refine (rnumber_any (unhide HD2) 4 (by first | omega | (simp only [List.length_set]; omega))).mono ?_; rintro e w3 hh; rcases hh with ⟨a2, t2, hd, rfl, hs⟩ | ⟨c, hd, hc, rfl, hm⟩; rotate_left; exact ⟨rfl, RdR.map (RdR.step (unhide E0) (RdR.step (unhide E1) (RdR.stop hd hc hm)))⟩; have HS3 := hide hs; have HD3 := hide hs.drew; have E2 := hide hd; clear hs hd)
  go_wp2_with fail
  go_region_with (go_at_call 105; refine (rnumber_any (unhide HD3) 5 (by first | omega | (simp only [List.length_set]; omega))).mono ?_; rintro e w4 hh; rcases hh with ⟨a3, t3, hd, rfl, hs⟩ | ⟨c, hd, hc, rfl, hm⟩; rotate_left; exact ⟨rfl, RdR.map (RdR.step (unhide E0) (RdR.step (unhide E1) (RdR.step (unhide E2) (RdR.stop hd hc hm))))⟩; have HS4 := hide hs; have HD4 := hide hs.drew; have E3 := hide hd; clear hs hd)
  go_wp2_with fail
  go_region_with (go_at_call 106; refine (rtext_any (unhide HD4) 21 (by first | omega | (simp only [List.length_set]; omega)) 1024 (by decide)).mono ?_; rintro e w5 hh; rcases hh with ⟨a4, t4, hd, rfl, hs⟩ | ⟨c, hd, hc, rfl, hm⟩; rotate_left; exact ⟨rfl, RdR.map (RdR.step (unhide E0) (RdR.step (unhide E1) (RdR.step (unhide E2) (RdR.step (unhide E3) (RdR.stop1 hd hc hm)))))⟩; have HS5 := hide hs; have HD5 := hide hs.drew; have E4 := hide hd; clear hs hd)
  go_wp2_with fail
  go_end0
  refine RdR.map (RdR.step (unhide E0) (RdR.step (unhide E1) (RdR.step (unhide E2) (RdR.step (unhide E3) (RdR.done (unhide E4) ?_)))))
  have hv := unhide HV
  subst hv
  exact ⟨none, 0, none, 0, unhide HS5, ints_nil _ _, ints_nil _ _, (fun _ h => by cases h), (fun _ h => by cases h)⟩

set_option maxHeartbeats 4000000 in
set_option maxRecDepth 100000 in
theorem fields_r6 {w0 w : World} {r x B : Nat} {s : ByteArray} {k : Nat} (h : RSt w0 w r x B (msgCells { MsgV.zero with kind := 6 } none 0 none 0) s k) :
    Calls Tryd.prog 22 #[sr r, .int .u8 6, .pointer (some ⟨B, 0, none⟩)] w (RdR b6 s k (fun i => i = x ∨ i = B) w0 fun m k' w' => RMsg w0 w' r x B s m k') := by
  have ha_number := rahead_number r
  have hm_number := rmeth_number r
  have ha_list := rahead_list r
  have hm_list := rmeth_list r
  have hlen : (msgCells { MsgV.zero with kind := 6 } none 0 none 0).length = 22 := rfl
  generalize hv : msgCells { MsgV.zero with kind := 6 } none 0 none 0 = vs at *
  have HV := hide hv
  have HS0 := hide h
  have HD0 := hide h.drew
  clear h hv
  unfold sr
  go_enter Tryd.func22, Tryd.ntmps22
  go_wp2_with fail
  go_region_with (go_at_call 105; refine (rnumber_any (unhide HD0) 1 (by first | omega | (simp only [List.length_set]; omega))).mono ?_; rintro e w1 hh; rcases hh with ⟨a0, t0, hd, rfl, hs⟩ | ⟨c, hd, hc, rfl, hm⟩; rotate_left; exact ⟨rfl, RdR.map (RdR.stop hd hc hm)⟩; have HS1 := hide hs; have HD1 := hide hs.drew; have E0 := hide hd; clear hs hd)
  go_wp2_with fail
  go_region_with (go_at_call 105; refine (rnumber_any (unhide HD1) 2 (by first | omega | (simp only [List.length_set]; omega))).mono ?_; rintro e w2 hh; rcases hh with ⟨a1, t1, hd, rfl, hs⟩ | ⟨c, hd, hc, rfl, hm⟩; rotate_left; exact ⟨rfl, RdR.map (RdR.step (unhide E0) (RdR.stop hd hc hm))⟩; have HS2 := hide hs; have HD2 := hide hs.drew; have E1 := hide hd; clear hs hd)
  go_wp2_with fail
  go_region_with (go_at_call 105; refine (rnumber_any (unhide HD2) 4 (by first | omega | (simp only [List.length_set]; omega))).mono ?_; rintro e w3 hh; rcases hh with ⟨a2, t2, hd, rfl, hs⟩ | ⟨c, hd, hc, rfl, hm⟩; rotate_left; exact ⟨rfl, RdR.map (RdR.step (unhide E0) (RdR.step (unhide E1) (RdR.stop hd hc hm)))⟩; have HS3 := hide hs; have HD3 := hide hs.drew; have E2 := hide hd; clear hs hd)
  go_wp2_with fail
  go_region_with (go_at_call 104; refine (rlist_any (unhide HD3) 20 (by first | omega | (simp only [List.length_set]; omega)) 1024 (by decide)).mono ?_; rintro e w4 hh; rcases hh with ⟨a3, t3, hd, rfl, hs⟩ | ⟨c, hd, hc, rfl, hm⟩; rotate_left; exact ⟨rfl, RdR.map (RdR.step (unhide E0) (RdR.step (unhide E1) (RdR.step (unhide E2) (RdR.stop1 hd hc hm))))⟩; have HS4 := hide hs; have E3 := hide hd; clear hs hd)
  go_wp2_with fail
  go_end0
  refine RdR.map (RdR.step (unhide E0) (RdR.step (unhide E1) (RdR.step (unhide E2) (RdR.done (unhide E3) ?_))))
  have hv := unhide HV
  subst hv
  obtain ⟨a, c, hs, hi, hn⟩ := unhide HS4
  exact ⟨none, 0, a, c, hs, ints_nil _ _, hi, (fun _ h => by cases h), hn⟩

set_option maxHeartbeats 4000000 in
set_option maxRecDepth 100000 in
theorem fields_r7 {w0 w : World} {r x B : Nat} {s : ByteArray} {k : Nat} (h : RSt w0 w r x B (msgCells { MsgV.zero with kind := 7 } none 0 none 0) s k) :
    Calls Tryd.prog 22 #[sr r, .int .u8 7, .pointer (some ⟨B, 0, none⟩)] w (RdR b7 s k (fun i => i = x ∨ i = B) w0 fun m k' w' => RMsg w0 w' r x B s m k') := by
  have ha_number := rahead_number r
  have hm_number := rmeth_number r
  have hlen : (msgCells { MsgV.zero with kind := 7 } none 0 none 0).length = 22 := rfl
  generalize hv : msgCells { MsgV.zero with kind := 7 } none 0 none 0 = vs at *
  have HV := hide hv
  have HS0 := hide h
  have HD0 := hide h.drew
  clear h hv
  unfold sr
  go_enter Tryd.func22, Tryd.ntmps22
  go_wp2_with fail
  go_region_with (go_at_call 105; refine (rnumber_any (unhide HD0) 1 (by first | omega | (simp only [List.length_set]; omega))).mono ?_; rintro e w1 hh; rcases hh with ⟨a0, t0, hd, rfl, hs⟩ | ⟨c, hd, hc, rfl, hm⟩; rotate_left; exact ⟨rfl, RdR.map (RdR.stop hd hc hm)⟩; have HS1 := hide hs; have HD1 := hide hs.drew; have E0 := hide hd; clear hs hd)
  go_wp2_with fail
  go_region_with (go_at_call 105; refine (rnumber_any (unhide HD1) 2 (by first | omega | (simp only [List.length_set]; omega))).mono ?_; rintro e w2 hh; rcases hh with ⟨a1, t1, hd, rfl, hs⟩ | ⟨c, hd, hc, rfl, hm⟩; rotate_left; exact ⟨rfl, RdR.map (RdR.step (unhide E0) (RdR.stop hd hc hm))⟩; have HS2 := hide hs; have HD2 := hide hs.drew; have E1 := hide hd; clear hs hd)
  go_wp2_with fail
  go_region_with (go_at_call 105; refine (rnumber_any (unhide HD2) 4 (by first | omega | (simp only [List.length_set]; omega))).mono ?_; rintro e w3 hh; rcases hh with ⟨a2, t2, hd, rfl, hs⟩ | ⟨c, hd, hc, rfl, hm⟩; rotate_left; exact ⟨rfl, RdR.map (RdR.step (unhide E0) (RdR.step (unhide E1) (RdR.stop hd hc hm)))⟩; have HS3 := hide hs; have HD3 := hide hs.drew; have E2 := hide hd; clear hs hd)
  go_wp2_with fail
  refine (item_r (unhide HS3) 9 (by first | omega | (simp only [List.length_set]; omega))).mono ?_
  rintro e w4 hh
  rcases hh with ⟨a3, t3, hd, rfl, hs⟩ | ⟨c, hd, hc, rfl, hm⟩
  rotate_left
  · have HE := hide hd
    have HC := hide hc
    have HM := hide hm
    clear hd hc hm
    go_wp2_with fail
    exact ⟨rfl, RdR.map (RdR.step (unhide E0) (RdR.step (unhide E1) (RdR.step (unhide E2) (RdR.stop1 (unhide HE) (unhide HC) (unhide HM)))))⟩
  have HS4 := hide hs
  have HD4 := hide hs.drew
  have E3 := hide hd
  clear hs hd
  go_wp2_with fail
  go_end0
  refine RdR.map (RdR.step (unhide E0) (RdR.step (unhide E1) (RdR.step (unhide E2) (RdR.done (unhide E3) ?_))))
  have hv := unhide HV
  subst hv
  exact ⟨none, 0, none, 0, unhide HS4, ints_nil _ _, ints_nil _ _, (fun _ h => by cases h), (fun _ h => by cases h)⟩

set_option maxHeartbeats 4000000 in
set_option maxRecDepth 100000 in
theorem fields_r8 {w0 w : World} {r x B : Nat} {s : ByteArray} {k : Nat} (h : RSt w0 w r x B (msgCells { MsgV.zero with kind := 8 } none 0 none 0) s k) :
    Calls Tryd.prog 22 #[sr r, .int .u8 8, .pointer (some ⟨B, 0, none⟩)] w (RdR b8 s k (fun i => i = x ∨ i = B) w0 fun m k' w' => RMsg w0 w' r x B s m k') := by
  have ha_number := rahead_number r
  have hm_number := rmeth_number r
  have hlen : (msgCells { MsgV.zero with kind := 8 } none 0 none 0).length = 22 := rfl
  generalize hv : msgCells { MsgV.zero with kind := 8 } none 0 none 0 = vs at *
  have HV := hide hv
  have HS0 := hide h
  have HD0 := hide h.drew
  clear h hv
  unfold sr
  go_enter Tryd.func22, Tryd.ntmps22
  go_wp2_with fail
  go_region_with (go_at_call 105; refine (rnumber_any (unhide HD0) 1 (by first | omega | (simp only [List.length_set]; omega))).mono ?_; rintro e w1 hh; rcases hh with ⟨a0, t0, hd, rfl, hs⟩ | ⟨c, hd, hc, rfl, hm⟩; rotate_left; exact ⟨rfl, RdR.map (RdR.stop hd hc hm)⟩; have HS1 := hide hs; have HD1 := hide hs.drew; have E0 := hide hd; clear hs hd)
  go_wp2_with fail
  go_region_with (go_at_call 105; refine (rnumber_any (unhide HD1) 2 (by first | omega | (simp only [List.length_set]; omega))).mono ?_; rintro e w2 hh; rcases hh with ⟨a1, t1, hd, rfl, hs⟩ | ⟨c, hd, hc, rfl, hm⟩; rotate_left; exact ⟨rfl, RdR.map (RdR.step (unhide E0) (RdR.stop hd hc hm))⟩; have HS2 := hide hs; have HD2 := hide hs.drew; have E1 := hide hd; clear hs hd)
  go_wp2_with fail
  go_region_with (go_at_call 105; refine (rnumber_any (unhide HD2) 4 (by first | omega | (simp only [List.length_set]; omega))).mono ?_; rintro e w3 hh; rcases hh with ⟨a2, t2, hd, rfl, hs⟩ | ⟨c, hd, hc, rfl, hm⟩; rotate_left; exact ⟨rfl, RdR.map (RdR.step (unhide E0) (RdR.step (unhide E1) (RdR.stop1 hd hc hm)))⟩; have HS3 := hide hs; have HD3 := hide hs.drew; have E2 := hide hd; clear hs hd)
  go_wp2_with fail
  go_end0
  refine RdR.map (RdR.step (unhide E0) (RdR.step (unhide E1) (RdR.done (unhide E2) ?_)))
  have hv := unhide HV
  subst hv
  exact ⟨none, 0, none, 0, unhide HS3, ints_nil _ _, ints_nil _ _, (fun _ h => by cases h), (fun _ h => by cases h)⟩

set_option maxHeartbeats 4000000 in
set_option maxRecDepth 100000 in
theorem fields_r9 {w0 w : World} {r x B : Nat} {s : ByteArray} {k : Nat} (h : RSt w0 w r x B (msgCells { MsgV.zero with kind := 9 } none 0 none 0) s k) :
    Calls Tryd.prog 22 #[sr r, .int .u8 9, .pointer (some ⟨B, 0, none⟩)] w (RdR b9 s k (fun i => i = x ∨ i = B) w0 fun m k' w' => RMsg w0 w' r x B s m k') := by
  have ha_number := rahead_number r
  have hm_number := rmeth_number r
  have ha_integer := rahead_integer r
  have hm_integer := rmeth_integer r
  have ha_wide := rahead_wide r
  have hm_wide := rmeth_wide r
  have hlen : (msgCells { MsgV.zero with kind := 9 } none 0 none 0).length = 22 := rfl
  generalize hv : msgCells { MsgV.zero with kind := 9 } none 0 none 0 = vs at *
  have HV := hide hv
  have HS0 := hide h
  have HD0 := hide h.drew
  clear h hv
  unfold sr
  go_enter Tryd.func22, Tryd.ntmps22
  go_wp2_with fail
  go_region_with (go_at_call 105; refine (rnumber_any (unhide HD0) 1 (by first | omega | (simp only [List.length_set]; omega))).mono ?_; rintro e w1 hh; rcases hh with ⟨a0, t0, hd, rfl, hs⟩ | ⟨c, hd, hc, rfl, hm⟩; rotate_left; exact ⟨rfl, RdR.map (RdR.stop hd hc hm)⟩; have HS1 := hide hs; have HD1 := hide hs.drew; have E0 := hide hd; clear hs hd)
  go_wp2_with fail
  go_region_with (go_at_call 105; refine (rnumber_any (unhide HD1) 2 (by first | omega | (simp only [List.length_set]; omega))).mono ?_; rintro e w2 hh; rcases hh with ⟨a1, t1, hd, rfl, hs⟩ | ⟨c, hd, hc, rfl, hm⟩; rotate_left; exact ⟨rfl, RdR.map (RdR.step (unhide E0) (RdR.stop hd hc hm))⟩; have HS2 := hide hs; have HD2 := hide hs.drew; have E1 := hide hd; clear hs hd)
  go_wp2_with fail
  go_region_with (go_at_call 105; refine (rnumber_any (unhide HD2) 4 (by first | omega | (simp only [List.length_set]; omega))).mono ?_; rintro e w3 hh; rcases hh with ⟨a2, t2, hd, rfl, hs⟩ | ⟨c, hd, hc, rfl, hm⟩; rotate_left; exact ⟨rfl, RdR.map (RdR.step (unhide E0) (RdR.step (unhide E1) (RdR.stop hd hc hm)))⟩; have HS3 := hide hs; have HD3 := hide hs.drew; have E2 := hide hd; clear hs hd)
  go_wp2_with fail
  go_region_with (go_at_call 103; refine (rinteger_any (unhide HD3) 8 (by first | omega | (simp only [List.length_set]; omega))).mono ?_; rintro e w4 hh; rcases hh with ⟨a3, t3, hd, rfl, hs⟩ | ⟨c, hd, hc, rfl, hm⟩; rotate_left; exact ⟨rfl, RdR.map (RdR.step (unhide E0) (RdR.step (unhide E1) (RdR.step (unhide E2) (RdR.stop hd hc hm))))⟩; have HS4 := hide hs; have HD4 := hide hs.drew; have E3 := hide hd; clear hs hd)
  go_wp2_with fail
  go_region_with (go_at_call 107; refine (rwide_any (unhide HD4) 7 (by first | omega | (simp only [List.length_set]; omega))).mono ?_; rintro e w5 hh; rcases hh with ⟨a4, t4, hd, rfl, hs⟩ | ⟨c, hd, hc, rfl, hm⟩; rotate_left; exact ⟨rfl, RdR.map (RdR.step (unhide E0) (RdR.step (unhide E1) (RdR.step (unhide E2) (RdR.step (unhide E3) (RdR.stop1 hd hc hm)))))⟩; have HS5 := hide hs; have HD5 := hide hs.drew; have E4 := hide hd; clear hs hd)
  go_wp2_with fail
  go_end0
  refine RdR.map (RdR.step (unhide E0) (RdR.step (unhide E1) (RdR.step (unhide E2) (RdR.step (unhide E3) (RdR.done (unhide E4) ?_)))))
  have hv := unhide HV
  subst hv
  exact ⟨none, 0, none, 0, unhide HS5, ints_nil _ _, ints_nil _ _, (fun _ h => by cases h), (fun _ h => by cases h)⟩

set_option maxHeartbeats 4000000 in
set_option maxRecDepth 100000 in
theorem fields_r10 {w0 w : World} {r x B : Nat} {s : ByteArray} {k : Nat} (h : RSt w0 w r x B (msgCells { MsgV.zero with kind := 10 } none 0 none 0) s k) :
    Calls Tryd.prog 22 #[sr r, .int .u8 10, .pointer (some ⟨B, 0, none⟩)] w (RdR b10 s k (fun i => i = x ∨ i = B) w0 fun m k' w' => RMsg w0 w' r x B s m k') := by
  have ha_number := rahead_number r
  have hm_number := rmeth_number r
  have hlen : (msgCells { MsgV.zero with kind := 10 } none 0 none 0).length = 22 := rfl
  generalize hv : msgCells { MsgV.zero with kind := 10 } none 0 none 0 = vs at *
  have HV := hide hv
  have HS0 := hide h
  have HD0 := hide h.drew
  clear h hv
  unfold sr
  go_enter Tryd.func22, Tryd.ntmps22
  go_wp2_with fail
  go_region_with (go_at_call 105; refine (rnumber_any (unhide HD0) 1 (by first | omega | (simp only [List.length_set]; omega))).mono ?_; rintro e w1 hh; rcases hh with ⟨a0, t0, hd, rfl, hs⟩ | ⟨c, hd, hc, rfl, hm⟩; rotate_left; exact ⟨rfl, RdR.map (RdR.stop hd hc hm)⟩; have HS1 := hide hs; have HD1 := hide hs.drew; have E0 := hide hd; clear hs hd)
  go_wp2_with fail
  go_region_with (go_at_call 105; refine (rnumber_any (unhide HD1) 2 (by first | omega | (simp only [List.length_set]; omega))).mono ?_; rintro e w2 hh; rcases hh with ⟨a1, t1, hd, rfl, hs⟩ | ⟨c, hd, hc, rfl, hm⟩; rotate_left; exact ⟨rfl, RdR.map (RdR.step (unhide E0) (RdR.stop hd hc hm))⟩; have HS2 := hide hs; have HD2 := hide hs.drew; have E1 := hide hd; clear hs hd)
  go_wp2_with fail
  go_region_with (go_at_call 105; refine (rnumber_any (unhide HD2) 6 (by first | omega | (simp only [List.length_set]; omega))).mono ?_; rintro e w3 hh; rcases hh with ⟨a2, t2, hd, rfl, hs⟩ | ⟨c, hd, hc, rfl, hm⟩; rotate_left; exact ⟨rfl, RdR.map (RdR.step (unhide E0) (RdR.step (unhide E1) (RdR.stop1 hd hc hm)))⟩; have HS3 := hide hs; have HD3 := hide hs.drew; have E2 := hide hd; clear hs hd)
  go_wp2_with fail
  go_end0
  refine RdR.map (RdR.step (unhide E0) (RdR.step (unhide E1) (RdR.done (unhide E2) ?_)))
  have hv := unhide HV
  subst hv
  exact ⟨none, 0, none, 0, unhide HS3, ints_nil _ _, ints_nil _ _, (fun _ h => by cases h), (fun _ h => by cases h)⟩

set_option maxHeartbeats 4000000 in
set_option maxRecDepth 100000 in
theorem fields_r11 {w0 w : World} {r x B : Nat} {s : ByteArray} {k : Nat} (h : RSt w0 w r x B (msgCells { MsgV.zero with kind := 11 } none 0 none 0) s k) :
    Calls Tryd.prog 22 #[sr r, .int .u8 11, .pointer (some ⟨B, 0, none⟩)] w (RdR b11 s k (fun i => i = x ∨ i = B) w0 fun m k' w' => RMsg w0 w' r x B s m k') := by
  have ha_number := rahead_number r
  have hm_number := rmeth_number r
  have hlen : (msgCells { MsgV.zero with kind := 11 } none 0 none 0).length = 22 := rfl
  generalize hv : msgCells { MsgV.zero with kind := 11 } none 0 none 0 = vs at *
  have HV := hide hv
  have HS0 := hide h
  have HD0 := hide h.drew
  clear h hv
  unfold sr
  go_enter Tryd.func22, Tryd.ntmps22
  go_wp2_with fail
  go_region_with (go_at_call 105; refine (rnumber_any (unhide HD0) 1 (by first | omega | (simp only [List.length_set]; omega))).mono ?_; rintro e w1 hh; rcases hh with ⟨a0, t0, hd, rfl, hs⟩ | ⟨c, hd, hc, rfl, hm⟩; rotate_left; exact ⟨rfl, RdR.map (RdR.stop hd hc hm)⟩; have HS1 := hide hs; have HD1 := hide hs.drew; have E0 := hide hd; clear hs hd)
  go_wp2_with fail
  go_region_with (go_at_call 105; refine (rnumber_any (unhide HD1) 2 (by first | omega | (simp only [List.length_set]; omega))).mono ?_; rintro e w2 hh; rcases hh with ⟨a1, t1, hd, rfl, hs⟩ | ⟨c, hd, hc, rfl, hm⟩; rotate_left; exact ⟨rfl, RdR.map (RdR.step (unhide E0) (RdR.stop hd hc hm))⟩; have HS2 := hide hs; have HD2 := hide hs.drew; have E1 := hide hd; clear hs hd)
  go_wp2_with fail
  refine (table_r (unhide HS2) 17 (by first | omega | (simp only [List.length_set]; omega))).mono ?_
  rintro e w3 hh
  rcases hh with ⟨a2, t2, hd, rfl, hs⟩ | ⟨c, hd, hc, rfl, hm⟩
  rotate_left
  · have HE := hide hd
    have HC := hide hc
    have HM := hide hm
    clear hd hc hm
    go_wp2_with fail
    exact ⟨rfl, RdR.map (RdR.step (unhide E0) (RdR.step (unhide E1) (RdR.stop1 (unhide HE) (unhide HC) (unhide HM))))⟩
  have HS3 := hide hs
  have E2 := hide hd
  clear hs hd
  go_wp2_with fail
  go_end0
  refine RdR.map (RdR.step (unhide E0) (RdR.step (unhide E1) (RdR.done (unhide E2) ?_)))
  have hv := unhide HV
  subst hv
  obtain ⟨a, c, hs, hi, hn⟩ := unhide HS3
  exact ⟨a, c, none, 0, hs, hi, ints_nil _ _, hn, (fun _ h => by cases h)⟩

set_option maxHeartbeats 4000000 in
set_option maxRecDepth 100000 in
theorem fields_r12 {w0 w : World} {r x B : Nat} {s : ByteArray} {k : Nat} (h : RSt w0 w r x B (msgCells { MsgV.zero with kind := 12 } none 0 none 0) s k) :
    Calls Tryd.prog 22 #[sr r, .int .u8 12, .pointer (some ⟨B, 0, none⟩)] w (RdR b12 s k (fun i => i = x ∨ i = B) w0 fun m k' w' => RMsg w0 w' r x B s m k') := by
  have ha_number := rahead_number r
  have hm_number := rmeth_number r
  have hlen : (msgCells { MsgV.zero with kind := 12 } none 0 none 0).length = 22 := rfl
  generalize hv : msgCells { MsgV.zero with kind := 12 } none 0 none 0 = vs at *
  have HV := hide hv
  have HS0 := hide h
  have HD0 := hide h.drew
  clear h hv
  unfold sr
  go_enter Tryd.func22, Tryd.ntmps22
  go_wp2_with fail
  go_region_with (go_at_call 105; refine (rnumber_any (unhide HD0) 1 (by first | omega | (simp only [List.length_set]; omega))).mono ?_; rintro e w1 hh; rcases hh with ⟨a0, t0, hd, rfl, hs⟩ | ⟨c, hd, hc, rfl, hm⟩; rotate_left; exact ⟨rfl, RdR.map (RdR.stop hd hc hm)⟩; have HS1 := hide hs; have HD1 := hide hs.drew; have E0 := hide hd; clear hs hd)
  go_wp2_with fail
  go_region_with (go_at_call 105; refine (rnumber_any (unhide HD1) 2 (by first | omega | (simp only [List.length_set]; omega))).mono ?_; rintro e w2 hh; rcases hh with ⟨a1, t1, hd, rfl, hs⟩ | ⟨c, hd, hc, rfl, hm⟩; rotate_left; exact ⟨rfl, RdR.map (RdR.step (unhide E0) (RdR.stop1 hd hc hm))⟩; have HS2 := hide hs; have HD2 := hide hs.drew; have E1 := hide hd; clear hs hd)
  go_wp2_with fail
  go_end0
  refine RdR.map (RdR.step (unhide E0) (RdR.done (unhide E1) ?_))
  have hv := unhide HV
  subst hv
  exact ⟨none, 0, none, 0, unhide HS2, ints_nil _ _, ints_nil _ _, (fun _ h => by cases h), (fun _ h => by cases h)⟩

set_option maxHeartbeats 4000000 in
set_option maxRecDepth 100000 in
theorem fields_r13 {w0 w : World} {r x B : Nat} {s : ByteArray} {k : Nat} (h : RSt w0 w r x B (msgCells { MsgV.zero with kind := 13 } none 0 none 0) s k) :
    Calls Tryd.prog 22 #[sr r, .int .u8 13, .pointer (some ⟨B, 0, none⟩)] w (RdR b13 s k (fun i => i = x ∨ i = B) w0 fun m k' w' => RMsg w0 w' r x B s m k') := by
  have ha_number := rahead_number r
  have hm_number := rmeth_number r
  have hlen : (msgCells { MsgV.zero with kind := 13 } none 0 none 0).length = 22 := rfl
  generalize hv : msgCells { MsgV.zero with kind := 13 } none 0 none 0 = vs at *
  have HV := hide hv
  have HS0 := hide h
  have HD0 := hide h.drew
  clear h hv
  unfold sr
  go_enter Tryd.func22, Tryd.ntmps22
  go_wp2_with fail
  go_region_with (go_at_call 105; refine (rnumber_any (unhide HD0) 1 (by first | omega | (simp only [List.length_set]; omega))).mono ?_; rintro e w1 hh; rcases hh with ⟨a0, t0, hd, rfl, hs⟩ | ⟨c, hd, hc, rfl, hm⟩; rotate_left; exact ⟨rfl, RdR.map (RdR.stop hd hc hm)⟩; have HS1 := hide hs; have HD1 := hide hs.drew; have E0 := hide hd; clear hs hd)
  go_wp2_with fail
  go_region_with (go_at_call 105; refine (rnumber_any (unhide HD1) 2 (by first | omega | (simp only [List.length_set]; omega))).mono ?_; rintro e w2 hh; rcases hh with ⟨a1, t1, hd, rfl, hs⟩ | ⟨c, hd, hc, rfl, hm⟩; rotate_left; exact ⟨rfl, RdR.map (RdR.step (unhide E0) (RdR.stop1 hd hc hm))⟩; have HS2 := hide hs; have HD2 := hide hs.drew; have E1 := hide hd; clear hs hd)
  go_wp2_with fail
  go_end0
  refine RdR.map (RdR.step (unhide E0) (RdR.done (unhide E1) ?_))
  have hv := unhide HV
  subst hv
  exact ⟨none, 0, none, 0, unhide HS2, ints_nil _ _, ints_nil _ _, (fun _ h => by cases h), (fun _ h => by cases h)⟩

set_option maxHeartbeats 4000000 in
set_option maxRecDepth 100000 in
theorem fields_r14 {w0 w : World} {r x B : Nat} {s : ByteArray} {k : Nat} (h : RSt w0 w r x B (msgCells { MsgV.zero with kind := 14 } none 0 none 0) s k) :
    Calls Tryd.prog 22 #[sr r, .int .u8 14, .pointer (some ⟨B, 0, none⟩)] w (RdR b14 s k (fun i => i = x ∨ i = B) w0 fun m k' w' => RMsg w0 w' r x B s m k') := by
  have hlen : (msgCells { MsgV.zero with kind := 14 } none 0 none 0).length = 22 := rfl
  generalize hv : msgCells { MsgV.zero with kind := 14 } none 0 none 0 = vs at *
  have HV := hide hv
  have HS0 := hide h
  have HD0 := hide h.drew
  clear h hv
  unfold sr
  go_enter Tryd.func22, Tryd.ntmps22
  go_wp2_with fail
  refine (table_r (unhide HS0) 17 (by first | omega | (simp only [List.length_set]; omega))).mono ?_
  rintro e w1 hh
  rcases hh with ⟨a0, t0, hd, rfl, hs⟩ | ⟨c, hd, hc, rfl, hm⟩
  rotate_left
  · have HE := hide hd
    have HC := hide hc
    have HM := hide hm
    clear hd hc hm
    go_wp2_with fail
    exact ⟨rfl, RdR.map (RdR.stop1 (unhide HE) (unhide HC) (unhide HM))⟩
  have HS1 := hide hs
  have E0 := hide hd
  clear hs hd
  go_wp2_with fail
  go_end0
  refine RdR.map (RdR.done (unhide E0) ?_)
  have hv := unhide HV
  subst hv
  obtain ⟨a, c, hs, hi, hn⟩ := unhide HS1
  exact ⟨a, c, none, 0, hs, hi, ints_nil _ _, hn, (fun _ h => by cases h)⟩

end Go.Proofs.YtkbmbcmcnpeabaaDoor

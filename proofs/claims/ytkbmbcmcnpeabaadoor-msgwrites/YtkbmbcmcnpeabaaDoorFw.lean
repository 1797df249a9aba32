/- What the program does with parts of a message through its writer: whose an item is, a whole item, a table. Condition: no more than 2^40 bytes are written. -/
import Derived.Test.YtkbmbcmcnpeabaaDoorWrL
import Derived.Deep.RegionWith
namespace Go.Proofs.YtkbmbcmcnpeabaaDoor
open Pk Go.RowKit

/-- A writer behind the interface. -/
def sw (p : Nat) : Value := .iface 57 (.pointer (some ⟨p, 0, none⟩))
theorem ahead_number (p : Nat) (w : World) : (nilAhead 253 57 (.pointer (some ⟨p, 0, none⟩)) "meter/msg.number").run Tryd.prog w = .ok (some false) w := by kernel_rfl
theorem meth_number (p : Nat) (w : World) : (method 253 57 (.pointer (some ⟨p, 0, none⟩)) "meter/msg.number").run Tryd.prog w = .ok (95, .pointer (some ⟨p, 0, none⟩)) w := by kernel_rfl
theorem ahead_octet (p : Nat) (w : World) : (nilAhead 253 57 (.pointer (some ⟨p, 0, none⟩)) "meter/msg.octet").run Tryd.prog w = .ok (some false) w := by kernel_rfl
theorem meth_octet (p : Nat) (w : World) : (method 253 57 (.pointer (some ⟨p, 0, none⟩)) "meter/msg.octet").run Tryd.prog w = .ok (21, .pointer (some ⟨p, 0, none⟩)) w := by kernel_rfl
theorem ahead_text (p : Nat) (w : World) : (nilAhead 253 57 (.pointer (some ⟨p, 0, none⟩)) "meter/msg.text").run Tryd.prog w = .ok (some false) w := by kernel_rfl
theorem meth_text (p : Nat) (w : World) : (method 253 57 (.pointer (some ⟨p, 0, none⟩)) "meter/msg.text").run Tryd.prog w = .ok (96, .pointer (some ⟨p, 0, none⟩)) w := by kernel_rfl
theorem ahead_integer (p : Nat) (w : World) : (nilAhead 253 57 (.pointer (some ⟨p, 0, none⟩)) "meter/msg.integer").run Tryd.prog w = .ok (some false) w := by kernel_rfl
theorem meth_integer (p : Nat) (w : World) : (method 253 57 (.pointer (some ⟨p, 0, none⟩)) "meter/msg.integer").run Tryd.prog w = .ok (93, .pointer (some ⟨p, 0, none⟩)) w := by kernel_rfl
theorem ahead_wide (p : Nat) (w : World) : (nilAhead 253 57 (.pointer (some ⟨p, 0, none⟩)) "meter/msg.wide").run Tryd.prog w = .ok (some false) w := by kernel_rfl
theorem meth_wide (p : Nat) (w : World) : (method 253 57 (.pointer (some ⟨p, 0, none⟩)) "meter/msg.wide").run Tryd.prog w = .ok (98, .pointer (some ⟨p, 0, none⟩)) w := by kernel_rfl
theorem ahead_list (p : Nat) (w : World) : (nilAhead 253 57 (.pointer (some ⟨p, 0, none⟩)) "meter/msg.list").run Tryd.prog w = .ok (some false) w := by kernel_rfl
theorem meth_list (p : Nat) (w : World) : (method 253 57 (.pointer (some ⟨p, 0, none⟩)) "meter/msg.list").run Tryd.prog w = .ok (94, .pointer (some ⟨p, 0, none⟩)) w := by kernel_rfl
theorem enc_len {x : Int} (h : In x) : (P.enc x).length ≤ 10 := numBytes_length _ (by unfold In m31 at h; omega)
theorem zig_lt {x : Int} (h : I64 x) : zig x < 2 ^ 64 := by unfold I64 at h; unfold zig; split <;> omega
theorem int_len {x : Int} (h : I64 x) : (intC.enc x).length ≤ 10 := numBytes_length _ (zig_lt h)
theorem text_len (m : Nat) (s : List UInt8) (h : s.length ≤ 1024) : ((textC m).enc s).length ≤ 1034 := by
  have e : (textC m).enc s = textBytes s := rfl
  have := numBytes_length s.length (by omega)
  rw [e, textBytes, List.length_append]; omega

set_option maxHeartbeats 4000000 in
set_option maxRecDepth 100000 in
/-- Whose an item is. -/
theorem whose_w {w0 w : World} {p B : Nat} {vs : List Value} {l : List UInt8} (h : WSt w0 w p B vs l) (o : Nat) (src seq : Int) (g0 : vs[o]? = some (.int .i64 src)) (g1 : vs[o + 1]? = some (.int .i64 seq)) (hb : l.length + 30000 ≤ 1099511627776) :
    Calls Tryd.prog 52 #[sw p, .pointer (some ⟨B, o, none⟩)] w (Wr ((In src) ∧ (In seq)) w0 p B ((vs.set o (.int .i64 0)).set (o + 1) (.int .i64 0)) (l ++ P.enc src ++ P.enc seq)) := by
  have ha_number := ahead_number p
  have hm_number := meth_number p
  have c0_0 : vs[o]? = some (.int .i64 src) := by
    repeat (rw [List.getElem?_set_ne (by omega)])
    exact g0
  have C0_0 := hide c0_0
  have c1_0 : (vs.set o (.int .i64 0))[o + 1]? = some (.int .i64 seq) := by
    repeat (rw [List.getElem?_set_ne (by omega)])
    exact g1
  have C1_0 := hide c1_0
  have HS0 := hide h
  have HD0 := hide h.drew
  clear h c0_0 c1_0 g0 g1
  unfold sw
  go_enter Tryd.func52, Tryd.ntmps52
  go_wp2_with fail
  go_region_with (go_at_call 95; refine (wnumber_any (unhide HD0) o src (unhide C0_0) (by omega)).mono ?_; rintro e w1 hh; rcases hh with ⟨rfl, ok, hs⟩ | ⟨rfl, no, hm'⟩; rotate_left; exact ⟨rfl, .inr ⟨rfl, fun h => no (h.1), hm'⟩⟩; have HS1 := hide hs; have HD1 := hide hs.drew; have HOK0 := hide ok; have len0 := enc_len ok; clear hs ok)
  go_wp2_with fail
  go_region_with (go_at_call 95; refine (wnumber_any (unhide HD1) (o + 1) seq (unhide C1_0) (by simp only [List.length_append]; omega)).mono ?_; rintro e w2 hh; rcases hh with ⟨rfl, ok, hs⟩ | ⟨rfl, no, hm'⟩; rotate_left; exact ⟨rfl, .inr ⟨rfl, fun h => no (h.2), hm'⟩⟩; have HS2 := hide hs; have HD2 := hide hs.drew; have HOK1 := hide ok; have len1 := enc_len ok; clear hs ok)
  go_wp2_with fail
  go_end0
  exact .inl ⟨rfl, ⟨unhide HOK0, unhide HOK1⟩, unhide HS2⟩

set_option maxHeartbeats 4000000 in
set_option maxRecDepth 100000 in
/-- A table. -/
theorem table_w {w0 w : World} {p B : Nat} {vs : List Value} {l : List UInt8} (h : WSt w0 w p B vs l) (o : Nat) (ep nd : Int) (xs : List Int) (a : Option Addr) (c : Nat) (g0 : vs[o]? = some (.int .i64 ep)) (g1 : vs[o + 1]? = some (.int .i64 nd)) (g2 : vs[o + 2]? = some (.slice a xs.length c)) (hI : IntsF w0 p B a xs) (hx : xs.length ≤ maxLen) (hb : l.length + 30000 ≤ 1099511627776) :
    Calls Tryd.prog 53 #[sw p, .pointer (some ⟨B, o, none⟩)] w (Wr ((In ep) ∧ (In nd) ∧ (xs.length ≤ 64) ∧ (∀ x ∈ xs, In x)) w0 p B (((vs.set o (.int .i64 0)).set (o + 1) (.int .i64 0)).set (o + 2) (.slice none 0 0)) (l ++ P.enc ep ++ P.enc nd ++ (listC P 64).enc xs)) := by
  have ha_number := ahead_number p
  have hm_number := meth_number p
  have ha_list := ahead_list p
  have hm_list := meth_list p
  have c0_0 : vs[o]? = some (.int .i64 ep) := by
    repeat (rw [List.getElem?_set_ne (by omega)])
    exact g0
  have C0_0 := hide c0_0
  have c1_0 : (vs.set o (.int .i64 0))[o + 1]? = some (.int .i64 nd) := by
    repeat (rw [List.getElem?_set_ne (by omega)])
    exact g1
  have C1_0 := hide c1_0
  have c2_0 : ((vs.set o (.int .i64 0)).set (o + 1) (.int .i64 0))[o + 2]? = some (.slice a xs.length c) := by
    repeat (rw [List.getElem?_set_ne (by omega)])
    exact g2
  have C2_0 := hide c2_0
  have HS0 := hide h
  have HD0 := hide h.drew
  clear h c0_0 c1_0 c2_0 g0 g1 g2
  unfold sw
  go_enter Tryd.func53, Tryd.ntmps53
  go_wp2_with fail
  go_region_with (go_at_call 95; refine (wnumber_any (unhide HD0) o ep (unhide C0_0) (by omega)).mono ?_; rintro e w1 hh; rcases hh with ⟨rfl, ok, hs⟩ | ⟨rfl, no, hm'⟩; rotate_left; exact ⟨rfl, .inr ⟨rfl, fun h => no (h.1), hm'⟩⟩; have HS1 := hide hs; have HD1 := hide hs.drew; have HOK0 := hide ok; have len0 := enc_len ok; clear hs ok)
  go_wp2_with fail
  go_region_with (go_at_call 95; refine (wnumber_any (unhide HD1) (o + 1) nd (unhide C1_0) (by simp only [List.length_append]; omega)).mono ?_; rintro e w2 hh; rcases hh with ⟨rfl, ok, hs⟩ | ⟨rfl, no, hm'⟩; rotate_left; exact ⟨rfl, .inr ⟨rfl, fun h => no (h.2.1), hm'⟩⟩; have HS2 := hide hs; have HD2 := hide hs.drew; have HOK1 := hide ok; have len1 := enc_len ok; clear hs ok)
  go_wp2_with fail
  go_region_with (go_at_call 94; refine (wlist_any (unhide HD2) (o + 2) xs a c (unhide C2_0) hI hx 64 (by decide) (by simp only [List.length_append]; omega)).mono ?_; rintro e w3 hh; rcases hh with ⟨rfl, ok, hs⟩ | ⟨rfl, no, hm'⟩; rotate_left; exact ⟨rfl, .inr ⟨rfl, fun h => no (⟨h.2.2.1, h.2.2.2⟩), hm'⟩⟩; have HS3 := hide hs; have HD3 := hide hs.drew; have HOK2 := hide ok; have len2 := trivial; clear hs ok)
  go_wp2_with fail
  go_end0
  exact .inl ⟨rfl, ⟨unhide HOK0, unhide HOK1, (unhide HOK2).1, (unhide HOK2).2⟩, unhide HS3⟩

set_option maxHeartbeats 4000000 in
set_option maxRecDepth 100000 in
/-- A whole item. -/
theorem item_w {w0 w : World} {p B : Nat} {vs : List Value} {l : List UInt8} (h : WSt w0 w p B vs l) (o : Nat) (src seq low : Int) (kd : UInt8) (key : List UInt8) (part at_ n : Int) (g0 : vs[o]? = some (.int .i64 src)) (g1 : vs[o + 1]? = some (.int .i64 seq)) (g2 : vs[o + 2]? = some (.int .i64 low)) (g3 : vs[o + 3]? = some (.int .u8 (kd.toNat : Int))) (g4 : vs[o + 4]? = some (.string ⟨key.toArray⟩)) (g5 : vs[o + 5]? = some (.int .i64 part)) (g6 : vs[o + 6]? = some (.int .i64 at_)) (g7 : vs[o + 7]? = some (.int .i64 n)) (hk : key.length ≤ maxLen) (hat : I64 at_) (hn : I64 n) (hb : l.length + 30000 ≤ 1099511627776) :
    Calls Tryd.prog 51 #[sw p, .pointer (some ⟨B, o, none⟩)] w (Wr ((In src) ∧ (In seq) ∧ (In low) ∧ (key.length ≤ 255) ∧ (In part)) w0 p B ((((((((vs.set o (.int .i64 0)).set (o + 1) (.int .i64 0)).set (o + 2) (.int .i64 0)).set (o + 3) (.int .u8 0)).set (o + 4) (.string ⟨#[]⟩)).set (o + 5) (.int .i64 0)).set (o + 6) (.int .i64 0)).set (o + 7) (.int .i64 0)) (l ++ P.enc src ++ P.enc seq ++ P.enc low ++ [kd] ++ (textC 255).enc key ++ P.enc part ++ intC.enc at_ ++ intC.enc n)) := by
  have ha_number := ahead_number p
  have hm_number := meth_number p
  have ha_octet := ahead_octet p
  have hm_octet := meth_octet p
  have ha_text := ahead_text p
  have hm_text := meth_text p
  have ha_integer := ahead_integer p
  have hm_integer := meth_integer p
  have c0_0 : vs[o]? = some (.int .i64 src) := by
    repeat (rw [List.getElem?_set_ne (by omega)])
    exact g0
  have C0_0 := hide c0_0
  have c0_1 : vs[o + 1]? = some (.int .i64 seq) := by
    repeat (rw [List.getElem?_set_ne (by omega)])
    exact g1
  have C0_1 := hide c0_1
  have c1_0 : ((vs.set o (.int .i64 0)).set (o + 1) (.int .i64 0))[o + 2]? = some (.int .i64 low) := by
    repeat (rw [List.getElem?_set_ne (by omega)])
    exact g2
  have C1_0 := hide c1_0
  have c2_0 : (((vs.set o (.int .i64 0)).set (o + 1) (.int .i64 0)).set (o + 2) (.int .i64 0))[o + 3]? = some (.int .u8 (kd.toNat : Int)) := by
    repeat (rw [List.getElem?_set_ne (by omega)])
    exact g3
  have C2_0 := hide c2_0
  have c3_0 : ((((vs.set o (.int .i64 0)).set (o + 1) (.int .i64 0)).set (o + 2) (.int .i64 0)).set (o + 3) (.int .u8 0))[o + 4]? = some (.string ⟨key.toArray⟩) := by
    repeat (rw [List.getElem?_set_ne (by omega)])
    exact g4
  have C3_0 := hide c3_0
  have c4_0 : (((((vs.set o (.int .i64 0)).set (o + 1) (.int .i64 0)).set (o + 2) (.int .i64 0)).set (o + 3) (.int .u8 0)).set (o + 4) (.string ⟨#[]⟩))[o + 5]? = some (.int .i64 part) := by
    repeat (rw [List.getElem?_set_ne (by omega)])
    exact g5
  have C4_0 := hide c4_0
  have c5_0 : ((((((vs.set o (.int .i64 0)).set (o + 1) (.int .i64 0)).set (o + 2) (.int .i64 0)).set (o + 3) (.int .u8 0)).set (o + 4) (.string ⟨#[]⟩)).set (o + 5) (.int .i64 0))[o + 6]? = some (.int .i64 at_) := by
    repeat (rw [List.getElem?_set_ne (by omega)])
    exact g6
  have C5_0 := hide c5_0
  have c6_0 : (((((((vs.set o (.int .i64 0)).set (o + 1) (.int .i64 0)).set (o + 2) (.int .i64 0)).set (o + 3) (.int .u8 0)).set (o + 4) (.string ⟨#[]⟩)).set (o + 5) (.int .i64 0)).set (o + 6) (.int .i64 0))[o + 7]? = some (.int .i64 n) := by
    repeat (rw [List.getElem?_set_ne (by omega)])
    exact g7
  have C6_0 := hide c6_0
  have HS0 := hide h
  have HD0 := hide h.drew
  clear h c0_0 c0_1 c1_0 c2_0 c3_0 c4_0 c5_0 c6_0 g0 g1 g2 g3 g4 g5 g6 g7
  unfold sw
  go_enter Tryd.func51, Tryd.ntmps51
  go_wp2_with fail
  refine (whose_w (unhide HS0) o src seq (unhide C0_0) (unhide C0_1) (by omega)).mono ?_
  rintro e w1 hh
  rcases hh with ⟨rfl, ok, hs⟩ | ⟨rfl, no, hm'⟩
  rotate_left
  · go_wp2_with fail
    exact ⟨rfl, .inr ⟨rfl, fun h => no ⟨h.1, h.2.1⟩, hm'⟩⟩
  have HS1 := hide hs
  have HD1 := hide hs.drew
  have HOK0 := hide ok.1
  have HOK1 := hide ok.2
  have len0a := enc_len ok.1
  have len0b := enc_len ok.2
  clear hs ok
  go_wp2_with fail
  go_region_with (go_at_call 95; refine (wnumber_any (unhide HD1) (o + 2) low (unhide C1_0) (by simp only [List.length_append]; omega)).mono ?_; rintro e w2 hh; rcases hh with ⟨rfl, ok, hs⟩ | ⟨rfl, no, hm'⟩; rotate_left; exact ⟨rfl, .inr ⟨rfl, fun h => no (h.2.2.1), hm'⟩⟩; have HS2 := hide hs; have HD2 := hide hs.drew; have HOK2 := hide ok; have len1 := enc_len ok; clear hs ok)
  go_wp2_with fail
  go_region_with (go_at_call 21; refine (woctet_any (unhide HD2) (o + 3) kd (unhide C2_0) (by simp only [List.length_append]; omega)).mono ?_; rintro e w3 ⟨rfl, hs⟩; have HS3 := hide hs; have HD3 := hide hs.drew; have len2 := trivial; clear hs)
  go_wp2_with fail
  go_region_with (go_at_call 96; refine (wtext_any (unhide HD3) (o + 4) key hk 255 (by decide) (unhide C3_0) (by simp only [List.length_append, List.length_singleton]; omega)).mono ?_; rintro e w4 hh; rcases hh with ⟨rfl, ok, hs⟩ | ⟨rfl, no, hm'⟩; rotate_left; exact ⟨rfl, .inr ⟨rfl, fun h => no (h.2.2.2.1), hm'⟩⟩; have HS4 := hide hs; have HD4 := hide hs.drew; have HOK3 := hide ok; have len3 := text_len 255 key (by omega); clear hs ok)
  go_wp2_with fail
  go_region_with (go_at_call 95; refine (wnumber_any (unhide HD4) (o + 5) part (unhide C4_0) (by simp only [List.length_append, List.length_singleton]; omega)).mono ?_; rintro e w5 hh; rcases hh with ⟨rfl, ok, hs⟩ | ⟨rfl, no, hm'⟩; rotate_left; exact ⟨rfl, .inr ⟨rfl, fun h => no (h.2.2.2.2), hm'⟩⟩; have HS5 := hide hs; have HD5 := hide hs.drew; have HOK4 := hide ok; have len4 := enc_len ok; clear hs ok)
  go_wp2_with fail
  go_region_with (go_at_call 93; refine (winteger_any (unhide HD5) (o + 6) at_ hat (unhide C5_0) (by simp only [List.length_append, List.length_singleton]; omega)).mono ?_; rintro e w6 ⟨rfl, hs⟩; have HS6 := hide hs; have HD6 := hide hs.drew; have len5 := int_len hat; clear hs)
  go_wp2_with fail
  go_region_with (go_at_call 93; refine (winteger_any (unhide HD6) (o + 7) n hn (unhide C6_0) (by simp only [List.length_append, List.length_singleton]; omega)).mono ?_; rintro e w7 ⟨rfl, hs⟩; have HS7 := hide hs; have HD7 := hide hs.drew; have len6 := trivial; clear hs)
  go_wp2_with fail
  go_end0
  exact .inl ⟨rfl, ⟨unhide HOK0, unhide HOK1, unhide HOK2, unhide HOK3, unhide HOK4⟩, unhide HS7⟩

end Go.Proofs.YtkbmbcmcnpeabaaDoor

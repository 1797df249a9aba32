/- What the program's fields does through its writer, a kind at a time. Condition: no more than 2^40 bytes are written. -/
import Derived.Test.YtkbmbcmcnpeabaaDoorFw
namespace Go.Proofs.YtkbmbcmcnpeabaaDoor
open Pk Go.RowKit

set_option maxHeartbeats 4000000 in
set_option maxRecDepth 100000 in
theorem fields_w1 {w0 w : World} {p B : Nat} {vs : List Value} {l : List UInt8} (h : WSt w0 w p B vs l) (src seq low : Int) (kd : UInt8) (key : List UInt8) (part at_ n : Int) (g9 : vs[9]? = some (.int .i64 src)) (g10 : vs[10]? = some (.int .i64 seq)) (g11 : vs[11]? = some (.int .i64 low)) (g12 : vs[12]? = some (.int .u8 (kd.toNat : Int))) (g13 : vs[13]? = some (.string ⟨key.toArray⟩)) (g14 : vs[14]? = some (.int .i64 part)) (g15 : vs[15]? = some (.int .i64 at_)) (g16 : vs[16]? = some (.int .i64 n)) (hk : key.length ≤ maxLen) (hat : I64 at_) (hn : I64 n) (hb : l.length + 60000 ≤ 1099511627776) :
    Calls Tryd.prog 22 #[sw p, .int .u8 1, .pointer (some ⟨B, 0, none⟩)] w (Wr ((In src) ∧ (In seq) ∧ (In low) ∧ (key.length ≤ 255) ∧ (In part)) w0 p B ((((((((vs.set 9 (.int .i64 0)).set (9 + 1) (.int .i64 0)).set (9 + 2) (.int .i64 0)).set (9 + 3) (.int .u8 0)).set (9 + 4) (.string ⟨#[]⟩)).set (9 + 5) (.int .i64 0)).set (9 + 6) (.int .i64 0)).set (9 + 7) (.int .i64 0)) (l ++ P.enc src ++ P.enc seq ++ P.enc low ++ [kd] ++ (textC 255).enc key ++ P.enc part ++ intC.enc at_ ++ intC.enc n)) := by
  have c9 : vs[9]? = vs[9]? := by
    first | rfl | (repeat (rw [List.getElem?_set_ne (by omega)]))
  have C9 := hide (c9.trans g9)
  have c10 : vs[(9 + 1)]? = vs[10]? := by
    first | rfl | (repeat (rw [List.getElem?_set_ne (by omega)]))
  have C10 := hide (c10.trans g10)
  have c11 : vs[(9 + 2)]? = vs[11]? := by
    first | rfl | (repeat (rw [List.getElem?_set_ne (by omega)]))
  have C11 := hide (c11.trans g11)
  have c12 : vs[(9 + 3)]? = vs[12]? := by
    first | rfl | (repeat (rw [List.getElem?_set_ne (by omega)]))
  have C12 := hide (c12.trans g12)
  have c13 : vs[(9 + 4)]? = vs[13]? := by
    first | rfl | (repeat (rw [List.getElem?_set_ne (by omega)]))
  have C13 := hide (c13.trans g13)
  have c14 : vs[(9 + 5)]? = vs[14]? := by
    first | rfl | (repeat (rw [List.getElem?_set_ne (by omega)]))
  have C14 := hide (c14.trans g14)
  have c15 : vs[(9 + 6)]? = vs[15]? := by
    first | rfl | (repeat (rw [List.getElem?_set_ne (by omega)]))
  have C15 := hide (c15.trans g15)
  have c16 : vs[(9 + 7)]? = vs[16]? := by
    first | rfl | (repeat (rw [List.getElem?_set_ne (by omega)]))
  have C16 := hide (c16.trans g16)
  have HS0 := hide h
  have HD0 := hide h.drew
  clear h c9 g9 c10 g10 c11 g11 c12 g12 c13 g13 c14 g14 c15 g15 c16 g16
  unfold sw
  go_enter Tryd.func22, Tryd.ntmps22
  go_wp2_with fail
  refine (item_w (unhide HS0) 9 src seq low kd key part at_ n (unhide C9) (unhide C10) (unhide C11) (unhide C12) (unhide C13) (unhide C14) (unhide C15) (unhide C16) hk hat hn (by omega)).mono ?_
  rintro e w1 hh
  rcases hh with ⟨rfl, ok, hs⟩ | ⟨rfl, no, hm'⟩
  rotate_left
  · have NO := hide no
    clear no
    go_wp2_with fail
    exact ⟨rfl, .inr ⟨rfl, fun h => unhide NO ⟨h.1, h.2.1, h.2.2.1, h.2.2.2.1, h.2.2.2.2⟩, hm'⟩⟩
  have HS1 := hide hs
  have HD1 := hide hs.drew
  have HOK0 := hide ok
  clear hs ok
  go_wp2_with fail
  go_end0
  refine .inl ⟨rfl, ⟨(unhide HOK0).1, (unhide HOK0).2.1, (unhide HOK0).2.2.1, (unhide HOK0).2.2.2.1, (unhide HOK0).2.2.2.2⟩, ?_⟩
  have hfin := unhide HS1
  simpa only [List.append_assoc] using hfin

set_option maxHeartbeats 4000000 in
set_option maxRecDepth 100000 in
theorem fields_w2 {w0 w : World} {p B : Nat} {vs : List Value} {l : List UInt8} (h : WSt w0 w p B vs l) (src seq : Int) (g9 : vs[9]? = some (.int .i64 src)) (g10 : vs[10]? = some (.int .i64 seq)) (cd : Int) (g6 : vs[6]? = some (.int .i64 cd)) (hb : l.length + 60000 ≤ 1099511627776) :
    Calls Tryd.prog 22 #[sw p, .int .u8 2, .pointer (some ⟨B, 0, none⟩)] w (Wr ((In src) ∧ (In seq) ∧ (In cd)) w0 p B (((vs.set 9 (.int .i64 0)).set (9 + 1) (.int .i64 0)).set 6 (.int .i64 0)) (l ++ P.enc src ++ P.enc seq ++ P.enc cd)) := by
  have ha_number := ahead_number p
  have hm_number := meth_number p
  have c9 : vs[9]? = vs[9]? := by
    first | rfl | (repeat (rw [List.getElem?_set_ne (by omega)]))
  have C9 := hide (c9.trans g9)
  have c10 : vs[(9 + 1)]? = vs[10]? := by
    first | rfl | (repeat (rw [List.getElem?_set_ne (by omega)]))
  have C10 := hide (c10.trans g10)
  have c6 : ((vs.set 9 (.int .i64 0)).set (9 + 1) (.int .i64 0))[6]? = vs[6]? := by
    first | rfl | (repeat (rw [List.getElem?_set_ne (by omega)]))
  have C6 := hide (c6.trans g6)
  have HS0 := hide h
  have HD0 := hide h.drew
  clear h c9 g9 c10 g10 c6 g6
  unfold sw
  go_enter Tryd.func22, Tryd.ntmps22
  go_wp2_with fail
  refine (whose_w (unhide HS0) 9 src seq (unhide C9) (unhide C10) (by omega)).mono ?_
  rintro e w1 hh
  rcases hh with ⟨rfl, ok, hs⟩ | ⟨rfl, no, hm'⟩
  rotate_left
  · have NO := hide no
    clear no
    go_wp2_with fail
    exact ⟨rfl, .inr ⟨rfl, fun h => unhide NO ⟨h.1, h.2.1⟩, hm'⟩⟩
  have HS1 := hide hs
  have HD1 := hide hs.drew
  have HOK0 := hide ok
  have len0a := enc_len ok.1
  have len0b := enc_len ok.2
  clear hs ok
  go_wp2_with fail
  go_region_with (go_at_call 95; refine (wnumber_any (unhide HD1) 6 cd (unhide C6) (by simp only [List.length_append]; omega)).mono ?_; rintro e w2 hh; rcases hh with ⟨rfl, ok, hs⟩ | ⟨rfl, no, hm'⟩; rotate_left; exact ⟨rfl, .inr ⟨rfl, fun h => no (h.2.2), hm'⟩⟩; have HS2 := hide hs; have HD2 := hide hs.drew; have HOK1 := hide ok; have len1 := enc_len ok; clear hs ok)
  go_wp2_with fail
  go_end0
  refine .inl ⟨rfl, ⟨(unhide HOK0).1, (unhide HOK0).2, (unhide HOK1)⟩, ?_⟩
  have hfin := unhide HS2
  simpa only [List.append_assoc] using hfin

set_option maxHeartbeats 4000000 in
set_option maxRecDepth 100000 in
theorem fields_w3 {w0 w : World} {p B : Nat} {vs : List Value} {l : List UInt8} (h : WSt w0 w p B vs l) (src seq : Int) (g9 : vs[9]? = some (.int .i64 src)) (g10 : vs[10]? = some (.int .i64 seq)) (ep nd : Int) (ow : List Int) (oa : Option Addr) (oc : Nat) (g17 : vs[17]? = some (.int .i64 ep)) (g18 : vs[18]? = some (.int .i64 nd)) (g19 : vs[19]? = some (.slice oa ow.length oc)) (hoI : IntsF w0 p B oa ow) (how : ow.length ≤ maxLen) (hb : l.length + 60000 ≤ 1099511627776) :
    Calls Tryd.prog 22 #[sw p, .int .u8 3, .pointer (some ⟨B, 0, none⟩)] w (Wr ((In src) ∧ (In seq) ∧ (In ep) ∧ (In nd) ∧ (ow.length ≤ 64) ∧ (∀ x ∈ ow, In x)) w0 p B (((((vs.set 9 (.int .i64 0)).set (9 + 1) (.int .i64 0)).set 17 (.int .i64 0)).set (17 + 1) (.int .i64 0)).set (17 + 2) (.slice none 0 0)) (l ++ P.enc src ++ P.enc seq ++ P.enc ep ++ P.enc nd ++ (listC P 64).enc ow)) := by
  have c9 : vs[9]? = vs[9]? := by
    first | rfl | (repeat (rw [List.getElem?_set_ne (by omega)]))
  have C9 := hide (c9.trans g9)
  have c10 : vs[(9 + 1)]? = vs[10]? := by
    first | rfl | (repeat (rw [List.getElem?_set_ne (by omega)]))
  have C10 := hide (c10.trans g10)
  have c17 : ((vs.set 9 (.int .i64 0)).set (9 + 1) (.int .i64 0))[17]? = vs[17]? := by
    first | rfl | (repeat (rw [List.getElem?_set_ne (by omega)]))
  have C17 := hide (c17.trans g17)
  have c18 : ((vs.set 9 (.int .i64 0)).set (9 + 1) (.int .i64 0))[(17 + 1)]? = vs[18]? := by
    first | rfl | (repeat (rw [List.getElem?_set_ne (by omega)]))
  have C18 := hide (c18.trans g18)
  have c19 : ((vs.set 9 (.int .i64 0)).set (9 + 1) (.int .i64 0))[(17 + 2)]? = vs[19]? := by
    first | rfl | (repeat (rw [List.getElem?_set_ne (by omega)]))
  have C19 := hide (c19.trans g19)
  have HS0 := hide h
  have HD0 := hide h.drew
  clear h c9 g9 c10 g10 c17 g17 c18 g18 c19 g19
  unfold sw
  go_enter Tryd.func22, Tryd.ntmps22
  go_wp2_with fail
  refine (whose_w (unhide HS0) 9 src seq (unhide C9) (unhide C10) (by omega)).mono ?_
  rintro e w1 hh
  rcases hh with ⟨rfl, ok, hs⟩ | ⟨rfl, no, hm'⟩
  rotate_left
  · have NO := hide no
    clear no
    go_wp2_with fail
    exact ⟨rfl, .inr ⟨rfl, fun h => unhide NO ⟨h.1, h.2.1⟩, hm'⟩⟩
  have HS1 := hide hs
  have HD1 := hide hs.drew
  have HOK0 := hide ok
  have len0a := enc_len ok.1
  have len0b := enc_len ok.2
  clear hs ok
  go_wp2_with fail
  refine (table_w (unhide HS1) 17 ep nd ow oa oc (unhide C17) (unhide C18) (unhide C19) hoI how (by simp only [List.length_append]; omega)).mono ?_
  rintro e w2 hh
  rcases hh with ⟨rfl, ok, hs⟩ | ⟨rfl, no, hm'⟩
  rotate_left
  · have NO := hide no
    clear no
    go_wp2_with fail
    exact ⟨rfl, .inr ⟨rfl, fun h => unhide NO ⟨h.2.2.1, h.2.2.2.1, h.2.2.2.2.1, h.2.2.2.2.2⟩, hm'⟩⟩
  have HS2 := hide hs
  have HD2 := hide hs.drew
  have HOK1 := hide ok
  clear hs ok
  go_wp2_with fail
  go_end0
  refine .inl ⟨rfl, ⟨(unhide HOK0).1, (unhide HOK0).2, (unhide HOK1).1, (unhide HOK1).2.1, (unhide HOK1).2.2.1, (unhide HOK1).2.2.2⟩, ?_⟩
  have hfin := unhide HS2
  simpa only [List.append_assoc] using hfin

set_option maxHeartbeats 4000000 in
set_option maxRecDepth 100000 in
theorem fields_w4 {w0 w : World} {p B : Nat} {vs : List Value} {l : List UInt8} (h : WSt w0 w p B vs l) (mv : Int) (g1 : vs[1]? = some (.int .i64 mv)) (pt : Int) (g2 : vs[2]? = some (.int .i64 pt)) (to_ : Int) (g3 : vs[3]? = some (.int .i64 to_)) (hb : l.length + 60000 ≤ 1099511627776) :
    Calls Tryd.prog 22 #[sw p, .int .u8 4, .pointer (some ⟨B, 0, none⟩)] w (Wr ((In mv) ∧ (In pt) ∧ (In to_)) w0 p B (((vs.set 1 (.int .i64 0)).set 2 (.int .i64 0)).set 3 (.int .i64 0)) (l ++ P.enc mv ++ P.enc pt ++ P.enc to_)) := by
  have ha_number := ahead_number p
  have hm_number := meth_number p
  have c1 : vs[1]? = vs[1]? := by
    first | rfl | (repeat (rw [List.getElem?_set_ne (by omega)]))
  have C1 := hide (c1.trans g1)
  have c2 : (vs.set 1 (.int .i64 0))[2]? = vs[2]? := by
    first | rfl | (repeat (rw [List.getElem?_set_ne (by omega)]))
  have C2 := hide (c2.trans g2)
  have c3 : ((vs.set 1 (.int .i64 0)).set 2 (.int .i64 0))[3]? = vs[3]? := by
    first | rfl | (repeat (rw [List.getElem?_set_ne (by omega)]))
  have C3 := hide (c3.trans g3)
  have HS0 := hide h
  have HD0 := hide h.drew
  clear h c1 g1 c2 g2 c3 g3
  unfold sw
  go_enter Tryd.func22, Tryd.ntmps22
  go_wp2_with fail
  go_region_with (go_at_call 95; refine (wnumber_any (unhide HD0) 1 mv (unhide C1) (by omega)).mono ?_; rintro e w1 hh; rcases hh with ⟨rfl, ok, hs⟩ | ⟨rfl, no, hm'⟩; rotate_left; exact ⟨rfl, .inr ⟨rfl, fun h => no (h.1), hm'⟩⟩; have HS1 := hide hs; have HD1 := hide hs.drew; have HOK0 := hide ok; have len0 := enc_len ok; clear hs ok)
  go_wp2_with fail
  go_region_with (go_at_call 95; refine (wnumber_any (unhide HD1) 2 pt (unhide C2) (by simp only [List.length_append]; omega)).mono ?_; rintro e w2 hh; rcases hh with ⟨rfl, ok, hs⟩ | ⟨rfl, no, hm'⟩; rotate_left; exact ⟨rfl, .inr ⟨rfl, fun h => no (h.2.1), hm'⟩⟩; have HS2 := hide hs; have HD2 := hide hs.drew; have HOK1 := hide ok; have len1 := enc_len ok; clear hs ok)
  go_wp2_with fail
  go_region_with (go_at_call 95; refine (wnumber_any (unhide HD2) 3 to_ (unhide C3) (by simp only [List.length_append]; omega)).mono ?_; rintro e w3 hh; rcases hh with ⟨rfl, ok, hs⟩ | ⟨rfl, no, hm'⟩; rotate_left; exact ⟨rfl, .inr ⟨rfl, fun h => no (h.2.2), hm'⟩⟩; have HS3 := hide hs; have HD3 := hide hs.drew; have HOK2 := hide ok; have len2 := enc_len ok; clear hs ok)
  go_wp2_with fail
  go_end0
  refine .inl ⟨rfl, ⟨(unhide HOK0), (unhide HOK1), (unhide HOK2)⟩, ?_⟩
  have hfin := unhide HS3
  simpa only [List.append_assoc] using hfin

set_option maxHeartbeats 4000000 in
set_option maxRecDepth 100000 in
theorem fields_w5 {w0 w : World} {p B : Nat} {vs : List Value} {l : List UInt8} (h : WSt w0 w p B vs l) (mv : Int) (g1 : vs[1]? = some (.int .i64 mv)) (pt : Int) (g2 : vs[2]? = some (.int .i64 pt)) (nn : Int) (g4 : vs[4]? = some (.int .i64 nn)) (ct : Int) (g5 : vs[5]? = some (.int .i64 ct)) (dt : List UInt8) (g21 : vs[21]? = some (.string ⟨dt.toArray⟩)) (hdt : dt.length ≤ maxLen) (hb : l.length + 60000 ≤ 1099511627776) :
    Calls Tryd.prog 22 #[sw p, .int .u8 5, .pointer (some ⟨B, 0, none⟩)] w (Wr ((In mv) ∧ (In pt) ∧ (In nn) ∧ (In ct) ∧ (dt.length ≤ 1024)) w0 p B (((((vs.set 1 (.int .i64 0)).set 2 (.int .i64 0)).set 4 (.int .i64 0)).set 5 (.int .i64 0)).set 21 (.string ⟨#[]⟩)) (l ++ P.enc mv ++ P.enc pt ++ P.enc nn ++ P.enc ct ++ (textC 1024).enc dt)) := by
  have ha_number := ahead_number p
  have hm_number := meth_number p
  have ha_text := ahead_text p
  have hm_text := meth_text p
  have c1 : vs[1]? = vs[1]? := by
    first | rfl | (repeat (rw [List.getElem?_set_ne (by omega)]))
  have C1 := hide (c1.trans g1)
  have c2 : (vs.set 1 (.int .i64 0))[2]? = vs[2]? := by
    first | rfl | (repeat (rw [List.getElem?_set_ne (by omega)]))
  have C2 := hide (c2.trans g2)
  have c4 : ((vs.set 1 (.int .i64 0)).set 2 (.int .i64 0))[4]? = vs[4]? := by
    first | rfl | (repeat (rw [List.getElem?_set_ne (by omega)]))
  have C4 := hide (c4.trans g4)
  have c5 : (((vs.set 1 (.int .i64 0)).set 2 (.int .i64 0)).set 4 (.int .i64 0))[5]? = vs[5]? := by
    first | rfl | (repeat (rw [List.getElem?_set_ne (by omega)]))
  have C5 := hide (c5.trans g5)
  have c21 : ((((vs.set 1 (.int .i64 0)).set 2 (.int .i64 0)).set 4 (.int .i64 0)).set 5 (.int .i64 0))[21]? = vs[21]? := by
    first | rfl | (repeat (rw [List.getElem?_set_ne (by omega)]))
  have C21 := hide (c21.trans g21)
  have HS0 := hide h
  have HD0 := hide h.drew
  clear h c1 g1 c2 g2 c4 g4 c5 g5 c21 g21
  unfold sw
  go_enter Tryd.func22, Tryd.ntmps22
  go_wp2_with fail
  go_region_with (go_at_call 95; refine (wnumber_any (unhide HD0) 1 mv (unhide C1) (by omega)).mono ?_; rintro e w1 hh; rcases hh with ⟨rfl, ok, hs⟩ | ⟨rfl, no, hm'⟩; rotate_left; exact ⟨rfl, .inr ⟨rfl, fun h => no (h.1), hm'⟩⟩; have HS1 := hide hs; have HD1 := hide hs.drew; have HOK0 := hide ok; have len0 := enc_len ok; clear hs ok)
  go_wp2_with fail
  go_region_with (go_at_call 95; refine (wnumber_any (unhide HD1) 2 pt (unhide C2) (by simp only [List.length_append]; omega)).mono ?_; rintro e w2 hh; rcases hh with ⟨rfl, ok, hs⟩ | ⟨rfl, no, hm'⟩; rotate_left; exact ⟨rfl, .inr ⟨rfl, fun h => no (h.2.1), hm'⟩⟩; have HS2 := hide hs; have HD2 := hide hs.drew; have HOK1 := hide ok; have len1 := enc_len ok; clear hs ok)
  go_wp2_with fail
  go_region_with (go_at_call 95; refine (wnumber_any (unhide HD2) 4 nn (unhide C4) (by simp only [List.length_append]; omega)).mono ?_; rintro e w3 hh; rcases hh with ⟨rfl, ok, hs⟩ | ⟨rfl, no, hm'⟩; rotate_left; exact ⟨rfl, .inr ⟨rfl, fun h => no (h.2.2.1), hm'⟩⟩; have HS3 := hide hs; have HD3 := hide hs.drew; have HOK2 := hide ok; have len2 := enc_len ok; clear hs ok)
  go_wp2_with fail
  go_region_with (go_at_call 95; refine (wnumber_any (unhide HD3) 5 ct (unhide C5) (by simp only [List.length_append]; omega)).mono ?_; rintro e w4 hh; rcases hh with ⟨rfl, ok, hs⟩ | ⟨rfl, no, hm'⟩; rotate_left; exact ⟨rfl, .inr ⟨rfl, fun h => no (h.2.2.2.1), hm'⟩⟩; have HS4 := hide hs; have HD4 := hide hs.drew; have HOK3 := hide ok; have len3 := enc_len ok; clear hs ok)
  go_wp2_with fail
  go_region_with (go_at_call 96; refine (wtext_any (unhide HD4) 21 dt hdt 1024 (by decide) (unhide C21) (by simp only [List.length_append]; omega)).mono ?_; rintro e w5 hh; rcases hh with ⟨rfl, ok, hs⟩ | ⟨rfl, no, hm'⟩; rotate_left; exact ⟨rfl, .inr ⟨rfl, fun h => no (h.2.2.2.2), hm'⟩⟩; have HS5 := hide hs; have HD5 := hide hs.drew; have HOK4 := hide ok; have len4 := trivial; clear hs ok)
  go_wp2_with fail
  go_end0
  refine .inl ⟨rfl, ⟨(unhide HOK0), (unhide HOK1), (unhide HOK2), (unhide HOK3), (unhide HOK4)⟩, ?_⟩
  have hfin := unhide HS5
  simpa only [List.append_assoc] using hfin

set_option maxHeartbeats 4000000 in
set_option maxRecDepth 100000 in
theorem fields_w6 {w0 w : World} {p B : Nat} {vs : List Value} {l : List UInt8} (h : WSt w0 w p B vs l) (mv : Int) (g1 : vs[1]? = some (.int .i64 mv)) (pt : Int) (g2 : vs[2]? = some (.int .i64 pt)) (nn : Int) (g4 : vs[4]? = some (.int .i64 nn)) (st : List Int) (sa : Option Addr) (sc : Nat) (g20 : vs[20]? = some (.slice sa st.length sc)) (hsI : IntsF w0 p B sa st) (hst : st.length ≤ maxLen) (hb : l.length + 60000 ≤ 1099511627776) :
    Calls Tryd.prog 22 #[sw p, .int .u8 6, .pointer (some ⟨B, 0, none⟩)] w (Wr ((In mv) ∧ (In pt) ∧ (In nn) ∧ (st.length ≤ 1024) ∧ (∀ x ∈ st, In x)) w0 p B ((((vs.set 1 (.int .i64 0)).set 2 (.int .i64 0)).set 4 (.int .i64 0)).set 20 (.slice none 0 0)) (l ++ P.enc mv ++ P.enc pt ++ P.enc nn ++ (listC P 1024).enc st)) := by
  have ha_number := ahead_number p
  have hm_number := meth_number p
  have ha_list := ahead_list p
  have hm_list := meth_list p
  have c1 : vs[1]? = vs[1]? := by
    first | rfl | (repeat (rw [List.getElem?_set_ne (by omega)]))
  have C1 := hide (c1.trans g1)
  have c2 : (vs.set 1 (.int .i64 0))[2]? = vs[2]? := by
    first | rfl | (repeat (rw [List.getElem?_set_ne (by omega)]))
  have C2 := hide (c2.trans g2)
  have c4 : ((vs.set 1 (.int .i64 0)).set 2 (.int .i64 0))[4]? = vs[4]? := by
    first | rfl | (repeat (rw [List.getElem?_set_ne (by omega)]))
  have C4 := hide (c4.trans g4)
  have c20 : (((vs.set 1 (.int .i64 0)).set 2 (.int .i64 0)).set 4 (.int .i64 0))[20]? = vs[20]? := by
    first | rfl | (repeat (rw [List.getElem?_set_ne (by omega)]))
  have C20 := hide (c20.trans g20)
  have HS0 := hide h
  have HD0 := hide h.drew
  clear h c1 g1 c2 g2 c4 g4 c20 g20
  unfold sw
  go_enter Tryd.func22, Tryd.ntmps22
  go_wp2_with fail
  go_region_with (go_at_call 95; refine (wnumber_any (unhide HD0) 1 mv (unhide C1) (by omega)).mono ?_; rintro e w1 hh; rcases hh with ⟨rfl, ok, hs⟩ | ⟨rfl, no, hm'⟩; rotate_left; exact ⟨rfl, .inr ⟨rfl, fun h => no (h.1), hm'⟩⟩; have HS1 := hide hs; have HD1 := hide hs.drew; have HOK0 := hide ok; have len0 := enc_len ok; clear hs ok)
  go_wp2_with fail
  go_region_with (go_at_call 95; refine (wnumber_any (unhide HD1) 2 pt (unhide C2) (by simp only [List.length_append]; omega)).mono ?_; rintro e w2 hh; rcases hh with ⟨rfl, ok, hs⟩ | ⟨rfl, no, hm'⟩; rotate_left; exact ⟨rfl, .inr ⟨rfl, fun h => no (h.2.1), hm'⟩⟩; have HS2 := hide hs; have HD2 := hide hs.drew; have HOK1 := hide ok; have len1 := enc_len ok; clear hs ok)
  go_wp2_with fail
  go_region_with (go_at_call 95; refine (wnumber_any (unhide HD2) 4 nn (unhide C4) (by simp only [List.length_append]; omega)).mono ?_; rintro e w3 hh; rcases hh with ⟨rfl, ok, hs⟩ | ⟨rfl, no, hm'⟩; rotate_left; exact ⟨rfl, .inr ⟨rfl, fun h => no (h.2.2.1), hm'⟩⟩; have HS3 := hide hs; have HD3 := hide hs.drew; have HOK2 := hide ok; have len2 := enc_len ok; clear hs ok)
  go_wp2_with fail
  go_region_with (go_at_call 94; refine (wlist_any (unhide HD3) 20 st sa sc (unhide C20) hsI hst 1024 (by decide) (by simp only [List.length_append]; omega)).mono ?_; rintro e w4 hh; rcases hh with ⟨rfl, ok, hs⟩ | ⟨rfl, no, hm'⟩; rotate_left; exact ⟨rfl, .inr ⟨rfl, fun h => no (⟨h.2.2.2.1, h.2.2.2.2⟩), hm'⟩⟩; have HS4 := hide hs; have HD4 := hide hs.drew; have HOK3 := hide ok; have len3 := trivial; clear hs ok)
  go_wp2_with fail
  go_end0
  refine .inl ⟨rfl, ⟨(unhide HOK0), (unhide HOK1), (unhide HOK2), (unhide HOK3).1, (unhide HOK3).2⟩, ?_⟩
  have hfin := unhide HS4
  simpa only [List.append_assoc] using hfin

set_option maxHeartbeats 4000000 in
set_option maxRecDepth 100000 in
theorem fields_w7 {w0 w : World} {p B : Nat} {vs : List Value} {l : List UInt8} (h : WSt w0 w p B vs l) (mv : Int) (g1 : vs[1]? = some (.int .i64 mv)) (pt : Int) (g2 : vs[2]? = some (.int .i64 pt)) (nn : Int) (g4 : vs[4]? = some (.int .i64 nn)) (src seq low : Int) (kd : UInt8) (key : List UInt8) (part at_ n : Int) (g9 : vs[9]? = some (.int .i64 src)) (g10 : vs[10]? = some (.int .i64 seq)) (g11 : vs[11]? = some (.int .i64 low)) (g12 : vs[12]? = some (.int .u8 (kd.toNat : Int))) (g13 : vs[13]? = some (.string ⟨key.toArray⟩)) (g14 : vs[14]? = some (.int .i64 part)) (g15 : vs[15]? = some (.int .i64 at_)) (g16 : vs[16]? = some (.int .i64 n)) (hk : key.length ≤ maxLen) (hat : I64 at_) (hn : I64 n) (hb : l.length + 60000 ≤ 1099511627776) :
    Calls Tryd.prog 22 #[sw p, .int .u8 7, .pointer (some ⟨B, 0, none⟩)] w (Wr ((In mv) ∧ (In pt) ∧ (In nn) ∧ (In src) ∧ (In seq) ∧ (In low) ∧ (key.length ≤ 255) ∧ (In part)) w0 p B (((((((((((vs.set 1 (.int .i64 0)).set 2 (.int .i64 0)).set 4 (.int .i64 0)).set 9 (.int .i64 0)).set (9 + 1) (.int .i64 0)).set (9 + 2) (.int .i64 0)).set (9 + 3) (.int .u8 0)).set (9 + 4) (.string ⟨#[]⟩)).set (9 + 5) (.int .i64 0)).set (9 + 6) (.int .i64 0)).set (9 + 7) (.int .i64 0)) (l ++ P.enc mv ++ P.enc pt ++ P.enc nn ++ P.enc src ++ P.enc seq ++ P.enc low ++ [kd] ++ (textC 255).enc key ++ P.enc part ++ intC.enc at_ ++ intC.enc n)) := by
  have ha_number := ahead_number p
  have hm_number := meth_number p
  have c1 : vs[1]? = vs[1]? := by
    first | rfl | (repeat (rw [List.getElem?_set_ne (by omega)]))
  have C1 := hide (c1.trans g1)
  have c2 : (vs.set 1 (.int .i64 0))[2]? = vs[2]? := by
    first | rfl | (repeat (rw [List.getElem?_set_ne (by omega)]))
  have C2 := hide (c2.trans g2)
  have c4 : ((vs.set 1 (.int .i64 0)).set 2 (.int .i64 0))[4]? = vs[4]? := by
    first | rfl | (repeat (rw [List.getElem?_set_ne (by omega)]))
  have C4 := hide (c4.trans g4)
  have c9 : (((vs.set 1 (.int .i64 0)).set 2 (.int .i64 0)).set 4 (.int .i64 0))[9]? = vs[9]? := by
    first | rfl | (repeat (rw [List.getElem?_set_ne (by omega)]))
  have C9 := hide (c9.trans g9)
  have c10 : (((vs.set 1 (.int .i64 0)).set 2 (.int .i64 0)).set 4 (.int .i64 0))[(9 + 1)]? = vs[10]? := by
    first | rfl | (repeat (rw [List.getElem?_set_ne (by omega)]))
  have C10 := hide (c10.trans g10)
  have c11 : (((vs.set 1 (.int .i64 0)).set 2 (.int .i64 0)).set 4 (.int .i64 0))[(9 + 2)]? = vs[11]? := by
    first | rfl | (repeat (rw [List.getElem?_set_ne (by omega)]))
  have C11 := hide (c11.trans g11)
  have c12 : (((vs.set 1 (.int .i64 0)).set 2 (.int .i64 0)).set 4 (.int .i64 0))[(9 + 3)]? = vs[12]? := by
    first | rfl | (repeat (rw [List.getElem?_set_ne (by omega)]))
  have C12 := hide (c12.trans g12)
  have c13 : (((vs.set 1 (.int .i64 0)).set 2 (.int .i64 0)).set 4 (.int .i64 0))[(9 + 4)]? = vs[13]? := by
    first | rfl | (repeat (rw [List.getElem?_set_ne (by omega)]))
  have C13 := hide (c13.trans g13)
  have c14 : (((vs.set 1 (.int .i64 0)).set 2 (.int .i64 0)).set 4 (.int .i64 0))[(9 + 5)]? = vs[14]? := by
    first | rfl | (repeat (rw [List.getElem?_set_ne (by omega)]))
  have C14 := hide (c14.trans g14)
  have c15 : (((vs.set 1 (.int .i64 0)).set 2 (.int .i64 0)).set 4 (.int .i64 0))[(9 + 6)]? = vs[15]? := by
    first | rfl | (repeat (rw [List.getElem?_set_ne (by omega)]))
  have C15 := hide (c15.trans g15)
  have c16 : (((vs.set 1 (.int .i64 0)).set 2 (.int .i64 0)).set 4 (.int .i64 0))[(9 + 7)]? = vs[16]? := by
    first | rfl | (repeat (rw [List.getElem?_set_ne (by omega)]))
  have C16 := hide (c16.trans g16)
  have HS0 := hide h
  have HD0 := hide h.drew
  clear h c1 g1 c2 g2 c4 g4 c9 g9 c10 g10 c11 g11 c12 g12 c13 g13 c14 g14 c15 g15 c16 g16
  unfold sw
  go_enter Tryd.func22, Tryd.ntmps22
  go_wp2_with fail
  go_region_with (go_at_call 95; refine (wnumber_any (unhide HD0) 1 mv (unhide C1) (by omega)).mono ?_; rintro e w1 hh; rcases hh with ⟨rfl, ok, hs⟩ | ⟨rfl, no, hm'⟩; rotate_left; exact ⟨rfl, .inr ⟨rfl, fun h => no (h.1), hm'⟩⟩; have HS1 := hide hs; have HD1 := hide hs.drew; have HOK0 := hide ok; have len0 := enc_len ok; clear hs ok)
  go_wp2_with fail
  go_region_with (go_at_call 95; refine (wnumber_any (unhide HD1) 2 pt (unhide C2) (by simp only [List.length_append]; omega)).mono ?_; rintro e w2 hh; rcases hh with ⟨rfl, ok, hs⟩ | ⟨rfl, no, hm'⟩; rotate_left; exact ⟨rfl, .inr ⟨rfl, fun h => no (h.2.1), hm'⟩⟩; have HS2 := hide hs; have HD2 := hide hs.drew; have HOK1 := hide ok; have len1 := enc_len ok; clear hs ok)
  go_wp2_with fail
  go_region_with (go_at_call 95; refine (wnumber_any (unhide HD2) 4 nn (unhide C4) (by simp only [List.length_append]; omega)).mono ?_; rintro e w3 hh; rcases hh with ⟨rfl, ok, hs⟩ | ⟨rfl, no, hm'⟩; rotate_left; exact ⟨rfl, .inr ⟨rfl, fun h => no (h.2.2.1), hm'⟩⟩; have HS3 := hide hs; have HD3 := hide hs.drew; have HOK2 := hide ok; have len2 := enc_len ok; clear hs ok)
  go_wp2_with fail
  refine (item_w (unhide HS3) 9 src seq low kd key part at_ n (unhide C9) (unhide C10) (unhide C11) (unhide C12) (unhide C13) (unhide C14) (unhide C15) (unhide C16) hk hat hn (by simp only [List.length_append]; omega)).mono ?_
  rintro e w4 hh
  rcases hh with ⟨rfl, ok, hs⟩ | ⟨rfl, no, hm'⟩
  rotate_left
  · have NO := hide no
    clear no
    go_wp2_with fail
    exact ⟨rfl, .inr ⟨rfl, fun h => unhide NO ⟨h.2.2.2.1, h.2.2.2.2.1, h.2.2.2.2.2.1, h.2.2.2.2.2.2.1, h.2.2.2.2.2.2.2⟩, hm'⟩⟩
  have HS4 := hide hs
  have HD4 := hide hs.drew
  have HOK3 := hide ok
  clear hs ok
  go_wp2_with fail
  go_end0
  refine .inl ⟨rfl, ⟨(unhide HOK0), (unhide HOK1), (unhide HOK2), (unhide HOK3).1, (unhide HOK3).2.1, (unhide HOK3).2.2.1, (unhide HOK3).2.2.2.1, (unhide HOK3).2.2.2.2⟩, ?_⟩
  have hfin := unhide HS4
  simpa only [List.append_assoc] using hfin

set_option maxHeartbeats 4000000 in
set_option maxRecDepth 100000 in
theorem fields_w8 {w0 w : World} {p B : Nat} {vs : List Value} {l : List UInt8} (h : WSt w0 w p B vs l) (mv : Int) (g1 : vs[1]? = some (.int .i64 mv)) (pt : Int) (g2 : vs[2]? = some (.int .i64 pt)) (nn : Int) (g4 : vs[4]? = some (.int .i64 nn)) (hb : l.length + 60000 ≤ 1099511627776) :
    Calls Tryd.prog 22 #[sw p, .int .u8 8, .pointer (some ⟨B, 0, none⟩)] w (Wr ((In mv) ∧ (In pt) ∧ (In nn)) w0 p B (((vs.set 1 (.int .i64 0)).set 2 (.int .i64 0)).set 4 (.int .i64 0)) (l ++ P.enc mv ++ P.enc pt ++ P.enc nn)) := by
  have ha_number := ahead_number p
  have hm_number := meth_number p
  have c1 : vs[1]? = vs[1]? := by
    first | rfl | (repeat (rw [List.getElem?_set_ne (by omega)]))
  have C1 := hide (c1.trans g1)
  have c2 : (vs.set 1 (.int .i64 0))[2]? = vs[2]? := by
    first | rfl | (repeat (rw [List.getElem?_set_ne (by omega)]))
  have C2 := hide (c2.trans g2)
  have c4 : ((vs.set 1 (.int .i64 0)).set 2 (.int .i64 0))[4]? = vs[4]? := by
    first | rfl | (repeat (rw [List.getElem?_set_ne (by omega)]))
  have C4 := hide (c4.trans g4)
  have HS0 := hide h
  have HD0 := hide h.drew
  clear h c1 g1 c2 g2 c4 g4
  unfold sw
  go_enter Tryd.func22, Tryd.ntmps22
  go_wp2_with fail
  go_region_with (go_at_call 95; refine (wnumber_any (unhide HD0) 1 mv (unhide C1) (by omega)).mono ?_; rintro e w1 hh; rcases hh with ⟨rfl, ok, hs⟩ | ⟨rfl, no, hm'⟩; rotate_left; exact ⟨rfl, .inr ⟨rfl, fun h => no (h.1), hm'⟩⟩; have HS1 := hide hs; have HD1 := hide hs.drew; have HOK0 := hide ok; have len0 := enc_len ok; clear hs ok)
  go_wp2_with fail
  go_region_with (go_at_call 95; refine (wnumber_any (unhide HD1) 2 pt (unhide C2) (by simp only [List.length_append]; omega)).mono ?_; rintro e w2 hh; rcases hh with ⟨rfl, ok, hs⟩ | ⟨rfl, no, hm'⟩; rotate_left; exact ⟨rfl, .inr ⟨rfl, fun h => no (h.2.1), hm'⟩⟩; have HS2 := hide hs; have HD2 := hide hs.drew; have HOK1 := hide ok; have len1 := enc_len ok; clear hs ok)
  go_wp2_with fail
  go_region_with (go_at_call 95; refine (wnumber_any (unhide HD2) 4 nn (unhide C4) (by simp only [List.length_append]; omega)).mono ?_; rintro e w3 hh; rcases hh with ⟨rfl, ok, hs⟩ | ⟨rfl, no, hm'⟩; rotate_left; exact ⟨rfl, .inr ⟨rfl, fun h => no (h.2.2), hm'⟩⟩; have HS3 := hide hs; have HD3 := hide hs.drew; have HOK2 := hide ok; have len2 := enc_len ok; clear hs ok)
  go_wp2_with fail
  go_end0
  refine .inl ⟨rfl, ⟨(unhide HOK0), (unhide HOK1), (unhide HOK2)⟩, ?_⟩
  have hfin := unhide HS3
  simpa only [List.append_assoc] using hfin

set_option maxHeartbeats 4000000 in
set_option maxRecDepth 100000 in
theorem fields_w9 {w0 w : World} {p B : Nat} {vs : List Value} {l : List UInt8} (h : WSt w0 w p B vs l) (mv : Int) (g1 : vs[1]? = some (.int .i64 mv)) (pt : Int) (g2 : vs[2]? = some (.int .i64 pt)) (nn : Int) (g4 : vs[4]? = some (.int .i64 nn)) (mat : Int) (g8 : vs[8]? = some (.int .i64 mat)) (hmat : I64 mat) (dg : Nat) (g7 : vs[7]? = some (.int .u64 (dg : Int))) (hdg : dg < 2 ^ 64) (hb : l.length + 60000 ≤ 1099511627776) :
    Calls Tryd.prog 22 #[sw p, .int .u8 9, .pointer (some ⟨B, 0, none⟩)] w (Wr ((In mv) ∧ (In pt) ∧ (In nn)) w0 p B (((((vs.set 1 (.int .i64 0)).set 2 (.int .i64 0)).set 4 (.int .i64 0)).set 8 (.int .i64 0)).set 7 (.int .u64 0)) (l ++ P.enc mv ++ P.enc pt ++ P.enc nn ++ intC.enc mat ++ numC.enc dg)) := by
  have ha_number := ahead_number p
  have hm_number := meth_number p
  have ha_integer := ahead_integer p
  have hm_integer := meth_integer p
  have ha_wide := ahead_wide p
  have hm_wide := meth_wide p
  have c1 : vs[1]? = vs[1]? := by
    first | rfl | (repeat (rw [List.getElem?_set_ne (by omega)]))
  have C1 := hide (c1.trans g1)
  have c2 : (vs.set 1 (.int .i64 0))[2]? = vs[2]? := by
    first | rfl | (repeat (rw [List.getElem?_set_ne (by omega)]))
  have C2 := hide (c2.trans g2)
  have c4 : ((vs.set 1 (.int .i64 0)).set 2 (.int .i64 0))[4]? = vs[4]? := by
    first | rfl | (repeat (rw [List.getElem?_set_ne (by omega)]))
  have C4 := hide (c4.trans g4)
  have c8 : (((vs.set 1 (.int .i64 0)).set 2 (.int .i64 0)).set 4 (.int .i64 0))[8]? = vs[8]? := by
    first | rfl | (repeat (rw [List.getElem?_set_ne (by omega)]))
  have C8 := hide (c8.trans g8)
  have c7 : ((((vs.set 1 (.int .i64 0)).set 2 (.int .i64 0)).set 4 (.int .i64 0)).set 8 (.int .i64 0))[7]? = vs[7]? := by
    first | rfl | (repeat (rw [List.getElem?_set_ne (by omega)]))
  have C7 := hide (c7.trans g7)
  have HS0 := hide h
  have HD0 := hide h.drew
  clear h c1 g1 c2 g2 c4 g4 c8 g8 c7 g7
  unfold sw
  go_enter Tryd.func22, Tryd.ntmps22
  go_wp2_with fail
  go_region_with (go_at_call 95; refine (wnumber_any (unhide HD0) 1 mv (unhide C1) (by omega)).mono ?_; rintro e w1 hh; rcases hh with ⟨rfl, ok, hs⟩ | ⟨rfl, no, hm'⟩; rotate_left; exact ⟨rfl, .inr ⟨rfl, fun h => no (h.1), hm'⟩⟩; have HS1 := hide hs; have HD1 := hide hs.drew; have HOK0 := hide ok; have len0 := enc_len ok; clear hs ok)
  go_wp2_with fail
  go_region_with (go_at_call 95; refine (wnumber_any (unhide HD1) 2 pt (unhide C2) (by simp only [List.length_append]; omega)).mono ?_; rintro e w2 hh; rcases hh with ⟨rfl, ok, hs⟩ | ⟨rfl, no, hm'⟩; rotate_left; exact ⟨rfl, .inr ⟨rfl, fun h => no (h.2.1), hm'⟩⟩; have HS2 := hide hs; have HD2 := hide hs.drew; have HOK1 := hide ok; have len1 := enc_len ok; clear hs ok)
  go_wp2_with fail
  go_region_with (go_at_call 95; refine (wnumber_any (unhide HD2) 4 nn (unhide C4) (by simp only [List.length_append]; omega)).mono ?_; rintro e w3 hh; rcases hh with ⟨rfl, ok, hs⟩ | ⟨rfl, no, hm'⟩; rotate_left; exact ⟨rfl, .inr ⟨rfl, fun h => no (h.2.2), hm'⟩⟩; have HS3 := hide hs; have HD3 := hide hs.drew; have HOK2 := hide ok; have len2 := enc_len ok; clear hs ok)
  go_wp2_with fail
  go_region_with (go_at_call 93; refine (winteger_any (unhide HD3) 8 mat hmat (unhide C8) (by simp only [List.length_append]; omega)).mono ?_; rintro e w4 ⟨rfl, hs⟩; have HS4 := hide hs; have HD4 := hide hs.drew; have len3 := int_len hmat; clear hs)
  go_wp2_with fail
  go_region_with (go_at_call 98; refine (wwide_any (unhide HD4) 7 dg hdg (unhide C7) (by simp only [List.length_append]; omega)).mono ?_; rintro e w5 ⟨rfl, hs⟩; have HS5 := hide hs; have HD5 := hide hs.drew; have len4 := trivial; clear hs)
  go_wp2_with fail
  go_end0
  refine .inl ⟨rfl, ⟨(unhide HOK0), (unhide HOK1), (unhide HOK2)⟩, ?_⟩
  have hfin := unhide HS5
  simpa only [List.append_assoc] using hfin

set_option maxHeartbeats 4000000 in
set_option maxRecDepth 100000 in
theorem fields_w10 {w0 w : World} {p B : Nat} {vs : List Value} {l : List UInt8} (h : WSt w0 w p B vs l) (mv : Int) (g1 : vs[1]? = some (.int .i64 mv)) (pt : Int) (g2 : vs[2]? = some (.int .i64 pt)) (cd : Int) (g6 : vs[6]? = some (.int .i64 cd)) (hb : l.length + 60000 ≤ 1099511627776) :
    Calls Tryd.prog 22 #[sw p, .int .u8 10, .pointer (some ⟨B, 0, none⟩)] w (Wr ((In mv) ∧ (In pt) ∧ (In cd)) w0 p B (((vs.set 1 (.int .i64 0)).set 2 (.int .i64 0)).set 6 (.int .i64 0)) (l ++ P.enc mv ++ P.enc pt ++ P.enc cd)) := by
  have ha_number := ahead_number p
  have hm_number := meth_number p
  have c1 : vs[1]? = vs[1]? := by
    first | rfl | (repeat (rw [List.getElem?_set_ne (by omega)]))
  have C1 := hide (c1.trans g1)
  have c2 : (vs.set 1 (.int .i64 0))[2]? = vs[2]? := by
    first | rfl | (repeat (rw [List.getElem?_set_ne (by omega)]))
  have C2 := hide (c2.trans g2)
  have c6 : ((vs.set 1 (.int .i64 0)).set 2 (.int .i64 0))[6]? = vs[6]? := by
    first | rfl | (repeat (rw [List.getElem?_set_ne (by omega)]))
  have C6 := hide (c6.trans g6)
  have HS0 := hide h
  have HD0 := hide h.drew
  clear h c1 g1 c2 g2 c6 g6
  unfold sw
  go_enter Tryd.func22, Tryd.ntmps22
  go_wp2_with fail
  go_region_with (go_at_call 95; refine (wnumber_any (unhide HD0) 1 mv (unhide C1) (by omega)).mono ?_; rintro e w1 hh; rcases hh with ⟨rfl, ok, hs⟩ | ⟨rfl, no, hm'⟩; rotate_left; exact ⟨rfl, .inr ⟨rfl, fun h => no (h.1), hm'⟩⟩; have HS1 := hide hs; have HD1 := hide hs.drew; have HOK0 := hide ok; have len0 := enc_len ok; clear hs ok)
  go_wp2_with fail
  go_region_with (go_at_call 95; refine (wnumber_any (unhide HD1) 2 pt (unhide C2) (by simp only [List.length_append]; omega)).mono ?_; rintro e w2 hh; rcases hh with ⟨rfl, ok, hs⟩ | ⟨rfl, no, hm'⟩; rotate_left; exact ⟨rfl, .inr ⟨rfl, fun h => no (h.2.1), hm'⟩⟩; have HS2 := hide hs; have HD2 := hide hs.drew; have HOK1 := hide ok; have len1 := enc_len ok; clear hs ok)
  go_wp2_with fail
  go_region_with (go_at_call 95; refine (wnumber_any (unhide HD2) 6 cd (unhide C6) (by simp only [List.length_append]; omega)).mono ?_; rintro e w3 hh; rcases hh with ⟨rfl, ok, hs⟩ | ⟨rfl, no, hm'⟩; rotate_left; exact ⟨rfl, .inr ⟨rfl, fun h => no (h.2.2), hm'⟩⟩; have HS3 := hide hs; have HD3 := hide hs.drew; have HOK2 := hide ok; have len2 := enc_len ok; clear hs ok)
  go_wp2_with fail
  go_end0
  refine .inl ⟨rfl, ⟨(unhide HOK0), (unhide HOK1), (unhide HOK2)⟩, ?_⟩
  have hfin := unhide HS3
  simpa only [List.append_assoc] using hfin

set_option maxHeartbeats 4000000 in
set_option maxRecDepth 100000 in
theorem fields_w11 {w0 w : World} {p B : Nat} {vs : List Value} {l : List UInt8} (h : WSt w0 w p B vs l) (mv : Int) (g1 : vs[1]? = some (.int .i64 mv)) (pt : Int) (g2 : vs[2]? = some (.int .i64 pt)) (ep nd : Int) (ow : List Int) (oa : Option Addr) (oc : Nat) (g17 : vs[17]? = some (.int .i64 ep)) (g18 : vs[18]? = some (.int .i64 nd)) (g19 : vs[19]? = some (.slice oa ow.length oc)) (hoI : IntsF w0 p B oa ow) (how : ow.length ≤ maxLen) (hb : l.length + 60000 ≤ 1099511627776) :
    Calls Tryd.prog 22 #[sw p, .int .u8 11, .pointer (some ⟨B, 0, none⟩)] w (Wr ((In mv) ∧ (In pt) ∧ (In ep) ∧ (In nd) ∧ (ow.length ≤ 64) ∧ (∀ x ∈ ow, In x)) w0 p B (((((vs.set 1 (.int .i64 0)).set 2 (.int .i64 0)).set 17 (.int .i64 0)).set (17 + 1) (.int .i64 0)).set (17 + 2) (.slice none 0 0)) (l ++ P.enc mv ++ P.enc pt ++ P.enc ep ++ P.enc nd ++ (listC P 64).enc ow)) := by
  have ha_number := ahead_number p
  have hm_number := meth_number p
  have c1 : vs[1]? = vs[1]? := by
    first | rfl | (repeat (rw [List.getElem?_set_ne (by omega)]))
  have C1 := hide (c1.trans g1)
  have c2 : (vs.set 1 (.int .i64 0))[2]? = vs[2]? := by
    first | rfl | (repeat (rw [List.getElem?_set_ne (by omega)]))
  have C2 := hide (c2.trans g2)
  have c17 : ((vs.set 1 (.int .i64 0)).set 2 (.int .i64 0))[17]? = vs[17]? := by
    first | rfl | (repeat (rw [List.getElem?_set_ne (by omega)]))
  have C17 := hide (c17.trans g17)
  have c18 : ((vs.set 1 (.int .i64 0)).set 2 (.int .i64 0))[(17 + 1)]? = vs[18]? := by
    first | rfl | (repeat (rw [List.getElem?_set_ne (by omega)]))
  have C18 := hide (c18.trans g18)
  have c19 : ((vs.set 1 (.int .i64 0)).set 2 (.int .i64 0))[(17 + 2)]? = vs[19]? := by
    first | rfl | (repeat (rw [List.getElem?_set_ne (by omega)]))
  have C19 := hide (c19.trans g19)
  have HS0 := hide h
  have HD0 := hide h.drew
  clear h c1 g1 c2 g2 c17 g17 c18 g18 c19 g19
  unfold sw
  go_enter Tryd.func22, Tryd.ntmps22
  go_wp2_with fail
  go_region_with (go_at_call 95; refine (wnumber_any (unhide HD0) 1 mv (unhide C1) (by omega)).mono ?_; rintro e w1 hh; rcases hh with ⟨rfl, ok, hs⟩ | ⟨rfl, no, hm'⟩; rotate_left; exact ⟨rfl, .inr ⟨rfl, fun h => no (h.1), hm'⟩⟩; have HS1 := hide hs; have HD1 := hide hs.drew; have HOK0 := hide ok; have len0 := enc_len ok; clear hs ok)
  go_wp2_with fail
  go_region_with (go_at_call 95; refine (wnumber_any (unhide HD1) 2 pt (unhide C2) (by simp only [List.length_append]; omega)).mono ?_; rintro e w2 hh; rcases hh with ⟨rfl, ok, hs⟩ | ⟨rfl, no, hm'⟩; rotate_left; exact ⟨rfl, .inr ⟨rfl, fun h => no (h.2.1), hm'⟩⟩; have HS2 := hide hs; have HD2 := hide hs.drew; have HOK1 := hide ok; have len1 := enc_len ok; clear hs ok)
  go_wp2_with fail
  refine (table_w (unhide HS2) 17 ep nd ow oa oc (unhide C17) (unhide C18) (unhide C19) hoI how (by simp only [List.length_append]; omega)).mono ?_
  rintro e w3 hh
  rcases hh with ⟨rfl, ok, hs⟩ | ⟨rfl, no, hm'⟩
  rotate_left
  · have NO := hide no
    clear no
    go_wp2_with fail
    exact ⟨rfl, .inr ⟨rfl, fun h => unhide NO ⟨h.2.2.1, h.2.2.2.1, h.2.2.2.2.1, h.2.2.2.2.2⟩, hm'⟩⟩
  have HS3 := hide hs
  have HD3 := hide hs.drew
  have HOK2 := hide ok
  clear hs ok
  go_wp2_with fail
  go_end0
  refine .inl ⟨rfl, ⟨(unhide HOK0), (unhide HOK1), (unhide HOK2).1, (unhide HOK2).2.1, (unhide HOK2).2.2.1, (unhide HOK2).2.2.2⟩, ?_⟩
  have hfin := unhide HS3
  simpa only [List.append_assoc] using hfin

set_option maxHeartbeats 4000000 in
set_option maxRecDepth 100000 in
theorem fields_w12 {w0 w : World} {p B : Nat} {vs : List Value} {l : List UInt8} (h : WSt w0 w p B vs l) (mv : Int) (g1 : vs[1]? = some (.int .i64 mv)) (pt : Int) (g2 : vs[2]? = some (.int .i64 pt)) (hb : l.length + 60000 ≤ 1099511627776) :
    Calls Tryd.prog 22 #[sw p, .int .u8 12, .pointer (some ⟨B, 0, none⟩)] w (Wr ((In mv) ∧ (In pt)) w0 p B ((vs.set 1 (.int .i64 0)).set 2 (.int .i64 0)) (l ++ P.enc mv ++ P.enc pt)) := by
  have ha_number := ahead_number p
  have hm_number := meth_number p
  have c1 : vs[1]? = vs[1]? := by
    first | rfl | (repeat (rw [List.getElem?_set_ne (by omega)]))
  have C1 := hide (c1.trans g1)
  have c2 : (vs.set 1 (.int .i64 0))[2]? = vs[2]? := by
    first | rfl | (repeat (rw [List.getElem?_set_ne (by omega)]))
  have C2 := hide (c2.trans g2)
  have HS0 := hide h
  have HD0 := hide h.drew
  clear h c1 g1 c2 g2
  unfold sw
  go_enter Tryd.func22, Tryd.ntmps22
  go_wp2_with fail
  go_region_with (go_at_call 95; refine (wnumber_any (unhide HD0) 1 mv (unhide C1) (by omega)).mono ?_; rintro e w1 hh; rcases hh with ⟨rfl, ok, hs⟩ | ⟨rfl, no, hm'⟩; rotate_left; exact ⟨rfl, .inr ⟨rfl, fun h => no (h.1), hm'⟩⟩; have HS1 := hide hs; have HD1 := hide hs.drew; have HOK0 := hide ok; have len0 := enc_len ok; clear hs ok)
  go_wp2_with fail
  go_region_with (go_at_call 95; refine (wnumber_any (unhide HD1) 2 pt (unhide C2) (by simp only [List.length_append]; omega)).mono ?_; rintro e w2 hh; rcases hh with ⟨rfl, ok, hs⟩ | ⟨rfl, no, hm'⟩; rotate_left; exact ⟨rfl, .inr ⟨rfl, fun h => no (h.2), hm'⟩⟩; have HS2 := hide hs; have HD2 := hide hs.drew; have HOK1 := hide ok; have len1 := enc_len ok; clear hs ok)
  go_wp2_with fail
  go_end0
  refine .inl ⟨rfl, ⟨(unhide HOK0), (unhide HOK1)⟩, ?_⟩
  have hfin := unhide HS2
  simpa only [List.append_assoc] using hfin

set_option maxHeartbeats 4000000 in
set_option maxRecDepth 100000 in
theorem fields_w13 {w0 w : World} {p B : Nat} {vs : List Value} {l : List UInt8} (h : WSt w0 w p B vs l) (mv : Int) (g1 : vs[1]? = some (.int .i64 mv)) (pt : Int) (g2 : vs[2]? = some (.int .i64 pt)) (hb : l.length + 60000 ≤ 1099511627776) :
    Calls Tryd.prog 22 #[sw p, .int .u8 13, .pointer (some ⟨B, 0, none⟩)] w (Wr ((In mv) ∧ (In pt)) w0 p B ((vs.set 1 (.int .i64 0)).set 2 (.int .i64 0)) (l ++ P.enc mv ++ P.enc pt)) := by
  have ha_number := ahead_number p
  have hm_number := meth_number p
  have c1 : vs[1]? = vs[1]? := by
    first | rfl | (repeat (rw [List.getElem?_set_ne (by omega)]))
  have C1 := hide (c1.trans g1)
  have c2 : (vs.set 1 (.int .i64 0))[2]? = vs[2]? := by
    first | rfl | (repeat (rw [List.getElem?_set_ne (by omega)]))
  have C2 := hide (c2.trans g2)
  have HS0 := hide h
  have HD0 := hide h.drew
  clear h c1 g1 c2 g2
  unfold sw
  go_enter Tryd.func22, Tryd.ntmps22
  go_wp2_with fail
  go_region_with (go_at_call 95; refine (wnumber_any (unhide HD0) 1 mv (unhide C1) (by omega)).mono ?_; rintro e w1 hh; rcases hh with ⟨rfl, ok, hs⟩ | ⟨rfl, no, hm'⟩; rotate_left; exact ⟨rfl, .inr ⟨rfl, fun h => no (h.1), hm'⟩⟩; have HS1 := hide hs; have HD1 := hide hs.drew; have HOK0 := hide ok; have len0 := enc_len ok; clear hs ok)
  go_wp2_with fail
  go_region_with (go_at_call 95; refine (wnumber_any (unhide HD1) 2 pt (unhide C2) (by simp only [List.length_append]; omega)).mono ?_; rintro e w2 hh; rcases hh with ⟨rfl, ok, hs⟩ | ⟨rfl, no, hm'⟩; rotate_left; exact ⟨rfl, .inr ⟨rfl, fun h => no (h.2), hm'⟩⟩; have HS2 := hide hs; have HD2 := hide hs.drew; have HOK1 := hide ok; have len1 := enc_len ok; clear hs ok)
  go_wp2_with fail
  go_end0
  refine .inl ⟨rfl, ⟨(unhide HOK0), (unhide HOK1)⟩, ?_⟩
  have hfin := unhide HS2
  simpa only [List.append_assoc] using hfin

set_option maxHeartbeats 4000000 in
set_option maxRecDepth 100000 in
theorem fields_w14 {w0 w : World} {p B : Nat} {vs : List Value} {l : List UInt8} (h : WSt w0 w p B vs l) (ep nd : Int) (ow : List Int) (oa : Option Addr) (oc : Nat) (g17 : vs[17]? = some (.int .i64 ep)) (g18 : vs[18]? = some (.int .i64 nd)) (g19 : vs[19]? = some (.slice oa ow.length oc)) (hoI : IntsF w0 p B oa ow) (how : ow.length ≤ maxLen) (hb : l.length + 60000 ≤ 1099511627776) :
    Calls Tryd.prog 22 #[sw p, .int .u8 14, .pointer (some ⟨B, 0, none⟩)] w (Wr ((In ep) ∧ (In nd) ∧ (ow.length ≤ 64) ∧ (∀ x ∈ ow, In x)) w0 p B (((vs.set 17 (.int .i64 0)).set (17 + 1) (.int .i64 0)).set (17 + 2) (.slice none 0 0)) (l ++ P.enc ep ++ P.enc nd ++ (listC P 64).enc ow)) := by
  have c17 : vs[17]? = vs[17]? := by
    first | rfl | (repeat (rw [List.getElem?_set_ne (by omega)]))
  have C17 := hide (c17.trans g17)
  have c18 : vs[(17 + 1)]? = vs[18]? := by
    first | rfl | (repeat (rw [List.getElem?_set_ne (by omega)]))
  have C18 := hide (c18.trans g18)
  have c19 : vs[(17 + 2)]? = vs[19]? := by
    first | rfl | (repeat (rw [List.getElem?_set_ne (by omega)]))
  have C19 := hide (c19.trans g19)
  have HS0 := hide h
  have HD0 := hide h.drew
  clear h c17 g17 c18 g18 c19 g19
  unfold sw
  go_enter Tryd.func22, Tryd.ntmps22
  go_wp2_with fail
  refine (table_w (unhide HS0) 17 ep nd ow oa oc (unhide C17) (unhide C18) (unhide C19) hoI how (by omega)).mono ?_
  rintro e w1 hh
  rcases hh with ⟨rfl, ok, hs⟩ | ⟨rfl, no, hm'⟩
  rotate_left
  · have NO := hide no
    clear no
    go_wp2_with fail
    exact ⟨rfl, .inr ⟨rfl, fun h => unhide NO ⟨h.1, h.2.1, h.2.2.1, h.2.2.2⟩, hm'⟩⟩
  have HS1 := hide hs
  have HD1 := hide hs.drew
  have HOK0 := hide ok
  clear hs ok
  go_wp2_with fail
  go_end0
  refine .inl ⟨rfl, ⟨(unhide HOK0).1, (unhide HOK0).2.1, (unhide HOK0).2.2.1, (unhide HOK0).2.2.2⟩, ?_⟩
  have hfin := unhide HS1
  simpa only [List.append_assoc] using hfin

end Go.Proofs.YtkbmbcmcnpeabaaDoor

/- What FrameKnown does: it answers true, and nothing that was there has turned. Condition: the table's sixteen cells hold its numbers. -/
import Derived.Test.YthklhnmageekgaaDoorRef
namespace Go.Proofs.YthklhnmageekgaaDoor
open Crc Go.RowKit

/-- A made row of n bytes, as a text. -/
theorem made_text (w : World) (n : Nat) (hn : n ≤ 30000) : ∃ (w1 : World) (t : ByteArray), t.size = n ∧
    Sem.run Tryd.prog (Instr.makeSlice 25 (.int .i64 (n : Int)) (.int .i64 (n : Int))) w = .ok (.slice (some ⟨w.heap.size, 0, none⟩) n n) w1 ∧ Below w.heap.size w w1 ∧
    Sem.run Tryd.prog (convert 25 9 (.slice (some ⟨w.heap.size, 0, none⟩) n n)) w1 = .ok (.string t) w1 := by
  obtain ⟨w1, h1, h2, h3, _⟩ := make_in w n hn
  refine ⟨w1, ⟨(List.replicate n 0).toArray⟩, ?_, h1, h2, conv_out h3 n n (by simp)⟩
  show (List.replicate n (0 : UInt8)).toArray.size = n
  simp

theorem frame0 : frameOf [] = [0, 0, 0, 0, 199, 75, 103, 72, 0, 0, 0, 0] := by decide +kernel
def big : List UInt8 := [1, 64, 0, 0]
theorem big_next : nextAt (big ++ four (crc big)) 0 = ([], 0, 3) := by decide +kernel
theorem f_whole : wholeOf (frameOf []) = ([], 0) := whole_back [] (by decide)
theorem f_more : wholeOf (frameOf [] ++ [120]) = ([], 8) := by
  have e := frame_back [] [120] (by decide)
  unfold wholeOf
  rw [e, if_neg (by simp), if_pos (by rw [List.length_append, frameOf_length]; simp)]
theorem f_less : wholeOf ((frameOf []).take 11) = ([], 7) := by
  have e := frame_cut [] (by decide) 11 (by rw [frameOf_length]; decide)
  unfold wholeOf
  rw [e, if_pos (by simp)]
theorem f_two : nextAt (frameOf [] ++ frameOf []) 12 = ([], 24, 0) := by
  have e := frame_back [] [] (by decide)
  rw [List.append_nil] at e
  unfold nextAt
  rw [List.drop_left' (show (frameOf []).length = 12 from frameOf_length [])]
  rw [e]
  rfl
theorem f_end : nextAt (frameOf [] ++ frameOf []) 24 = ([], 0, 7) := by
  unfold nextAt
  rw [List.drop_of_length_le (by rw [List.length_append, frameOf_length]; decide)]
  rfl

set_option maxRecDepth 100000 in
set_option maxHeartbeats 2000000 in
theorem known_any (w : World) (hT : Tab w) : Calls Tryd.prog 3 #[] w fun e w' => e = .returned (.bool true) ∧ Below w.heap.size w w' := by
  have HT : Hid (Tab w) := hide hT
  clear hT
  obtain ⟨b, hb⟩ : ∃ b : ByteArray, b = ⟨(frameOf []).toArray⟩ := ⟨_, rfl⟩
  have hbl : b.data.toList = frameOf [] := by rw [hb]
  have hbs : b.size = 12 := by rw [hb]; rfl
  have x1 : (b ++ ⟨#[120]⟩ : ByteArray).data.toList = frameOf [] ++ [120] := by rw [ByteArray.data_append, Array.toList_append, hbl]
  have x2 : (b.extract 0 11).data.toList = (frameOf []).take 11 := by rw [cut_list, hbl]; rfl
  have x3 : (b ++ b).data.toList = frameOf [] ++ frameOf [] := by rw [ByteArray.data_append, Array.toList_append, hbl]
  have x4 : ((b.extract 0 4).toList == [0, 0, 0, 0]) = true := by rw [cut_same, hbl]; decide +kernel
  have x5 : ((b.extract 8 12).toList == [0, 0, 0, 0]) = true := by rw [cut_same, hbl]; decide +kernel
  have X := hide (And.intro hbl (And.intro x1 (And.intro x2 x3)))
  have Hb := hide hb
  clear hb hbl x1 x2 x3
  go_enter Tryd.func3, Tryd.ntmps3
  go_wp2_with fail
  refine (put_any _ _ (by decide +kernel) (unhide HT)).mono ?_
  rintro e w1 ⟨rfl, m⟩
  have B := hide m
  clear m
  rw [show (ByteArray.mk #[]).data.toList = [] from rfl, show putOf [] = (frameOf [], 0) from if_neg (by decide), ← unhide Hb]
  obtain ⟨w2, t2, hs2, hm2, hB2, hc2⟩ := made_text w1 16385 (by decide)
  replace hm2 : Sem.run Tryd.prog (Instr.makeSlice 25 (.int .i64 16385) (.int .i64 16385)) w1 = .ok (.slice (some ⟨w1.heap.size, 0, none⟩) 16385 16385) w2 := hm2
  replace B := hide ((unhide B).trans (hB2.mono (unhide B).size))
  clear hB2
  go_wp2_with fail
  clear hm2 hc2
  refine (put_any t2 _ (by rw [hs2]; decide) ((unhide HT).below (unhide B))).mono ?_
  rintro e w3 ⟨rfl, m⟩
  replace B := hide ((unhide B).trans (m.mono (unhide B).size))
  clear m
  rw [show putOf t2.data.toList = ([], 3) from if_pos (by rw [text_len, hs2]; decide)]
  clear hs2
  obtain ⟨w4, t4, hs4, hm4, hB4, hc4⟩ := made_text w3 16384 (by decide)
  replace hm4 : Sem.run Tryd.prog (Instr.makeSlice 25 (.int .i64 16384) (.int .i64 16384)) w3 = .ok (.slice (some ⟨w3.heap.size, 0, none⟩) 16384 16384) w4 := hm4
  replace B := hide ((unhide B).trans (hB4.mono (unhide B).size))
  clear hB4
  go_wp2_with fail
  clear hm4 hc4
  refine (put_any t4 _ (by rw [hs4]; decide) ((unhide HT).below (unhide B))).mono ?_
  rintro e w5 ⟨rfl, m⟩
  replace B := hide ((unhide B).trans (m.mono (unhide B).size))
  clear m
  rw [show putOf t4.data.toList = (frameOf t4.data.toList, 0) from if_neg (by rw [text_len, hs4]; decide)]
  generalize frameOf t4.data.toList = l4
  clear hs4
  go_wp2_with fail
  refine (whole_any b _ (by unfold maxLen; omega) ((unhide HT).below (unhide B))).mono ?_
  rintro e w6 ⟨rfl, m⟩
  replace B := hide ((unhide B).trans (m.mono (unhide B).size))
  clear m
  rw [(unhide X).1, f_whole]
  go_wp2_with fail
  refine (whole_any _ _ (by rw [ByteArray.size_append, hbs]; decide) ((unhide HT).below (unhide B))).mono ?_
  rintro e w7 ⟨rfl, m⟩
  replace B := hide ((unhide B).trans (m.mono (unhide B).size))
  clear m
  rw [(unhide X).2.1, f_more]
  go_wp2_with fail
  refine (whole_any _ _ (cut_max _ _ _ (by unfold maxLen; omega)) ((unhide HT).below (unhide B))).mono ?_
  rintro e w8 ⟨rfl, m⟩
  replace B := hide ((unhide B).trans (m.mono (unhide B).size))
  clear m
  rw [(unhide X).2.2.1, f_less]
  go_wp2_with fail
  refine (next_any _ 12 _ (by rw [ByteArray.size_append, hbs]; decide) (by rw [ByteArray.size_append, hbs]; decide) ((unhide HT).below (unhide B))).mono ?_
  rintro e w9 ⟨rfl, m⟩
  replace B := hide ((unhide B).trans (m.mono (unhide B).size))
  clear m
  rw [(unhide X).2.2.2, f_two]
  go_wp2_with fail
  refine (next_any _ 24 _ (by rw [ByteArray.size_append, hbs]; decide) (by rw [ByteArray.size_append, hbs]; decide) ((unhide HT).below (unhide B))).mono ?_
  rintro e w10 ⟨rfl, m⟩
  replace B := hide ((unhide B).trans (m.mono (unhide B).size))
  clear m
  rw [(unhide X).2.2.2, f_end]
  go_wp2_with fail
  refine (next_out _ 25 _ (.inr (by rw [ByteArray.size_append, hbs]; decide))).mono ?_
  rintro e w11 ⟨rfl, m⟩
  replace B := hide ((unhide B).trans (m.mono (unhide B).size))
  clear m
  go_wp2_with fail
  refine (ref_crc_any _ _ (by decide +kernel)).mono ?_
  rintro e w12 ⟨rfl, rfl⟩
  rw [show (ByteArray.mk #[1, 64, 0, 0]).data.toList = big from rfl]
  generalize hcc : crc big = c at *
  have Hc := hide hcc
  clear hcc
  have hv := four_conv c w12
  have hlt := c.isLt
  go_wp2_with fail
  clear hv
  replace B := hide ((unhide B).alloc (unhide B).size (fourBlock c))
  refine (next_any _ 0 _ (by rw [ByteArray.size_append]; exact (show 4 + 4 ≤ maxLen by decide)) (by omega) ((unhide HT).below (unhide B))).mono ?_
  rintro e w13 ⟨rfl, m⟩
  replace B := hide ((unhide B).trans (m.mono (unhide B).size))
  clear m
  rw [show ((ByteArray.mk #[1, 64, 0, 0]) ++ (ByteArray.mk (four c).toArray)).data.toList = big ++ four (crc big) by rw [ByteArray.data_append, Array.toList_append, unhide Hc]; rfl, big_next]
  go_wp2_with fail
  refine (awake_any _ ((unhide HT).below (unhide B))).mono ?_
  rintro e w14 ⟨rfl, m⟩
  replace B := hide ((unhide B).trans (m.mono (unhide B).size))
  clear m
  go_wp2_with fail
  go_ret
  exact ⟨rfl, unhide B⟩
end Go.Proofs.YthklhnmageekgaaDoor

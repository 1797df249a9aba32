/- What FrameApart does, for any two texts: it answers true, and nothing that was there has turned. Condition: the table's sixteen cells hold its numbers. -/
import Derived.Test.YthklhnmageekgaaDoorCalls
namespace Go.Proofs.YthklhnmageekgaaDoor
open Crc Go.RowKit

theorem put_is {s : ByteArray} (h : ¬ (16384 : Int) < (s.size : Int)) : putOf s.data.toList = (frameOf s.data.toList, 0) := if_neg (by rw [text_len]; omega)
theorem frame_size {s f : ByteArray} (h : f = ⟨(frameOf s.data.toList).toArray⟩) : f.size = s.size + 12 := by
  rw [← text_len f, h]
  show (frameOf s.data.toList).length = _
  rw [frameOf_length, text_len]
theorem frame_list {s f : ByteArray} (h : f = ⟨(frameOf s.data.toList).toArray⟩) : f.data.toList = frameOf s.data.toList := by rw [h]
theorem same_text (a b : ByteArray) : (a.toList == b.toList) = decide (a = b) := by
  rw [ByteArray.toList_eq, ByteArray.toList_eq, Bool.eq_iff_iff, beq_iff_eq, decide_eq_true_eq]
  exact ⟨bytes_ext, fun h => by rw [h]⟩
/-- A frame begins another one just if they are the same. -/
theorem begins_iff {a b f g : ByteArray} (ha : a.size ≤ 16384) (hb : b.size ≤ 16384) (hf : f = ⟨(frameOf a.data.toList).toArray⟩) (hg : g = ⟨(frameOf b.data.toList).toArray⟩) :
    ((g.extract 0 f.size).toList == f.toList) = (a.toList == b.toList) := by
  rw [cut_same, same_text, ByteArray.toList_eq, frame_list hg, frame_list hf, Bool.eq_iff_iff, decide_eq_true_eq, decide_eq_true_eq, Nat.sub_zero, List.drop_zero]
  constructor
  · intro h
    apply bytes_ext
    refine frame_prefix (t := (frameOf b.data.toList).drop f.size) (by rw [text_len]; omega) (by rw [text_len]; omega) ?_
    rw [← h, List.take_append_drop]
  · rintro rfl
    rw [List.take_of_length_le]
    rw [frameOf_length, frame_size hf, text_len]
    exact Nat.le_refl _

theorem apart_far (a b : ByteArray) (w : World) (hT : Tab w) (h : (16384 : Int) < (a.size : Int) ∨ (16384 : Int) < (b.size : Int)) :
    Calls Tryd.prog 8 #[.string a, .string b] w fun e w' => e = .returned (.bool true) ∧ Below w.heap.size w w' := by
  have HT : Hid (Tab w) := hide hT
  clear hT
  by_cases h1 : (16384 : Int) < (a.size : Int)
  · have d1 : decide ((16384 : Int) < (a.size : Int)) = true := decide_eq_true h1
    go_enter Tryd.func8, Tryd.ntmps8
    go_wp2_with fail
    refine (awake_any _ (unhide HT)).mono ?_
    rintro e w1 ⟨rfl, m⟩
    have B := hide m
    clear m
    go_wp2_with fail
    go_ret
    exact ⟨rfl, unhide B⟩
  · have h2 : (16384 : Int) < (b.size : Int) := h.resolve_left h1
    have d1 : decide ((16384 : Int) < (a.size : Int)) = false := decide_eq_false h1
    have d2 : decide ((16384 : Int) < (b.size : Int)) = true := decide_eq_true h2
    go_enter Tryd.func8, Tryd.ntmps8
    go_wp2_with fail
    refine (awake_any _ (unhide HT)).mono ?_
    rintro e w1 ⟨rfl, m⟩
    have B := hide m
    clear m
    go_wp2_with fail
    go_ret
    exact ⟨rfl, unhide B⟩

theorem apart_near (a b : ByteArray) (w : World) (hT : Tab w) (h1 : ¬ (16384 : Int) < (a.size : Int)) (h2 : ¬ (16384 : Int) < (b.size : Int)) :
    Calls Tryd.prog 8 #[.string a, .string b] w fun e w' => e = .returned (.bool true) ∧ Below w.heap.size w w' := by
  have HT : Hid (Tab w) := hide hT
  clear hT
  have d1 : decide ((16384 : Int) < (a.size : Int)) = false := decide_eq_false h1
  have d2 : decide ((16384 : Int) < (b.size : Int)) = false := decide_eq_false h2
  have P := hide (And.intro (put_is h1) (put_is h2))
  obtain ⟨f, hf⟩ : ∃ f : ByteArray, f = ⟨(frameOf a.data.toList).toArray⟩ := ⟨_, rfl⟩
  obtain ⟨g, hg⟩ : ∃ g : ByteArray, g = ⟨(frameOf b.data.toList).toArray⟩ := ⟨_, rfl⟩
  have hB := begins_iff (by omega) (by omega) hf hg
  have sf := frame_size hf
  have sg := frame_size hg
  have F := hide (And.intro hf hg)
  clear hf hg
  have hne : ¬ (f.size : Int) ≤ (g.size : Int) → (a.toList == b.toList) = false := fun h => by
    rw [same_text, decide_eq_false_iff_not]
    rintro rfl
    omega
  have HN := hide hne
  have SF := hide (And.intro sf sg)
  clear hne sf sg
  go_enter Tryd.func8, Tryd.ntmps8
  go_wp2_with fail
  refine (awake_any _ (unhide HT)).mono ?_
  rintro e w1 ⟨rfl, m⟩
  have B := hide m
  clear m
  go_wp2_with fail
  refine (put_any a _ (by unfold maxLen; omega) ((unhide HT).below (unhide B))).mono ?_
  rintro e w2 ⟨rfl, m⟩
  replace B := hide ((unhide B).trans (m.mono (unhide B).size))
  clear m
  rw [(unhide P).1, ← (unhide F).1]
  go_wp2_with fail
  refine (put_any b _ (by unfold maxLen; omega) ((unhide HT).below (unhide B))).mono ?_
  rintro e w3 ⟨rfl, m⟩
  replace B := hide ((unhide B).trans (m.mono (unhide B).size))
  clear m
  rw [(unhide P).2, ← (unhide F).2]
  by_cases hl : (f.size : Int) ≤ (g.size : Int)
  · have dl : decide ((f.size : Int) ≤ (g.size : Int)) = true := decide_eq_true hl
    have dl' : ¬ (g.size : Int) < (f.size : Int) := by omega
    go_wp2_with fail
    go_ret
    exact ⟨rfl, unhide B⟩
  · have dl : decide ((f.size : Int) ≤ (g.size : Int)) = false := decide_eq_false hl
    have hx := unhide HN (by omega)
    go_wp2_with fail
    go_ret
    exact ⟨rfl, unhide B⟩
theorem apart_any (a b : ByteArray) (w : World) (_ha : a.size ≤ maxLen) (_hb : b.size ≤ maxLen) (hT : Tab w) :
    Calls Tryd.prog 8 #[.string a, .string b] w fun e w' => e = .returned (.bool true) ∧ Below w.heap.size w w' := by
  by_cases h1 : (16384 : Int) < (a.size : Int)
  · exact apart_far a b w hT (.inl h1)
  · by_cases h2 : (16384 : Int) < (b.size : Int)
    · exact apart_far a b w hT (.inr h2)
    · exact apart_near a b w hT h1 h2
end Go.Proofs.YthklhnmageekgaaDoor

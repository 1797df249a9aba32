/- What the program's writer of messages does with one field: it is written behind what was written, and zero then, or the writer gives up. Condition: no more than 2^40 bytes are written. -/
import Derived.Test.YtkbmbcmcnpeabaaDoorRow
import Derived.Test.YtkbmbcmcnpeabaaDoorMsgMath
namespace Go.Proofs.YtkbmbcmcnpeabaaDoor
open Pk Go.RowKit

/-- A writer at p has written l; the message that it takes out of lies at B; what lay there in w0 lies there still. -/
structure WSt (w0 w : World) (p B : Nat) (vs : List Value) (l : List UInt8) : Prop where
  moved : Moved (fun i => i = p ∨ i = B) w0 w
  row : RowAt w B vs
  out : ∃ a c, OutAt w p a c l ∧ ∀ x, a = some x → x.block ≠ B ∧ w0.heap.size ≤ x.block
  pB : p ≠ B
theorem WSt.wrote {w0 w w' : World} {p B : Nat} {vs : List Value} {l l' : List UInt8} {a : Option Addr} (h : WSt w0 w p B vs l) (ha : ∀ x, a = some x → x.block ≠ B ∧ w0.heap.size ≤ x.block) (k : Wrote w w' p a l') : WSt w0 w' p B vs l' := by
  obtain ⟨a', c', ho, hf, hm⟩ := k
  refine ⟨h.moved.trans hm fun i hi => ?_, h.row.keep hm fun f => ?_, ⟨a', c', ho, fun x hx => ?_⟩, h.pB⟩
  · rcases hi with rfl | ⟨x, hx, rfl⟩
    · exact .inl (.inl rfl)
    · exact .inr (ha x hx).2
  · rcases f with e | ⟨x, hx, e⟩
    · exact h.pB e.symm
    · exact (ha x hx).1 e.symm
  · rcases hf x hx with e | e
    · exact ha x e
    · exact ⟨by have := h.row.lt; omega, Nat.le_trans h.moved.size e⟩
theorem WSt.set {w0 w : World} {p B : Nat} {vs : List Value} {l : List UInt8} (h : WSt w0 w p B vs l) (i : Nat) (hi : i < vs.length) (v : Value) : WSt w0 (w.setCell ⟨B, i, none⟩ v) p B (vs.set i v) l := by
  obtain ⟨a, c, ho, ha⟩ := h.out
  have m : Moved (fun k => k = B) w (w.setCell ⟨B, i, none⟩ v) := Moved.put _ _ _ _
  refine ⟨h.moved.setCell (.inl (.inr rfl)) _, h.row.set i hi v, ⟨a, c, ho.keep m fun k hk => ?_, ha⟩, h.pB⟩
  subst hk
  rintro (e | ⟨x, hx, e⟩)
  · exact h.pB e.symm
  · exact (ha x hx).1 e.symm
theorem WSt.same {w0 w w' : World} {p B : Nat} {vs : List Value} {l : List UInt8} (h : WSt w0 w p B vs l) (m : Moved (fun _ => False) w w') : WSt w0 w' p B vs l := by
  obtain ⟨a, c, ho, ha⟩ := h.out
  exact ⟨h.moved.trans m fun _ f => f.elim, h.row.keep m id, ⟨a, c, ho.keep m fun _ f => f.elim, ha⟩, h.pB⟩
theorem WSt.drew {w0 w : World} {p B : Nat} {vs : List Value} {l : List UInt8} (h : WSt w0 w p B vs l) : WSt w0 w.drew p B vs l := h.same (Moved.refl _ _).drew

/-- It is written, or the writer gives up. -/
def Wr (ok : Prop) (w0 : World) (p B : Nat) (vs : List Value) (l : List UInt8) (e : Ending) (w' : World) : Prop :=
  (e = .returned (.tuple #[]) ∧ ok ∧ WSt w0 w' p B vs l) ∨ (e = .panicked (refused 1) ∧ ¬ ok ∧ Moved (fun i => i = p ∨ i = B) w0 w')

theorem upTo_any {w0 w : World} {p B : Nat} {vs : List Value} {l : List UInt8} (h : WSt w0 w p B vs l) (n : Int) (m : Nat) (hm : m < 2 ^ 63) (hb : l.length + 10 ≤ 1099511627776) :
    Calls Tryd.prog 97 #[.pointer (some ⟨p, 0, none⟩), .int .i64 n, .int .i64 (m : Int)] w (Wr (0 ≤ n ∧ n ≤ m) w0 p B vs (l ++ (posC m).enc n)) := by
  obtain ⟨a, c, ho, ha⟩ := h.out
  have H := hide h
  have HO := hide ho
  clear h ho
  by_cases h0 : n < 0
  · go_enter Tryd.func97, Tryd.ntmps97
    go_wp2_with (go_at_call 23; refine (giveUp_any _ _).mono ?_; rintro e w' ⟨rfl, rfl⟩)
    exact ⟨rfl, .inr ⟨rfl, by omega, (unhide H).moved⟩⟩
  · by_cases h1 : (m : Int) < n
    · go_enter Tryd.func97, Tryd.ntmps97
      go_wp2_with (go_at_call 23; refine (giveUp_any _ _).mono ?_; rintro e w' ⟨rfl, rfl⟩)
      exact ⟨rfl, .inr ⟨rfl, by omega, (unhide H).moved⟩⟩
    · obtain ⟨k, rfl⟩ : ∃ k : Nat, n = k := ⟨n.toNat, by omega⟩
      go_enter Tryd.func97, Tryd.ntmps97
      go_wp2_with fail
      refine (num_any (unhide HO) k (by omega) hb).mono ?_
      rintro e w' ⟨rfl, hw⟩
      have Hw := hide hw
      clear hw
      go_wp2_with fail
      go_end0
      exact .inl ⟨rfl, by omega, (unhide H).wrote ha (unhide Hw)⟩

/-- One cell of the row. -/
theorem WSt.cell {w0 w : World} {p B : Nat} {vs : List Value} {l : List UInt8} (h : WSt w0 w p B vs l) {i : Nat} {v : Value} (hi : vs[i]? = some v) : w.cell? ⟨B, i, none⟩ = some v ∧ w.frozen? ⟨B, i, none⟩ = false ∧ i < vs.length := by
  obtain ⟨hl, e⟩ := List.getElem?_eq_some_iff.1 hi
  exact ⟨by rw [h.row.cell i hl, List.getD_eq_getElem?_getD, hi]; rfl, h.row.free i hl, hl⟩

theorem wnumber_any {w0 w : World} {p B : Nat} {vs : List Value} {l : List UInt8} (h : WSt w0 w p B vs l) (i : Nat) (n : Int) (hi : vs[i]? = some (.int .i64 n)) (hb : l.length + 10 ≤ 1099511627776) :
    Calls Tryd.prog 95 #[.pointer (some ⟨p, 0, none⟩), .pointer (some ⟨B, i, none⟩)] w (Wr (In n) w0 p B (vs.set i (.int .i64 0)) (l ++ P.enc n)) := by
  obtain ⟨hc, hf, hl⟩ := h.cell hi
  have H := hide h
  clear h
  go_enter Tryd.func95, Tryd.ntmps95
  go_wp2_with fail
  refine (upTo_any (unhide H) n 2147483647 (by decide) hb).mono ?_
  rintro e w' (⟨rfl, hok, hs⟩ | ⟨rfl, hno, hm⟩)
  · obtain ⟨hc', hf', _⟩ := hs.cell hi
    have HS := hide hs
    clear hs
    go_wp2_with fail
    go_end0
    exact .inl ⟨rfl, hok, (unhide HS).set i hl _⟩
  · go_wp2_with fail
    exact ⟨rfl, .inr ⟨rfl, hno, hm⟩⟩
set_option maxHeartbeats 1000000 in
theorem woctet_any {w0 w : World} {p B : Nat} {vs : List Value} {l : List UInt8} (h : WSt w0 w p B vs l) (i : Nat) (b : UInt8) (hi : vs[i]? = some (.int .u8 (b.toNat : Int))) (hb : l.length + 10 ≤ 1099511627776) :
    Calls Tryd.prog 21 #[.pointer (some ⟨p, 0, none⟩), .pointer (some ⟨B, i, none⟩)] w fun e w' => e = .returned (.tuple #[]) ∧ WSt w0 w' p B (vs.set i (.int .u8 0)) (l ++ [b]) := by
  obtain ⟨hc, hf, hl⟩ := h.cell hi
  have h1 := h.drew
  obtain ⟨a, c, ho, ha⟩ := h1.out
  have H := hide h1
  have HO := hide ho
  clear h h1 ho
  go_enter Tryd.func21, Tryd.ntmps21
  go_wp2_with fail
  go_region_with (go_at_call 50; refine (byte_any (unhide HO) b (by omega)).mono ?_; rintro e w' ⟨rfl, hw⟩)
  all_goals
    have hs := (unhide H).wrote ha hw
    obtain ⟨hc', hf', _⟩ := hs.cell hi
    have HS := hide hs
    clear hs hw
    go_wp2_with fail
    go_end0
    exact ⟨rfl, (unhide HS).set i hl _⟩
set_option maxHeartbeats 1000000 in
theorem wwide_any {w0 w : World} {p B : Nat} {vs : List Value} {l : List UInt8} (h : WSt w0 w p B vs l) (i : Nat) (n : Nat) (hn : n < 2 ^ 64) (hi : vs[i]? = some (.int .u64 (n : Int))) (hb : l.length + 10 ≤ 1099511627776) :
    Calls Tryd.prog 98 #[.pointer (some ⟨p, 0, none⟩), .pointer (some ⟨B, i, none⟩)] w fun e w' => e = .returned (.tuple #[]) ∧ WSt w0 w' p B (vs.set i (.int .u64 0)) (l ++ numC.enc n) := by
  obtain ⟨hc, hf, hl⟩ := h.cell hi
  have h1 := h.drew
  obtain ⟨a, c, ho, ha⟩ := h1.out
  have H := hide h1
  have HO := hide ho
  clear h h1 ho
  go_enter Tryd.func98, Tryd.ntmps98
  go_wp2_with fail
  go_region_with (go_at_call 101; refine (num_any (unhide HO) n hn (by omega)).mono ?_; rintro e w' ⟨rfl, hw⟩)
  all_goals
    have hs := (unhide H).wrote ha hw
    obtain ⟨hc', hf', _⟩ := hs.cell hi
    have HS := hide hs
    clear hs hw
    go_wp2_with fail
    go_end0
    exact ⟨rfl, (unhide HS).set i hl _⟩
set_option maxHeartbeats 1000000 in
theorem winteger_any {w0 w : World} {p B : Nat} {vs : List Value} {l : List UInt8} (h : WSt w0 w p B vs l) (i : Nat) (n : Int) (hn : I64 n) (hi : vs[i]? = some (.int .i64 n)) (hb : l.length + 10 ≤ 1099511627776) :
    Calls Tryd.prog 93 #[.pointer (some ⟨p, 0, none⟩), .pointer (some ⟨B, i, none⟩)] w fun e w' => e = .returned (.tuple #[]) ∧ WSt w0 w' p B (vs.set i (.int .i64 0)) (l ++ intC.enc n) := by
  obtain ⟨hc, hf, hl⟩ := h.cell hi
  have h1 := h.drew
  obtain ⟨a, c, ho, ha⟩ := h1.out
  have H := hide h1
  have HO := hide ho
  clear h h1 ho
  go_enter Tryd.func93, Tryd.ntmps93
  go_wp2_with fail
  go_region_with (go_at_call 99; refine (int_any (unhide HO) n hn (by omega)).mono ?_; rintro e w' ⟨rfl, hw⟩)
  all_goals
    have hs := (unhide H).wrote ha hw
    obtain ⟨hc', hf', _⟩ := hs.cell hi
    have HS := hide hs
    clear hs hw
    go_wp2_with fail
    go_end0
    exact ⟨rfl, (unhide HS).set i hl _⟩

set_option maxHeartbeats 1000000 in
theorem wtext_any {w0 w : World} {p B : Nat} {vs : List Value} {l : List UInt8} (h : WSt w0 w p B vs l) (i : Nat) (s : List UInt8) (hs : s.length ≤ maxLen) (m : Nat) (hm : m ≤ 1024) (hi : vs[i]? = some (.string ⟨s.toArray⟩)) (hb : l.length + 10 + 1024 ≤ 1099511627776) :
    Calls Tryd.prog 96 #[.pointer (some ⟨p, 0, none⟩), .pointer (some ⟨B, i, none⟩), .int .i64 (m : Int)] w (Wr (s.length ≤ m) w0 p B (vs.set i (.string ⟨#[]⟩)) (l ++ (textC m).enc s)) := by
  obtain ⟨hc, hf, hl⟩ := h.cell hi
  have hsz : (⟨s.toArray⟩ : ByteArray).size = s.length := by simp [ByteArray.size]
  have het : textBytes (⟨s.toArray⟩ : ByteArray).data.toList = (textC m).enc s := rfl
  unfold maxLen at hs
  by_cases h0 : (m : Int) < ((⟨s.toArray⟩ : ByteArray).size : Int)
  · have H := hide h
    clear h
    go_enter Tryd.func96, Tryd.ntmps96
    go_wp2_with (go_at_call 23; refine (giveUp_any _ _).mono ?_; rintro e w' ⟨rfl, rfl⟩)
    exact ⟨rfl, .inr ⟨rfl, by omega, (unhide H).moved⟩⟩
  · have h1 := h.drew
    obtain ⟨a, c, ho, ha⟩ := h1.out
    have HE := hide het
    have H := hide h1
    have HO := hide ho
    clear h h1 ho het
    have hlen : (⟨s.toArray⟩ : ByteArray).size ≤ 1024 := by omega
    have HI := hide hi
    have hle : Hid (s.length ≤ m) := by show s.length ≤ m; omega
    clear hi hsz
    generalize (⟨s.toArray⟩ : ByteArray) = t at *
    go_enter Tryd.func96, Tryd.ntmps96
    go_upto_region 2 with fail
    go_region_with (go_at_call 100; refine (text_any (unhide HO) t (by omega)).mono ?_; rintro e w' ⟨rfl, hw⟩)
    all_goals
      have hs := (unhide H).wrote ha hw
      obtain ⟨hc', hf', _⟩ := hs.cell (unhide HI)
      have HS := hide hs
      clear hs hw
      go_wp2_with fail
      go_end0
      refine .inl ⟨rfl, unhide hle, ?_⟩
      rw [← unhide HE]
      exact (unhide HS).set i hl _
end Go.Proofs.YtkbmbcmcnpeabaaDoor

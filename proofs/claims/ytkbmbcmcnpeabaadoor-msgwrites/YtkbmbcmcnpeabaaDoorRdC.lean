/- What the program's reader of messages does with one field: it is read and put where it belongs, or the reader gives up at its fault. No conditions. -/
import Derived.Test.YtkbmbcmcnpeabaaDoorRdB
import Derived.Test.YtkbmbcmcnpeabaaDoorWrL
import Derived.Deep.RegionWith
namespace Go.Proofs.YtkbmbcmcnpeabaaDoor
open Pk Go.RowKit

/-- What stands in memory behind a reading whose fault is not asked yet. -/
structure RSf (w0 w : World) (r x B : Nat) (vs : List Value) (s : ByteArray) (k f : Nat) : Prop where
  moved : Moved (fun i => i = x ∨ i = B) w0 w
  row : RowAt w B vs
  rd : w.cell? ⟨r, 0, none⟩ = some (.pointer (some ⟨x, 0, none⟩))
  inn : InAt w x s k f
  rB : r ≠ B
  xB : x ≠ B
  rx : r ≠ x
section
variable {w0 w w' : World} {r x B : Nat} {vs : List Value} {s : ByteArray} {k j f : Nat}
theorem RSt.goes (h : RSt w0 w r x B vs s k) (m : Moved (fun i => i = x) w w') (hi : InAt w' x s j f) : RSf w0 w' r x B vs s j f :=
  ⟨h.moved.trans m fun _ hi => .inl (.inl hi), h.row.keep m (fun e => h.xB e.symm), (m.cell (p := ⟨r, 0, none⟩) h.lt h.rx).trans h.rd, hi, h.rB, h.xB, h.rx⟩
theorem RSf.put (h : RSf w0 w r x B vs s k f) (i : Nat) (hi : i < vs.length) (v : Value) : RSf w0 (w.setCell ⟨B, i, none⟩ v) r x B (vs.set i v) s k f :=
  have m : Moved (fun i => i = B) w (w.setCell ⟨B, i, none⟩ v) := Moved.put w B i v
  ⟨h.moved.setCell (.inl (.inr rfl)) v, h.row.set i hi v, (m.cell (p := ⟨r, 0, none⟩) (World.block_lt_of_cell? _ _ h.rd) h.rB).trans h.rd, h.inn.keep m h.xB, h.rB, h.xB, h.rx⟩
theorem RSf.still (h : RSf w0 w r x B vs s k f) (m : Moved (fun _ => False) w w') : RSf w0 w' r x B vs s k f :=
  ⟨h.moved.trans m fun _ f => f.elim, h.row.keep m id, (m.cell (p := ⟨r, 0, none⟩) (World.block_lt_of_cell? _ _ h.rd) id).trans h.rd, h.inn.keep m id, h.rB, h.xB, h.rx⟩
theorem RSf.zero (h : RSf w0 w r x B vs s k 0) : RSt w0 w r x B vs s k := ⟨h.moved, h.row, h.rd, h.inn, h.rB, h.xB, h.rx⟩
theorem RSt.fine (h : RSt w0 w r x B vs s k) : RSf w0 w r x B vs s k 0 := ⟨h.moved, h.row, h.rd, h.inn, h.rB, h.xB, h.rx⟩
theorem RSt.put (h : RSt w0 w r x B vs s k) (i : Nat) (hi : i < vs.length) (v : Value) : RSt w0 (w.setCell ⟨B, i, none⟩ v) r x B (vs.set i v) s k := (h.fine.put i hi v).zero
theorem RSt.drew (h : RSt w0 w r x B vs s k) : RSt w0 w.drew r x B vs s k := h.still (Moved.refl _ _).drew
end

/-- A value of this code was read, or the reader gave up. -/
def RdR {α : Type} (C : Cod α) (s : ByteArray) (k : Nat) (F : Nat → Prop) (w0 : World) (St : α → Nat → World → Prop) (e : Ending) (w' : World) : Prop :=
  (∃ a t, C.dec (s.data.toList.drop k) = (a, t, 0) ∧ e = .returned (.tuple #[]) ∧ St a (k + t) w') ∨ (∃ c : Nat, (C.dec (s.data.toList.drop k)).2.2 = c ∧ c ≠ 0 ∧ e = .panicked (refused (c : Int)) ∧ Moved F w0 w')
section
variable {α β : Type} {A : Cod α} {B : Cod β} {za : α} {zb : β} {s : ByteArray} {k : Nat} {F : Nat → Prop} {w0 w' : World} {e : Ending}
theorem RdR.step {St : α × β → Nat → World → Prop} {a : α} {t : Nat} (D : A.dec (s.data.toList.drop k) = (a, t, 0)) (h : RdR B s (k + t) F w0 (fun b k' w' => St (a, b) k' w') e w') : RdR (A.seq B za zb) s k F w0 St e w' := by
  rcases h with ⟨b, u, h1, h2, h3⟩ | ⟨c, h1, h2, h3, h4⟩
  · refine .inl ⟨(a, b), t + u, ?_, h2, by rw [← Nat.add_assoc]; exact h3⟩
    rw [← List.drop_drop] at h1
    simp only [Cod.seq]
    rw [D]
    simp only []
    rw [h1]
    simp
  · refine .inr ⟨c, ?_, h2, h3, h4⟩
    rw [← List.drop_drop] at h1
    simp only [Cod.seq]
    rw [D]
    simp only []
    rw [h1]
    simp [h2]
theorem RdR.stop {St : α × β → Nat → World → Prop} {c : Nat} (D : (A.dec (s.data.toList.drop k)).2.2 = c) (hc : c ≠ 0) (m : Moved F w0 w') : RdR (A.seq B za zb) s k F w0 St (.panicked (refused (c : Int))) w' := by
  refine .inr ⟨c, ?_, hc, rfl, m⟩
  simp only [Cod.seq]
  rw [D]
  simp [hc]
theorem RdR.stop1 {St : α → Nat → World → Prop} {c : Nat} (D : (A.dec (s.data.toList.drop k)).2.2 = c) (hc : c ≠ 0) (m : Moved F w0 w') : RdR A s k F w0 St (.panicked (refused (c : Int))) w' := .inr ⟨c, D, hc, rfl, m⟩
theorem RdR.done {St : α → Nat → World → Prop} {a : α} {t : Nat} (D : A.dec (s.data.toList.drop k) = (a, t, 0)) (h : St a (k + t) w') : RdR A s k F w0 St (.returned (.tuple #[])) w' := .inl ⟨a, t, D, rfl, h⟩
theorem RdR.map {f : α → β} {g : β → α} {ok : β → Prop} {St : β → Nat → World → Prop} (h : RdR A s k F w0 (fun a k' w' => St (f a) k' w') e w') : RdR (A.map f g ok) s k F w0 St e w' := by
  rcases h with ⟨b, u, h1, h2, h3⟩ | ⟨c, h1, h2, h3, h4⟩
  · exact .inl ⟨f b, u, by simp only [Cod.map]; rw [h1], h2, h3⟩
  · exact .inr ⟨c, h1, h2, h3, h4⟩
theorem RdR.mono {St St' : α → Nat → World → Prop} (h : RdR A s k F w0 St e w') (hh : ∀ a k' w', St a k' w' → St' a k' w') : RdR A s k F w0 St' e w' := by
  rcases h with ⟨b, u, h1, h2, h3⟩ | h
  · exact .inl ⟨b, u, h1, h2, hh _ _ _ h3⟩
  · exact .inr h
end
theorem numTo_most (m : Nat) (l : List UInt8) : numTo (m : Int) l = most m l := by
  unfold numTo most
  have e : ((m : Int) < 0 ∨ (m : Int) < (((num l).1 : Nat) : Int)) ↔ m < (num l).1 := by omega
  split
  · rfl
  · simp only [e]
theorem ahead_ok {k t e : Nat} (h : e = 0) : ahead k t e = k + t := if_pos h
theorem dec_most (m : Nat) (s : ByteArray) (k : Nat) : (posC m).dec (s.data.toList.drop k) = ((((outMost (m : Int) s k 0).1 : Nat) : Int), (outMost (m : Int) s k 0).2.1, (outMost (m : Int) s k 0).2.2) := by
  have e : outMost (m : Int) s k 0 = Pk.most m (s.data.toList.drop k) := by unfold outMost; rw [if_pos rfl, numTo_most]
  rw [e]; rfl
theorem dec_num (s : ByteArray) (k : Nat) : numC.dec (s.data.toList.drop k) = outNum s k 0 := (if_pos rfl).symm
theorem dec_int (s : ByteArray) (k : Nat) : intC.dec (s.data.toList.drop k) = (zag (outNum s k 0).1, (outNum s k 0).2.1, (outNum s k 0).2.2) := by
  rw [← dec_num]; rfl
theorem dec_byte (s : ByteArray) (k : Nat) : byteC.dec (s.data.toList.drop k) = outByte s k 0 := (if_pos rfl).symm
theorem dec_text (m : Nat) (s : ByteArray) (k : Nat) : (textC m).dec (s.data.toList.drop k) = outText (m : Int) s k 0 := by
  unfold outText
  rw [if_pos rfl]
  generalize s.data.toList.drop k = l
  unfold txt textC Cod.behind bytesC
  simp only []
  rw [numTo_most]
  have hle : (Pk.most m l).2.1 ≤ l.length := by
    have := numTo_room m l
    rw [numTo_most] at this
    exact this.1
  by_cases h1 : (Pk.most m l).2.2 = 0
  · by_cases h2 : (l.length : Int) - ((Pk.most m l).2.1 : Int) < ((Pk.most m l).1 : Int)
    · have h3 : l.length - (Pk.most m l).2.1 < (Pk.most m l).1 := by omega
      simp [h1, h2, h3]
    · have h3 : ¬ l.length - (Pk.most m l).2.1 < (Pk.most m l).1 := by omega
      simp [h1, h2, h3]
  · simp [h1]

set_option maxHeartbeats 1000000 in
theorem roctet_any {w0 w : World} {r x B : Nat} {vs : List Value} {s : ByteArray} {k : Nat} (h' : RSt w0 w r x B vs s k) (i : Nat) (hi : i < vs.length) :
    Calls Tryd.prog 37 #[.pointer (some ⟨r, 0, none⟩), .pointer (some ⟨B, i, none⟩)] w (RdR byteC s k (fun i => i = x ∨ i = B) w0 fun a k' w' => RSt w0 w' r x B (vs.set i (.int .u8 ((a.toNat : Nat) : Int))) s k') := by
  have h := h'
  have hrd := h'.rd
  have hcon := in_byte h.inn
  have hdec := dec_byte s k
  generalize outByte s k 0 = o at *
  obtain ⟨o1, o2, o3⟩ := o
  have HC := hide hcon
  have H := hide h
  have HD := hide hdec
  clear h hcon hdec h'
  go_enter Tryd.func37, Tryd.ntmps37
  go_wp2_with fail
  refine (unhide HC).mono ?_
  rintro e w1 ⟨rfl, hi1, hmv⟩
  all_goals
    have S1 := (unhide H).goes hmv hi1
    have hc1 := S1.row.cell i hi
    have hf1 := S1.row.free i hi
    have hr1 := S1.rd
    have S2 := S1.put i hi (.int .u8 ((o1.toNat : Nat) : Int))
    have hr2 := S2.rd
    have HS2 := hide S2
    clear hmv hi1 S1 S2 hrd
    go_wp2_with fail
    refine (check_any (unhide HS2).inn hr2).mono ?_
    rintro e w2 ⟨m2, hh⟩
    have M2 := hide m2
    clear m2 hr1 hr2 hc1 hf1
    rcases hh with ⟨rfl, h0⟩ | ⟨rfl, h0⟩
    · have h0' : o3 = 0 := h0
      subst h0'
      go_wp2_with fail
      go_end0
      exact .inl ⟨o1, o2, unhide HD, rfl, ((unhide HS2).still (unhide M2)).zero⟩
    · have H0 := hide h0
      clear h0
      go_wp2_with fail
      exact ⟨rfl, .inr ⟨o3, by rw [unhide HD], unhide H0, rfl, ((unhide HS2).still (unhide M2)).moved⟩⟩

set_option maxHeartbeats 1000000 in
theorem rwide_any {w0 w : World} {r x B : Nat} {vs : List Value} {s : ByteArray} {k : Nat} (h' : RSt w0 w r x B vs s k) (i : Nat) (hi : i < vs.length) :
    Calls Tryd.prog 107 #[.pointer (some ⟨r, 0, none⟩), .pointer (some ⟨B, i, none⟩)] w (RdR numC s k (fun i => i = x ∨ i = B) w0 fun a k' w' => RSt w0 w' r x B (vs.set i (.int .u64 ((a : Nat) : Int))) s k') := by
  have h := h'
  have hrd := h'.rd
  have hcon := in_num h.inn
  have hdec := dec_num s k
  generalize outNum s k 0 = o at *
  obtain ⟨o1, o2, o3⟩ := o
  have HC := hide hcon
  have H := hide h
  have HD := hide hdec
  clear h hcon hdec h'
  go_enter Tryd.func107, Tryd.ntmps107
  go_wp2_with fail
  refine (unhide HC).mono ?_
  rintro e w1 ⟨rfl, hi1, hmv⟩
  all_goals
    have S1 := (unhide H).goes hmv hi1
    have hc1 := S1.row.cell i hi
    have hf1 := S1.row.free i hi
    have hr1 := S1.rd
    have S2 := S1.put i hi (.int .u64 ((o1 : Nat) : Int))
    have hr2 := S2.rd
    have HS2 := hide S2
    clear hmv hi1 S1 S2 hrd
    go_wp2_with fail
    refine (check_any (unhide HS2).inn hr2).mono ?_
    rintro e w2 ⟨m2, hh⟩
    have M2 := hide m2
    clear m2 hr1 hr2 hc1 hf1
    rcases hh with ⟨rfl, h0⟩ | ⟨rfl, h0⟩
    · have h0' : o3 = 0 := h0
      subst h0'
      go_wp2_with fail
      go_end0
      exact .inl ⟨o1, o2, unhide HD, rfl, ((unhide HS2).still (unhide M2)).zero⟩
    · have H0 := hide h0
      clear h0
      go_wp2_with fail
      exact ⟨rfl, .inr ⟨o3, by rw [unhide HD], unhide H0, rfl, ((unhide HS2).still (unhide M2)).moved⟩⟩

set_option maxHeartbeats 1000000 in
theorem rinteger_any {w0 w : World} {r x B : Nat} {vs : List Value} {s : ByteArray} {k : Nat} (h' : RSt w0 w r x B vs s k) (i : Nat) (hi : i < vs.length) :
    Calls Tryd.prog 103 #[.pointer (some ⟨r, 0, none⟩), .pointer (some ⟨B, i, none⟩)] w (RdR intC s k (fun i => i = x ∨ i = B) w0 fun a k' w' => RSt w0 w' r x B (vs.set i (.int .i64 a)) s k') := by
  have h := h'
  have hrd := h'.rd
  have hcon := in_int h.inn
  have hdec := dec_int s k
  generalize outNum s k 0 = o at *
  obtain ⟨o1, o2, o3⟩ := o
  have HC := hide hcon
  have H := hide h
  have HD := hide hdec
  clear h hcon hdec h'
  go_enter Tryd.func103, Tryd.ntmps103
  go_wp2_with fail
  refine (unhide HC).mono ?_
  rintro e w1 ⟨rfl, hi1, hmv⟩
  all_goals
    have S1 := (unhide H).goes hmv hi1
    have hc1 := S1.row.cell i hi
    have hf1 := S1.row.free i hi
    have hr1 := S1.rd
    have S2 := S1.put i hi (.int .i64 (zag o1))
    have hr2 := S2.rd
    have HS2 := hide S2
    clear hmv hi1 S1 S2 hrd
    go_wp2_with fail
    refine (check_any (unhide HS2).inn hr2).mono ?_
    rintro e w2 ⟨m2, hh⟩
    have M2 := hide m2
    clear m2 hr1 hr2 hc1 hf1
    rcases hh with ⟨rfl, h0⟩ | ⟨rfl, h0⟩
    · have h0' : o3 = 0 := h0
      subst h0'
      go_wp2_with fail
      go_end0
      exact .inl ⟨(zag o1), o2, unhide HD, rfl, ((unhide HS2).still (unhide M2)).zero⟩
    · have H0 := hide h0
      clear h0
      go_wp2_with fail
      exact ⟨rfl, .inr ⟨o3, by rw [unhide HD], unhide H0, rfl, ((unhide HS2).still (unhide M2)).moved⟩⟩

set_option maxHeartbeats 1000000 in
theorem rtext_any {w0 w : World} {r x B : Nat} {vs : List Value} {s : ByteArray} {k : Nat} (h' : RSt w0 w r x B vs s k) (i : Nat) (hi : i < vs.length) (m : Nat) (hm : m ≤ 1024) :
    Calls Tryd.prog 106 #[.pointer (some ⟨r, 0, none⟩), .pointer (some ⟨B, i, none⟩), .int .i64 (m : Int)] w (RdR (textC m) s k (fun i => i = x ∨ i = B) w0 fun a k' w' => RSt w0 w' r x B (vs.set i (.string ⟨a.toArray⟩)) s k') := by
  have h := h'
  have hrd := h'.rd
  have hcon := in_text h.inn (m : Int) (by omega)
  have hdec := dec_text m s k
  generalize outText (m : Int) s k 0 = o at *
  obtain ⟨o1, o2, o3⟩ := o
  have HC := hide hcon
  have H := hide h
  have HD := hide hdec
  clear h hcon hdec h'
  go_enter Tryd.func106, Tryd.ntmps106
  go_wp2_with fail
  refine (unhide HC).mono ?_
  rintro e w1 ⟨rfl, hi1, hmv⟩
  all_goals
    have S1 := (unhide H).goes hmv hi1
    have hc1 := S1.row.cell i hi
    have hf1 := S1.row.free i hi
    have hr1 := S1.rd
    have S2 := S1.put i hi (.string ⟨o1.toArray⟩)
    have hr2 := S2.rd
    have HS2 := hide S2
    clear hmv hi1 S1 S2 hrd
    go_wp2_with fail
    refine (check_any (unhide HS2).inn hr2).mono ?_
    rintro e w2 ⟨m2, hh⟩
    have M2 := hide m2
    clear m2 hr1 hr2 hc1 hf1
    rcases hh with ⟨rfl, h0⟩ | ⟨rfl, h0⟩
    · have h0' : o3 = 0 := h0
      subst h0'
      go_wp2_with fail
      go_end0
      exact .inl ⟨o1, o2, unhide HD, rfl, ((unhide HS2).still (unhide M2)).zero⟩
    · have H0 := hide h0
      clear h0
      go_wp2_with fail
      exact ⟨rfl, .inr ⟨o3, by rw [unhide HD], unhide H0, rfl, ((unhide HS2).still (unhide M2)).moved⟩⟩

theorem rupTo_dec {w0 w : World} {r x B : Nat} {vs : List Value} {s : ByteArray} {k : Nat} (h : RSt w0 w r x B vs s k) (m : Nat) (hm : m < 2 ^ 63) :
    Calls Tryd.prog 109 #[.pointer (some ⟨r, 0, none⟩), .int .i64 (m : Int)] w fun e w' => (∃ (a : Nat) (t : Nat), (posC m).dec (s.data.toList.drop k) = ((a : Int), t, 0) ∧ e = .returned (.int .i64 (a : Int)) ∧ RSt w0 w' r x B vs s (k + t) ∧ Moved (fun i => i = x) w w') ∨ (∃ c : Nat, ((posC m).dec (s.data.toList.drop k)).2.2 = c ∧ c ≠ 0 ∧ e = .panicked (refused (c : Int)) ∧ Moved (fun i => i = x ∨ i = B) w0 w') := by
  refine (rupTo_any h (m : Int) (by omega)).mono ?_
  rintro e w' (⟨rfl, h0, hs, hv⟩ | ⟨rfl, h0, hs⟩)
  · exact .inl ⟨_, _, by rw [dec_most, h0], rfl, hs, hv⟩
  · exact .inr ⟨_, by rw [dec_most], h0, rfl, hs⟩
set_option maxHeartbeats 1000000 in
theorem rnumber_any {w0 w : World} {r x B : Nat} {vs : List Value} {s : ByteArray} {k : Nat} (h' : RSt w0 w r x B vs s k) (i : Nat) (hi : i < vs.length) :
    Calls Tryd.prog 105 #[.pointer (some ⟨r, 0, none⟩), .pointer (some ⟨B, i, none⟩)] w (RdR P s k (fun i => i = x ∨ i = B) w0 fun a k' w' => RSt w0 w' r x B (vs.set i (.int .i64 a)) s k') := by
  have h := h'
  have H := hide h
  clear h h'
  go_enter Tryd.func105, Tryd.ntmps105
  go_wp2_with fail
  refine (rupTo_dec (unhide H) 2147483647 (by decide)).mono ?_
  rintro e w1 hh
  rcases hh with ⟨a, t, hd, rfl, hs, -⟩ | ⟨c, hd, hc, rfl, hm⟩
  rotate_left
  · have HD := hide hd
    have HC := hide hc
    have HM := hide hm
    clear hd hc hm
    go_wp2_with fail
    exact ⟨rfl, .inr ⟨c, unhide HD, unhide HC, rfl, unhide HM⟩⟩
  all_goals
    have hc1 := hs.row.cell i hi
    have hf1 := hs.row.free i hi
    have HS := hide hs
    have HD := hide hd
    clear hs hd
    go_wp2_with fail
    go_end0
    exact .inl ⟨(a : Int), t, unhide HD, rfl, (unhide HS).put i hi _⟩
end Go.Proofs.YtkbmbcmcnpeabaaDoor

/- A number is put. Conditions: the number is a machine's; less than 10^12 stand behind the low mark. -/
import Derived.Test.YtdmjkbcjljnleaaFollow
namespace Go.Proofs.Ytdmjkbcjljnleaa
open Go.RowKit

/-- Acks in block B that are s. -/
def AcIs (w : World) (B : Nat) (m : Option Nat) (s : AckV) : Prop := AcAt w B m s.low s.set ∧ Fine s
/-- A step of acks. -/
structure ADid (w w' : World) (B : Nat) (m : Option Nat) (s' : AckV) (m' : Option Nat) : Prop where
  is_ : AcIs w' B m' s'
  moved : Moved (SFoot B m) w w'
  new_ : ∀ b, m' = some b → m = some b ∨ w.heap.size ≤ b
theorem ADid.trans {a b c : World} {B : Nat} {m m' m'' : Option Nat} {s s' : AckV} (h : ADid a b B m s m') (k : ADid b c B m' s' m'') : ADid a c B m s' m'' :=
  ⟨k.is_, h.moved.trans k.moved fun i e => by
    rcases e with e | e
    · exact .inl (.inl e)
    · rcases h.new_ i e with e | e
      · exact .inl (.inr e)
      · exact .inr e, fun x e => by
    rcases k.new_ x e with e | e
    · exact h.new_ x e
    · exact .inr (Nat.le_trans h.moved.size e)⟩
theorem Fine.pre {s : AckV} (h : Fine s) : Pre s.low s.set := ⟨h.lo, h.hi, h.rise, fun x hx => by have := h.beh x hx; exact ⟨by omega, this.2⟩⟩
theorem ADid.same {w w' : World} {B : Nat} {m : Option Nat} {s : AckV} (h : AcIs w B m s) (hb : Below w.heap.size w w') : ADid w w' B m s m :=
  ⟨⟨h.1.below hb, h.2⟩, Moved.of_below hb, fun _ e => .inl e⟩
theorem eqmap (m : Option Nat) (w : World) : (binOp .eql 47 (.map m) (.map none)).run Try.prog w = .ok (.bool m.isNone) w := run_eql_map_nil w 47 3 50 m Try.underlying47
theorem add_nil (n : Int) (w : World) : Calls Try.prog 9 #[.pointer none, .int .i64 n] w fun e w' => e = .returned (.bool false) ∧ w' = w := by
  go_enter Try.func9, Try.ntmps9
  go_wp2
  go_ret
  exact ⟨rfl, rfl⟩
set_option maxRecDepth 100000 in
set_option maxHeartbeats 1000000 in
theorem add_not {w : World} {B : Nat} {m : Option Nat} {s : AckV} (h : AcIs w B m s) {n : Int} (hn : i64 n) (hf : s.fresh n = false) :
    Calls Try.prog 9 #[.pointer (some ⟨B, 0, none⟩), .int .i64 n] w fun e w' => e = .returned (.bool false) ∧ Below w.heap.size w w' := by
  have hh := has_any h.1 h.2.pre hn
  by_cases h1 : n < 1
  · clear hh
    go_enter Try.func9, Try.ntmps9
    go_wp2_with fail
    go_ret
    exact ⟨rfl, Below.refl _ _⟩
  · by_cases h2 : 2147483647 < n
    · clear hh
      go_enter Try.func9, Try.ntmps9
      go_wp2_with fail
      go_ret
      exact ⟨rfl, Below.refl _ _⟩
    · have h3 : AckV.has ⟨s.low, s.set⟩ n = true := by
        cases hc : AckV.has s n with
        | true => rfl
        | false =>
          have := fresh_iff.2 ⟨⟨by omega, by omega⟩, hc⟩
          rw [hf] at this
          cases this
      rw [h3] at hh
      clear h h3 hf
      go_enter Try.func9, Try.ntmps9
      go_wp2_with fail
      refine hh.mono ?_
      rintro e w' ⟨rfl, hb⟩
      have HB := hide hb
      clear hb
      go_wp2_with fail
      go_ret
      exact ⟨rfl, unhide HB⟩
set_option maxRecDepth 100000 in
set_option maxHeartbeats 1000000 in
theorem add_some {w : World} {B b : Nat} {s : AckV} (h : AcIs w B (some b) s) {n : Int} (hl : s.set.length < 1000000000000) (hf : s.fresh n = true) :
    Calls Try.prog 9 #[.pointer (some ⟨B, 0, none⟩), .int .i64 n] w fun e w' => e = .returned (.bool true) ∧ ADid w w' B (some b) (s.add n) (some b) := by
  have hfr := fresh_iff.1 hf
  have hn : i64 n := by unfold i64; omega
  have hh := has_any h.1 h.2.pre hn
  have h3 : AckV.has ⟨s.low, s.set⟩ n = false := hfr.2
  rw [h3] at hh
  have g1 : ¬ n < 1 := by omega
  have g2 : ¬ 2147483647 < n := by omega
  have H := hide h
  have HN := hide hn
  have HF := hide hf
  have HL := hide hl
  clear h h3 hf hfr hn hl
  go_enter Try.func9, Try.ntmps9
  go_wp2_with fail
  refine hh.mono ?_
  rintro e w1 ⟨rfl, hb⟩
  have a1 := (unhide H).1.below hb
  have m1 : Moved (SFoot B (some b)) w w1 := Moved.of_below hb
  obtain ⟨w2, hput, a2, m2⟩ := a1.put (unhide HN) (unhide HL) (fresh_not (unhide HF))
  have hfo := follow_any a2 (pre_add (unhide H).2 (unhide HF))
  have c1 := a1.c1
  have hne0 := fun W => eqmap (some b) W
  have A := hide (⟨m1.trans m2 fun i f => .inl f, unhide H⟩ : Moved (SFoot B (some b)) w w2 ∧ AcIs w B (some b) s)
  clear hh hb a1 m1 a2 m2
  go_wp2_with fail
  refine hfo.mono ?_
  rintro e w3 ⟨rfl, a3, m3⟩
  have FIN := hide (⟨⟨by unfold AckV.add; rw [if_pos (unhide HF)]; exact a3, (unhide A).2.2.add n⟩, (unhide A).1.trans m3 fun i f => .inl f, fun _ e => .inl e⟩ : ADid w w3 B (some b) (s.add n) (some b))
  clear hput c1 hfo a3 m3
  go_wp2_with fail
  go_ret
  exact ⟨rfl, unhide FIN⟩
set_option maxRecDepth 100000 in
set_option maxHeartbeats 1000000 in
theorem add_none {w : World} {B : Nat} {s : AckV} (h : AcIs w B none s) {n : Int} (hf : s.fresh n = true) :
    Calls Try.prog 9 #[.pointer (some ⟨B, 0, none⟩), .int .i64 n] w fun e w' => e = .returned (.bool true) ∧ ∃ b, ADid w w' B none (s.add n) (some b) := by
  have h0 : s.set = [] := by
    rcases h.1.mo with ⟨_, h0⟩ | ⟨b', h0, _⟩
    · exact h0
    · cases h0
  have hfr := fresh_iff.1 hf
  have hn : i64 n := by unfold i64; omega
  have hh := has_any h.1 h.2.pre hn
  have h3 : AckV.has ⟨s.low, s.set⟩ n = false := hfr.2
  rw [h3] at hh
  have g1 : ¬ n < 1 := by omega
  have g2 : ¬ 2147483647 < n := by omega
  have H := hide h
  have HN := hide hn
  have HF := hide hf
  have HZ := hide h0
  clear h h3 hf hfr hn h0
  go_enter Try.func9, Try.ntmps9
  go_wp2_with fail
  refine hh.mono ?_
  rintro e w1 ⟨rfl, hb⟩
  have a1 := (unhide H).1.below hb
  have m1 : Moved (SFoot B none) w w1 := Moved.of_below hb
  have hlt := a1.lt
  have hmm := @run_makeMap Try.prog
  obtain ⟨b, hbe⟩ : ∃ b, b = w1.heap.size := ⟨_, rfl⟩
  obtain ⟨W, hW⟩ : ∃ W, W = (w1.alloc (.map #[] 0)).setCell ⟨B, 1, none⟩ (.map (some b)) := ⟨_, rfl⟩
  have m2 : Moved (SFoot B none) w1 W := by
    rw [hW]
    exact ((Moved.refl _ w1).alloc _).setCell (p := ⟨B, 1, none⟩) (.inl (.inl rfl)) _
  have k0 : ∀ i, (w1.alloc (.map #[] 0)).cell? ⟨B, i, none⟩ = w1.cell? ⟨B, i, none⟩ := fun i => ((Below.refl _ w1).alloc (Nat.le_refl _) _).cell (p := ⟨B, i, none⟩) hlt
  have k1 : ∀ i, (w1.alloc (.map #[] 0)).frozen? ⟨B, i, none⟩ = w1.frozen? ⟨B, i, none⟩ := fun i => World.frozen?_of_block (Below.heap_alloc w1 _ B hlt)
  have aW : AcAt W B (some b) s.low [] := by
    refine ⟨?_, ?_, ?_, ?_, .inr ⟨b, rfl, ?_⟩⟩
    · rw [hW, World.cell?_setCell_other (h := fun e => by have := congrArg Addr.off e; simp at this), k0]; exact a1.c0
    · rw [hW, World.cell?_setCell_same (h := (k0 1).trans a1.c1)]
    · rw [hW, World.frozen?_setCell, k1]; exact a1.f0
    · rw [hW, World.frozen?_setCell, k1]; exact a1.f1
    · rw [hW, hbe]
      exact (MIs.made w1).keep (Below.heap_setCell _ ⟨B, 1, none⟩ _ _ (by show _ ≠ B; omega))
  have hfe : n ∉ ([] : List Int) := fun h => by cases h
  obtain ⟨w2, hput, a2, m3⟩ := aW.put (unhide HN) (by decide) hfe
  have hfo := follow_any a2 (by have := pre_add (unhide H).2 (unhide HF); rw [unhide HZ] at this; exact this)
  have c1 := a1.c1
  have f1 := a1.f1
  have d1 := aW.c1
  have hne0 := fun W => eqmap none W
  have MV := hide ((m1.trans m2 fun i f => .inl f).trans m3 fun i f => by
    rcases f with f | f
    · exact .inl (.inl f)
    · cases f; exact .inr (by have := m1.size; omega))
  have BE := hide (⟨m1.size, hbe⟩ : w.heap.size ≤ w1.heap.size ∧ b = w1.heap.size)
  have HW := hide hW
  clear hh hb a1 m1 m2 k0 k1 aW a2 m3 hW hbe hfe
  go_upto_region 5 with fail
  simp only [← (unhide BE).2]
  rw [← World.setCell_alloc_past (w := w1) (.map #[] 0) B 1 (.map (some b)) hlt, ← unhide HW]
  clear hmm
  go_wp2_with fail
  refine hfo.mono ?_
  rintro e w3 ⟨rfl, a3, m4⟩
  have FIN := hide (⟨⟨by unfold AckV.add; rw [if_pos (unhide HF), unhide HZ]; exact a3, (unhide H).2.add n⟩, (unhide MV).trans m4 fun i f => by
      rcases f with f | f
      · exact .inl (.inl f)
      · cases f; exact .inr (by have := unhide BE; omega), fun _ e => .inr (by cases e; have := unhide BE; omega)⟩ : ADid w w3 B none (s.add n) (some b))
  clear hput c1 hfo a3 m4
  go_wp2_with fail
  go_ret
  exact ⟨rfl, _, unhide FIN⟩
theorem add_any {w : World} {B : Nat} {m : Option Nat} {s : AckV} (h : AcIs w B m s) {n : Int} (hn : i64 n) (hl : s.set.length < 1000000000000) :
    Calls Try.prog 9 #[.pointer (some ⟨B, 0, none⟩), .int .i64 n] w fun e w' => e = .returned (.bool (s.fresh n)) ∧ ∃ m', ADid w w' B m (s.add n) m' := by
  cases hf : s.fresh n with
  | false => exact (add_not h hn hf).mono fun e w' ⟨h1, h2⟩ => ⟨h1, m, by rw [add_same hf]; exact .same h h2⟩
  | true =>
    cases m with
    | none => exact (add_none h hf).mono fun e w' ⟨h1, b, h2⟩ => ⟨h1, _, h2⟩
    | some b => exact (add_some h hl hf).mono fun e w' ⟨h1, h2⟩ => ⟨h1, _, h2⟩
end Go.Proofs.Ytdmjkbcjljnleaa

/- A state made of a mark, windows, low marks and entries. Conditions: there are at most 1000 windows and 100 entries, whose numbers are a machine's. -/
import Derived.Test.YtigmhljaoicdbaaGreatShSame
namespace Go.Proofs.YtigmhljaoicdbaaGreat
open Go.RowKit
/-- The state, and the error. -/
def ofS (m : Int) (o : List (Win AggV)) (lows : List Int) (l : List Sn.Ent) : StV × Nat :=
  if (ofL m o).2 = 0 then if Sn.good lows l = true then (⟨(ofL m o).1, Sn.keeps (Sn.tab0 lows) l⟩, 0) else (newS, 1) else (newS, (ofL m o).2)
theorem StateIs.congr {v : World} {p : Nat} {F : Nat → Prop} {S T : StV} (h : StateIs v p F S) (hl : S.line = T.line) (ht : ∀ i, i < 4 → S.tab i = T.tab i) : StateIs v p F T := by
  obtain ⟨q, G, M, h, rfl⟩ := h
  exact ⟨q, G, M, ⟨hl ▸ h.line, ⟨fun i hi => by rw [← ht i hi]; exact h.tab.src i hi, h.tab.apart⟩, h.apart⟩, rfl⟩
theorem okk_good {k : List UInt8} {s : Int} (hk : keyOk k = true) (hs : SO.isStart s = true) : okk k s := by
  have h1 : 1 ≤ k.length ∧ k.length ≤ 16 := of_decide_eq_true hk
  have h2 := isStart_iff hs
  refine ⟨?_, ?_⟩
  · unfold maxLen; omega
  · unfold i64; omega
/-- What of a line must be known. -/
def OfLine (v : World) (m : Int) (o : List (Win AggV)) (a : Option Addr) (c : Nat) : Prop :=
  Calls Tryz.prog 38 #[.int .i64 m, .slice a o.length c] v fun e v' => ∃ pt, e = .returned (.tuple #[.pointer pt, .int .i64 ((ofL m o).2 : Int)]) ∧ Below v.heap.size v v' ∧
      ((ofL m o).2 = 0 → ∃ p, pt = some ⟨p, 0, none⟩ ∧ HL v v' p (ofL m o).1 [] ∧ Mild (ofL m o).1.row) ∧ (¬ (ofL m o).2 = 0 → pt = none)
set_option maxRecDepth 100000 in
set_option maxHeartbeats 2000000 in
theorem sof_any {v : World} {m : Int} {o : List (Win AggV)} {a b d : Option Addr} {c cb cd : Nat} {lows : List Int} {l : List Sn.Ent} (hO : OfLine v m o a c) (hb : Sn.IntK.At v b lows) (hd : Sn.EntK.At v d l) (hl : l.length ≤ 100) :
    Calls Tryz.prog 16 #[.int .i64 m, .slice a o.length c, .slice b lows.length cb, .slice d l.length cd] v fun e v' => ∃ pt, e = .returned (.tuple #[.pointer pt, .int .i64 ((ofS m o lows l).2 : Int)]) ∧ Below v.heap.size v v' ∧
      ((ofS m o lows l).2 = 0 → ∃ p F, pt = some ⟨p, 0, none⟩ ∧ StateIs v' p F (ofS m o lows l).1 ∧ (∀ k, F k → v.heap.size ≤ k) ∧ Mild (ofS m o lows l).1.line.row) ∧ (¬ (ofS m o lows l).2 = 0 → pt = none) := by
  have C1 : Hid (OfLine v m o a c) := hide hO
  have HB := hide hb
  have HD := hide hd
  have HL_ := hide hl
  clear hO hb hd hl
  unfold ofS
  by_cases h0 : (ofL m o).2 = 0
  · rw [if_pos h0]
    cases hg : Sn.good lows l with
    | true =>
      rw [if_pos rfl]
      go_enter Tryz.func16, Tryz.ntmps16
      go_wp2_with fail
      refine (unhide C1).mono ?_
      rintro e v1 ⟨pt, rfl, b1, hp, _⟩
      obtain ⟨p1, rfl, hl1, hm1⟩ := hp h0
      obtain ⟨F1, hf1⟩ := hl1
      rw [h0]
      have C2 := hide (Sn.of_any (c := cb) (d := cd) ((unhide HB).below (Nat.le_refl _) b1) ((unhide HD).below (Nat.le_refl _) b1) (unhide HL_))
      have L1 := hide hf1
      have B1 := hide b1
      have M1 := hide hm1
      have H0 := hide h0
      clear hf1 b1 hm1 hp C1 h0
      go_wp2_with fail
      refine (unhide C2).mono ?_
      rintro e v2 ⟨b2, h⟩
      rcases h with ⟨_, p2, F2, rfl, ht, hF2⟩ | ⟨hg', rfl⟩
      · have C3 := hide (state_any ((unhide L1).st.keep (Moved.of_below (F := fun _ => False) b2) (fun _ f => f.elim)) ht (fun k f g => by
          have h1 := (unhide L1).st.lt k f
          have h2 := hF2 k g
          omega))
        have G2 := hide hF2
        have B2 := hide b2
        clear ht hF2 b2 C2
        go_wp2_with fail
        refine (unhide C3).mono ?_
        rintro e v3 ⟨F3, rfl, s3, g3, b3⟩
        have S3 := hide s3
        have G3 := hide g3
        have B3 := hide b3
        clear s3 g3 b3 C3
        go_wp2_with fail
        go_ret2
        have z1 := (unhide B1).size
        have z2 := (unhide B2).size
        refine ⟨_, rfl, (unhide B1).trans (((unhide B2).mono z1).trans ((unhide B3).mono (by omega))), fun _ => ⟨_, F3, rfl, unhide S3, fun k hk => ?_, unhide M1⟩, fun h => (by first | exact absurd rfl h | exact absurd trivial h)⟩
        rcases unhide G3 k hk with rfl | f | f
        · omega
        · exact (unhide L1).big k f
        · have := unhide G2 k f; omega
      · rw [hg] at hg'; cases hg'
    | false =>
      rw [if_neg (by decide)]
      go_enter Tryz.func16, Tryz.ntmps16
      go_wp2_with fail
      refine (unhide C1).mono ?_
      rintro e v1 ⟨pt, rfl, b1, hp, _⟩
      obtain ⟨p1, rfl, hl1, hm1⟩ := hp h0
      obtain ⟨F1, hf1⟩ := hl1
      rw [h0]
      have C2 := hide (Sn.of_any (c := cb) (d := cd) ((unhide HB).below (Nat.le_refl _) b1) ((unhide HD).below (Nat.le_refl _) b1) (unhide HL_))
      have L1 := hide hf1
      have B1 := hide b1
      have M1 := hide hm1
      have H0 := hide h0
      clear hf1 b1 hm1 hp C1 h0
      go_wp2_with fail
      refine (unhide C2).mono ?_
      rintro e v2 ⟨b2, h⟩
      rcases h with ⟨hg', p2, F2, rfl, ht, hF2⟩ | ⟨_, rfl⟩
      · rw [hg] at hg'; cases hg'
      · have B2 := hide b2
        clear b2 C2
        go_wp2_with fail
        go_ret2
        exact ⟨none, rfl, (unhide B1).trans ((unhide B2).mono (unhide B1).size), fun h => (by cases h), fun _ => rfl⟩
  · rw [if_neg h0]
    obtain ⟨n, hn⟩ : ∃ n, n = (ofL m o).2 := ⟨_, rfl⟩
    have g0 : ¬ (n : Int) = 0 := by omega
    have d0 : decide ((n : Int) = 0) = false := decide_eq_false g0
    have f0 : ((n : Int) == 0) = false := Bool.eq_false_iff.2 fun h => g0 (eq_of_beq h)
    have H0 := hide h0
    have HN := hide hn
    clear h0
    go_enter Tryz.func16, Tryz.ntmps16
    go_wp2_with fail
    refine (unhide C1).mono ?_
    rintro e v1 ⟨pt, rfl, b1, _, hp⟩
    have hpt := hp (unhide H0)
    subst hpt
    rw [← unhide HN]
    have B1 := hide b1
    clear b1 hp C1 hn
    go_wp2_with fail
    go_ret2
    exact ⟨none, by rw [unhide HN]; rfl, unhide B1, fun h => absurd h (unhide H0), fun _ => rfl⟩
section
variable {w0 v v' : World} {p : Nat} {F : Nat → Prop} {S : StV} {R : List Sn.Held}
/-- A state of what another one tells is that state. -/
theorem hs_of (h : Sn.HR w0 v R) (hS : GoodS S) {a b d : Option Addr} {c cb cd : Nat} (mo : hOuts a c S.line.row ∈ R) (ml : Sn.hRow Sn.IntK b cb (Sn.lows S.tab) ∈ R) (ma : Sn.hRow Sn.EntK d cd (Sn.all S.tab) ∈ R) :
    Calls Tryz.prog 16 #[.int .i64 S.line.mark, .slice a S.line.row.length c, .slice b 4 cb, .slice d (Sn.all S.tab).length cd] v fun e v' => ∃ p F, e = .returned (.tuple #[.pointer (some ⟨p, 0, none⟩), .int .i64 0]) ∧ Sn.HR w0 v' (hState p F S :: R) := by
  have hr : OutK.Row v 0 a c S.line.row := h.ok _ mo
  have hO : OfLine v S.line.mark S.line.row a c := tof_any (o := S.line.row) S.line.mark (fun u hu => by
    have hr' : OutK.Row u 0 a c S.line.row := row_moved hr (Moved.of_below (F := fun _ => False) hu) (fun _ f _ _ => f.elim)
    have hm := hS.mild.most
    refine ⟨row_lies hr', ?_, by omega⟩
    rcases hr'.2 with ⟨_, h0⟩ | ⟨g, cap, cur, hv, _⟩
    · exact .inr (List.length_eq_zero_iff.1 h0)
    · refine .inl ⟨g, ?_, (row_lt hr' g (by rw [hv]; rfl)).2⟩
      simp only [Value.slice.injEq] at hv; exact hv.1) (fun x hx => ⟨hS.mild.ins_ x hx, by
    have := hS.line.good.all x hx
    exact okk_good this.1 this.2.1⟩)
  have e0 : ofS S.line.mark S.line.row (Sn.lows S.tab) (Sn.all S.tab) = (⟨S.line, Sn.keeps (Sn.tab0 (Sn.lows S.tab)) (Sn.all S.tab)⟩, 0) := by
    unfold ofS
    rw [ofL_self hS.line, if_pos rfl, if_pos (Sn.good_all hS.tab)]
  have hl : (Sn.all S.tab).length ≤ 100 := Nat.le_trans (Sn.all_length hS.tab) (by omega)
  refine (sof_any (cb := cb) (cd := cd) hO (Sn.HR.row h ml) (Sn.HR.row h ma) hl).mono ?_
  rintro e v' ⟨pt, rfl, b1, h1, _⟩
  rw [e0] at h1 ⊢
  obtain ⟨p, F, rfl, s, hF, _⟩ := h1 rfl
  exact ⟨p, F, rfl, h.add (r := hState p F S) b1 (s.congr rfl fun i hi => Sn.keeps_all hS.tab hi) hF⟩
end
end Go.Proofs.YtigmhljaoicdbaaGreat

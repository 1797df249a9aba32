/- A net tells what the document's own tells, walked. No conditions. -/
import Derived.Test.YtceepejndomfaaaDoes
namespace Go.Proofs.Ytceepejndomfaaa
open Go.RowKit

theorem St.way {w0 w : World} {x r : Nat} {l m : List Pkt} {X : Nat → Prop} (h : St w0 w x r l m X) : ∃ a c, w.cell? ⟨r, 0, none⟩ = some (.slice a m.length c) ∧ Row w a c m := by
  obtain ⟨G, _, ⟨a, c, hR, _⟩, _⟩ := h
  exact ⟨a, c, hR.way, hR.row⟩
theorem St.len {w0 w : World} {x r : Nat} {l m : List Pkt} {X : Nat → Prop} (h : St w0 w x r l m X) : Calls Try.prog 12 #[.pointer (some ⟨x, 0, none⟩)] w fun e w' => e = .returned (.int .i64 (l.length : Int)) ∧ w' = w := by
  obtain ⟨G, hO, _⟩ := h
  exact len_own hO
theorem St.small {w0 w : World} {x r : Nat} {l m : List Pkt} {X : Nat → Prop} (h : St w0 w x r l m X) : l.length ≤ 5184 := by
  obtain ⟨G, hO, _⟩ := h
  exact hO.good.2.2
theorem St.all {w0 w : World} {x r : Nat} {l m : List Pkt} {X : Nat → Prop} (h : St w0 w x r l m X) : Calls Try.prog 16 #[.pointer (some ⟨x, 0, none⟩)] w fun e w' => ∃ b c, e = .returned (.slice b l.length c) ∧ Row w' b c l ∧ St w0 w' x r l m (ofRow b) ∧ ∀ k, ofRow b k → w0.heap.size ≤ k := by
  have h' := h
  obtain ⟨G, ⟨F, hN, hF, hX, hm⟩, hR, hG, hmo⟩ := h
  refine (all_any hN).mono ?_
  rintro e w' ⟨a, c, rfl, hr, hb, hfr⟩
  refine ⟨a, c, rfl, hr, h'.below (Moved.of_below hb) fun k hk => ?_, fun k hk => ?_⟩
  · obtain ⟨y, e, rfl⟩ := hk
    exact ⟨.inr (hfr y e), hr.lt y e⟩
  · obtain ⟨y, e, rfl⟩ := hk
    exact Nat.le_trans hm.size (hfr y e)
theorem St.turn {w0 w w' : World} {x r : Nat} {l m : List Pkt} {X : Nat → Prop} (h : St w0 w x r l m X) (mv : Moved X w w') (hb : ∀ k, X k → w0.heap.size ≤ k) : St w0 w' x r l m X := by
  have hx := h.xlt
  obtain ⟨G, hO, hR, hG, hm⟩ := h
  refine ⟨G, hO.beside mv (fun k hk => ⟨.inl hk, hb k hk⟩) (fun k hk => ?_), hR.keep mv fun k hk hg => (hG k hg).2 hk, hG, hm⟩
  rcases hk with e | e
  · exact ⟨.inl (.inl e), Nat.lt_of_lt_of_le (hx k e) mv.size⟩
  · exact ⟨.inl (.inr e), Nat.lt_of_lt_of_le (hR.lt k e) mv.size⟩
theorem St.drewN {w0 w : World} {x r : Nat} {l m : List Pkt} {X : Nat → Prop} (h : St w0 w x r l m X) (n : Nat) : St w0 (w.drewN n) x r l m X :=
  h.below ⟨rfl, rfl, rfl, Nat.le_refl _, fun _ _ _ => rfl⟩ fun k hk => ⟨.inl hk, h.xlt k hk⟩
/-- From k on the row that All told is as it was. -/
def RestAt (w : World) (b : Option Addr) (k : Nat) (l : List Pkt) : Prop := ∀ j, k ≤ j → j < l.length → ∃ g, b = some ⟨g, 0, none⟩ ∧ w.cell? ⟨g, j * 3, none⟩ = some (.int .i64 (l.getD j Pkt.zero).f) ∧ w.cell? ⟨g, j * 3 + 1, none⟩ = some (.int .i64 (l.getD j Pkt.zero).t) ∧ w.cell? ⟨g, j * 3 + 2, none⟩ = some (.string (l.getD j Pkt.zero).d) ∧ w.frozen? ⟨g, j * 3 + 2, none⟩ = false
theorem Row.rest {w : World} {b : Option Addr} {c : Nat} {l : List Pkt} (h : Row w b c l) : RestAt w b 0 l := fun j _ hj => by
  rcases h.form with ⟨_, _, e⟩ | ⟨g, rfl, hg, _, _, cur, hcur, _⟩
  · rw [e] at hj; simp at hj
  · obtain ⟨c0, c1, c2⟩ := h.at j hj
    exact ⟨g, rfl, c0, c1, c2, Lib.frozen_of_heap hcur _⟩
theorem RestAt.turned {w : World} {g k : Nat} {l : List Pkt} (h : RestAt w (some ⟨g, 0, none⟩) k l) (v : Value) : RestAt (w.setCell ⟨g, k * 3 + 2, none⟩ v) (some ⟨g, 0, none⟩) (k + 1) l := fun j hj hl => by
  obtain ⟨g', e, c0, c1, c2, f⟩ := h j (by omega) hl
  cases e
  refine ⟨g, rfl, ?_, ?_, ?_, by rw [World.frozen?_setCell]; exact f⟩
  · rw [World.cell?_setCell_other _ _ _ _ (fun he => by have := congrArg Addr.off he; dsimp only at this; omega)]; exact c0
  · rw [World.cell?_setCell_other _ _ _ _ (fun he => by have := congrArg Addr.off he; dsimp only at this; omega)]; exact c1
  · rw [World.cell?_setCell_other _ _ _ _ (fun he => by have := congrArg Addr.off he; dsimp only at this; omega)]; exact c2
theorem st_new {w0 w : World} {x : Nat} (h : Own w0 w (· ∈ []) x []) : St w0 (w.alloc (.cells #[.slice none 0 0] 38)) x w.heap.size [] [] (fun _ => False) := by
  have hb := h.base.size
  refine ⟨reffoot w.heap.size none, h.beside ((Moved.refl (fun _ => False) w).alloc _) (fun _ f => f.elim) (fun k hk => ?_), ⟨none, 0, ⟨by simp, World.frozen?_alloc_new w _ _ _, row_nil _, fun x e => (by cases e), fun q hq => (by simp at hq), by simp⟩, rfl⟩, fun k hk => ?_, fun i => by simp [cnt]⟩
  · rcases hk with e | (e | ⟨y, e, _⟩)
    · exact e.elim
    · exact ⟨.inr (by omega), by simp; omega⟩
    · cases e
  · rcases hk with e | ⟨y, e, _⟩
    · exact ⟨by omega, id⟩
    · cases e

set_option maxHeartbeats 8000000 in
set_option maxRecDepth 100000 in
theorem plays_any (a : Option Addr) (len cap : Nat) (z : List ActV) (w : World) (hz : IsActs w a len cap z) :
    Calls Try.prog 4 #[.slice a len cap] w fun e w' => e = .returned (.bool true) ∧ Below w.heap.size w w' := by
  have hlm := hz.max
  unfold maxLen at hlm
  have HZ := hide hz
  clear hz
  go_enter Try.func4, Try.ntmps4
  go_wp2_with fail
  refine (awake_any _).mono ?_
  rintro e w1 ⟨rfl, hb1⟩
  have HB1 := hide hb1
  clear hb1
  go_wp2_with fail
  refine (great_any a len cap z _ ((unhide HZ).below (unhide HB1))).mono ?_
  rintro e w1' ⟨rfl, rfl⟩
  by_cases hg : great z = true
  · rw [hg]
    go_wp2_with fail
    go_ret
    exact ⟨rfl, unhide HB1⟩
  have hg' : great z = false := by simpa using hg
  rw [hg']
  clear hg hg'
  go_wp2_with fail
  refine (new_own (w0 := w) (Moved.of_below (unhide HB1)) (· ∈ []) (fun _ f => by simp at f)).mono ?_
  rintro e w2 ⟨x, rfl, o2, _⟩
  have S0 := hide (st_new o2)
  clear o2
  generalize hr : w2.heap.size = r at *
  go_wp2_with fail
  go_loopw [6] (fun t wr => ∃ k : Nat, k ≤ len ∧ t = .int .i64 (k : Int) ∧ St w wr x r (actsL z k) (actsL z k) (fun _ => False)) (fun t _ => len - (intOf t).toNat)
  case atStart => exact ⟨0, by omega, by first | rfl | go_num, unhide S0⟩
  case round =>
    obtain ⟨k, hk, rfl, hs⟩ := hrel
    clear S0
    by_cases hlt : k < len
    · obtain ⟨b, o, rfl, hat, ok, hbl⟩ := ((unhide HZ).moved hs.base).at_ k hlt
      have HN := hide (fun (w' : World) (m : Moved (fun _ => False) wr w') => hat.keep m hbl id)
      have HL : Hid (actsL z (k + 1) = actL (actsL z k) (z.getD k ActV.zero)) := rfl
      generalize z.getD k ActV.zero = y at *
      have hn := ok.n
      obtain ⟨d0, d1, d2, d3, d4, d5⟩ := hat
      have HS := hide hs
      clear hs ok
      generalize actsL z k = l at *
      go_wp2_with fail
      refine (take_nil y.i _).mono ?_
      rintro e w3 ⟨rfl, hb3⟩
      have m3 : Moved (fun _ => False) wr (w3.alloc (.cells #[.int .i64 0, .int .i64 0, .string ⟨#[]⟩] 25)) := (Moved.of_below hb3).alloc _
      obtain ⟨w3', hw3⟩ : ∃ w3', w3' = w3.alloc (.cells #[.int .i64 0, .int .i64 0, .string ⟨#[]⟩] 25) := ⟨_, rfl⟩
      rw [← hw3] at m3
      have HW3 := hide hw3
      have M3 := hide m3
      obtain ⟨d0, d1, d2, d3, d4, d5⟩ := unhide HN _ m3
      clear hw3 m3 hb3
      unfold Pkt.val Pkt.zero
      dsimp only
      go_upto_region 12 with fail
      rw [← unhide HW3]
      go_wp2_with fail
      refine (post_nil _ _ _ _).mono ?_
      rintro e w4 ⟨rfl, hb4⟩
      have m4 := (unhide M3).trans (Moved.of_below (F := fun _ => False) hb4) fun _ f => f.elim
      have M4 := hide m4
      obtain ⟨d0, d1, d2, d3, d4, d5⟩ := unhide HN _ m4
      clear m4 hb4
      go_wp2_with fail
      refine (lose_nil _ _).mono ?_
      rintro e w5 ⟨rfl, hb5⟩
      have m5 := (unhide M4).trans (Moved.of_below (F := fun _ => False) hb5) fun _ f => f.elim
      have M5 := hide m5
      obtain ⟨d0, d1, d2, d3, d4, d5⟩ := unhide HN _ m5
      clear m5 hb5
      go_wp2_with fail
      refine (dup_nil _ _).mono ?_
      rintro e w6 ⟨rfl, hb6⟩
      have m6 := (unhide M5).trans (Moved.of_below (F := fun _ => False) hb6) fun _ f => f.elim
      have M6 := hide m6
      obtain ⟨d0, d1, d2, d3, d4, d5⟩ := unhide HN _ m6
      clear m6 hb6
      go_wp2_with fail
      refine (len_nil _).mono ?_
      rintro e w6' ⟨rfl, rfl⟩
      go_wp2_with fail
      refine (all_nil _).mono ?_
      rintro e w6' ⟨rfl, rfl⟩
      have S6 := hide (St.below (unhide HS) (unhide M6) (X' := fun _ => False) fun _ f => f.elim)
      have S7 := hide (St.below (unhide S6) ((Moved.refl (fun _ => False) _).drew) (X' := fun _ => False) fun _ f => f.elim)
      clear S6
      go_wp2_with fail
      go_region_with (first | (go_at_call 17; refine (does_any (unhide S7) y hn).mono ?_; rintro e w7 ⟨rfl, h7, _⟩; have H7 := hide h7; obtain ⟨ra, rc, way7, _⟩ := h7.way; clear h7) | (go_at_call 12; refine (St.len (unhide (by assumption))).mono ?_; rintro e w8 ⟨rfl, rfl⟩))
      all_goals
        have H7' := unhide H7
        rw [← unhide HL] at H7'
        rw [← unhide HL] at way7
        obtain ⟨L, hLz⟩ : ∃ L, actsL z (k + 1) = L := ⟨_, rfl⟩
        rw [hLz] at H7' way7
        have HLZ := hide hLz
        clear hLz
        have H8 := hide H7'
        clear H7' H7 HL d0 d1 d2 d3 d4 d5 S7 M3 M4 M5 M6
        go_wp2_with fail
        refine (unhide H8).all.mono ?_
        rintro e w9 ⟨b', c', rfl, hrow, h9, hbase⟩
        obtain ⟨ra', rc', way9, _⟩ := h9.way
        have hsm := h9.small
        have H9 := hide h9
        have HR9 := hide hrow.rest
        have HBS := hide hbase
        clear h9 hrow hbase H8 way7
        go_wp2_with fail
        go_loopw [10] (fun t wq => ∃ j : Nat, j ≤ L.length ∧ t = .int .i64 (j : Int) ∧ St w wq x r L L (ofRow b') ∧ RestAt wq b' j L) (fun t _ => L.length - (intOf t).toNat)
        case atStart => exact ⟨0, by omega, rfl, unhide H9, unhide HR9⟩
        case round =>
          obtain ⟨j, hj, rfl, hs2, hrest⟩ := hrel
          clear H9 HR9 way9
          obtain ⟨ra2, rc2, way2, hrow2⟩ := hs2.way
          by_cases hjl : j < L.length
          · obtain ⟨g, rfl, c0, c1, c2, f2⟩ := hrest j (Nat.le_refl _) hjl
            rcases hrow2.form with ⟨_, _, e⟩ | ⟨g2, rfl, _⟩
            · rw [e] at hjl; simp at hjl
            obtain ⟨e0, e1, e2⟩ := hrow2.at j hjl
            generalize L.getD j Pkt.zero = q at *
            have same := samePk_self q.f q.t q.d
            have HS2 := hide hs2
            have HRE := hide hrest
            clear hs2 hrest hrow2
            go_wp2_with fail
            go_quiet (fail)
            have S3 := hide ((unhide HS2).drewN nq)
            go_wp2_with fail
            go_roundw
            case rel =>
              refine ⟨j + 1, by omega, by go_num, ?_, ?_⟩
              · exact (unhide S3).turn ((Moved.refl (ofRow (some ⟨g, 0, none⟩)) _).setCell (p := ⟨g, j * 3 + 2, none⟩) (.inl ⟨_, rfl, rfl⟩) _) (unhide HBS)
              · exact RestAt.turned (w := wr.drewN nq) (unhide HRE) _
            case measure => simp [intOf]; omega
          · have HS2 := hide hs2
            clear hs2 hrest hrow2
            go_wp2_with fail
            go_roundw
            case rel => exact ⟨k + 1, by omega, by go_num, by rw [unhide HLZ]; exact (unhide HS2).mono fun _ f => f.elim⟩
            case measure => simp [intOf]; omega
    · go_wp2_with fail
      go_ret
      exact ⟨rfl, hs.base.below (fun _ f => f.elim) (Nat.le_refl _)⟩
end Go.Proofs.Ytceepejndomfaaa

/- The document's own Same: whether two messages are the same. Condition: their lists lie in memory. -/
import Derived.Test.YtkbmbcmcnpeabaaRefSameA
import Derived.Deep.QuietTactic
namespace Go.Proofs.Ytkbmbcmcnpeabaa
open Pk Go.RowKit

theorem list_parts {a b : List Int} (h : a.length = b.length) : a = b ↔ ∀ i, i < a.length → a.getD i 0 = b.getD i 0 := by
  constructor
  · rintro rfl i _; rfl
  · intro h'
    apply List.ext_getElem h
    intro i h1 h2
    have := h' i h1
    rwa [List.getD_eq_getElem?_getD, List.getD_eq_getElem?_getD, List.getElem?_eq_getElem h1, List.getElem?_eq_getElem h2] at this
theorem same13_iff (m n : MsgV) (h1 : m.owner = n.owner) (h2 : m.set = n.set) : same13 m n = sameMsg m n := by
  unfold same13 sameMsg
  rw [decide_eq_true h1, decide_eq_true h2]
  simp only [Bool.and_true]
theorem moved_drewN {w w' : World} (h : Moved (fun _ => False) w w') (n : Nat) : Moved (fun _ => False) w (w'.drewN n) := ⟨h.os, h.tape, h.output, h.size, h.block⟩
theorem sameMsg_no {m n : MsgV} (h : m ≠ n) : sameMsg m n = false := by
  cases e : sameMsg m n
  · rfl
  · exact absurd ((sameMsg_iff m n).1 e) h
set_option maxRecDepth 100000 in
set_option maxHeartbeats 20000000 in
theorem refsame_any (m n : MsgV) (a1 a2 b1 b2 : Option Addr) (ac1 ac2 bc1 bc2 : Nat) (w : World) (ha1 : Ints w a1 m.owner) (ha2 : Ints w a2 m.set) (hb1 : Ints w b1 n.owner) (hb2 : Ints w b2 n.set)
    (l1 : m.owner.length ≤ maxLen) (l2 : m.set.length ≤ maxLen) (l3 : n.owner.length ≤ maxLen) (l4 : n.set.length ≤ maxLen) :
    Calls Try.prog 12 #[.agg (msgCells m a1 ac1 a2 ac2).toArray, .agg (msgCells n b1 bc1 b2 bc2).toArray] w fun e w' => e = .returned (.bool (sameMsg m n)) ∧ Moved (fun _ => False) w w' := by
  unfold maxLen at l1 l2 l3 l4
  obtain ⟨A, hA⟩ : ∃ A, A = w.heap.size := ⟨_, rfl⟩
  obtain ⟨w0, hw0⟩ : ∃ w0, w0 = (w.alloc (.cells (msgCells m a1 ac1 a2 ac2).toArray 32)).alloc (.cells (msgCells n b1 bc1 b2 bc2).toArray 32) := ⟨_, rfl⟩
  have B0 : Moved (fun _ => False) w w0 := by rw [hw0]; exact ((Moved.refl _ _).alloc _).alloc _
  have R1 : RowAt w0 A (msgCells m a1 ac1 a2 ac2) := by rw [hw0, hA]; exact row_old (row_new _ _ _) _
  have R2 : RowAt w0 (A + 1) (msgCells n b1 bc1 b2 bc2) := by rw [hw0, hA]; exact row_new2 _ _ _ _ _
  have HA1 := hide (ha1.keep B0 fun _ _ => id)
  have HA2 := hide (ha2.keep B0 fun _ _ => id)
  have HB1 := hide (hb1.keep B0 fun _ _ => id)
  have HB2 := hide (hb2.keep B0 fun _ _ => id)
  have B := hide B0
  have c19 : w0.cell? ⟨A, 19, none⟩ = some (.slice a1 m.owner.length ac1) := R1.cell 19 (show 19 < 22 by decide)
  have d19 : w0.cell? ⟨A + 1, 19, none⟩ = some (.slice b1 n.owner.length bc1) := R2.cell 19 (show 19 < 22 by decide)
  have c20 : w0.cell? ⟨A, 20, none⟩ = some (.slice a2 m.set.length ac2) := R1.cell 20 (show 20 < 22 by decide)
  have d20 : w0.cell? ⟨A + 1, 20, none⟩ = some (.slice b2 n.set.length bc2) := R2.cell 20 (show 20 < 22 by decide)
  have RR := hide (And.intro R1 R2)
  have HW := hide hw0
  have HAA := hide hA
  clear ha1 ha2 hb1 hb2 B0 R1 R2 hw0 hA
  have HL := hide (And.intro l1 (And.intro l2 (And.intro l3 l4)))
  by_cases hs : m.set.length = n.set.length
  · by_cases ho : m.owner.length = n.owner.length
    · have es : (((m.set.length : Nat) : Int) != ((n.set.length : Nat) : Int)) = false := by simp; omega
      have eo : (((m.owner.length : Nat) : Int) != ((n.owner.length : Nat) : Int)) = false := by simp; omega
      have HS := hide (And.intro hs ho)
      clear hs ho
      go_enter Try.func12, Try.ntmps12
      go_upto_region 1 with fail
      rw [← unhide HAA, ← unhide HW]
      generalize hLs : m.set.length = ls at *
      generalize hLo : m.owner.length = lo at *
      generalize hMs : n.set.length = ms at *
      generalize hMo : n.owner.length = mo at *
      have HLen := hide (And.intro hLs (And.intro hLo (And.intro hMs hMo)))
      clear hLs hLo hMs hMo
      go_wp2_with fail
      go_loopw [5] (fun i wr => ∃ j d : Nat, j ≤ ls ∧ i = .int .i64 (j : Int) ∧ wr = w0.drewN d ∧ ∀ q, q < j → m.set.getD q 0 = n.set.getD q 0) (fun i _ => ls - (intOf i).toNat)
      case atStart => exact ⟨0, 0, by omega, rfl, rfl, fun q hq => by omega⟩
      case round =>
        obtain ⟨j, d, hj, rfl, rfl, hall⟩ := hrel
        have HAll5 := hide hall
        clear hall
        by_cases hlt : j < ls
        · obtain ⟨x, hx, hcx⟩ := unhide HA2 j (by rw [(unhide HLen).1]; exact hlt)
          obtain ⟨y, hy, hcy⟩ := unhide HB2 j (by rw [(unhide HLen).2.2.1, ← (unhide HS).1]; exact hlt)
          subst hx
          subst hy
          have hlt2 : (j : Int) < (ms : Int) := by have := unhide HS; omega
          generalize hu : m.set.getD j 0 = u at *
          generalize hv : n.set.getD j 0 = v at *
          have HUV := hide (And.intro hu hv)
          clear hu hv
          have hcx' : (w0.drewN d).cell? (x.add j) = some (.int .i64 u) := hcx
          have hcy' : (w0.drewN d).cell? (y.add j) = some (.int .i64 v) := hcy
          by_cases he : u = v
          · subst he
            go_wp2_with fail
            go_quiet (fail)
            go_wp2_with fail
            go_roundw
            case rel =>
              refine ⟨j + 1, d + nq, by omega, by go_num, by first | rfl | (rw [World.drewN_drewN]) | (simp [World.drewN, Nat.add_assoc]), fun q hq => ?_⟩
              by_cases hqj : q = j
              · subst hqj; rw [(unhide HUV).1, (unhide HUV).2]
              · exact unhide HAll5 q (by omega)
            case measure => simp [intOf]; omega
          · have hne : (u != v) = true := by simpa using he
            have HNE := hide (sameMsg_no (m := m) (n := n) fun h => he (by rw [← (unhide HUV).1, ← (unhide HUV).2, h]))
            go_wp2_with fail
            go_quiet (fail)
            go_wp2_with fail
            go_ret
            exact ⟨by rw [unhide HNE]; rfl, moved_drewN (moved_drewN (unhide B) d) nq⟩
        · have hjl : j = ls := by omega
          have HJ := hide hjl
          clear hjl
          go_wp2_with fail
          go_loopw [6] (fun i wr => ∃ j d : Nat, j ≤ lo ∧ i = .int .i64 (j : Int) ∧ wr = w0.drewN d ∧ ∀ q, q < j → m.owner.getD q 0 = n.owner.getD q 0) (fun i _ => lo - (intOf i).toNat)
          case atStart => exact ⟨0, d, by omega, rfl, rfl, fun q hq => by omega⟩
          case round =>
            obtain ⟨k, d2, hk, rfl, rfl, hall⟩ := hrel
            have HAll6 := hide hall
            clear hall
            by_cases hlt6 : k < lo
            · obtain ⟨x, hx, hcx⟩ := unhide HA1 k (by rw [(unhide HLen).2.1]; exact hlt6)
              obtain ⟨y, hy, hcy⟩ := unhide HB1 k (by rw [(unhide HLen).2.2.2, ← (unhide HS).2]; exact hlt6)
              subst hx
              subst hy
              have hlt2 : (k : Int) < (mo : Int) := by have := unhide HS; omega
              generalize hu : m.owner.getD k 0 = u at *
              generalize hv : n.owner.getD k 0 = v at *
              have HUV := hide (And.intro hu hv)
              clear hu hv
              have hcx' : (w0.drewN d2).cell? (x.add k) = some (.int .i64 u) := hcx
              have hcy' : (w0.drewN d2).cell? (y.add k) = some (.int .i64 v) := hcy
              by_cases he : u = v
              · subst he
                go_wp2_with fail
                go_quiet (fail)
                go_wp2_with fail
                go_roundw
                case rel =>
                  refine ⟨k + 1, d2 + nq, by omega, by go_num, by first | rfl | (rw [World.drewN_drewN]) | (simp [World.drewN, Nat.add_assoc]), fun q hq => ?_⟩
                  by_cases hqj : q = k
                  · subst hqj; rw [(unhide HUV).1, (unhide HUV).2]
                  · exact unhide HAll6 q (by omega)
                case measure => simp [intOf]; omega
              · have hne : (u != v) = true := by simpa using he
                have HNE := hide (sameMsg_no (m := m) (n := n) fun h => he (by rw [← (unhide HUV).1, ← (unhide HUV).2, h]))
                go_wp2_with fail
                go_quiet (fail)
                go_wp2_with fail
                go_ret
                exact ⟨by rw [unhide HNE]; rfl, moved_drewN (moved_drewN (unhide B) d2) nq⟩
            · have hkl : k = lo := by omega
              have HK := hide hkl
              clear hkl
              have e1 : m.set = n.set := (list_parts (by have := unhide HS; have := unhide HLen; omega)).2 (fun q hq => unhide HAll5 q (by have := unhide HJ; have := (unhide HLen).1; omega))
              have e2 : m.owner = n.owner := (list_parts (by have := unhide HS; have := unhide HLen; omega)).2 (fun q hq => unhide HAll6 q (by have := unhide HK; have := (unhide HLen).2.1; omega))
              have E := hide (same13_iff m n e2 e1)
              have hseg := fun (a0 : Act) (hs0 : a0.tmps.size = 157) (hA0 : a0.tmps[2]? = some (.pointer (some ⟨A, 0, none⟩))) (hB0 : a0.tmps[3]? = some (.pointer (some ⟨A + 1, 0, none⟩))) (ops : Array Oper) (hops : ops = lastOf Try.f12.body) (hd0 : a0.defers = []) =>
                Seg.mono (D := fun a' w' => Moved (fun _ => False) w0 w' ∧ a'.defers = [] ∧ a'.tmps[4]? = some (.bool (same13 m n))) (rs_all m n a1 a2 b1 b2 ac1 ac2 bc1 bc2 hops (W := fun w' => Moved (fun _ => False) w0 w') (fun w' h => Both.keep ⟨(unhide RR).1, (unhide RR).2⟩ h) (a0 := a0) (w := w0.drewN d2) (moved_drewN (Moved.refl _ _) d2) hs0 hA0 hB0) fun a' w' ⟨h1, h2, h3⟩ => ⟨h1, h2.trans hd0, h3⟩
              have SG := hide hseg
              clear e1 e2 c20 d20 d19 hseg
              go_upto_region 13 with fail
              refine wp_region ?_
              refine ops_all (C := fun a' w' => Moved (fun _ => False) w0 w' ∧ a'.defers = [] ∧ a'.tmps[4]? = some (.bool (same13 m n))) ?_ (unhide SG _ ?_ ?_ ?_ _ ?_ ?_) ?_
              · kernel_rfl
              · rfl
              · rfl
              · rfl
              · kernel_rfl
              · rfl
              · rintro a' w' ⟨hWf, hdf, hvf⟩
                refine ‹∀ (a : Act) (w : World), Code.wp Try.prog Code.ret _ a w → _› a' w' ?_
                refine wp_ret ⟨hdf, .bool (same13 m n), ?_, ?_, (unhide B).trans hWf fun _ f => f.elim⟩
                · simp [results, Try.results12, hvf]
                · rw [unhide E]
    · have HNE := hide (sameMsg_no (m := m) (n := n) fun h => ho (by rw [h]))
      have es : (((m.set.length : Nat) : Int) != ((n.set.length : Nat) : Int)) = false := by simp; omega
      have eo : (((m.owner.length : Nat) : Int) != ((n.owner.length : Nat) : Int)) = true := by simp; omega
      clear hs ho
      go_enter Try.func12, Try.ntmps12
      go_upto_region 1 with fail
      rw [← unhide HAA, ← unhide HW]
      go_wp2_with fail
      go_ret
      exact ⟨by rw [unhide HNE]; rfl, unhide B⟩
  · have HNE := hide (sameMsg_no (m := m) (n := n) fun h => hs (by rw [h]))
    have es : (((m.set.length : Nat) : Int) != ((n.set.length : Nat) : Int)) = true := by simp; omega
    clear hs
    go_enter Try.func12, Try.ntmps12
    go_upto_region 1 with fail
    rw [← unhide HAA, ← unhide HW]
    go_wp2_with fail
    go_ret
    exact ⟨by rw [unhide HNE]; rfl, unhide B⟩
end Go.Proofs.Ytkbmbcmcnpeabaa

/- What a table's Note does. Conditions: numbers are a machine's; the table is one between two calls. -/
import Derived.Test.YtoofaldblldncabTabs
namespace Go.Proofs.Ytoofaldblldncab
open Go.RowKit

theorem note_nil (src seq low code : Int) (w : World) : Calls Try.prog 8 #[.pointer none, .int .i64 src, .int .i64 seq, .int .i64 low, .int .i64 code] w fun e w' => e = .returned (.int .i64 2) ∧ w' = w := by
  go_enter Try.func8, Try.ntmps8
  go_wp2
  go_ret
  exact ⟨rfl, rfl⟩
theorem TIs.drew {w : World} {p : Nat} {F : Nat → Prop} {T : Tab} (h : TIs w p F T) : TIs w.drew p F T := h.keep ((Moved.refl (fun _ => False) w).drew) fun _ f => f.elim
set_option maxRecDepth 100000 in
set_option maxHeartbeats 2000000 in
theorem tnote_any {w : World} {p : Nat} {F : Nat → Prop} {T : Tab} (h : TIs w p F T) (hT : T.Ok) (src seq low code : Int) :
    Calls Try.prog 8 #[.pointer (some ⟨p, 0, none⟩), .int .i64 src, .int .i64 seq, .int .i64 low, .int .i64 code] w fun e w' => e = .returned (.int .i64 (noteE T src seq low code)) ∧ Did w w' p F (note T src seq low code) := by
  have cA := task_any h src seq low
  have cC := fun W => code_any code W
  have SAME : Hid (noteE T src seq low code ≠ 0 → Did w w p F (note T src seq low code)) := hide fun hn => by
    have : note T src seq low code = T := if_neg hn
    rw [this]
    exact Did.start h (Moved.refl _ _)
  rcases ask_state T src seq low with ⟨hs, hm⟩ | ⟨hm, hst⟩
  · have hd : Hid (noteE T src seq low code = 1) := hide (by unfold noteE; rw [hs]; simp)
    clear hm
    go_enter Try.func8, Try.ntmps8
    go_wp2_with fail
    refine cA.mono ?_
    rintro e w' ⟨rfl, hw'⟩
    rw [hw', hs]
    generalize (ask T src seq low).2 = c2
    clear cA hw'
    go_wp2_with fail
    go_ret
    exact ⟨by rw [unhide hd]; rfl, unhide SAME (by rw [unhide hd]; decide)⟩
  · cases hc : isCode code with
    | false =>
      have hd : Hid (noteE T src seq low code = 1) := hide (by unfold noteE; rw [hc]; simp)
      rw [hc] at cC
      clear hm hc
      rcases hst with ⟨hs, _⟩ | ⟨hs, _⟩ | ⟨hs, _⟩
      · skip
        go_enter Try.func8, Try.ntmps8
        go_wp2_with fail
        refine cA.mono ?_
        rintro e w' ⟨rfl, hw'⟩
        rw [hw', hs]
        generalize (ask T src seq low).2 = c2
        clear cA hw'
        go_wp2_with fail
        refine (cC w).mono ?_
        rintro e w' ⟨rfl, hw'⟩
        rw [hw']
        clear hw'
        go_wp2_with fail
        go_ret
        exact ⟨by rw [unhide hd]; rfl, unhide SAME (by rw [unhide hd]; decide)⟩
      · skip
        go_enter Try.func8, Try.ntmps8
        go_wp2_with fail
        refine cA.mono ?_
        rintro e w' ⟨rfl, hw'⟩
        rw [hw', hs]
        generalize (ask T src seq low).2 = c2
        clear cA hw'
        go_wp2_with fail
        refine (cC w).mono ?_
        rintro e w' ⟨rfl, hw'⟩
        rw [hw']
        clear hw'
        go_wp2_with fail
        go_ret
        exact ⟨by rw [unhide hd]; rfl, unhide SAME (by rw [unhide hd]; decide)⟩
      · skip
        go_enter Try.func8, Try.ntmps8
        go_wp2_with fail
        refine cA.mono ?_
        rintro e w' ⟨rfl, hw'⟩
        rw [hw', hs]
        generalize (ask T src seq low).2 = c2
        clear cA hw'
        go_wp2_with fail
        refine (cC w).mono ?_
        rintro e w' ⟨rfl, hw'⟩
        rw [hw']
        clear hw'
        go_wp2_with fail
        go_ret
        exact ⟨by rw [unhide hd]; rfl, unhide SAME (by rw [unhide hd]; decide)⟩
    | true =>
      rw [hc] at cC
      rcases hst with ⟨hs, _⟩ | ⟨hs, _⟩ | ⟨hs, h1, h2⟩
      · have hd : Hid (noteE T src seq low code = 12) := hide (by unfold noteE; rw [hc, hs]; simp)
        clear hm hc
        go_enter Try.func8, Try.ntmps8
        go_wp2_with fail
        refine cA.mono ?_
        rintro e w' ⟨rfl, hw'⟩
        rw [hw', hs]
        generalize (ask T src seq low).2 = c2
        clear cA hw'
        go_wp2_with fail
        refine (cC w).mono ?_
        rintro e w' ⟨rfl, hw'⟩
        rw [hw']
        clear hw'
        go_wp2_with fail
        go_ret
        exact ⟨by rw [unhide hd]; rfl, unhide SAME (by rw [unhide hd]; decide)⟩
      · have hd : Hid (noteE T src seq low code = 5) := hide (by unfold noteE; rw [hc, hs]; simp)
        clear hm hc
        go_enter Try.func8, Try.ntmps8
        go_wp2_with fail
        refine cA.mono ?_
        rintro e w' ⟨rfl, hw'⟩
        rw [hw', hs]
        generalize (ask T src seq low).2 = c2
        clear cA hw'
        go_wp2_with fail
        refine (cC w).mono ?_
        rintro e w' ⟨rfl, hw'⟩
        rw [hw']
        clear hw'
        go_wp2_with fail
        go_ret
        exact ⟨by rw [unhide hd]; rfl, unhide SAME (by rw [unhide hd]; decide)⟩
      · have hd : Hid (noteE T src seq low code = 0) := hide (by unfold noteE; rw [hc, hs]; simp)
        have hn : Hid (note T src seq low code = noted T src seq low code) := hide (if_pos (unhide hd))
        have hr := may_iff.1 hm
        obtain ⟨k, rfl⟩ : ∃ k : Nat, src = k := ⟨src.toNat, by omega⟩
        have hk : k < 4 := by omega
        have g0 : (0 : Int) ≤ (k : Int) := by omega
        have g1 : (k : Int) < 4 := by omega
        have hl16 := (hT k).len16
        have hcd := code_iff.1 hc
        have K1 : Hid (∀ M, TabAt w p M T → Calls Try.prog 14 #[.pointer (some ⟨p, k * 2, none⟩), .int .i64 seq, .int .i64 code] w fun e w' => e = .returned (.tuple #[]) ∧ ∃ m', SDid w w' p (k * 2) (M k) ((T k).keep seq code) m') :=
          hide fun M hA => keep_any (hA.src k hk) (by omega) hcd (by omega)
        have K2 : Hid (∀ (v : World) m', SrcAt v p (k * 2) m' ((T k).keep seq code) → Calls Try.prog 15 #[.pointer (some ⟨p, k * 2, none⟩), .int .i64 low] v fun e w' => e = .returned (.tuple #[]) ∧ SDid v w' p (k * 2) m' (((T k).keep seq code).rise_ low) m') :=
          hide fun v m' hA => rise_any hA (by omega)
        have hh := h
        obtain ⟨M, hA, hF⟩ := h
        have HA := hide hA
        have HH := hide hh
        clear hm hc hr hl16 hcd h1 h2 hA hh SAME
        go_enter Try.func8, Try.ntmps8
        go_wp2_with fail
        refine cA.mono ?_
        rintro e w' ⟨rfl, hw'⟩
        rw [hw', hs]
        generalize (ask T (k : Int) seq low).2 = c2
        clear cA hw'
        go_wp2_with fail
        refine (cC w).mono ?_
        rintro e w' ⟨rfl, hw'⟩
        rw [hw']
        clear hw'
        go_wp2_with fail
        refine (unhide K1 M (unhide HA)).mono ?_
        rintro e v ⟨rfl, m', d1⟩
        have D1 := hide d1
        clear d1
        go_wp2_with fail
        refine (unhide K2 v m' (unhide D1).at_).mono ?_
        rintro e v2 ⟨rfl, d2⟩
        have D2 := hide d2
        clear d2
        go_wp2_with fail
        go_ret
        refine ⟨by rw [unhide hd]; rfl, ?_⟩
        rw [unhide hn]
        exact (unhide HH).step hk fun m hm => by
          have e : m = M k := by
            have := hm.c1.symm.trans ((unhide HA).src k hk).c1
            simpa using this
          rw [e]
          exact ⟨m', (unhide D1).trans (unhide D2)⟩
end Go.Proofs.Ytoofaldblldncab

/- What is on its way comes in the order that All tells, walked. No conditions. -/
import Derived.Test.YtceepejndomfaaaAfter
namespace Go.Proofs.Ytceepejndomfaaa
open Go.RowKit

/-- The blocks of a row. -/
def ofRow (a : Option Addr) (k : Nat) : Prop := ∃ x, a = some x ∧ k = x.block
theorem Row.keeps {X : Nat → Prop} {w w' : World} {a : Option Addr} {c : Nat} {l : List Pkt} (h : Row w a c l) (k : Keeps X w w') (hX : ∀ j, ofRow a j → X j) : Row w' a c l := by
  refine ownsRow_keep h fun j hj => ?_
  cases a with
  | none => simp [Value.ownBlock] at hj
  | some x =>
    simp [Value.ownBlock] at hj
    subst hj
    exact k.2 _ (hX _ ⟨x, rfl, rfl⟩)
theorem Own.drewN {w0 w : World} {X : Nat → Prop} {p : Nat} {l : List Pkt} (h : Own w0 w X p l) (n : Nat) : Own w0 (w.drewN n) X p l := by
  obtain ⟨F, hN, hF, hX, hm⟩ := h
  have m : ∀ {G : Nat → Prop} {a b : World}, Moved G a b → Moved G a (b.drewN n) := fun h => ⟨h.os, h.tape, h.output, h.size, h.block⟩
  exact ⟨F, hN.keep (m (Moved.refl (fun _ => False) w)) fun _ f => f.elim, hF, hX, m hm⟩
theorem Row.drewN {w : World} {a : Option Addr} {c : Nat} {l : List Pkt} (h : Row w a c l) (n : Nat) : Row (w.drewN n) a c l := h
theorem takeP_drop (l : List Pkt) (k : Nat) (h : k < l.length) : takeP (l.drop k) 0 = l.getD k Pkt.zero ∧ takeE (l.drop k) 0 = 0 ∧ takeL (l.drop k) 0 = l.drop (k + 1) := by
  have hl : (0 : Int) ≤ 0 ∧ (0 : Int) < ((l.drop k).length : Int) := by simp; omega
  unfold takeP takeE takeL
  rw [if_pos hl, if_pos hl, if_pos hl]
  refine ⟨?_, rfl, ?_⟩
  · simp [List.getD_eq_getElem?_getD]
  · simp
theorem take_nothing : takeP [] 0 = Pkt.zero ∧ takeE [] 0 = 4 ∧ takeL [] 0 = [] ∧ dupE [] 0 = 4 ∧ dupL [] 0 = [] := by decide

set_option maxHeartbeats 4000000 in
theorem order_any (a : Option Addr) (len cap : Nat) (z : List ActV) (w : World) (hz : IsActs w a len cap z) :
    Calls Try.prog 6 #[.slice a len cap] w fun e w' => e = .returned (.bool true) ∧ Below w.heap.size w w' := by
  have HZ := hide hz
  clear hz
  go_enter Try.func6, Try.ntmps6
  go_wp2_with fail
  refine (awake_any _).mono ?_
  rintro e w1 ⟨rfl, hb1⟩
  have HB1 := hide hb1
  clear hb1
  go_wp2_with fail
  refine (great_any a len cap z _ ((unhide HZ).below (unhide HB1))).mono ?_
  rintro e w1' ⟨rfl, rfl⟩
  by_cases hg : great z = true
  · rw [hg]
    go_wp2_with fail
    go_ret
    exact ⟨rfl, unhide HB1⟩
  · have hg' : great z = false := by simpa using hg
    rw [hg']
    clear hg hg'
    go_wp2_with fail
    refine (after_any a len cap z w w1' (unhide HZ) (Moved.of_below (unhide HB1))).mono ?_
    rintro e w2 ⟨p, rfl, o2⟩
    have O2 := hide o2
    clear o2
    go_wp2_with fail
    refine (all_own (unhide O2)).mono ?_
    rintro e w3 ⟨b, c, rfl, hrow, _, o3⟩
    have hgood := (o3.good).2.2
    generalize actsL z len = L at *
    have O3 := hide (o3.mono (X' := ofRow b) fun k hk => .inr hk)
    have HR := hide hrow
    clear o3 hrow
    go_wp2_with fail
    go_loopw [5] (fun t wr => ∃ k : Nat, k ≤ L.length ∧ t = .int .i64 (k : Int) ∧ Own w wr (ofRow b) p (L.drop k) ∧ Row wr b c L) (fun t _ => L.length - (intOf t).toNat)
    case atStart => exact ⟨0, by omega, rfl, unhide O3, unhide HR⟩
    case round =>
      obtain ⟨k, hk, rfl, o4, hr4⟩ := hrel
      clear O3 HR O2
      by_cases hlt : k < L.length
      · obtain ⟨t1, t2, t3⟩ := takeP_drop L k hlt
        have hlen : (L.drop (k + 1)).length = L.length - k - 1 := by simp; omega
        generalize hq : L.getD k Pkt.zero = q at *
        have T := hide (And.intro t1 (And.intro t2 t3))
        have HQ := hide hq
        have O4 := hide o4
        have HR4 := hide hr4
        have HL := hide hlen
        clear t1 t2 t3 hq o4 hr4 hlen
        go_wp2_with fail
        refine (take_own (unhide O4) 0).mono ?_
        rw [(unhide T).1, (unhide T).2.1, (unhide T).2.2]
        rintro e w5 ⟨rfl, o5, k5⟩
        have hr5 := (unhide HR4).keeps k5 fun _ h => h
        have o6 := o5.alloc (.cells #[.int .i64 q.f, .int .i64 q.t, .string q.d] 25)
        have hr6 : Row (w5.alloc (.cells #[.int .i64 q.f, .int .i64 q.t, .string q.d] 25)) b c L := hr5.keep ((Moved.refl (fun _ => False) w5).alloc _) fun _ _ f => f
        have hB := PkAt.new w5 q.f q.t q.d
        obtain ⟨w6, hw6⟩ : ∃ w6, w6 = w5.alloc (.cells #[.int .i64 q.f, .int .i64 q.t, .string q.d] 25) := ⟨_, rfl⟩
        rw [← hw6] at o6 hr6 hB
        rcases hr6.form with ⟨_, _, e⟩ | ⟨g, rfl, hg, _⟩
        · rw [e] at hlt; simp at hlt
        obtain ⟨c0, c1, c2⟩ := hr6.at k hlt
        rw [unhide HQ] at c0 c1 c2
        obtain ⟨b0, b1, b2⟩ := hB
        dsimp only at b0 b1 b2
        have O6 := hide (o6.mono (X' := ofRow (some ⟨g, 0, none⟩)) fun _ h => .inl h)
        have HR6 := hide hr6
        have HW6 := hide hw6
        clear o5 k5 o6 hr5 hr6 hw6
        unfold Pkt.val
        go_upto_region 11 with fail
        rw [← unhide HW6]
        have same := samePk_self q.f q.t q.d
        have hlen2 := unhide HL
        have lq : ∀ n, Calls Try.prog 12 #[.pointer (some ⟨p, 0, none⟩)] (w6.drewN n) fun e w' => e = .returned (.int .i64 ((L.length : Int) - (k : Int) - 1)) ∧ w' = w6.drewN n := fun n => by
          have := len_own ((unhide O6).drewN n)
          rwa [hlen2, show ((L.length - k - 1 : Nat) : Int) = (L.length : Int) - (k : Int) - 1 by omega] at this
        have LQ := hide lq
        clear lq hlen2
        go_quiet ((go_at_call 12; exact Calls.quiet_of_same (unhide LQ _)))
        have O7 := hide ((unhide O6).drewN nq)
        have HR7 := hide ((unhide HR6).drewN nq)
        go_wp2_with fail
        go_roundw
        case rel => exact ⟨k + 1, by omega, by go_num, unhide O7, unhide HR7⟩
        case measure => simp [intOf]; omega
      · have hkl : k = L.length := by omega
        have hnil : L.drop k = [] := by rw [hkl]; exact List.drop_length
        rw [hnil] at o4
        have O4 := hide o4
        clear o4 hnil hr4
        have T := hide take_nothing
        go_wp2_with fail
        refine (take_own (unhide O4) 0).mono ?_
        rw [(unhide T).1, (unhide T).2.1, (unhide T).2.2.1]
        rintro e w5 ⟨rfl, o5, _⟩
        have O5 := hide (o5.alloc (.cells #[.int .i64 0, .int .i64 0, .string ⟨#[]⟩] 25))
        clear o5
        unfold Pkt.val Pkt.zero
        dsimp only
        go_wp2_with fail
        refine (len_own (unhide O5)).mono ?_
        rintro e w6 ⟨rfl, rfl⟩
        go_wp2_with fail
        refine (dup_own (unhide O5) 0).mono ?_
        rw [(unhide T).2.2.2.1, (unhide T).2.2.2.2]
        rintro e w7 ⟨rfl, o7, _⟩
        have O7 := hide o7
        clear o7
        go_wp2_with fail
        refine (lose_own (unhide O7) 0).mono ?_
        rw [(unhide T).2.1, (unhide T).2.2.1]
        rintro e w8 ⟨rfl, o8, _⟩
        have O8 := hide o8
        clear o8
        go_wp2_with fail
        go_ret
        exact ⟨rfl, (unhide O8).base.below (fun _ f => f.elim) (Nat.le_refl _)⟩
end Go.Proofs.Ytceepejndomfaaa

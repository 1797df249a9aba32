/- The document's own net: what its calls do. No conditions. -/
import Derived.Test.YtceepejndomfaaaRoomWalk
namespace Go.Proofs.Ytceepejndomfaaa
open Go.RowKit

/-- Block r holds the document's net on which l are on their way. -/
structure RefAt (w : World) (r : Nat) (a : Option Addr) (c : Nat) (l : List Pkt) : Prop where
  way : w.cell? ⟨r, 0, none⟩ = some (.slice a l.length c)
  free : w.frozen? ⟨r, 0, none⟩ = false
  row : Row w a c l
  off : ∀ x, a = some x → x.block ≠ r
  good : ∀ q ∈ l, q.ok
  len : l.length ≤ 5184
def reffoot (r : Nat) (a : Option Addr) (k : Nat) : Prop := k = r ∨ ofRow a k
theorem RefAt.lt {w : World} {r : Nat} {a : Option Addr} {c : Nat} {l : List Pkt} (h : RefAt w r a c l) : ∀ k, reffoot r a k → k < w.heap.size := by
  rintro k (rfl | ⟨x, e, rfl⟩)
  · exact World.block_lt_of_cell? _ _ h.way
  · exact h.row.lt x e
theorem RefAt.keep {F : Nat → Prop} {w w' : World} {r : Nat} {a : Option Addr} {c : Nat} {l : List Pkt} (h : RefAt w r a c l) (m : Moved F w w') (hF : ∀ k, F k → ¬ reffoot r a k) : RefAt w' r a c l :=
  have hp : r < w.heap.size := h.lt r (.inl rfl)
  have hn : ¬ F r := fun f => hF r f (.inl rfl)
  ⟨(m.cell (p := ⟨r, 0, none⟩) hp hn).trans h.way, (m.frozen (p := ⟨r, 0, none⟩) hp hn).trans h.free, h.row.keep m fun x e f => hF _ f (.inr ⟨x, e, rfl⟩), h.off, h.good, h.len⟩
def RefIs (w : World) (r : Nat) (G : Nat → Prop) (l : List Pkt) : Prop := ∃ a c, RefAt w r a c l ∧ G = reffoot r a
theorem RefIs.lt {w : World} {r : Nat} {G : Nat → Prop} {l : List Pkt} (h : RefIs w r G l) : ∀ k, G k → k < w.heap.size := by
  obtain ⟨a, c, h, rfl⟩ := h; exact h.lt
theorem RefIs.keep {F G : Nat → Prop} {w w' : World} {r : Nat} {l : List Pkt} (h : RefIs w r G l) (m : Moved F w w') (hF : ∀ k, F k → ¬ G k) : RefIs w' r G l := by
  obtain ⟨a, c, h, rfl⟩ := h; exact ⟨a, c, h.keep m hF, rfl⟩
theorem RefIs.keeps {X G : Nat → Prop} {w w' : World} {r : Nat} {l : List Pkt} (h : RefIs w r G l) (k : Keeps X w w') (hX : ∀ k, G k → X k) : RefIs w' r G l := by
  obtain ⟨a, c, h, rfl⟩ := h
  exact ⟨a, c, ⟨(k.cell (hX r (.inl rfl))).trans h.way, (k.frozen (hX r (.inl rfl))).trans h.free, h.row.keeps k fun j hj => hX j (.inr hj), h.off, h.good, h.len⟩, rfl⟩
def RefDid (w w' : World) (r : Nat) (G : Nat → Prop) (l : List Pkt) : Prop := ∃ G', RefIs w' r G' l ∧ (∀ k, G' k → G k ∨ w.heap.size ≤ k) ∧ Moved G w w'

/-- The row grows, and is stored. -/
theorem ref_done' {w w1 w2 : World} {r : Nat} {a a' : Option Addr} {c c' : Nat} {l m : List Pkt} (h1 : RefAt w1 r a c l) (m1 : Moved (fun _ => False) w w1) (m2 : Moved (ofRow a) w1 w2) (hr2 : Row w2 a' c' m) (hf2 : ∀ x, a' = some x → a = some x ∨ w1.heap.size ≤ x.block)
    (hg : ∀ q ∈ m, q.ok) (hl : m.length ≤ 5184) : RefAt (w2.setCell ⟨r, 0, none⟩ (.slice a' m.length c')) r a' c' m ∧ (∀ k, reffoot r a' k → reffoot r a k ∨ w.heap.size ≤ k) ∧ Moved (reffoot r a) w (w2.setCell ⟨r, 0, none⟩ (.slice a' m.length c')) := by
  have hr1 : r < w1.heap.size := h1.lt r (.inl rfl)
  have hs1 := m1.size
  have hn : ¬ ofRow a r := fun ⟨x, e, e'⟩ => h1.off x e e'.symm
  have hc2 := (m2.cell (p := ⟨r, 0, none⟩) hr1 hn).trans h1.way
  have hz2 := (m2.frozen (p := ⟨r, 0, none⟩) hr1 hn).trans h1.free
  have hoff' : ∀ x, a' = some x → x.block ≠ r := fun x hx => by
    rcases hf2 x hx with e | e
    · exact h1.off x e
    · omega
  refine ⟨⟨World.cell?_setCell_same _ _ _ hc2, by rw [World.frozen?_setCell]; exact hz2, hr2.keep (Moved.put w2 r 0 _) hoff', hoff', hg, hl⟩, ?_, ?_⟩
  · rintro k (rfl | ⟨x, e, rfl⟩)
    · exact .inl (.inl rfl)
    · rcases hf2 x e with e' | e'
      · exact .inl (.inr ⟨x, e', rfl⟩)
      · exact .inr (by omega)
  · exact ((m1.mono (G := reffoot r a) fun _ f => f.elim).trans m2 fun k hk => .inl (.inr hk)).setCell (p := ⟨r, 0, none⟩) (.inl (.inl rfl)) _
theorem ref_done {w w1 w2 : World} {r : Nat} {a a' : Option Addr} {c c' : Nat} {l m : List Pkt} (h1 : RefAt w1 r a c l) (m1 : Moved (fun _ => False) w w1) (m2 : Moved (ofRow a) w1 w2) (hr2 : Row w2 a' c' m) (hf2 : ∀ x, a' = some x → a = some x ∨ w1.heap.size ≤ x.block)
    (hg : ∀ q ∈ m, q.ok) (hl : m.length ≤ 5184) : RefDid w (w2.setCell ⟨r, 0, none⟩ (.slice a' m.length c')) r (reffoot r a) m := by
  obtain ⟨x1, x2, x3⟩ := ref_done' h1 m1 m2 hr2 hf2 hg hl
  exact ⟨_, ⟨a', c', x1, rfl⟩, x2, x3⟩

set_option maxHeartbeats 4000000 in
theorem put_ref {w : World} {r : Nat} {a : Option Addr} {c : Nat} {l : List Pkt} (h : RefAt w r a c l) (q : Pkt) (hq : q.ok) (hlen : cnt q.link l < 64 → l.length + 1 ≤ 5184) :
    Calls Try.prog 30 #[.pointer (some ⟨r, 0, none⟩), q.val] w fun e w' => e = .returned (.int .i64 (postE l q)) ∧ RefDid w w' r (reffoot r a) (postL l q) := by
  have hl := h.len
  have hr : r < w.heap.size := h.lt r (.inl rfl)
  obtain ⟨w0, hw0⟩ : ∃ w0, w0 = w.alloc (.cells #[.int .i64 q.f, .int .i64 q.t, .string q.d] 25) := ⟨_, rfl⟩
  have m0 : Moved (fun _ => False) w w0 := by rw [hw0]; exact (Moved.refl _ _).alloc _
  have h0 := h.keep m0 fun _ f => f.elim
  have b0 : PkAt w0 w.heap.size q := by rw [hw0]; exact PkAt.new w q.f q.t q.d
  have HLT := hide h.lt
  have H0 := hide h0
  have M0 := hide m0
  have HW := hide hw0
  have HP := hide b0
  have HOK := hide hq
  have HLEN := hide hlen
  have HG := hide h.good
  have hs0 : w.heap.size < w0.heap.size := by rw [hw0]; simp
  clear h h0 m0 hw0 b0 hq hlen
  unfold Pkt.val
  go_enter Try.func30, Try.ntmps30
  go_upto_region 1 with fail
  rw [← unhide HW]
  generalize hB : w.heap.size = B at *
  go_wp2_with fail
  go_loopw [5, 6] (fun s t wr => ∃ k : Nat, k ≤ l.length ∧ t = .int .i64 (k : Int) ∧ s = .int .i64 ((cnt q.link (l.take k) : Nat) : Int) ∧ ∃ n, wr = w0.drewN n) (fun _ t _ => l.length - (intOf t).toNat)
  case atStart => exact ⟨0, by omega, rfl, rfl, 0, rfl⟩
  case round =>
    obtain ⟨k, hk, rfl, rfl, nn, rfl⟩ := hrel
    have hcl := cnt_le q.link (l.take k)
    have htl : (l.take k).length ≤ k := List.length_take_le _ _
    have hway := (unhide H0).way
    have hfree := (unhide H0).free
    obtain ⟨b0, b1, b2⟩ := unhide HP
    by_cases hlt : k < l.length
    · have hsucc := cnt_take_succ q.link l k hlt
      have hqk : (l.getD k Pkt.zero).ok := unhide HG _ (by rw [List.getD_eq_getElem?_getD, List.getElem?_eq_getElem hlt]; simp)
      have hlk := Pkt.link_eq hqk (unhide HOK)
      have hrow := (unhide H0).row
      rcases hrow.form with ⟨_, _, e⟩ | ⟨g, rfl, hg, _⟩
      · rw [e] at hlt; simp at hlt
      obtain ⟨c0, c1, c2⟩ := hrow.at k hlt
      generalize l.getD k Pkt.zero = v at *
      have HS := hide hsucc
      have HL := hide hlk
      clear hsucc hlk c2 b2 hrow
      generalize cnt q.link (l.take k) = m at *
      by_cases hf : v.f = q.f
      · by_cases ht : v.t = q.t
        · have q1 : (v.f == q.f) = true := by simpa using hf
          have q2 : (v.t == q.t) = true := by simpa using ht
          clear hf ht
          go_wp2_with fail
          go_quiet (fail)
          go_wp2_with fail
          go_roundw
          case rel => exact ⟨k + 1, by omega, by go_num, by rw [unhide HS, if_pos ((unhide HL).2 ⟨by simpa using q1, by simpa using q2⟩)]; go_num, _, rfl⟩
          case measure => simp [intOf]; omega
        · have q1 : (v.f == q.f) = true := by simpa using hf
          have q2 : (v.t == q.t) = false := by simpa using ht
          clear hf
          go_wp2_with fail
          go_quiet (fail)
          go_wp2_with fail
          go_roundw
          case rel => exact ⟨k + 1, by omega, by go_num, by rw [unhide HS, if_neg (fun h => ht ((unhide HL).1 h).2)]; rfl, _, rfl⟩
          case measure => simp [intOf]; omega
      · have q1 : (v.f == q.f) = false := by simpa using hf
        go_wp2_with fail
        go_quiet (fail)
        go_wp2_with fail
        go_roundw
        case rel => exact ⟨k + 1, by omega, by go_num, by rw [unhide HS, if_neg (fun h => hf ((unhide HL).1 h).1)]; rfl, _, rfl⟩
        case measure => simp [intOf]; omega
    · have hkl : k = l.length := by omega
      rw [hkl, List.take_length]
      clear hcl htl
      have HOL : Hid (∀ x, a = some x → x.block ≠ r) := (unhide H0).off
      have h1 : RefAt (w0.drewN nn) r a c l := (unhide H0).keep (F := fun _ => False) ⟨rfl, rfl, rfl, Nat.le_refl _, fun _ _ _ => rfl⟩ fun _ f => f.elim
      have m1 : Moved (fun _ => False) w (w0.drewN nn) := ⟨(unhide M0).os, (unhide M0).tape, (unhide M0).output, (unhide M0).size, (unhide M0).block⟩
      have hr1 : r < (w0.drewN nn).heap.size := h1.lt r (.inl rfl)
      have hs1 : B < (w0.drewN nn).heap.size := hs0
      have way1 := h1.way
      have free1 := h1.free
      have p1 := (unhide HP).drewN nn
      obtain ⟨d0, d1, d2⟩ := p1
      obtain ⟨w1, hw1⟩ : ∃ w1, w1 = w0.drewN nn := ⟨_, rfl⟩
      rw [← hw1] at h1 m1 hr1 hs1 way1 free1 d0 d1 d2 ⊢
      have H1 := hide h1
      have M1 := hide m1
      clear h1 m1 hw1 hway hfree b0 b1 b2 H0 M0 HP
      by_cases hge : 64 ≤ cnt q.link l
      · have eE : postE l q = 6 := by unfold postE; rw [if_neg (fun h => h (unhide HOK)), if_pos hge]
        have eL : postL l q = l := by unfold postL; rw [if_neg (fun h => by omega)]
        have HE := hide (And.intro eE eL)
        clear eE eL
        generalize cnt q.link l = m at *
        go_wp2_with fail
        go_ret
        rw [(unhide HE).1, (unhide HE).2]
        exact ⟨rfl, reffoot r a, ⟨a, c, unhide H1, rfl⟩, fun k f => .inl f, (unhide M1).mono fun _ f => f.elim⟩
      · have hlt64 : cnt q.link l < 64 := by omega
        have eE : postE l q = 0 := by unfold postE; rw [if_neg (fun h => h (unhide HOK)), if_neg hge]
        have eL : postL l q = l ++ [q] := by unfold postL; rw [if_pos ⟨unhide HOK, hlt64⟩]
        have HE := hide (And.intro eE eL)
        have HL1 := hide (unhide HLEN hlt64)
        clear eE eL
        generalize cnt q.link l = m at *
        go_wp2_with fail
        go_region_law (refine step_prow rfl (.tmp 48) (.tmp 50) rfl ((unhide H1).row.keep (F := fun _ => False) (((Moved.refl _ _).drew).alloc _) (fun _ _ f => f)) (some ⟨w1.heap.size, 0, none⟩) 1 [⟨q.f, q.t, q.d⟩] (lies_one w1.drew q.f q.t q.d) (by simp only [List.length_cons, List.length_nil]; omega) (by simp [Act.eval]) (by simp [Act.eval]) ?_; intro a' c' w2 hr2 hf2 hg2; have ha := hide (after_app ((Moved.refl _ _).drew.alloc _) hg2 (unhide HOL) hr1 way1 free1); have hc2 := (unhide ha).1; have hfz2 := (unhide ha).2.1; have HR2 := hide hr2; have HF2 := hide hf2; clear hr2 hf2 hg2)
        all_goals
          go_wp2_with fail
          go_ret
          rw [(unhide HE).1, (unhide HE).2]
          have hN := ref_done (unhide H1) (unhide M1) (unhide ha).2.2 (unhide HR2) (fun x hx => by
            rcases unhide HF2 x hx with e | e
            · exact .inl e
            · have e' : w1.heap.size + 1 ≤ x.block := by simpa using e
              exact .inr (by omega)) (fun x hx => by
            rcases List.mem_append.1 hx with e | e
            · exact unhide HG x e
            · rw [List.mem_singleton.1 e]; exact unhide HOK) (by have := unhide HL1; simp; omega)
          rw [show (l ++ [(⟨q.f, q.t, q.d⟩ : Pkt)]).length = l.length + 1 by simp] at hN
          exact ⟨rfl, hN⟩
end Go.Proofs.Ytceepejndomfaaa

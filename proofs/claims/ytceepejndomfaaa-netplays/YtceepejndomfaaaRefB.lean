/- The document's own net: Post, Take, Dup. No conditions. -/
import Derived.Test.YtceepejndomfaaaRef
namespace Go.Proofs.Ytceepejndomfaaa
open Go.RowKit

theorem post_len {l : List Pkt} (hg : ∀ q ∈ l, q.ok) (hm : ∀ i, cnt i l ≤ 64) {q : Pkt} (hq : q.ok) (h : cnt q.link l < 64) : l.length + 1 ≤ 5184 := by
  have := len_le (l ++ [q]) (fun x hx => by
    rcases List.mem_append.1 hx with e | e
    · exact hg x e
    · rw [List.mem_singleton.1 e]; exact hq) (fun i => by
    rw [cnt_append, cnt_one]
    have := hm i
    by_cases e : q.link = i
    · rw [if_pos e]; rw [e] at h; omega
    · rw [if_neg e]; omega)
  simpa using this
theorem RefDid.of_moved {w w1 w2 : World} {r : Nat} {G : Nat → Prop} {l : List Pkt} (m : Moved (fun _ => False) w w1) (h : RefDid w1 w2 r G l) : RefDid w w2 r G l := by
  obtain ⟨G', hR, hG, hm⟩ := h
  refine ⟨G', hR, fun k hk => ?_, (m.mono (G := G) fun _ f => f.elim).trans hm fun k hk => .inl hk⟩
  rcases hG k hk with e | e
  · exact .inl e
  · exact .inr (Nat.le_trans m.size e)
theorem RefDid.start {w w1 : World} {r : Nat} {G : Nat → Prop} {l : List Pkt} (h : RefIs w r G l) (m : Moved (fun _ => False) w w1) : RefDid w w1 r G l :=
  ⟨G, h.keep m fun _ f => f.elim, fun _ f => .inl f, m.mono fun _ f => f.elim⟩

set_option maxHeartbeats 1000000 in
theorem post_ref {w : World} {r : Nat} {G : Nat → Prop} {l : List Pkt} (h : RefIs w r G l) (hm : ∀ i, cnt i l ≤ 64) (q : Pkt) :
    Calls Try.prog 27 #[.pointer (some ⟨r, 0, none⟩), q.val] w fun e w' => e = .returned (.int .i64 (postE l q)) ∧ RefDid w w' r G (postL l q) := by
  obtain ⟨a, c, h, rfl⟩ := h
  have m0 : Moved (fun _ => False) w (w.alloc (.cells #[.int .i64 q.f, .int .i64 q.t, .string q.d] 25)) := (Moved.refl _ _).alloc _
  by_cases hq : q.ok
  · have H := hide (put_ref (h.keep m0 fun _ f => f.elim) q hq fun h64 => post_len h.good hm hq h64)
    have M := hide m0
    have hq' := hq
    unfold Pkt.ok at hq'
    clear h m0 hm hq
    unfold Pkt.val
    have i1 : ¬ q.f < 0 := by omega
    have i2 : ¬ (8 : Int) < q.f := by omega
    have i3 : ¬ q.t < 0 := by omega
    have i4 : ¬ (8 : Int) < q.t := by omega
    clear hq'
    go_enter Try.func27, Try.ntmps27
    go_wp2_with fail
    refine (unhide H).mono ?_
    rintro e w1 ⟨rfl, hd⟩
    have HD := hide (hd.of_moved (unhide M))
    clear hd
    go_wp2_with fail
    go_ret
    exact ⟨rfl, unhide HD⟩
  · have eE : postE l q = 1 := by unfold postE; rw [if_pos hq]
    have eL : postL l q = l := by unfold postL; rw [if_neg (fun h => hq h.1)]
    rw [eE, eL]
    have HD := hide (RefDid.start (G := reffoot r a) ⟨a, c, h, rfl⟩ m0)
    have hq' := hq
    unfold Pkt.ok at hq'
    clear h m0 hm hq eE eL
    unfold Pkt.val
    by_cases i1 : q.f < 0
    · clear hq'
      go_enter Try.func27, Try.ntmps27
      go_wp2_with fail
      go_ret
      exact ⟨rfl, unhide HD⟩
    · by_cases i2 : (8 : Int) < q.f
      · clear hq'
        go_enter Try.func27, Try.ntmps27
        go_wp2_with fail
        go_ret
        exact ⟨rfl, unhide HD⟩
      · by_cases i3 : q.t < 0
        · clear hq'
          go_enter Try.func27, Try.ntmps27
          go_wp2_with fail
          go_ret
          exact ⟨rfl, unhide HD⟩
        · have i4 : (8 : Int) < q.t := by omega
          clear hq'
          go_enter Try.func27, Try.ntmps27
          go_wp2_with fail
          go_ret
          exact ⟨rfl, unhide HD⟩
set_option maxHeartbeats 1000000 in
theorem dup_ref {w : World} {r : Nat} {G : Nat → Prop} {l : List Pkt} (h : RefIs w r G l) (hm : ∀ i, cnt i l ≤ 64) (i : Int) :
    Calls Try.prog 29 #[.pointer (some ⟨r, 0, none⟩), .int .i64 i] w fun e w' => e = .returned (.int .i64 (dupE l i)) ∧ RefDid w w' r G (dupL l i) := by
  obtain ⟨a, c, h, rfl⟩ := h
  have hway := h.way
  have hl := h.len
  by_cases hi : 0 ≤ i ∧ i < l.length
  · obtain ⟨k, rfl⟩ : ∃ k : Nat, i = k := ⟨i.toNat, by omega⟩
    unfold dupE dupL
    rw [if_pos hi, if_pos hi, Int.toNat_natCast]
    have hk : k < l.length := by omega
    have hok : (l.getD k Pkt.zero).ok := h.good _ (by rw [List.getD_eq_getElem?_getD, List.getElem?_eq_getElem hk]; simp)
    have H := put_ref h (l.getD k Pkt.zero) hok fun h64 => post_len h.good hm hok h64
    rcases h.row.form with ⟨_, _, e⟩ | ⟨g, rfl, hg, _⟩
    · rw [e] at hk; simp at hk
    obtain ⟨c0, c1, c2⟩ := h.row.at k hk
    generalize l.getD k Pkt.zero = q at *
    unfold Pkt.val at H
    have HH := hide H
    clear h hm H hok
    go_enter Try.func29, Try.ntmps29
    go_wp2_with fail
    refine (unhide HH).mono ?_
    rintro e w1 ⟨rfl, hd⟩
    have HD := hide hd
    clear hd
    go_wp2_with fail
    go_ret
    exact ⟨rfl, unhide HD⟩
  · unfold dupE dupL
    rw [if_neg hi, if_neg hi]
    have HD := hide (RefDid.start (G := reffoot r a) ⟨a, c, h, rfl⟩ (Moved.refl (fun _ => False) w))
    clear h hm
    by_cases h0 : i < 0
    · go_enter Try.func29, Try.ntmps29
      go_wp2_with fail
      go_ret
      exact ⟨rfl, unhide HD⟩
    · have h1 : (l.length : Int) ≤ i := by omega
      go_enter Try.func29, Try.ntmps29
      go_wp2_with fail
      go_ret
      exact ⟨rfl, unhide HD⟩
set_option maxHeartbeats 1000000 in
theorem take_ref_none {w : World} {r : Nat} {G : Nat → Prop} {l : List Pkt} (h : RefIs w r G l) (i : Int) (hi : ¬ (0 ≤ i ∧ i < l.length)) :
    Calls Try.prog 28 #[.pointer (some ⟨r, 0, none⟩), .int .i64 i] w fun e w' => e = .returned (.tuple #[Pkt.zero.val, .int .i64 4]) ∧ Below w.heap.size w w' := by
  obtain ⟨a, c, h, rfl⟩ := h
  have hway := h.way
  have hr : r < w.heap.size := h.lt r (.inl rfl)
  have hl := h.len
  clear h
  by_cases h0 : i < 0
  · go_enter Try.func28, Try.ntmps28
    go_wp2_with fail
    exact bodyPost_ret (v := .tuple #[Pkt.zero.val, .int .i64 4]) (by simp [results, Try.results28, go_sem, Pkt.val, Pkt.zero]) rfl ⟨rfl, (Below.refl _ _).alloc (Nat.le_refl _) _⟩
  · have h1 : (l.length : Int) ≤ i := by omega
    go_enter Try.func28, Try.ntmps28
    go_wp2_with fail
    exact bodyPost_ret (v := .tuple #[Pkt.zero.val, .int .i64 4]) (by simp [results, Try.results28, go_sem, Pkt.val, Pkt.zero]) rfl ⟨rfl, (Below.refl _ _).alloc (Nat.le_refl _) _⟩
end Go.Proofs.Ytceepejndomfaaa

/- The low mark goes by what came behind it. Conditions: numbers are a machine's. -/
import Derived.Test.YtdmjkbcjljnleaaAcd
namespace Go.Proofs.Ytdmjkbcjljnleaa
open Go.RowKit

theorem pre_head {lo : Int} {S : List Int} (h : Pre lo S) (hc : lo + 1 ∈ S) : ∃ r, S = (lo + 1) :: r := by
  match S, h, hc with
  | [], _, hc => cases hc
  | x :: r, h, hc =>
    have hx := h.beh x (List.mem_cons_self ..)
    rcases List.mem_cons.1 hc with e | e
    · exact ⟨r, by rw [e]⟩
    · have := (List.pairwise_cons.1 h.rise).1 _ e; omega
theorem norm_stop {lo : Int} {S : List Int} (hc : lo + 1 ∉ S) : norm lo S = ⟨lo, S⟩ := by
  match S, hc with
  | [], _ => rfl
  | x :: r, hc =>
    rw [norm, if_neg fun e => ?_]
    exact hc (by rw [e]; exact List.mem_cons_self ..)
theorem filter_head {x : Int} {r : List Int} (h : Rise (x :: r)) : (x :: r).filter (fun a => !decide (a = x)) = r := by
  have h' := List.pairwise_cons.1 h
  rw [List.filter_cons]
  simp only [decide_true, Bool.not_true]
  rw [if_neg (by simp)]
  exact List.filter_eq_self.2 fun a ha => by
    have := h'.1 a ha
    simp; omega
set_option maxRecDepth 100000 in
set_option maxHeartbeats 2000000 in
theorem follow_any {w : World} {B : Nat} {m : Option Nat} {lo : Int} {S : List Int} (h : AcAt w B m lo S) (hp : Pre lo S) :
    Calls Try.prog 26 #[.pointer (some ⟨B, 0, none⟩)] w fun e w' => e = .returned (.tuple #[]) ∧ AcAt w' B m (norm lo S).low (norm lo S).set ∧ Moved (SFoot B m) w w' := by
  have ST := hide (⟨lo, S, h, hp, rfl, Moved.refl _ _⟩ : ∃ lo' S', AcAt w B m lo' S' ∧ Pre lo' S' ∧ norm lo' S' = norm lo S ∧ Moved (SFoot B m) w w)
  have HLT := hide h.lt
  have HML := hide h.mo.lt
  clear h hp
  go_enter Try.func26, Try.ntmps26
  go_wp2_with fail
  go_loopw [] (fun wr => ∃ lo' S', AcAt wr B m lo' S' ∧ Pre lo' S' ∧ norm lo' S' = norm lo S ∧ Moved (SFoot B m) w wr) (fun wr => (match wr.cell? ⟨B, 0, none⟩ with | some (.int .i64 v) => (norm lo S).low - v | _ => 0).toNat)
  case atStart => exact unhide ST
  case round =>
    obtain ⟨lo', S', h, hp, he, hm⟩ := hrel
    clear ST
    have hp0 := hp.lo
    have hp1 := hp.hi
    have hw1 : IntKind.i64.wrap (lo' + 1) = lo' + 1 := Go.IntWalk.i64_in _ (by omega)
    have c0 := h.c0
    have c1 := h.c1
    have hk := h.mo.get_ok (q := lo' + 1) (by omega)
    have b1 : Below wr.heap.size wr (wr.alloc (.cells #[] 50)) := (Below.refl wr.heap.size wr).alloc (Nat.le_refl _) _
    have m1 : Moved (SFoot B m) wr (wr.alloc (.cells #[] 50)) := (Moved.refl _ _).alloc _
    have h1 := h.below b1
    by_cases hc : lo' + 1 ∈ S'
    case neg =>
      rw [decide_eq_false hc] at hk
      have FIN : Hid (AcAt (wr.alloc (.cells #[] 50)) B m (norm lo S).low (norm lo S).set ∧ Moved (SFoot B m) w (wr.alloc (.cells #[] 50))) := hide (by
        rw [← he, norm_stop hc]
        exact ⟨h1, hm.trans m1 fun i f => .inl f⟩)
      clear h hp he hm hc h1 m1 b1 hp0 hp1
      go_wp2_with fail
      refine bodyPost_ret (v := .tuple #[]) (by simp [results, Try.results26, go_sem]) rfl ⟨rfl, unhide FIN⟩
    case pos =>
      rw [decide_eq_true hc] at hk
      obtain ⟨r, rfl⟩ := pre_head hp hc
      obtain ⟨b, rfl⟩ : ∃ b, m = some b := by
        rcases h.mo with ⟨_, h0⟩ | ⟨b, h0, _⟩
        · cases h0
        · exact ⟨b, h0⟩
      obtain ⟨w2, hd, h2, m2⟩ := h1.drop (q := lo' + 1) (by unfold i64; omega)
      rw [filter_head hp.rise] at h2
      obtain ⟨h3, m3⟩ := h2.setLow (lo' + 1)
      have d1 := h1.c1
      have e0 := h2.c0
      have f0 := h2.f0
      have he' : norm (lo' + 1) r = norm lo S := by rw [← he, norm, if_pos rfl]
      have hlow : Hid (lo' + 1 ≤ (norm lo S).low) := hide (by rw [← he']; exact norm_low)
      have REL := hide (⟨lo' + 1, r, h3, hp.tail rfl, he', (hm.trans m1 fun i f => .inl f).trans (m2.trans m3 fun i f => .inl f) fun i f => .inl f⟩ : ∃ lo'' S'', AcAt (w2.setCell ⟨B, 0, none⟩ (.int .i64 (lo' + 1))) B (some b) lo'' S'' ∧ Pre lo'' S'' ∧ norm lo'' S'' = norm lo S ∧ Moved (SFoot B (some b)) w (w2.setCell ⟨B, 0, none⟩ (.int .i64 (lo' + 1))))
      have z0 := h3.c0
      clear h hp he hm hc h1 m1 b1 h2 m2 h3 m3 he' hp0 hp1
      go_wp2_with fail
      exact ⟨unhide REL, by rw [z0, c0]; have := unhide hlow; simp only; omega⟩
end Go.Proofs.Ytdmjkbcjljnleaa

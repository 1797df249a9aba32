/- What the statements' own helpers do: awake, tell, after. No conditions but the ones named. -/
import Derived.Test.YtdmjkbcjljnleaaLaws
namespace Go.Proofs.Ytdmjkbcjljnleaa
open Go.RowKit

/-- The numbers that an act brings. -/
def toldA (x : ActM) : List Int := if x.act = 0 then [x.n] else if x.act = 1 then told x.n x.set else []
def after (l : List ActM) : AckV := none0.adds (l.flatMap toldA)
theorem after_snoc {l : List ActM} {k : Nat} {x : ActM} (h : l[k]? = some x) : after (l.take (k + 1)) = (after (l.take k)).adds (toldA x) := by
  unfold after
  rw [take_snoc h, List.flatMap_append, adds_append]
  simp
theorem toldA_len {l : List ActM} (h : Mild l) {x : ActM} (hx : x ∈ l) : (toldA x).length ≤ 220 := by
  have h1 := h.set x hx
  have h2 := h.n x hx
  unfold toldA
  split
  · simp
  · split
    · rename_i h3
      have := h2 h3
      unfold told cut20
      rw [List.length_append, length_upTo]
      omega
    · simp
theorem flat_len {l : List ActM} (h : ∀ x ∈ l, (toldA x).length ≤ 220) : (l.flatMap toldA).length ≤ 220 * l.length := by
  induction l with
  | nil => simp
  | cons a l ih =>
    rw [List.flatMap_cons, List.length_append, List.length_cons]
    have h1 := h a List.mem_cons_self
    have h2 := ih fun x hx => h x (List.mem_cons_of_mem _ hx)
    omega
theorem mild_total {l : List ActM} (h : Mild l) {s : AckV} {L : List ActM} (hL : ∀ x ∈ L, x ∈ l) (n : Nat) (hn : L.length ≤ n) : (s.adds (L.flatMap toldA)).total ≤ s.total + 220 * n := by
  have h1 := (total_adds_le s (L.flatMap toldA)).2
  have h2 := flat_len fun x hx => toldA_len h (hL x hx)
  omega
theorem after_fine (l : List ActM) : Fine (after l) := fine_none.adds _
theorem after_take {l : List ActM} (h : Mild l) (k : Nat) : (after (l.take k)).total ≤ 13200 := by
  have := mild_total h (s := none0) (L := l.take k) (fun x hx => List.mem_of_mem_take hx) 60 (by have := h.len; rw [List.length_take]; omega)
  exact this
theorem after_total {l : List ActM} (h : Mild l) : (after l).total ≤ 13200 := by
  have := after_take h l.length
  rwa [List.take_length] at this

def wk2 : AckV := ⟨0, [2]⟩
def wk1 : AckV := ⟨2, []⟩
set_option maxRecDepth 100000 in
set_option maxHeartbeats 1000000 in
theorem awake_any (w : World) : Calls Try.prog 16 #[] w fun e w' => e = .returned (.bool true) ∧ Below w.heap.size w w' := by
  have H0 := hide (HR.start w)
  go_enter Try.func16, Try.ntmps16
  go_wp2_with fail
  refine (HR.new (unhide H0)).mono ?_
  rintro e w1 ⟨q, rfl, h⟩
  have H1 := hide h
  clear h
  go_wp2_with fail
  refine ((unhide H1).put (n := 2) (by unfold i64; omega) (by decide)).mono ?_
  rintro e w2 ⟨rfl, m2, h⟩
  have H2 : Hid (HR w w2 (hAck q m2 wk2 :: [])) := hide h
  rw [show none0.fresh 2 = true from by decide]
  clear h
  go_wp2_with fail
  refine ((unhide H2).low List.mem_cons_self).mono ?_
  rintro e w' ⟨rfl, hw'⟩
  rw [hw', show wk2.low = 0 from rfl]
  clear hw'
  go_wp2_with fail
  refine ((unhide H2).put (n := 1) (by unfold i64; omega) (by decide)).mono ?_
  rintro e w3 ⟨rfl, m3, h⟩
  have H3 : Hid (HR w w3 (hAck q m3 wk1 :: [])) := hide h
  rw [show wk2.fresh 1 = true from by decide]
  clear h
  go_wp2_with fail
  refine ((unhide H3).low List.mem_cons_self).mono ?_
  rintro e w' ⟨rfl, hw'⟩
  rw [hw', show wk1.low = 2 from rfl]
  clear hw'
  go_wp2_with fail
  refine ((unhide H3).set List.mem_cons_self (by decide)).mono ?_
  rintro e w4 ⟨a, c, rfl, h⟩
  have H4 := hide (h.swap)
  rw [show wk1.set.length = 0 from rfl]
  clear h
  go_wp2_with fail
  refine ((unhide H4).put (n := 2) (by unfold i64; omega) (by decide)).mono ?_
  rintro e w5 ⟨rfl, m5, h⟩
  have H5 := hide h.bel
  rw [show wk1.fresh 2 = false from by decide]
  clear h
  go_wp2_with fail
  go_ret
  exact ⟨rfl, unhide H5⟩
set_option maxRecDepth 100000 in
set_option maxHeartbeats 1000000 in
theorem tell_any {w0 v : World} {p : Nat} {m : Option Nat} {s : AckV} {R : List Held} (h : HR w0 v (hAck p m s :: R)) {x : ActM} (hx : x.In w0) (hl : s.total + x.set.length < 900000000000) :
    Calls Try.prog 24 #[.pointer (some ⟨p, 0, none⟩), .agg #[.int .i64 x.act, .int .i64 x.n, .slice x.a x.set.length x.c]] v fun e v' => e = .returned (.tuple #[]) ∧ ∃ m', HR w0 v' (hAck p m' (s.adds (toldA x)) :: R) := by
  obtain ⟨xa, xn, xs, a, c⟩ := x
  obtain ⟨V, hV⟩ : ∃ V, V = v.alloc (.cells #[.int .i64 xa, .int .i64 xn, .slice a xs.length c] 37) := ⟨_, rfl⟩
  have hb : Below v.heap.size v V := by rw [hV]; exact (Below.refl _ v).alloc (Nat.le_refl _) _
  have HV := hide (h.below hb)
  have r := row_new v [.int .i64 xa, .int .i64 xn, .slice a xs.length c] 37
  have c0 : V.cell? ⟨v.heap.size, 0, none⟩ = some (.int .i64 xa) := by rw [hV]; exact r.cell 0 (Nat.succ_pos _)
  have c1 : V.cell? ⟨v.heap.size, 1, none⟩ = some (.int .i64 xn) := by rw [hV]; exact r.cell 1 (Nat.succ_lt_succ (Nat.succ_pos _))
  have c2 : V.cell? ⟨v.heap.size, 2, none⟩ = some (.slice a xs.length c) := by rw [hV]; exact r.cell 2 (Nat.lt_succ_self _)
  have hl' : s.total + xs.length < 900000000000 := hl
  have HX := hide hx
  have HL := hide hl'
  have HW := hide hV
  clear h hb r hx hl hl' hV
  by_cases h0 : xa = 0
  · subst h0
    have T : Hid (s.adds (toldA ⟨0, xn, xs, a, c⟩) = s.add xn) := hide rfl
    go_enter Try.func24, Try.ntmps24
    go_upto_region 1 with fail
    rw [← unhide HW]
    go_wp2_with fail
    refine ((unhide HV).put (unhide HX).n (by have := unhide HL; omega)).mono ?_
    rintro e w2 ⟨rfl, m2, h2⟩
    have FIN := hide h2
    clear h2 c0 c1 c2
    go_wp2_with fail
    go_end0
    exact ⟨rfl, m2, by rw [unhide T]; exact unhide FIN⟩
  · by_cases h1 : xa = 1
    · subst h1
      have T : Hid (s.adds (toldA ⟨1, xn, xs, a, c⟩) = s.merge xn xs) := hide rfl
      go_enter Try.func24, Try.ntmps24
      go_upto_region 1 with fail
      rw [← unhide HW]
      go_wp2_with fail
      refine ((unhide HV).merge xn (unhide HX).at_ (unhide HX).set (unhide HL)).mono ?_
      rintro e w2 ⟨rfl, m2, h2⟩
      have FIN := hide h2
      clear h2 c0 c1 c2
      go_wp2_with fail
      go_end0
      exact ⟨rfl, m2, by rw [unhide T]; exact unhide FIN⟩
    · have T : Hid (s.adds (toldA ⟨xa, xn, xs, a, c⟩) = s) := hide (by unfold toldA; rw [if_neg h0, if_neg h1]; rfl)
      go_enter Try.func24, Try.ntmps24
      go_upto_region 1 with fail
      rw [← unhide HW]
      go_wp2_with fail
      go_end0
      exact ⟨rfl, m, by rw [unhide T]; exact unhide HV⟩
set_option maxRecDepth 100000 in
set_option maxHeartbeats 1000000 in
theorem after_any {w0 v : World} {R : List Held} (h : HR w0 v R) {a : Option Addr} {c : Nat} {l : List ActM} (hl : ActK.At w0 a l) (hin : ∀ x ∈ l, x.In w0) (hm : Mild l) :
    Calls Try.prog 25 #[.slice a l.length c] v fun e v' => ∃ p m, e = .returned (.pointer (some ⟨p, 0, none⟩)) ∧ HR w0 v' (hAck p m (after l) :: R) := by
  have H0 := hide h
  have HL := hide hl
  have HI := hide hin
  have HM := hide hm
  clear h hl hin hm
  go_enter Try.func25, Try.ntmps25
  go_wp2_with fail
  refine (unhide H0).new.mono ?_
  rintro e v1 ⟨p, rfl, h1⟩
  have H1 : Hid (HR w0 v1 (hAck p none (after []) :: R)) := hide h1
  clear h1
  go_wp2_with fail
  go_loopw [4] (fun i wr => ∃ (k : Nat) (m : Option Nat), i = .int .i64 (k : Int) ∧ k ≤ l.length ∧ HR w0 wr (hAck p m (after (l.take k)) :: R)) (fun i _ => l.length - (RowKit.intOf i).toNat)
  case atStart => exact ⟨0, none, rfl, Nat.zero_le _, by rw [List.take_zero]; exact unhide H1⟩
  case round =>
    obtain ⟨k, m, rfl, hk, hr⟩ := hrel
    clear H1
    have HRR := hide hr
    clear hr
    by_cases hlt : k < l.length
    · have g0 : (0 : Int) ≤ (k : Int) := by omega
      have g1 : (k : Int) < (l.length : Int) := by omega
      have hwk : IntKind.i64.wrap ((k : Int) + 1) = (k : Int) + 1 := Go.IntWalk.i64_in _ (by have := (unhide HM).len; omega)
      obtain ⟨x, hx⟩ : ∃ x, l[k]? = some x := ⟨_, List.getElem?_eq_getElem hlt⟩
      obtain ⟨g, o, rfl, hg, hrg⟩ := ((unhide HL).below (Nat.le_refl _) (unhide HRR).bel).cell actK_law hx
      have hxm : x ∈ l := List.mem_iff_getElem?.2 ⟨k, hx⟩
      have hsn := hide (after_snoc hx)
      have htl := tell_any (unhide HRR) (unhide HI x hxm) (by have := after_take (unhide HM) k; have := (unhide HM).set x hxm; omega)
      have HRG : Hid (wr.rangeAt g (o + k * 3) [.int .i64 x.act, .int .i64 x.n, .slice x.a x.set.length x.c]) := hide hrg
      clear hx hg hrg hxm
      go_wp2_with (refine wpList_load_on rfl 37 (.tmp 15) rfl g (o + k * 3) rfl [.int .i64 x.act, .int .i64 x.n, .slice x.a x.set.length x.c] _ (unhide HRG) Try.underlying37 rfl (by kernel_rfl) ?_)
      refine htl.mono ?_
      rintro e v2 ⟨rfl, m2, h2⟩
      rw [← unhide hsn] at h2
      have H2 := hide h2
      clear htl h2
      go_wp2_with fail
      exact ⟨⟨k + 1, m2, rfl, by omega, unhide H2⟩, by simp [RowKit.intOf]; omega⟩
    · have hke : k = l.length := by omega
      subst hke
      have FIN : Hid (HR w0 wr (hAck p m (after l) :: R)) := hide (by have := unhide HRR; rwa [List.take_length] at this)
      clear HRR
      go_wp2_with fail
      go_ret
      exact ⟨p, m, rfl, unhide FIN⟩
end Go.Proofs.Ytdmjkbcjljnleaa

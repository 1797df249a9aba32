/- A net behind acts. No conditions. -/
import Derived.Test.YtceepejndomfaaaActs
namespace Go.Proofs.Ytceepejndomfaaa
open Go.RowKit

/-- n posts of a packet. -/
def posts (l : List Pkt) (q : Pkt) : Nat → List Pkt
  | 0 => l
  | n + 1 => postL (posts l q n) q
/-- How often: once at least. -/
def times (n : Nat) : Nat := if n % 80 = 0 then 1 else n % 80
/-- What an act leaves on its way. -/
def actL (l : List Pkt) (y : ActV) : List Pkt :=
  if y.do_ = 0 then posts l y.p (times y.n) else if y.do_ = 1 then takeL l y.i else if y.do_ = 2 then takeL l y.i else if y.do_ = 3 then dupL l y.i else l
def actsL (z : List ActV) : Nat → List Pkt
  | 0 => []
  | k + 1 => actL (actsL z k) (z.getD k ActV.zero)
/-- What lies in w0 lies there still. -/
theorem IsActs.moved {w w' : World} {a : Option Addr} {len cap : Nat} {z : List ActV} (h : IsActs w a len cap z) (m : Moved (fun _ => False) w w') : IsActs w' a len cap z :=
  ⟨h.size_, h.max, fun k hk => by
    obtain ⟨b, o, e, hp, ok, hlt⟩ := h.at_ k hk
    exact ⟨b, o, e, hp.keep m hlt id, ok, Nat.lt_of_lt_of_le hlt m.size⟩⟩

theorem ActAt.keeps {X : Nat → Prop} {w w' : World} {b o : Nat} {p : ActV} (h : ActAt w b o p) (k : Keeps X w w') (hb : X b) : ActAt w' b o p :=
  ⟨(k.cell hb).trans h.c0, (k.cell hb).trans h.c1, (k.cell hb).trans h.c2, (k.cell hb).trans h.c3, (k.cell hb).trans h.c4, (k.cell hb).trans h.c5⟩

set_option maxHeartbeats 4000000 in
theorem after_any (a : Option Addr) (len cap : Nat) (z : List ActV) (w0 w : World) (hz : IsActs w0 a len cap z) (hm : Moved (fun _ => False) w0 w) :
    Calls Try.prog 20 #[.slice a len cap] w fun e w' => ∃ p, e = .returned (.pointer (some ⟨p, 0, none⟩)) ∧ Own w0 w' (· ∈ []) p (actsL z len) := by
  have hl := hz.max
  unfold maxLen at hl
  have HZ := hide hz
  have HM := hide hm
  clear hz hm
  go_enter Try.func20, Try.ntmps20
  go_wp2_with fail
  refine (new_own (unhide HM) (· ∈ []) (fun _ f => by simp at f)).mono ?_
  rintro e w1 ⟨p, rfl, o1, _⟩
  have O := hide o1
  clear o1
  go_wp2_with fail
  go_loopw [4] (fun t wr => ∃ k : Nat, k ≤ len ∧ t = .int .i64 (k : Int) ∧ Own w0 wr (· ∈ []) p (actsL z k)) (fun t _ => len - (intOf t).toNat)
  case atStart => exact ⟨0, by omega, rfl, unhide O⟩
  case round =>
    obtain ⟨k, hk, rfl, o2⟩ := hrel
    by_cases hlt : k < len
    · obtain ⟨b, o, rfl, hat, ok, hbl⟩ := ((unhide HZ).moved o2.base).at_ k hlt
      have HS : Hid (actsL z (k + 1) = actL (actsL z k) (z.getD k ActV.zero)) := rfl
      generalize z.getD k ActV.zero = y at *
      obtain ⟨d0, d1, d2, d3, d4, d5⟩ := hat
      have O2 := hide o2
      have HOK := hide ok
      clear o2 ok O
      obtain ⟨w1', hw1'⟩ : ∃ w1', w1' = wr.alloc (.cells #[.int .i64 y.do_, .int .i64 y.p.f, .int .i64 y.p.t, .string y.p.d, .int .i64 y.i, .int .u8 (y.n : Int)] 40) := ⟨_, rfl⟩
      have hY : ActAt w1' wr.heap.size 0 y := by rw [hw1']; exact ⟨by simp, by simp, by simp, by simp, by simp, by simp⟩
      have O3 : Hid (Own w0 w1' (· ∈ [wr.heap.size]) p (actsL z k)) := by rw [hw1']; exact (unhide O2).held _
      have HW1 := hide hw1'
      have HY := hide hY
      obtain ⟨y0, y1, y2, y3, y4, y5⟩ := hY
      simp only [Nat.zero_add] at y0 y1 y2 y3 y4 y5
      have HS' := unhide HS
      clear hw1' HS
      go_upto_region 6 with fail
      rw [← unhide HW1]
      by_cases hd : y.do_ = 0
      · have hL : actL (actsL z k) y = posts (actsL z k) y.p (times y.n) := by unfold actL; simp [hd]
        rw [hL] at HS'
        have HS := hide HS'
        clear hL HS'
        have hn := (unhide HOK).n
        have ht1 : 1 ≤ times y.n := by unfold times; split <;> omega
        have ht2 : times y.n ≤ 80 := by unfold times; split <;> omega
        have hts : ∀ j : Nat, j ≠ 0 → (j < times y.n ↔ j < y.n % 80) := fun j hj => by unfold times; split <;> omega
        have HTS := hide hts
        generalize hT : times y.n = T at *
        clear hts
        go_wp2_with fail
        go_loopw [6] (fun t wr2 => ∃ j : Nat, j ≤ T ∧ t = .int .i64 (j : Int) ∧ Own w0 wr2 (· ∈ [wr.heap.size]) p (posts (actsL z k) y.p j) ∧ ActAt wr2 wr.heap.size 0 y) (fun t _ => T - (intOf t).toNat)
        case atStart => exact ⟨0, by omega, rfl, unhide O3, unhide HY⟩
        case round =>
          obtain ⟨j, hj, rfl, o5, hy5⟩ := hrel
          have O5 := hide o5
          have HY5 := hide hy5
          obtain ⟨z0, z1, z2, z3, z4, z5⟩ := hy5
          simp only [Nat.zero_add] at z0 z1 z2 z3 z4 z5
          clear o5 y0 y1 y2 y3 y4 y5 d0 d1 d2 d3 d4 d5 hd
          by_cases hjT : j < T
          · have hstep : posts (actsL z k) y.p (j + 1) = postL (posts (actsL z k) y.p j) y.p := rfl
            have HST := hide hstep
            clear hstep
            by_cases hj0 : j = 0
            · subst hj0
              go_wp2_with fail
              refine (post_own (unhide O5) y.p).mono ?_
              rintro e w6 ⟨rfl, o6, k6⟩
              have O6 := hide o6
              have HY6 := hide ((unhide HY5).keeps k6 (by simp))
              clear o6 k6
              go_wp2_with fail
              go_roundw
              case rel => exact ⟨0 + 1, by omega, by go_num, by rw [unhide HST]; exact unhide O6, unhide HY6⟩
              case measure => simp [intOf]; omega
            · have hlt2 := ((unhide HTS) j hj0).1 hjT
              go_wp2_with fail
              refine (post_own (unhide O5) y.p).mono ?_
              rintro e w6 ⟨rfl, o6, k6⟩
              have O6 := hide o6
              have HY6 := hide ((unhide HY5).keeps k6 (by simp))
              clear o6 k6
              go_wp2_with fail
              go_roundw
              case rel => exact ⟨j + 1, by omega, by go_num, by rw [unhide HST]; exact unhide O6, unhide HY6⟩
              case measure => simp [intOf]; omega
          · have hjT' : j = T := by omega
            subst hjT'
            have hj0 : ¬ j = 0 := by omega
            have hge : ¬ j < y.n % 80 := fun h => hjT (((unhide HTS) j hj0).2 h)
            have q1 : ((j : Int) == 0) = false := by simp; omega
            have q2 : decide ((j : Int) < (y.n : Int) % 80) = false := decide_eq_false (by omega)
            go_wp2_with fail
            go_roundw
            case rel => exact ⟨k + 1, by omega, by go_num, by rw [unhide HS]; exact (unhide O5).mono (X' := (· ∈ [])) (fun _ h => by simp at h)⟩
            case measure => simp [intOf]; omega
      by_cases hd1 : y.do_ = 1
      · have hL : actL (actsL z k) y = takeL (actsL z k) y.i := by unfold actL; simp [hd1]
        rw [hL] at HS'
        have HS := hide HS'
        clear hL HS'
        go_wp2_with fail
        refine (take_own (unhide O3) y.i).mono ?_
        rintro e w2 ⟨rfl, o4, _⟩
        have O4 := hide (o4.mono (X' := (· ∈ [])) (fun _ h => by simp at h))
        clear o4
        unfold Pkt.val
        go_wp2_with fail
        go_roundw
        case rel => exact ⟨k + 1, by omega, by go_num, by rw [unhide HS]; exact unhide O4⟩
        case measure => simp [intOf]; omega
      by_cases hd2 : y.do_ = 2
      · have hL : actL (actsL z k) y = takeL (actsL z k) y.i := by unfold actL; simp [hd2]
        rw [hL] at HS'
        have HS := hide HS'
        clear hL HS'
        go_wp2_with fail
        refine (lose_own (unhide O3) y.i).mono ?_
        rintro e w2 ⟨rfl, o4, _⟩
        have O4 := hide (o4.mono (X' := (· ∈ [])) (fun _ h => by simp at h))
        clear o4
        go_wp2_with fail
        go_roundw
        case rel => exact ⟨k + 1, by omega, by go_num, by rw [unhide HS]; exact unhide O4⟩
        case measure => simp [intOf]; omega
      by_cases hd3 : y.do_ = 3
      · have hL : actL (actsL z k) y = dupL (actsL z k) y.i := by unfold actL; simp [hd3]
        rw [hL] at HS'
        have HS := hide HS'
        clear hL HS'
        go_wp2_with fail
        refine (dup_own (unhide O3) y.i).mono ?_
        rintro e w2 ⟨rfl, o4, _⟩
        have O4 := hide (o4.mono (X' := (· ∈ [])) (fun _ h => by simp at h))
        clear o4
        go_wp2_with fail
        go_roundw
        case rel => exact ⟨k + 1, by omega, by go_num, by rw [unhide HS]; exact unhide O4⟩
        case measure => simp [intOf]; omega
      have hL : actL (actsL z k) y = actsL z k := by unfold actL; simp [hd, hd1, hd2, hd3]
      rw [hL] at HS'
      have HS := hide HS'
      clear hL HS'
      go_wp2_with fail
      go_roundw
      case rel => exact ⟨k + 1, by omega, by go_num, by rw [unhide HS]; exact (unhide O3).mono (X' := (· ∈ [])) (fun _ h => by simp at h)⟩
      case measure => simp [intOf]; omega
    · have hkl : k = len := by omega
      subst hkl
      have O2 := hide o2
      clear o2
      go_wp2_with fail
      go_ret
      exact ⟨p, rfl, unhide O2⟩
end Go.Proofs.Ytceepejndomfaaa

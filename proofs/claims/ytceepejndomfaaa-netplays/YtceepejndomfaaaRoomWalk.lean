/- A link takes just as many packets more as its room has places that are free, walked. No conditions. -/
import Derived.Test.YtceepejndomfaaaOrderWalk
namespace Go.Proofs.Ytceepejndomfaaa
open Go.RowKit

theorem cnt_replicate (q : Pkt) (j : Nat) : cnt q.link (List.replicate j q) = j := by
  unfold cnt; simp
theorem more_cnt (L : List Pkt) (q : Pkt) (j : Nat) : cnt q.link (L ++ List.replicate j q) = cnt q.link L + j := by rw [cnt_append, cnt_replicate]
theorem more_post (L : List Pkt) (q : Pkt) (hq : q.ok) (j : Nat) (h : cnt q.link L + j < 64) : postE (L ++ List.replicate j q) q = 0 ∧ postL (L ++ List.replicate j q) q = L ++ List.replicate (j + 1) q := by
  have hc := more_cnt L q j
  unfold postE postL
  rw [if_neg (fun h => h hq), if_neg (by omega), if_pos ⟨hq, by omega⟩]
  refine ⟨rfl, ?_⟩
  rw [List.append_assoc, List.replicate_succ']
theorem more_full (L : List Pkt) (q : Pkt) (hq : q.ok) (j : Nat) (h : cnt q.link L + j = 64) : postE (L ++ List.replicate j q) q = 6 ∧ postL (L ++ List.replicate j q) q = L ++ List.replicate j q := by
  have hc := more_cnt L q j
  unfold postE postL
  rw [if_neg (fun h => h hq), if_pos (by omega), if_neg (fun h => by omega)]
  exact ⟨rfl, rfl⟩
theorem more_last (L : List Pkt) (q : Pkt) (j : Nat) : takeP (L ++ List.replicate (j + 1) q) ((L.length + j : Nat) : Int) = q ∧ takeE (L ++ List.replicate (j + 1) q) ((L.length + j : Nat) : Int) = 0 ∧ takeL (L ++ List.replicate (j + 1) q) ((L.length + j : Nat) : Int) = L ++ List.replicate j q := by
  have hl : (0 : Int) ≤ ((L.length + j : Nat) : Int) ∧ ((L.length + j : Nat) : Int) < ((L ++ List.replicate (j + 1) q).length : Int) := by simp; omega
  unfold takeP takeE takeL
  rw [if_pos hl, if_pos hl, if_pos hl, Int.toNat_natCast]
  refine ⟨?_, rfl, ?_⟩
  · rw [List.getD_eq_getElem?_getD, List.getElem?_append_right (by omega)]
    simp
  · rw [List.drop_of_length_le (by simp; omega), List.append_nil]
    rw [List.take_append]
    simp [List.take_of_length_le]
theorem cnt_take_succ (i : Nat) (L : List Pkt) (k : Nat) (h : k < L.length) : cnt i (L.take (k + 1)) = cnt i (L.take k) + if (L.getD k Pkt.zero).link = i then 1 else 0 := by
  rw [List.take_succ_eq_append_getElem h, cnt_append, cnt_one, List.getD_eq_getElem?_getD, List.getElem?_eq_getElem h]
  rfl
theorem cnt_le (i : Nat) (l : List Pkt) : cnt i l ≤ l.length := by unfold cnt; exact List.length_filter_le _ _

theorem PkAt.drewN {w : World} {b : Nat} {q : Pkt} (h : PkAt w b q) (n : Nat) : PkAt (w.drewN n) b q := ⟨h.c0, h.c1, h.c2⟩
set_option maxHeartbeats 4000000 in
theorem room_any (a : Option Addr) (len cap : Nat) (z : List ActV) (n1 n2 : Nat) (w : World) (hz : IsActs w a len cap z) (h1 : n1 < 256) (h2 : n2 < 256) :
    Calls Try.prog 7 #[.slice a len cap, .int .u8 (n1 : Int), .int .u8 (n2 : Int)] w fun e w' => e = .returned (.bool true) ∧ Below w.heap.size w w' := by
  have HZ := hide hz
  clear hz
  obtain ⟨x, hx⟩ : ∃ x : Int, (n1 : Int) % 9 = x := ⟨_, rfl⟩
  obtain ⟨y, hy⟩ : ∃ y : Int, (n2 : Int) % 9 = y := ⟨_, rfl⟩
  obtain ⟨q, hq⟩ : ∃ q : Pkt, q = ⟨x, y, ⟨#[109, 111, 114, 101]⟩⟩ := ⟨_, rfl⟩
  have hok : q.ok := by rw [hq]; unfold Pkt.ok; dsimp only; omega
  have HQ := hide hq
  have HOK := hide hok
  clear hq hok
  go_enter Try.func7, Try.ntmps7
  go_wp2_with fail
  refine (awake_any _).mono ?_
  rintro e w1 ⟨rfl, hb1⟩
  have HB1 := hide hb1
  clear hb1
  go_wp2_with fail
  refine (great_any a len cap z _ ((unhide HZ).below (unhide HB1))).mono ?_
  rintro e w1' ⟨rfl, rfl⟩
  by_cases hg : great z = true
  · rw [hg]
    go_wp2_with fail
    go_ret
    exact ⟨rfl, unhide HB1⟩
  · have hg' : great z = false := by simpa using hg
    rw [hg']
    clear hg hg'
    go_wp2_with fail
    refine (after_any a len cap z w w1' (unhide HZ) (Moved.of_below (unhide HB1))).mono ?_
    rintro e w2 ⟨p, rfl, o2⟩
    have O2 := hide (o2.held (.cells #[.int .i64 x, .int .i64 y, .string ⟨#[109, 111, 114, 101]⟩] 25))
    have HP := hide (PkAt.new w2 x y ⟨#[109, 111, 114, 101]⟩)
    rw [← unhide HQ] at HP
    clear o2
    go_wp2_with fail
    refine (all_own (unhide O2)).mono ?_
    rintro e w3 ⟨b, c, rfl, hrow, k3, o3⟩
    have hgood := (o3.good).2.2
    have hmost := (o3.good).2.1 q.link
    have HG := hide o3.good.1
    generalize actsL z len = L at *
    have O3 := hide (o3.mono (X' := fun k => k ∈ [w2.heap.size] ∨ ofRow b k) fun k hk => hk)
    have HR := hide hrow
    have HP3 := hide ((unhide HP).keep k3 (by simp))
    clear o3 hrow k3 HP O2
    generalize w2.heap.size = B at *
    go_wp2_with fail
    go_loopw [10, 11] (fun s t wr => ∃ k : Nat, k ≤ L.length ∧ t = .int .i64 (k : Int) ∧ s = .int .i64 ((cnt q.link (L.take k) : Nat) : Int) ∧ Own w wr (fun k => k ∈ [B] ∨ ofRow b k) p L ∧ Row wr b c L ∧ PkAt wr B q) (fun _ t _ => L.length - (intOf t).toNat)
    case atStart => exact ⟨0, by omega, rfl, rfl, unhide O3, unhide HR, unhide HP3⟩
    case round =>
      obtain ⟨k, hk, rfl, rfl, o4, hr4, hp4⟩ := hrel
      clear O3 HR HP3
      have hcl := cnt_le q.link (L.take k)
      have htl : (L.take k).length ≤ k := List.length_take_le _ _
      by_cases hlt : k < L.length
      · have hsucc := cnt_take_succ q.link L k hlt
        have hqk : (L.getD k Pkt.zero).ok := unhide HG _ (by rw [List.getD_eq_getElem?_getD, List.getElem?_eq_getElem hlt]; simp)
        have hlk := Pkt.link_eq hqk (unhide HOK)
        rcases hr4.form with ⟨_, _, e⟩ | ⟨g, rfl, hg, _⟩
        · rw [e] at hlt; simp at hlt
        obtain ⟨c0, c1, c2⟩ := hr4.at k hlt
        generalize L.getD k Pkt.zero = r at *
        obtain ⟨b0, b1, b2⟩ := hp4
        have e1 : q.f = x := by rw [unhide HQ]
        have e2 : q.t = y := by rw [unhide HQ]
        rw [e1] at b0 hlk
        rw [e2] at b1 hlk
        have O4 := hide o4
        have HR4 := hide hr4
        have HP4 : Hid (PkAt wr B q) := ⟨by rw [e1]; exact b0, by rw [e2]; exact b1, b2⟩
        have HS := hide hsucc
        have HL := hide hlk
        clear o4 hr4 hsucc hlk c2 b2 e1 e2
        generalize cnt q.link (L.take k) = m at *
        by_cases hf : r.f = x
        · by_cases ht : r.t = y
          · go_wp2_with fail
            go_quiet (fail)
            have O5 := hide ((unhide O4).drewN nq)
            have HR5 := hide ((unhide HR4).drewN nq)
            have HP5 := hide ((unhide HP4).drewN nq)
            go_wp2_with fail
            go_roundw
            case rel => exact ⟨k + 1, by omega, by go_num, by rw [unhide HS, if_pos ((unhide HL).2 ⟨hf, ht⟩)]; go_num, unhide O5, unhide HR5, unhide HP5⟩
            case measure => simp [intOf]; omega
          · have q2 : (r.t == y) = false := by simpa using ht
            go_wp2_with fail
            go_quiet (fail)
            have O5 := hide ((unhide O4).drewN nq)
            have HR5 := hide ((unhide HR4).drewN nq)
            have HP5 := hide ((unhide HP4).drewN nq)
            go_wp2_with fail
            go_roundw
            case rel => exact ⟨k + 1, by omega, by go_num, by rw [unhide HS, if_neg (fun h => ht ((unhide HL).1 h).2)]; rfl, unhide O5, unhide HR5, unhide HP5⟩
            case measure => simp [intOf]; omega
        · have q1 : (r.f == x) = false := by simpa using hf
          go_wp2_with fail
          go_quiet (fail)
          have O5 := hide ((unhide O4).drewN nq)
          have HR5 := hide ((unhide HR4).drewN nq)
          have HP5 := hide ((unhide HP4).drewN nq)
          go_wp2_with fail
          go_roundw
          case rel => exact ⟨k + 1, by omega, by go_num, by rw [unhide HS, if_neg (fun h => hf ((unhide HL).1 h).1)]; rfl, unhide O5, unhide HR5, unhide HP5⟩
          case measure => simp [intOf]; omega
      · have hkl : k = L.length := by omega
        rw [hkl, List.take_length]
        clear hcl htl
        have O4 := hide (o4.mono (X' := (· ∈ [B])) fun _ h => .inl h)
        have HP4 := hide hp4
        clear o4 hr4 hp4
        have HE := hide (List.append_nil L)
        obtain ⟨n, hn⟩ : ∃ n, cnt q.link L = n := ⟨_, rfl⟩
        rw [hn] at hmost ⊢
        have HN := hide hn
        clear hn
        go_wp2_with fail
        go_loopw [12] (fun t wr => ∃ j : Nat, n + j ≤ 64 ∧ t = .int .i64 ((n + j : Nat) : Int) ∧ Own w wr (· ∈ [B]) p (L ++ List.replicate j q) ∧ PkAt wr B q) (fun t _ => 64 - (intOf t).toNat)
        case atStart => exact ⟨0, by omega, rfl, by rw [List.replicate_zero, unhide HE]; exact unhide O4, unhide HP4⟩
        case round =>
          obtain ⟨j, hj, rfl, o5, hp5⟩ := hrel
          obtain ⟨b0, b1, b2⟩ := hp5
          have hqv : q.val = .agg #[.int .i64 q.f, .int .i64 q.t, .string q.d] := rfl
          have O5 := hide o5
          have HP5 : Hid (PkAt wr B q) := ⟨b0, b1, b2⟩
          clear o5 O4 HP4 hqv
          by_cases hlt2 : n + j < 64
          · obtain ⟨f1, f2⟩ := more_post L q (unhide HOK) j (by rw [unhide HN]; exact hlt2)
            have F1 := hide f1
            have F2 := hide f2
            clear f1 f2
            go_wp2_with fail
            refine (post_own (unhide O5) q).mono ?_
            rw [unhide F1, unhide F2]
            rintro e w6 ⟨rfl, o6, k6⟩
            have O6 := hide o6
            have HP6 := hide ((unhide HP5).keep k6 (by simp))
            clear o6 k6
            go_wp2_with fail
            go_roundw
            case rel => exact ⟨j + 1, by omega, by go_num, unhide O6, unhide HP6⟩
            case measure => simp [intOf]; omega
          · have hj64 : n + j = 64 := by omega
            obtain ⟨f1, f2⟩ := more_full L q (unhide HOK) j (by rw [unhide HN]; exact hj64)
            have F1 := hide f1
            have F2 := hide f2
            clear f1 f2
            go_wp2_with fail
            refine (post_own (unhide O5) q).mono ?_
            rw [unhide F1, unhide F2]
            rintro e w6 ⟨rfl, o6, k6⟩
            have O6 := hide o6
            have HP6 := hide ((unhide HP5).keep k6 (by simp))
            clear o6 k6 b0 b1 b2 O5 HP5
            obtain ⟨b0, b1, b2⟩ := unhide HP6
            go_wp2_with fail
            refine (post_own (unhide O6) q).mono ?_
            rw [unhide F1, unhide F2]
            rintro e w7 ⟨rfl, o7, k7⟩
            have O7 := hide o7
            have HP7 := hide ((unhide HP6).keep k7 (by simp))
            clear o7 k7 b0 b1 b2 O6 HP6
            obtain ⟨b0, b1, b2⟩ := unhide HP7
            have hlen : (((L ++ List.replicate j q).length : Nat) : Int) = (L.length : Int) + 64 - (n : Int) := by simp; omega
            have lc := len_own (unhide O7)
            rw [hlen] at lc
            have LC := hide lc
            clear lc hlen
            go_wp2_with fail
            refine (unhide LC).mono ?_
            rintro e w8 ⟨rfl, rfl⟩
            go_wp2_with fail
            refine (unhide LC).mono ?_
            rintro e w8 ⟨rfl, rfl⟩
            have hcl2 := cnt_le q.link L
            rw [unhide HN] at hcl2
            by_cases hn64 : n = 64
            · have htk : takeE (L ++ List.replicate j q) ((L.length : Int) + 64 - (n : Int) - 1) = 0 := by unfold takeE; rw [if_pos (by simp; omega)]
              have HT := hide htk
              have e64 : ((n : Int) == 64) = true := by simp; omega
              clear htk hn64 hj64 hlt2
              go_wp2_with fail
              refine (take_own (unhide O7) _).mono ?_
              rw [unhide HT]
              rintro e w9 ⟨rfl, o9, _⟩
              have O9 := hide o9
              clear o9
              unfold Pkt.val
              go_wp2_with fail
              go_ret
              exact ⟨rfl, ((unhide O9).base.alloc _).below (fun _ f => f.elim) (Nat.le_refl _)⟩
            · obtain ⟨i, rfl⟩ : ∃ i, j = i + 1 := ⟨j - 1, by omega⟩
              have hi : (L.length : Int) + 64 - (n : Int) - 1 = ((L.length + i : Nat) : Int) := by omega
              obtain ⟨t1, t2, t3⟩ := more_last L q i
              obtain ⟨g1, g2⟩ := more_post L q (unhide HOK) i (by rw [unhide HN]; omega)
              have T := hide (And.intro t1 (And.intro t2 t3))
              have G := hide (And.intro g1 g2)
              have HI := hide hi
              clear t1 t2 t3 g1 g2 hi
              have e64 : ((n : Int) == 64) = false := by simp; omega
              go_wp2_with fail
              rw [unhide HI]
              refine (take_own (unhide O7) _).mono ?_
              rw [(unhide T).1, (unhide T).2.1, (unhide T).2.2]
              rintro e w9 ⟨rfl, o9, k9⟩
              have o10 := o9.held (.cells #[.int .i64 q.f, .int .i64 q.t, .string q.d] 25)
              have HP9 := hide (((unhide HP7).keep k9 (by simp)).alloc (.cells #[.int .i64 q.f, .int .i64 q.t, .string q.d] 25))
              have O10 := hide o10
              clear o9 k9 o10 b0 b1 b2
              obtain ⟨b0, b1, b2⟩ := unhide HP9
              have same := samePk_self q.f q.t q.d
              unfold Pkt.val
              go_wp2_with fail
              refine (post_own (unhide O10) q).mono ?_
              rw [(unhide G).1, (unhide G).2]
              rintro e w11 ⟨rfl, o11, k11⟩
              have O11 := hide o11
              have HP11 := hide ((unhide HP9).keep k11 (by simp))
              clear o11 k11 b0 b1 b2
              obtain ⟨b0, b1, b2⟩ := unhide HP11
              go_wp2_with fail
              refine (post_own (unhide O11) q).mono ?_
              rw [unhide F1, unhide F2]
              rintro e w12 ⟨rfl, o12, _⟩
              have O12 := hide o12
              clear o12
              go_wp2_with fail
              go_ret
              exact ⟨rfl, (unhide O12).base.below (fun _ f => f.elim) (Nat.le_refl _)⟩
end Go.Proofs.Ytceepejndomfaaa

/- What PackBack does, for any list of parts and any text: it answers true, and of what was there nothing has turned. No conditions. -/
import Derived.Test.YthjoojbdjinonaaBackPlain
import Derived.Deep.RegionWith
import Derived.Deep.CutRange
import Derived.BigQuiet
namespace Go.Proofs.Ythjoojbdjinonaa
open Pk Go.RowKit

theorem Moved.undrew {F : Nat → Prop} {a b : World} (h : Moved F a.drew b) : Moved F a b := ⟨h.os, h.tape, h.output, h.size, h.block⟩

/-- A world of which St holds. -/
structure SW (St : World → Prop) where
  w : World
  ok : St w
/-- A region that draws its order, whose operations yield one value each in every world of which St holds, and whose calls leave such a world. -/
theorem wp_region_sw {P : Program} {St : World → Prop} {id : Nat} {Q : Exit → Act → World → Prop} {a : Act} {w : World} {l : List Oper} (hm : P.follows .mixedOrders = true) (hB : Region.lexB .any l.toArray = true) (hS : St w.drew)
    (h : wpQuiet P l.toArray (fun w' => ∃ p : SW St, w' = p.w) (fun a' => ∀ w', (∃ p : SW St, w' = p.w) → Q .normal a' w') l a) : (Code.region id l.toArray true).wp P Q a w :=
  wp_region_quiet (C := fun w' => ∃ p : SW St, w' = p.w) hm hB ⟨⟨_, hS⟩, rfl⟩ (by simpa using h)

set_option maxRecDepth 100000 in
set_option maxHeartbeats 4000000 in
theorem back_any (a : Option Addr) (len cap : Nat) (z : List PartV) (s : ByteArray) (w : World) (hs : IsParts w a len cap z) (hss : s.size ≤ maxLen) :
    Calls Try.prog 5 #[.slice a len cap, .string s] w fun e w' => e = .returned (.bool true) ∧ Below w.heap.size w w' := by
  have HS := hide hs
  have hl := hs.max
  have hz := hs.size_
  unfold maxLen at hl hss
  have OK : Hid (∀ k, k < z.length → (z.getD k PartV.zero).Ok) := hide (fun k hk => by obtain ⟨_, _, _, _, ok, _⟩ := hs.at_ k (by omega); exact ok)
  clear hs
  cases hg : great z with
  | true =>
    have Hg := hide hg
    clear hg
    go_enter Try.func5, Try.ntmps5
    go_wp2_with fail
    refine (awake_any _).mono ?_
    rintro e w1 ⟨rfl, hB⟩
    have B := hide hB
    clear hB
    go_wp2_with fail
    refine (great_any a len cap z _ ((unhide HS).below (unhide B))).mono ?_
    rintro e w2 ⟨rfl, rfl⟩
    rw [unhide Hg]
    go_wp2_with fail
    go_ret
    exact ⟨rfl, unhide B⟩
  | false =>
    have Hg := hide hg
    have hlen := (great_false hg).1
    clear hg
    by_cases hs6 : (60000 : Int) < (s.size : Int)
    · have d1 : decide ((60000 : Int) < (s.size : Int)) = true := decide_eq_true hs6
      go_enter Try.func5, Try.ntmps5
      go_wp2_with fail
      refine (awake_any _).mono ?_
      rintro e w1 ⟨rfl, hB⟩
      have B := hide hB
      clear hB
      go_wp2_with fail
      refine (great_any a len cap z _ ((unhide HS).below (unhide B))).mono ?_
      rintro e w2 ⟨rfl, rfl⟩
      rw [unhide Hg]
      go_wp2_with fail
      go_ret
      exact ⟨rfl, unhide B⟩
    · have d1 : decide ((60000 : Int) < (s.size : Int)) = false := decide_eq_false hs6
      have hs60 : s.size ≤ 60000 := by omega
      clear hs6 hss
      go_enter Try.func5, Try.ntmps5
      go_wp2_with fail
      refine (awake_any _).mono ?_
      rintro e w1 ⟨rfl, hB⟩
      have B := hide hB
      clear hB
      go_wp2_with fail
      refine (great_any a len cap z _ ((unhide HS).below (unhide B))).mono ?_
      rintro e w2 ⟨rfl, rfl⟩
      rw [unhide Hg]
      have hx : w.heap.size ≤ w2.heap.size := (unhide B).size
      have O := hide (out_new w2)
      have B2 := hide ((unhide B).trans ((Below.refl w.heap.size w2).alloc hx newOut))
      clear B
      go_wp2_with fail
      generalize w2.alloc newOut = wA at *
      generalize w2.heap.size = x at *
      go_loopw [6] (fun i wr => ∃ k : Nat, k ≤ len ∧ i = .int .i64 k ∧ ∃ a' c', OutAt wr x a' c' (catTo z k) ∧ (∀ y, a' = some y → w.heap.size ≤ y.block) ∧ Below w.heap.size w wr) (fun i _ => len - (intOf i).toNat)
      case atStart => exact ⟨0, by omega, rfl, none, 0, unhide O, (fun y hy => by cases hy), unhide B2⟩
      case round =>
        obtain ⟨k, hk, rfl, a', c', ho, ha, hB⟩ := hrel
        have B := hide hB
        have O3 := hide ho
        have HA := hide ha
        clear ho ha hB O B2
        by_cases hlt : k < len
        · obtain ⟨b, o, rfl, hat, ok, hb⟩ := (unhide HS).at_ k hlt
          have hp := part_small (unhide Hg) k (by omega)
          have hc := catTo_small (unhide Hg) (unhide OK) k (by omega)
          have hst := hide (show catTo z (k + 1) = catTo z k ++ partBytes (z.getD k PartV.zero) from rfl)
          generalize z.getD k PartV.zero = p at *
          generalize catTo z k = l at *
          obtain ⟨c0, c1, c2, c3, c4, c5⟩ := hat.keep (Moved.of_below (F := fun _ => False) (unhide B)) hb id
          clear hat
          go_wp2_with fail
          refine (write_any p ok (unhide O3) (by omega)).mono ?_
          rintro e w3 ⟨rfl, a3, c3', o3, f3, m3⟩
          have HA3 := hide (show ∀ y, a3 = some y → w.heap.size ≤ y.block from fun y hy => by
            rcases f3 y hy with h | h
            · exact unhide HA y h
            · exact Nat.le_trans (unhide B).size h)
          have B3 := hide ((unhide B).trans (m3.below (fun i h => (foot_ge (w := wr) hx (unhide HA) h).elim id (fun h => Nat.le_trans (unhide B).size h)) (unhide B).size))
          clear O3 c0 c1 c2 c3 c4 c5 f3 m3
          have O3 := hide o3
          clear o3
          go_wp2_with fail
          go_roundw
          case rel => exact ⟨k + 1, by omega, by go_num, a3, c3', by rw [unhide hst]; exact unhide O3, unhide HA3, unhide B3⟩
          case measure => simp [intOf]; omega
        · have hkl : k = len := by omega
          subst hkl
          have hc := catTo_small (unhide Hg) (unhide OK) k (by omega)
          have hsz := out_size (catTo z k)
          go_wp2_with fail
          refine (string_any (unhide O3)).mono ?_
          rintro e w3 ⟨rfl, rfl⟩
          go_wp2_with fail
          refine (of_any ⟨(catTo z k).toArray⟩ (by omega) _).mono ?_
          rintro e w4 ⟨rfl, i, m⟩
          have hx1 := (unhide B).size
          have B4 := hide ((unhide B).trans (m.below (fun _ h => h.elim) (unhide B).size))
          have I := hide i
          generalize w3.heap.size = xi at *
          clear i m B O3 HA
          obtain ⟨S, hS⟩ : ∃ S : ByteArray, S = ⟨(catTo z k).toArray⟩ := ⟨_, rfl⟩
          have HSl : Hid (S.data.toList = catTo z k) := hide (by rw [hS])
          rw [← hS] at I hsz ⊢
          clear hS
          go_wp2_with fail
          go_loopw [8] (fun i wr => ∃ j : Nat, j ≤ k ∧ i = .int .i64 j ∧ InAt wr xi S (catTo z j).length 0 ∧ Below w.heap.size w wr) (fun i _ => k - (intOf i).toNat)
          case atStart => exact ⟨0, by omega, rfl, unhide I, unhide B4⟩
          case round =>
            obtain ⟨j, hj, rfl, hI, hB⟩ := hrel
            clear I B4
            by_cases hjl : j < k
            · obtain ⟨b, o, rfl, hat, ok, hb⟩ := (unhide HS).at_ j hjl
              have hp := part_small (unhide Hg) j (by omega)
              obtain ⟨t, ht⟩ := catTo_drop z j k hjl
              rw [← unhide HSl] at ht
              have hst := hide (show catTo z (j + 1) = catTo z j ++ partBytes (z.getD j PartV.zero) from rfl)
              generalize z.getD j PartV.zero = p at *
              have hcl := hide (show (catTo z (j + 1)).length = (catTo z j).length + (partBytes p).length by rw [unhide hst, List.length_append])
              generalize (catTo z j).length = κ at *
              have HAT := hide (fun (w' : World) (m : Moved (fun i => i = xi) wr w') => hat.keep (Moved.of_below (F := fun _ => False) (hB.trans (m.below (fun i h => by have h' : i = xi := h; omega) hB.size))) hb id)
              have c0 := (hat.keep (Moved.of_below (F := fun _ => False) hB) hb id)
              obtain ⟨c0, c1, c2, c3, c4, c5⟩ := c0
              have I := hide (fun (w' : World) (m : Moved (fun _ => False) wr w') => hI.keep m id)
              have B := hide (fun (w' : World) (m : Moved (fun i => i = xi) wr w') => hB.trans (m.below (fun i h => by have h' : i = xi := h; omega) hB.size))
              clear hat hI hB
              obtain ⟨pk, pn, pi, ps, pb, pm⟩ := p
              simp only at c0 c1 c2 c3 c4 c5 hp
              by_cases h0 : pk = 0
              · have d0 : (pk == (0 : Int)) = true := by simp [h0]
                have hpb : partBytes ⟨pk, pn, pi, ps, pb, pm⟩ = numBytes pn := by unfold partBytes; rw [if_pos h0]
                have q0 := hide (back_num pn ok.n (by rw [← hpb]; exact ht))
                rw [hpb] at hcl
                clear ht hpb h0
                go_wp2_with fail
                go_region_with (go_at_call 11; refine (in_num (unhide I _ ?_)).mono ?_; exact (Moved.refl _ _).drew; rintro e w' ⟨rfl, i, m⟩; rw [unhide q0] at i ⊢; have c1' := (unhide HAT _ m.undrew).c1; have HI := hide i; have HM := hide m.undrew; clear i m)
                all_goals
                  go_wp2_with fail
                  go_roundw
                  case rel => exact ⟨j + 1, by omega, by go_num, by rw [unhide hcl]; exact unhide HI, unhide B _ (unhide HM)⟩
                  case measure => simp [intOf]; omega
              · skip
                by_cases h1 : pk = 1
                · have d1 : (pk == (1 : Int)) = true := by simp [h1]
                  have d0 : (pk == (0 : Int)) = false := by simp [h0]
                  have hpb : partBytes ⟨pk, pn, pi, ps, pb, pm⟩ = numBytes (zig pi) := by unfold partBytes; rw [if_neg h0, if_pos h1]
                  have q0 := hide (back_num (zig pi) (zig_lt pi ok.i) (by rw [← hpb]; exact ht))
                  rw [hpb] at hcl
                  clear ht hpb h1
                  go_wp2_with fail
                  go_region_with (go_at_call 20; refine (in_int (unhide I _ ?_)).mono ?_; exact (Moved.refl _ _).drew; rintro e w' ⟨rfl, i, m⟩; rw [unhide q0] at i ⊢; simp only [zag_zig]; have c2' := (unhide HAT _ m.undrew).c2; have HI := hide i; have HM := hide m.undrew; clear i m)
                  all_goals
                    go_wp2_with fail
                    go_roundw
                    case rel => exact ⟨j + 1, by omega, by go_num, by rw [unhide hcl]; exact unhide HI, unhide B _ (unhide HM)⟩
                    case measure => simp [intOf]; omega
                · skip
                  by_cases h2 : pk = 2
                  · have d2 : (pk == (2 : Int)) = true := by simp [h2]
                    have d0 : (pk == (0 : Int)) = false := by simp [h0]
                    have d1 : (pk == (1 : Int)) = false := by simp [h1]
                    have hpb : partBytes ⟨pk, pn, pi, ps, pb, pm⟩ = textBytes ps.data.toList := by unfold partBytes; rw [if_neg h0, if_neg h1, if_pos h2]
                    have q0 := hide (back_text ps hp (by rw [← hpb]; exact ht))
                    have hps : -9223372036854775808 ≤ (ps.size : Int) ∧ (ps.size : Int) ≤ 9223372036854775807 := ⟨by omega, by omega⟩
                    rw [hpb] at hcl
                    clear ht hpb h2
                    go_wp2_with fail
                    go_region_with (go_at_call 14; refine (in_text (unhide I _ ?_) (ps.size : Int) hps).mono ?_; exact (Moved.refl _ _).drew; rintro e w' ⟨rfl, i, m⟩; rw [unhide q0] at i ⊢; simp only [same_text]; have c3' := (unhide HAT _ m.undrew).c3; have HI := hide i; have HM := hide m.undrew; clear i m)
                    all_goals
                      go_wp2_with fail
                      go_roundw
                      case rel => exact ⟨j + 1, by omega, by go_num, by rw [unhide hcl]; exact unhide HI, unhide B _ (unhide HM)⟩
                      case measure => simp [intOf]; omega
                  · skip
                    by_cases h3 : pk = 3
                    · have d3 : (pk == (3 : Int)) = true := by simp [h3]
                      have d0 : (pk == (0 : Int)) = false := by simp [h0]
                      have d1 : (pk == (1 : Int)) = false := by simp [h1]
                      have d2 : (pk == (2 : Int)) = false := by simp [h2]
                      have hpb : partBytes ⟨pk, pn, pi, ps, pb, pm⟩ = [pb] := by unfold partBytes; rw [if_neg h0, if_neg h1, if_neg h2, if_pos h3]
                      have q0 := hide (back_byte pb (by rw [← hpb]; exact ht))
                      rw [hpb] at hcl
                      clear ht hpb h3
                      go_wp2_with fail
                      go_region_with (go_at_call 15; refine (in_byte (unhide I _ ?_)).mono ?_; exact (Moved.refl _ _).drew; rintro e w' ⟨rfl, i, m⟩; rw [unhide q0] at i ⊢; have c4' := (unhide HAT _ m.undrew).c4; have HI := hide i; have HM := hide m.undrew; clear i m)
                      all_goals
                        go_wp2_with fail
                        go_roundw
                        case rel => exact ⟨j + 1, by omega, by go_num, by rw [unhide hcl]; exact unhide HI, unhide B _ (unhide HM)⟩
                        case measure => simp [intOf]; omega
                    · skip
                      have d0 : (pk == (0 : Int)) = false := by simp [h0]
                      have d1 : (pk == (1 : Int)) = false := by simp [h1]
                      have d2 : (pk == (2 : Int)) = false := by simp [h2]
                      have d3 : (pk == (3 : Int)) = false := by simp [h3]
                      have hpb : partBytes ⟨pk, pn, pi, ps, pb, pm⟩ = [] := by unfold partBytes; rw [if_neg h0, if_neg h1, if_neg h2, if_neg h3]
                      rw [hpb] at hcl
                      clear ht hpb h0 h1 h2 h3
                      go_wp2_with fail
                      go_roundw
                      case rel => exact ⟨j + 1, by omega, by go_num, by rw [unhide hcl]; exact unhide I _ (Moved.refl _ _), unhide B _ (Moved.refl _ _)⟩
                      case measure => simp [intOf]; omega
            · have hjk : j = k := by omega
              subst hjk
              have hend : endOf S (catTo z j).length 0 = 0 := by unfold endOf; rw [if_neg (by simp), if_neg (by rw [hsz]; omega)]
              have I := hide hI
              have B := hide hB
              clear hI hB
              go_wp2_with fail
              refine (end_any (unhide I)).mono ?_
              rintro e w5 ⟨rfl, m⟩
              have B5 := hide ((unhide B).trans (m.below (fun _ h => h.elim) (unhide B).size))
              rw [hend]
              clear m B I hend
              go_wp2_with fail
              refine (of_any s (by omega) _).mono ?_
              rintro e w6 ⟨rfl, i, m⟩
              have hy : w.heap.size ≤ w5.heap.size := (unhide B5).size
              have hyl : w5.heap.size < w6.heap.size := i.lt
              have B6 := hide ((unhide B5).trans (m.below (fun _ h => h.elim) (unhide B5).size))
              have I6 := hide (i.keep (F := fun _ => False) ((Moved.refl _ _).alloc newOut) id)
              have O6 := hide (out_new w6)
              have B7 := hide ((unhide B6).trans ((Below.refl w.heap.size w6).alloc (unhide B6).size newOut))
              clear i m B5 B6
              go_wp2_with fail
              generalize w6.alloc newOut = wA2 at *
              generalize w6.heap.size = P at *
              generalize w5.heap.size = Y at *
              go_loopw [11] (fun i wr => ∃ n : Nat, n ≤ j ∧ i = .int .i64 n ∧ ∃ κ a' c', InAt wr Y s κ 0 ∧ OutAt wr P a' c' (s.data.toList.take κ) ∧ (∀ y, a' = some y → w.heap.size ≤ y.block) ∧ ¬ foot P a' Y ∧ Below w.heap.size w wr) (fun i _ => j - (intOf i).toNat)
              case atStart => exact ⟨0, by omega, rfl, 0, none, 0, unhide I6, unhide O6, (fun y hy => by cases hy), (fun h => by have := foot_none h; omega), unhide B7⟩
              case round =>
                obtain ⟨n, hn, rfl, κ, a', c', hI, hO, hA, hF, hB⟩ := hrel
                clear I6 O6 B7
                have hκ := hI.le
                by_cases hnj : n < j
                · obtain ⟨b, o, rfl, hat, ok, hb⟩ := (unhide HS).at_ n hnj
                  have hp := part_small (unhide Hg) n (by omega)
                  generalize z.getD n PartV.zero = p at *
                  have I := hide hI
                  have O := hide hO
                  have HA := hide hA
                  have HF := hide hF
                  have B := hide hB
                  clear hI hO hA hF hB
                  go_wp2_with fail
                  refine (left_any (unhide I)).mono ?_
                  rintro e w7 ⟨rfl, m⟩
                  replace I := hide ((unhide I).keep m id)
                  replace O := hide ((unhide O).keep m (fun _ h => h.elim))
                  replace B := hide ((unhide B).trans (m.below (fun _ h => h.elim) (unhide B).size))
                  clear m
                  obtain ⟨c0, c1, c2, c3, c4, c5⟩ := hat.keep (Moved.of_below (F := fun _ => False) (unhide B)) hb id
                  clear hat
                  obtain ⟨pk, pn, pi, ps, pb, pm⟩ := p
                  simp only at c0 c1 c2 c3 c4 c5 hp
                  have OKp := hide ok
                  clear ok
                  have q7 := QAt.new w7 ⟨pk, pn, pi, ps, pb, pm⟩
                  have m7 : Moved (fun _ => False) w7 (w7.alloc (.cells #[.int .i64 pk, .int .u64 (pn : Int), .int .i64 pi, .string ps, .int .u8 ((pb.toNat : Nat) : Int), .int .i64 pm] 47)) := (Moved.refl _ _).alloc _
                  have hLT := hide (unhide O).lt
                  have hYQ := (unhide I).lt
                  have hBw := (unhide B).size
                  replace I := hide ((unhide I).keep m7 id)
                  replace O := hide ((unhide O).keep m7 (fun _ h => h.elim))
                  replace B := hide ((unhide B).trans (m7.below (fun _ h => h.elim) (unhide B).size))
                  have QQ := hide q7
                  go_upto_region 36 with fail
                  obtain ⟨W8, hW8⟩ : ∃ W8, W8 = w7.alloc (.cells #[.int .i64 pk, .int .u64 (pn : Int), .int .i64 pi, .string ps, .int .u8 ((pb.toNat : Nat) : Int), .int .i64 pm] 47) := ⟨_, rfl⟩
                  rw [← hW8] at I O B QQ ⊢
                  clear q7 m7 c0 c1 c2 c3 c4 c5 hW8
                  generalize w7.heap.size = Q at *
                  go_cut [113] from 100 to 184 (fun s113 wx => s113 = .int .i64 pk ∧ wx = W8)
                  case first =>
                    obtain ⟨c0, c1, c2, c3, c4, c5, fr⟩ := unhide QQ
                    simp only at c0
                    go_wp2_with fail
                    go_meet
                    case rel => exact ⟨rfl, rfl⟩
                  case rest =>
                  obtain ⟨rfl, hwc⟩ := hcut
                  rw [← hwc] at I O B QQ
                  clear hwc
                  refine ‹∀ (a : Act) (w : World), Code.wp Try.prog _ _ a w → _› _ _ ?_
                  go_cut [] from 100 to 184 (fun wx => ∃ κ' f p', InAt wx Y s κ' f ∧ OutAt wx P a' c' (s.data.toList.take κ) ∧ QAt wx Q p' ∧ Turned s κ κ' f p' ∧ Below w.heap.size w wx)
                  case first =>
                    obtain ⟨c0, c1, c2, c3, c4, c5, fr⟩ := unhide QQ
                    simp only at c0 c1 c2 c3 c4 c5
                    by_cases h0 : pk = 0
                    · have d0 : (pk == (0 : Int)) = true := by simp [h0]
                      have TT := hide (turned_num (s := s) (κ := κ) (unhide OKp) hp h0)
                      simp only at TT
                      clear h0
                      go_wp2_with fail
                      refine (in_num (unhide I)).mono ?_
                      rintro e w9 ⟨rfl, i, m⟩
                      have hq := (unhide QQ).keep m (show ¬ (Q = Y) by omega)
                      have O9 := hide ((unhide O).keep m (fun y hy hf => by have hy' : y = Y := hy; subst hy'; exact unhide HF hf))
                      have B9 := hide ((unhide B).trans (m.below (fun y h => by have h' : y = Y := h; omega) (unhide B).size))
                      have hcc := hq.c1
                      have hff := hq.fr 1
                      have Q9 := hide (hq.set1 (outNum s κ 0).1)
                      have I9 := hide i
                      simp only at hcc
                      clear hq i m c0 c1 c2 c3 c4 c5
                      go_wp2_with fail
                      go_meet
                      case rel => exact ⟨_, _, _, (unhide I9).keep (F := fun i => i = Q) (Moved.put _ _ _ _) (fun e => by omega), (unhide O9).keep (F := fun i => i = Q) (Moved.put _ _ _ _) (fun y hy hf => by have := unhide hLT y hf; have hy' : y = Q := hy; omega), unhide Q9, unhide TT, (unhide B9).setCell (by show w.heap.size ≤ Q; omega) _⟩
                    · skip
                      by_cases h1 : pk = 1
                      · have d1 : (pk == (1 : Int)) = true := by simp [h1]
                        have d0 : (pk == (0 : Int)) = false := by simp [h0]
                        have TT := hide (turned_int (s := s) (κ := κ) (unhide OKp) hp h1)
                        simp only at TT
                        clear h1
                        go_wp2_with fail
                        refine (in_int (unhide I)).mono ?_
                        rintro e w9 ⟨rfl, i, m⟩
                        have hq := (unhide QQ).keep m (show ¬ (Q = Y) by omega)
                        have O9 := hide ((unhide O).keep m (fun y hy hf => by have hy' : y = Y := hy; subst hy'; exact unhide HF hf))
                        have B9 := hide ((unhide B).trans (m.below (fun y h => by have h' : y = Y := h; omega) (unhide B).size))
                        have hcc := hq.c2
                        have hff := hq.fr 2
                        have Q9 := hide (hq.set2 (zag (outNum s κ 0).1))
                        have I9 := hide i
                        simp only at hcc
                        clear hq i m c0 c1 c2 c3 c4 c5
                        go_wp2_with fail
                        go_meet
                        case rel => exact ⟨_, _, _, (unhide I9).keep (F := fun i => i = Q) (Moved.put _ _ _ _) (fun e => by omega), (unhide O9).keep (F := fun i => i = Q) (Moved.put _ _ _ _) (fun y hy hf => by have := unhide hLT y hf; have hy' : y = Q := hy; omega), unhide Q9, unhide TT, (unhide B9).setCell (by show w.heap.size ≤ Q; omega) _⟩
                      · skip
                        by_cases h2 : pk = 2
                        · have d2 : (pk == (2 : Int)) = true := by simp [h2]
                          have d0 : (pk == (0 : Int)) = false := by simp [h0]
                          have d1 : (pk == (1 : Int)) = false := by simp [h1]
                          have TT := hide (turned_text (p := ⟨pk, pn, pi, ps, pb, pm⟩) hs60 hκ (unhide OKp) h2)
                          simp only at TT
                          clear h2
                          go_wp2_with fail
                          refine (in_text (unhide I) pm (unhide OKp).most).mono ?_
                          rintro e w9 ⟨rfl, i, m⟩
                          have hq := (unhide QQ).keep m (show ¬ (Q = Y) by omega)
                          have O9 := hide ((unhide O).keep m (fun y hy hf => by have hy' : y = Y := hy; subst hy'; exact unhide HF hf))
                          have B9 := hide ((unhide B).trans (m.below (fun y h => by have h' : y = Y := h; omega) (unhide B).size))
                          have hcc := hq.c3
                          have hff := hq.fr 3
                          have Q9 := hide (hq.set3 ⟨(outText pm s κ 0).1.toArray⟩)
                          have I9 := hide i
                          simp only at hcc
                          clear hq i m c0 c1 c2 c3 c4 c5
                          go_wp2_with fail
                          go_meet
                          case rel => exact ⟨_, _, _, (unhide I9).keep (F := fun i => i = Q) (Moved.put _ _ _ _) (fun e => by omega), (unhide O9).keep (F := fun i => i = Q) (Moved.put _ _ _ _) (fun y hy hf => by have := unhide hLT y hf; have hy' : y = Q := hy; omega), unhide Q9, unhide TT, (unhide B9).setCell (by show w.heap.size ≤ Q; omega) _⟩
                        · skip
                          by_cases h3 : pk = 3
                          · have d3 : (pk == (3 : Int)) = true := by simp [h3]
                            have d0 : (pk == (0 : Int)) = false := by simp [h0]
                            have d1 : (pk == (1 : Int)) = false := by simp [h1]
                            have d2 : (pk == (2 : Int)) = false := by simp [h2]
                            have TT := hide (turned_byte (s := s) (κ := κ) (unhide OKp) hp h3)
                            simp only at TT
                            clear h3
                            go_wp2_with fail
                            refine (in_byte (unhide I)).mono ?_
                            rintro e w9 ⟨rfl, i, m⟩
                            have hq := (unhide QQ).keep m (show ¬ (Q = Y) by omega)
                            have O9 := hide ((unhide O).keep m (fun y hy hf => by have hy' : y = Y := hy; subst hy'; exact unhide HF hf))
                            have B9 := hide ((unhide B).trans (m.below (fun y h => by have h' : y = Y := h; omega) (unhide B).size))
                            have hcc := hq.c4
                            have hff := hq.fr 4
                            have Q9 := hide (hq.set4 (outByte s κ 0).1)
                            have I9 := hide i
                            simp only at hcc
                            clear hq i m c0 c1 c2 c3 c4 c5
                            go_wp2_with fail
                            go_meet
                            case rel => exact ⟨_, _, _, (unhide I9).keep (F := fun i => i = Q) (Moved.put _ _ _ _) (fun e => by omega), (unhide O9).keep (F := fun i => i = Q) (Moved.put _ _ _ _) (fun y hy hf => by have := unhide hLT y hf; have hy' : y = Q := hy; omega), unhide Q9, unhide TT, (unhide B9).setCell (by show w.heap.size ≤ Q; omega) _⟩
                          · skip
                            have d0 : (pk == (0 : Int)) = false := by simp [h0]
                            have d1 : (pk == (1 : Int)) = false := by simp [h1]
                            have d2 : (pk == (2 : Int)) = false := by simp [h2]
                            have d3 : (pk == (3 : Int)) = false := by simp [h3]
                            have TT := hide (turned_none (s := s) (κ := κ) (unhide OKp) hp h0 h1 h2 h3)
                            clear h0 h1 h2 h3
                            go_wp2_with fail
                            go_meet
                            case rel => exact ⟨κ, 0, _, unhide I, unhide O, unhide QQ, unhide TT, unhide B⟩
                  case rest =>
                    obtain ⟨κ', f, p', hI, hO, hQ, hT, hB⟩ := hcut
                    clear I O QQ B
                    have hκ60 : κ ≤ 60000 := by omega
                    have htl : (s.data.toList.take κ).length = κ := by
                      rw [List.length_take]
                      have e1 : s.data.toList.length = s.size := by simp
                      omega
                    have HO := hide hO
                    have HI := hide hI
                    have HQ := hide hQ
                    have HT := hide hT
                    have B := hide hB
                    clear hO hI hQ hT hB
                    by_cases hf : f = 0
                    · subst hf
                      go_wp2_with fail
                      refine (fault_any (unhide HI)).mono ?_
                      rintro e wf ⟨rfl, m⟩
                      replace HI := hide ((unhide HI).keep m id)
                      replace HO := hide ((unhide HO).keep m (fun _ h => h.elim))
                      replace HQ := hide ((unhide HQ).keep m id)
                      replace B := hide ((unhide B).trans (m.below (fun _ h => h.elim) (unhide B).size))
                      clear m
                      simp only [if_true]
                      obtain ⟨c0, c1, c2, c3, c4, c5, fr⟩ := unhide HQ
                      clear fr
                      go_wp2_with fail
                      refine (write_any p' (unhide HT).ok (unhide HO) (by rw [htl]; have := (unhide HT).small; omega)).mono ?_
                      rintro e wg ⟨rfl, a3, c3', o3, f3, m3⟩
                      rw [(unhide HT).goes rfl] at o3
                      have HA3 := hide (show ∀ y, a3 = some y → w.heap.size ≤ y.block from fun y hy => by
                        rcases f3 y hy with h | h
                        · exact unhide HA y h
                        · exact Nat.le_trans (unhide B).size h)
                      have hPw : w.heap.size ≤ P := by omega
                      have B3 := hide ((unhide B).trans (m3.below (fun i h => (foot_ge (w := wf) hPw (unhide HA) h).elim id (fun h => Nat.le_trans (unhide B).size h)) (unhide B).size))
                      have hYw := (unhide HI).lt
                      have HF3 := hide (show ¬ foot P a3 Y from fun h => by
                        rcases f3.foot Y h with h | h
                        · exact unhide HF h
                        · omega)
                      replace HI := hide ((unhide HI).keep m3 (unhide HF))
                      clear c0 c1 c2 c3 c4 c5 f3 m3 HO
                      have HO := hide o3
                      clear o3
                      go_wp2_with fail
                      go_roundw
                      case rel => exact ⟨n + 1, by omega, by go_num, κ', a3, c3', unhide HI, unhide HO, unhide HA3, unhide HF3, unhide B3⟩
                      case measure => simp [intOf]; omega
                    · have hκ' := (unhide HT).stays hf
                      subst hκ'
                      have hfb : (((f : Nat) : Int) != 0) = true := by simp; omega
                      have hat0 : ahead κ' 0 f = κ' := by unfold ahead; rw [if_neg hf]
                      have hon : outNum s κ' f = (0, 0, f) := by unfold outNum; rw [if_neg hf]
                      have hot : outText 9 s κ' f = ([], 0, f) := by unfold outText; rw [if_neg hf]
                      have hob : outByte s κ' f = (0, 0, f) := by unfold outByte; rw [if_neg hf]
                      obtain ⟨Stuck, hst⟩ : ∃ St : World → Prop, St = fun w' => InAt w' Y s κ' f ∧ OutAt w' P a' c' (s.data.toList.take κ') ∧ Below w.heap.size w w' := ⟨_, rfl⟩
                      have mk : ∀ w', InAt w' Y s κ' f → OutAt w' P a' c' (s.data.toList.take κ') → Below w.heap.size w w' → Stuck w' := fun w' h1 h2 h3 => by rw [hst]; exact ⟨h1, h2, h3⟩
                      have un : ∀ w', Stuck w' → InAt w' Y s κ' f ∧ OutAt w' P a' c' (s.data.toList.take κ') ∧ Below w.heap.size w w' := fun w' h => by rw [hst] at h; exact h
                      have qui : ∀ w' w'', Stuck w' → Moved (fun _ => False) w' w'' → Stuck w'' := fun w' w'' h m => by
                        obtain ⟨h1, h2, h3⟩ := un _ h
                        exact mk _ (h1.keep m id) (h2.keep m (fun _ h => h.elim)) (h3.trans (m.below (fun _ h => h.elim) h3.size))
                      have rea : ∀ w' w'', Stuck w' → Read w' w'' Y s κ' 0 f → Stuck w'' := fun w' w'' h ⟨i, m⟩ => by
                        obtain ⟨h1, h2, h3⟩ := un _ h
                        rw [hat0] at i
                        exact mk _ i (h2.keep m (fun y hy hf => by have hy' : y = Y := hy; subst hy'; exact unhide HF hf)) (h3.trans (m.below (fun y h => by have h' : y = Y := h; omega) h3.size))
                      have sL := hide (show ∀ p : SW Stuck, Calls Try.prog 17 #[.pointer (some ⟨Y, 0, none⟩)] p.w fun e w'' => e = .returned (.int .i64 ((s.size - κ' : Nat) : Int)) ∧ ∃ q : SW Stuck, w'' = q.w from fun ⟨w', h⟩ => (left_any (un _ h).1).mono fun e w'' ⟨he, m⟩ => ⟨he, ⟨w'', qui _ _ h m⟩, rfl⟩)
                      have sN := hide (show ∀ p : SW Stuck, Calls Try.prog 11 #[.pointer (some ⟨Y, 0, none⟩)] p.w fun e w'' => e = .returned (.int .u64 0) ∧ ∃ q : SW Stuck, w'' = q.w from fun ⟨w', h⟩ => (in_num (un _ h).1).mono fun e w'' ⟨he, m⟩ => by rw [hon] at he m; exact ⟨he, ⟨w'', rea _ _ h m⟩, rfl⟩)
                      have sT := hide (show ∀ p : SW Stuck, Calls Try.prog 14 #[.pointer (some ⟨Y, 0, none⟩), .int .i64 9] p.w fun e w'' => e = .returned (.string ⟨#[]⟩) ∧ ∃ q : SW Stuck, w'' = q.w from fun ⟨w', h⟩ => (in_text (un _ h).1 9 (by decide)).mono fun e w'' ⟨he, m⟩ => by rw [hot] at he m; exact ⟨he, ⟨w'', rea _ _ h m⟩, rfl⟩)
                      have sB := hide (show ∀ p : SW Stuck, Calls Try.prog 15 #[.pointer (some ⟨Y, 0, none⟩)] p.w fun e w'' => e = .returned (.int .u8 0) ∧ ∃ q : SW Stuck, w'' = q.w from fun ⟨w', h⟩ => (in_byte (un _ h).1).mono fun e w'' ⟨he, m⟩ => by rw [hob] at he m; exact ⟨he, ⟨w'', rea _ _ h m⟩, rfl⟩)
                      have sI := hide (show ∀ p : SW Stuck, Calls Try.prog 20 #[.pointer (some ⟨Y, 0, none⟩)] p.w fun e w'' => e = .returned (.int .i64 0) ∧ ∃ q : SW Stuck, w'' = q.w from fun ⟨w', h⟩ => (in_int (un _ h).1).mono fun e w'' ⟨he, m⟩ => by rw [hon] at he m; exact ⟨he.trans (ret_i64 (show zag 0 = 0 by decide)), ⟨w'', rea _ _ h m⟩, rfl⟩)
                      have sS := hide (show ∀ p : SW Stuck, Calls Try.prog 16 #[.pointer (some ⟨P, 0, none⟩)] p.w fun e w'' => e = .returned (.string ⟨(s.data.toList.take κ').toArray⟩) ∧ ∃ q : SW Stuck, w'' = q.w from fun ⟨w', h⟩ => (string_any (un _ h).2.1).mono fun e w'' ⟨he, hw⟩ => ⟨he, ⟨w', h⟩, hw⟩)
                      have DONE := hide (fun w' (h : Stuck w') => (un w' h).2.2)
                      have hd1 : IntKind.i64.wrap ((s.size : Int) - ((s.size - κ' : Nat) : Int)) = (κ' : Int) := by rw [IntKind.wrap_i64]; omega
                      have hd2 : (s.size : Int) - ((s.size - κ' : Nat) : Int) = (κ' : Int) := by omega
                      have hcut := cut_take s κ'
                      have hle3 : (κ' : Int) ≤ (s.size : Int) := by omega
                      go_wp2_with fail
                      refine (fault_any (unhide HI)).mono ?_
                      rintro e wf ⟨rfl, m⟩
                      have st : Stuck wf.drew := qui _ _ (mk _ (unhide HI) (unhide HO) (unhide B)) m.drew
                      clear m mk un qui rea hon hot hob hat0 HI HO HQ HT B hst
                      go_wp2_with fail
                      generalize ((s.size - κ' : Nat) : Int) = d at *
                      generalize (s.data.toList.take κ').toArray = tk at *
                      have ne : Nonempty (SW Stuck) := ⟨⟨_, st⟩⟩
                      refine wp_region_sw (St := Stuck) (by kernel_rfl) (by kernel_rfl) st ?_
                      repeat (go_big_quiet_step (first
                        | (go_at_call 17; exact unhide sL _)
                        | (go_at_call 11; exact unhide sN _)
                        | (go_at_call 14; exact unhide sT _)
                        | (go_at_call 15; exact unhide sB _)
                        | (go_at_call 20; exact unhide sI _)
                        | (go_at_call 16; exact unhide sS _)))
                      refine wpQuiet_nil ?_
                      rintro w9 ⟨⟨w9', st9⟩, rfl⟩
                      go_wp2_with fail
                      go_ret
                      exact ⟨rfl, unhide DONE _ st9⟩
                · have I := hide hI
                  have O := hide hO
                  have B := hide hB
                  have hcut := cut_take s κ
                  have hle3 : (κ : Int) ≤ (s.size : Int) := by omega
                  have hd2 : (s.size : Int) - ((s.size - κ : Nat) : Int) = (κ : Int) := by omega
                  clear hI hO hB
                  go_wp2_with fail
                  refine (string_any (unhide O)).mono ?_
                  rintro e wf ⟨rfl, rfl⟩
                  go_wp2_with fail
                  refine (left_any (unhide I)).mono ?_
                  rintro e wg ⟨rfl, m⟩
                  replace B := hide ((unhide B).trans (m.below (fun _ h => h.elim) (unhide B).size))
                  clear m
                  generalize ((s.size - κ : Nat) : Int) = d at *
                  go_wp2_with fail
                  go_ret
                  exact ⟨rfl, unhide B⟩
end Go.Proofs.Ythjoojbdjinonaa

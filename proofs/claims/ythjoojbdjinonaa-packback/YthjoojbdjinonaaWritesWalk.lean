/- What PackWrites does, for any list of parts: it answers true, and of what was there nothing has turned. No conditions. -/
import Derived.Test.YthjoojbdjinonaaWrite
namespace Go.Proofs.Ythjoojbdjinonaa
open Pk Go.RowKit

/-- The first k parts' bytes, one behind the other. -/
def catTo (z : List PartV) : Nat → List UInt8
  | 0 => []
  | k + 1 => catTo z k ++ partBytes (z.getD k PartV.zero)
theorem great_false {z : List PartV} (h : great z = false) : z.length ≤ 500 ∧ bulk z z.length ≤ 60000 := by
  unfold great at h
  simp at h
  exact h
theorem part_small {z : List PartV} (h : great z = false) (k : Nat) (hk : k < z.length) : (z.getD k PartV.zero).s.size ≤ 60000 := by
  have h1 := (great_false h).2
  have h2 := bulk_mono z (k + 1) z.length hk
  simp only [bulk] at h2
  omega
theorem catTo_le {z : List PartV} (h : great z = false) (ok : ∀ k, k < z.length → (z.getD k PartV.zero).Ok) (k : Nat) (hk : k ≤ z.length) : (catTo z k).length ≤ 10 * k + bulk z k := by
  induction k with
  | zero => simp [catTo]
  | succ k ih =>
    have h1 := ih (by omega)
    have h2 := partBytes_le _ (ok k hk) (part_small h k hk)
    have h3 := part_small h k hk
    simp only [catTo, bulk, List.length_append]
    omega
theorem catTo_small {z : List PartV} (h : great z = false) (ok : ∀ k, k < z.length → (z.getD k PartV.zero).Ok) (k : Nat) (hk : k ≤ z.length) : (catTo z k).length ≤ 65000 := by
  have h1 := catTo_le h ok k hk
  have h2 := great_false h
  have h3 := bulk_mono z k z.length hk
  omega

set_option maxRecDepth 100000 in
set_option maxHeartbeats 2000000 in
theorem writes_any (a : Option Addr) (len cap : Nat) (z : List PartV) (w : World) (hs : IsParts w a len cap z) :
    Calls Try.prog 4 #[.slice a len cap] w fun e w' => e = .returned (.bool true) ∧ Below w.heap.size w w' := by
  have HS := hide hs
  have hl := hs.max
  have hz := hs.size_
  unfold maxLen at hl
  have OK : Hid (∀ k, k < z.length → (z.getD k PartV.zero).Ok) := hide (fun k hk => by obtain ⟨_, _, _, _, ok, _⟩ := hs.at_ k (by omega); exact ok)
  clear hs
  cases hg : great z with
  | true =>
    have Hg := hide hg
    clear hg
    go_enter Try.func4, Try.ntmps4
    go_wp2_with fail
    refine (awake_any _).mono ?_
    rintro e w1 ⟨rfl, hB⟩
    have B := hide hB
    clear hB
    go_wp2_with fail
    refine (great_any a len cap z _ ((unhide HS).below (unhide B))).mono ?_
    rintro e w2 ⟨rfl, rfl⟩
    rw [unhide Hg]
    go_wp2_with fail
    go_ret
    exact ⟨rfl, unhide B⟩
  | false =>
    have Hg := hide hg
    have hlen := (great_false hg).1
    clear hg
    go_enter Try.func4, Try.ntmps4
    go_wp2_with fail
    refine (awake_any _).mono ?_
    rintro e w1 ⟨rfl, hB⟩
    have B := hide hB
    clear hB
    go_wp2_with fail
    refine (great_any a len cap z _ ((unhide HS).below (unhide B))).mono ?_
    rintro e w2 ⟨rfl, rfl⟩
    rw [unhide Hg]
    have hx : w.heap.size ≤ w2.heap.size := (unhide B).size
    have O := hide (out_new w2)
    have B2 := hide ((unhide B).trans ((Below.refl w.heap.size w2).alloc hx newOut))
    clear B
    go_wp2_with fail
    generalize w2.alloc newOut = wA at *
    generalize w2.heap.size = x at *
    go_loopw [5, 6] (fun sv i wr => ∃ k : Nat, k ≤ len ∧ i = .int .i64 k ∧ sv = .string ⟨(catTo z k).toArray⟩ ∧ ∃ a' c', OutAt wr x a' c' (catTo z k) ∧ (∀ y, a' = some y → w.heap.size ≤ y.block) ∧ Below w.heap.size w wr) (fun _ i _ => len - (intOf i).toNat)
    case atStart => exact ⟨0, by omega, rfl, rfl, none, 0, unhide O, (fun y hy => by cases hy), unhide B2⟩
    case round =>
      obtain ⟨k, hk, rfl, rfl, a', c', ho, ha, hB⟩ := hrel
      have B := hide hB
      have O3 := hide ho
      have HA := hide ha
      clear ho ha hB
      by_cases hlt : k < len
      · obtain ⟨b, o, rfl, hat, ok, hb⟩ := (unhide HS).at_ k hlt
        have hp := part_small (unhide Hg) k (by omega)
        have hc := catTo_small (unhide Hg) (unhide OK) k (by omega)
        have hpb := partBytes_le _ ok hp
        have hst := hide (show catTo z (k + 1) = catTo z k ++ partBytes (z.getD k PartV.zero) from rfl)
        generalize z.getD k PartV.zero = p at *
        generalize catTo z k = l at *
        have hsum : ¬ (9223372036854775807 < l.length + (partBytes p).length) := by omega
        have HAT := hide (fun (w' : World) (hB : Below w.heap.size w w') => hat.keep (Moved.of_below (F := fun _ => False) hB) hb id)
        clear hat
        obtain ⟨c0, c1, c2, c3, c4, c5⟩ := unhide HAT _ (unhide B)
        go_wp2_with fail
        refine (write_any p ok (unhide O3) (by omega)).mono ?_
        rintro e w3 ⟨rfl, a3, c3', o3, f3, m3⟩
        have ha3 : ∀ y, a3 = some y → w.heap.size ≤ y.block := fun y hy => by
          rcases f3 y hy with h | h
          · exact unhide HA y h
          · exact Nat.le_trans (unhide B).size h
        have B3 := hide ((unhide B).trans (m3.below (fun i h => (foot_ge (w := wr) hx (unhide HA) h).elim id (fun h => Nat.le_trans (unhide B).size h)) (unhide B).size))
        clear O3 c0 c1 c2 c3 c4 c5 f3 m3
        have O3 := hide o3
        have HA3 := hide ha3
        clear o3 ha3
        obtain ⟨c0, c1, c2, c3, c4, c5⟩ := unhide HAT _ (unhide B3)
        go_wp2_with fail
        refine (write_nil p ok _).mono ?_
        rintro e w4 ⟨rfl, hb4⟩
        have B4 := hide ((unhide B3).trans (hb4.mono (unhide B3).size))
        replace O3 := hide ((unhide O3).keep (Moved.of_below (F := fun _ => False) hb4) (fun _ h => h.elim))
        clear c0 c1 c2 c3 c4 c5 hb4 B3 B
        obtain ⟨c0, c1, c2, c3, c4, c5⟩ := unhide HAT _ (unhide B4)
        go_wp2_with fail
        refine (bytes_any p ok (by omega) _).mono ?_
        rintro e w5 ⟨rfl, hb5⟩
        have B5 := hide ((unhide B4).trans (hb5.mono (unhide B4).size))
        replace O3 := hide ((unhide O3).keep (Moved.of_below (F := fun _ => False) hb5) (fun _ h => h.elim))
        clear c0 c1 c2 c3 c4 c5 hb5 B4
        go_wp2_with fail
        rw [ByteArray.mk_append_mk]
        refine (string_any (unhide O3)).mono ?_
        rintro e w6 ⟨rfl, rfl⟩
        go_wp2_with fail
        go_roundw
        case rel => exact ⟨k + 1, by omega, by go_num, by rw [unhide hst], a3, c3', by rw [unhide hst]; exact unhide O3, unhide HA3, unhide B5⟩
        case measure => simp [intOf]; omega
      · go_wp2_with fail
        refine (string_nil _).mono ?_
        rintro e w6 ⟨rfl, rfl⟩
        go_wp2_with fail
        go_ret
        exact ⟨rfl, unhide B⟩
end Go.Proofs.Ythjoojbdjinonaa

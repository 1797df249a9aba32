/- What the program's writer of messages does with a list: its count and its numbers are written, and it is empty then, or the writer gives up. Condition: no more than 2^40 bytes are written. -/
import Derived.Test.YtkbmbcmcnpeabaaDoorWr
namespace Go.Proofs.YtkbmbcmcnpeabaaDoor
open Pk Go.RowKit

/-- A slice at a holds these numbers. -/
def Ints (w : World) (a : Option Addr) (xs : List Int) : Prop := ∀ i, i < xs.length → ∃ x, a = some x ∧ w.cell? (x.add i) = some (.int .i64 (xs.getD i 0))
theorem Ints.keep {F : Nat → Prop} {w w' : World} {a : Option Addr} {xs : List Int} (h : Ints w a xs) (m : Moved F w w') (hF : ∀ i, i < w.heap.size → ¬ F i) : Ints w' a xs := fun i hi => by
  obtain ⟨x, hx, hc⟩ := h i hi
  have hl := World.block_lt_of_cell? _ _ hc
  exact ⟨x, hx, (m.cell hl (hF _ hl)).trans hc⟩
/-- A slice at a holds these numbers; it is neither of two blocks. -/
def IntsF (w : World) (p B : Nat) (a : Option Addr) (xs : List Int) : Prop := Ints w a xs ∧ ∀ x, a = some x → 0 < xs.length → x.block ≠ p ∧ x.block ≠ B
theorem IntsF.keep {w w' : World} {p B : Nat} {a : Option Addr} {xs : List Int} (h : IntsF w p B a xs) (m : Moved (fun i => i = p ∨ i = B) w w') : Ints w' a xs := fun i hi => by
  obtain ⟨x, hx, hc⟩ := h.1 i hi
  have hb : (x.add i).block = x.block := by unfold Addr.add; split <;> rfl
  have hn := h.2 x hx (by omega)
  exact ⟨x, hx, (m.cell (World.block_lt_of_cell? _ _ hc) (by rw [hb]; exact fun f => f.elim hn.1 hn.2)).trans hc⟩
theorem encN_snoc {α : Type} (A : Cod α) (l : List α) (x : α) : encN A (l ++ [x]) = encN A l ++ A.enc x := by
  induction l with
  | nil => simp [encN]
  | cons a r ih => simp [encN, ih]
theorem take_snoc' (l : List Int) (k : Nat) (h : k < l.length) : l.take (k + 1) = l.take k ++ [l.getD k 0] := by
  rw [List.take_succ_eq_append_getElem h, List.getD_eq_getElem?_getD, List.getElem?_eq_getElem h]; rfl
theorem encN_le (l : List Int) (h : ∀ x ∈ l, In x) : (encN P l).length ≤ 10 * l.length := by
  induction l with
  | nil => simp [encN]
  | cons a r ih =>
    have h1 : (P.enc a).length ≤ 10 := numBytes_length _ (by have h := h a (by simp); unfold In m31 at h; omega)
    have h2 := ih fun x hx => h x (by simp [hx])
    simp only [encN, List.length_append, List.length_cons]
    omega

set_option maxHeartbeats 1000000 in
theorem wlist_any {w0 w : World} {p B : Nat} {vs : List Value} {l : List UInt8} (h : WSt w0 w p B vs l) (i : Nat) (xs : List Int) (a : Option Addr) (c : Nat) (hi : vs[i]? = some (.slice a xs.length c)) (hI : IntsF w0 p B a xs) (hx : xs.length ≤ maxLen)
    (m : Nat) (hm : m ≤ 1024) (hb : l.length + 20000 ≤ 1099511627776) :
    Calls Tryd.prog 94 #[.pointer (some ⟨p, 0, none⟩), .pointer (some ⟨B, i, none⟩), .int .i64 (m : Int)] w (Wr (xs.length ≤ m ∧ ∀ x ∈ xs, In x) w0 p B (vs.set i (.slice none 0 0)) (l ++ (listC P m).enc xs)) := by
  have hcell := fun (w' : World) (l' : List UInt8) (h' : WSt w0 w' p B vs l') => h'.cell hi
  obtain ⟨hc, hf, hl⟩ := h.cell hi
  unfold maxLen at hx
  have HC := hide hcell
  have H := hide h
  have HI := hide hI
  clear h hcell hi hI
  have henc : (listC P m).enc xs = (posC m).enc (xs.length : Int) ++ encN P xs := rfl
  have HE := hide henc
  clear henc
  go_enter Tryd.func94, Tryd.ntmps94
  go_wp2_with fail
  refine (upTo_any (unhide H) (xs.length : Int) m (by omega) (by omega)).mono ?_
  rintro e w1 (⟨rfl, hok, hs⟩ | ⟨rfl, hno, hmv⟩)
  · obtain ⟨hc1, hf1, _⟩ := unhide HC _ _ hs
    have hlen : ((posC m).enc (xs.length : Int)).length ≤ 10 := numBytes_length _ (by omega)
    have HS := hide hs
    clear hs hc hf H
    generalize hz : xs.length = n at *
    have HZ := hide hz
    clear hz
    go_wp2_with fail
    go_loopw [19] (fun t wr => ∃ k : Nat, k ≤ n ∧ t = .int .i64 (k : Int) ∧ (∀ x ∈ xs.take k, In x) ∧ WSt w0 wr p B vs (l ++ (posC m).enc (n : Int) ++ encN P (xs.take k))) (fun t _ => n - (intOf t).toNat)
    case atStart => exact ⟨0, by omega, rfl, by simp, by simpa [encN] using unhide HS⟩
    case round =>
      obtain ⟨k, hk, rfl, hall, hst⟩ := hrel
      obtain ⟨hc2, hf2, _⟩ := unhide HC _ _ hst
      have hle := encN_le _ hall
      have htk : (xs.take k).length ≤ k := List.length_take_le _ _
      have HST := hide hst
      have HA := hide hall
      clear hall hst
      by_cases hlt : k < n
      · have hkx : k < xs.length := by rw [unhide HZ]; exact hlt
        obtain ⟨x, hxa, hcx'⟩ := (unhide HI).keep (unhide HST).moved k hkx
        subst hxa
        have htake := take_snoc' xs k hkx
        generalize xs.getD k 0 = u at *
        have HT := hide htake
        clear htake
        go_wp2_with fail
        refine (upTo_any (unhide HST) u 2147483647 (by decide) (by simp only [List.length_append]; omega)).mono ?_
        rintro e w2 (⟨rfl, hok2, hs2⟩ | ⟨rfl, hno2, hm2⟩)
        · have HS2 := hide hs2
          have HO2 := hide hok2
          clear hs2 hok2
          go_wp2_with fail
          go_roundw
          case rel =>
            refine ⟨k + 1, by omega, by go_num, ?_, ?_⟩
            · rw [unhide HT]
              intro y hy
              rcases List.mem_append.1 hy with h' | h'
              · exact unhide HA y h'
              · rw [List.mem_singleton.1 h']; exact unhide HO2
            · rw [unhide HT, encN_snoc, ← List.append_assoc]; exact unhide HS2
          case measure => simp [intOf]; omega
        · go_wp2_with fail
          refine ⟨rfl, .inr ⟨rfl, fun h' => hno2 (h'.2 u ?_), hm2⟩⟩
          have : u ∈ xs.take (k + 1) := by rw [unhide HT]; simp
          exact List.mem_of_mem_take this
      · have hkn : k = n := by omega
        subst hkn
        have hfull : xs.take k = xs := List.take_of_length_le (by have := unhide HZ; omega)
        have HF := hide hfull
        clear hfull
        go_wp2_with fail
        go_end0
        refine .inl ⟨rfl, ⟨by have := unhide HZ; omega, ?_⟩, ?_⟩
        · have := unhide HA; rwa [unhide HF] at this
        · have := unhide HST
          rw [unhide HF, List.append_assoc, ← unhide HE] at this
          exact this.set i hl _
  · go_wp2_with fail
    exact ⟨rfl, .inr ⟨rfl, fun h' => hno (by omega), hmv⟩⟩
end Go.Proofs.YtkbmbcmcnpeabaaDoor

/- The document's own numbers: a list, each once; its Has, Low and Add. Condition: the list is shorter than 10^11. -/
import Derived.Test.YtdmjkbcjljnleaaJoinW
namespace Go.Proofs.Ytdmjkbcjljnleaa
open Go.RowKit

/-- The list is what came. -/
structure RelA (s : AckV) (l : List Int) : Prop where
  fine : Fine s
  mem : ∀ n, n ∈ l ↔ s.has n = true
  nodup : l.Nodup
def rfresh (l : List Int) (n : Int) : Bool := isNum n && !decide (n ∈ l)
def radd (l : List Int) (n : Int) : List Int := if rfresh l n = true then l ++ [n] else l
theorem rel_none : RelA none0 [] := ⟨fine_none, fun n => by
  constructor
  · intro h; cases h
  · intro h
    rcases has_iff.1 h with e | e
    · have h1 : n ≤ 0 := e.2
      omega
    · exact e, List.nodup_nil⟩
theorem rel_dec {s : AckV} {l : List Int} (h : RelA s l) (n : Int) : decide (n ∈ l) = s.has n := by
  cases hc : s.has n with
  | true => exact decide_eq_true ((h.mem n).2 hc)
  | false => exact decide_eq_false fun e => by rw [(h.mem n).1 e] at hc; cases hc
theorem rel_fresh {s : AckV} {l : List Int} (h : RelA s l) (n : Int) : rfresh l n = s.fresh n := by
  unfold rfresh AckV.fresh
  rw [rel_dec h]
theorem rel_add {s : AckV} {l : List Int} (h : RelA s l) (n : Int) : RelA (s.add n) (radd l n) := by
  unfold radd
  rw [rel_fresh h]
  cases hf : s.fresh n with
  | false => rw [add_same hf]; exact h
  | true =>
    have hfr := fresh_iff.1 hf
    have hn : n ∉ l := fun e => by rw [(h.mem n).1 e] at hfr; cases hfr.2
    refine ⟨h.fine.add n, fun m => ?_, ?_⟩
    · rw [has_add h.fine, if_pos rfl, List.mem_append, h.mem m, List.mem_singleton]
      exact ⟨fun e => e.imp id fun e => ⟨e, isNum_iff.2 hfr.1⟩, fun e => e.imp id (·.1)⟩
    · rw [if_pos rfl]
      refine List.nodup_append.2 ⟨h.nodup, by simp, fun a ha b hb => ?_⟩
      rw [List.mem_singleton] at hb
      exact fun e => hn (by rw [← hb, ← e]; exact ha)
def radds (l : List Int) (t : List Int) : List Int := t.foldl radd l
theorem radds_snoc (l t : List Int) (n : Int) : radds l (t ++ [n]) = radd (radds l t) n := by unfold radds; rw [List.foldl_append]; rfl
theorem rel_adds {s : AckV} {l : List Int} (h : RelA s l) (t : List Int) : RelA (s.adds t) (radds l t) := by
  induction t generalizing s l with
  | nil => exact h
  | cons n t ih => exact ih (rel_add h n)
theorem radd_length (l : List Int) (n : Int) : (radd l n).length ≤ l.length + 1 := by
  unfold radd
  split <;> simp
theorem radds_length (l t : List Int) : (radds l t).length ≤ l.length + t.length := by
  induction t generalizing l with
  | nil => exact Nat.le_refl _
  | cons n t ih =>
    have h1 := ih (radd l n)
    have h2 := radd_length l n
    rw [List.length_cons]
    exact Nat.le_trans h1 (by omega)
theorem mem_take_succ {l : List Int} {k : Nat} {x : Int} (hx : l[k]? = some x) {n : Int} : n ∈ l.take (k + 1) ↔ n ∈ l.take k ∨ n = x := by
  rw [take_snoc hx, List.mem_append, List.mem_singleton]
set_option maxRecDepth 100000 in
set_option maxHeartbeats 1000000 in
theorem rhas_any {w : World} {a : Option Addr} {c : Nat} {l : List Int} (h : IntK.At w a l) (hl : l.length ≤ 1000000000000) (n : Int) :
    Calls Try.prog 23 #[.agg #[.slice a l.length c], .int .i64 n] w fun e w' => e = .returned (.bool (decide (n ∈ l))) ∧ Below w.heap.size w w' := by
  obtain ⟨H, hH⟩ : ∃ H, H = w.heap.size := ⟨_, rfl⟩
  obtain ⟨W, hW⟩ : ∃ W, W = w.alloc (.cells #[.slice a l.length c] 35) := ⟨_, rfl⟩
  have bW : Below w.heap.size w W := by rw [hW]; exact (Below.refl _ _).alloc (Nat.le_refl _) _
  have c0 : W.cell? ⟨H, 0, none⟩ = some (.slice a l.length c) := by rw [hW, hH]; exact (row_new w [.slice a l.length c] 35).cell 0 (Nat.succ_pos _)
  have HA := hide (h.below (Nat.le_refl _) bW)
  have FIN := hide bW
  have HW := hide hW
  have HH := hide hH
  have HL := hide hl
  clear hW hH bW h hl
  go_enter Try.func23, Try.ntmps23
  go_upto_region 1 with fail
  simp only [← unhide HH]
  rw [← unhide HW]
  go_wp2_with fail
  go_loopw [5] (fun i wr => ∃ k : Nat, i = .int .i64 (k : Int) ∧ k ≤ l.length ∧ n ∉ l.take k ∧ wr = W) (fun i _ => l.length - (RowKit.intOf i).toNat)
  case atStart => exact ⟨0, rfl, Nat.zero_le _, by simp, rfl⟩
  case round =>
    obtain ⟨k, rfl, hk, hno, rfl⟩ := hrel
    by_cases hlt : k < l.length
    · have g0 : (0 : Int) ≤ (k : Int) := by omega
      have g1 : (k : Int) < (l.length : Int) := by omega
      have hwk : IntKind.i64.wrap ((k : Int) + 1) = (k : Int) + 1 := Go.IntWalk.i64_in _ (by have := unhide HL; omega)
      obtain ⟨x, hx⟩ : ∃ x, l[k]? = some x := ⟨_, List.getElem?_eq_getElem hlt⟩
      obtain ⟨g, o, rfl, hg, hrg⟩ := (unhide HA).cell intK_law hx
      have z0 := hrg 0 (.int .i64 x) rfl
      simp only [IntK, Nat.mul_one, Nat.add_zero] at z0
      by_cases he : x = n
      · have YES : Hid (decide (n ∈ l) = true) := hide (decide_eq_true (List.mem_iff_getElem?.2 ⟨k, by rw [hx, he]⟩))
        subst he
        clear hno hx hg hrg
        go_wp2_with fail
        go_ret
        exact ⟨by rw [unhide YES]; rfl, unhide FIN⟩
      · have NO := hide (fun h => ((mem_take_succ hx).1 h).elim hno fun e => he e.symm : n ∉ l.take (k + 1))
        have hd : (x == n) = false := by simpa using he
        clear hno hx hg hrg
        go_wp2_with fail
        exact ⟨⟨k + 1, rfl, by omega, unhide NO, trivial⟩, by simp [RowKit.intOf]; omega⟩
    · have hke : k = l.length := by omega
      have NO : Hid (decide (n ∈ l) = false) := hide (decide_eq_false (by rw [hke, List.take_length] at hno; exact hno))
      clear hno hke
      go_wp2_with fail
      go_ret
      exact ⟨by rw [unhide NO]; rfl, unhide FIN⟩
set_option maxRecDepth 100000 in
set_option maxHeartbeats 1000000 in
theorem rlow_any {w : World} {a : Option Addr} {c : Nat} {l : List Int} (h : IntK.At w a l) (hl : l.length ≤ 1000000000000) {s : AckV} (hr : RelA s l) :
    Calls Try.prog 20 #[.agg #[.slice a l.length c]] w fun e w' => e = .returned (.int .i64 s.low) ∧ Below w.heap.size w w' := by
  obtain ⟨H, hH⟩ : ∃ H, H = w.heap.size := ⟨_, rfl⟩
  obtain ⟨W, hW⟩ : ∃ W, W = w.alloc (.cells #[.slice a l.length c] 35) := ⟨_, rfl⟩
  have bW : Below w.heap.size w W := by rw [hW]; exact (Below.refl _ _).alloc (Nat.le_refl _) _
  have c0 : W.cell? ⟨H, 0, none⟩ = some (.slice a l.length c) := by rw [hW, hH]; exact (row_new w [.slice a l.length c] 35).cell 0 (Nat.succ_pos _)
  have hHW : H < W.heap.size := World.block_lt_of_cell? _ _ c0
  have HA := hide (h.below (Nat.le_refl _) bW)
  have FIN := hide bW
  have HW := hide hW
  have HH := hide hH
  have HL := hide hl
  have HR := hide hr
  have h0 := hr.fine.lo
  have h1 := hr.fine.hi
  have C0 := hide c0
  clear hW hH bW h hl hr c0
  go_enter Try.func20, Try.ntmps20
  go_upto_region 1 with fail
  simp only [← unhide HH]
  rw [← unhide HW]
  go_wp2_with fail
  go_loopw [3] (fun i wr => ∃ n : Int, i = .int .i64 n ∧ 0 ≤ n ∧ n ≤ s.low ∧ Below W.heap.size W wr) (fun i _ => (s.low - RowKit.intOf i).toNat)
  case atStart => exact ⟨0, rfl, Int.le_refl _, h0, Below.refl _ _⟩
  case round =>
    obtain ⟨n, rfl, hn0, hn1, hb⟩ := hrel
    have c1 : wr.cell? ⟨H, 0, none⟩ = some (.slice a l.length c) := (hb.cell (p := ⟨H, 0, none⟩) hHW).trans (unhide C0)
    have hwn : IntKind.i64.wrap (n + 1) = n + 1 := Go.IntWalk.i64_in _ (by omega)
    have hh := rhas_any (c := c) ((unhide HA).below (Nat.le_refl _) hb) (unhide HL) (n + 1)
    rw [rel_dec (unhide HR)] at hh
    have HB := hide hb
    clear hb
    by_cases hlt : n < s.low
    · have hs : s.has (n + 1) = true := has_iff.2 (.inl (by omega))
      rw [hs] at hh
      clear hs
      go_wp2_with fail
      refine hh.mono ?_
      rintro e w2 ⟨rfl, b2⟩
      have B2 := hide ((unhide HB).trans (b2.mono (unhide HB).size))
      clear hh b2
      go_wp2_with fail
      exact ⟨⟨n + 1, rfl, by omega, by omega, unhide B2⟩, by simp [RowKit.intOf]; omega⟩
    · have hs : s.has (n + 1) = false := by
        cases hc : s.has (n + 1) with
        | false => rfl
        | true =>
          rcases has_iff.1 hc with e | e
          · omega
          · have := ((unhide HR).fine.beh _ e).1; omega
      rw [hs] at hh
      have hne : Hid (n = s.low) := hide (by omega)
      clear hs
      go_wp2_with fail
      refine hh.mono ?_
      rintro e w2 ⟨rfl, b2⟩
      have B2 := hide ((unhide FIN).trans (((unhide HB).trans (b2.mono (unhide HB).size)).mono (unhide FIN).size))
      clear hh b2
      go_wp2_with fail
      go_ret
      exact ⟨by rw [← unhide hne]; rfl, unhide B2⟩
end Go.Proofs.Ytdmjkbcjljnleaa

/- A slice of windows that came in: its cells, out of the row's reading; what is too great. No conditions. -/
import Derived.Test.YtmgmkdkdpeljmaaR2
import Derived.Test.YtmgmkdkdpeljmaaR3
import Derived.Deep.Fields
import Derived.Test.YtmgmkdkdpeljmaaChain
namespace Go.Proofs.Ytmgmkdkdpeljmaa
open Go.RowKit Go.ChangeShapes Go.WideShapes
def winNone : Win AggV := ⟨[], 0, zero⟩
def OkW (x : Win AggV) : Prop := x.agg.In ∧ okk x.key x.start
structure IsOuts (w : World) (a : Option Addr) (len cap : Nat) (z : List (Win AggV)) : Prop where
  size_ : z.length = len
  max : len ≤ maxLen
  at_ : ∀ k, k < len → ∃ b o, a = some ⟨b, o, none⟩ ∧ w.rangeAt b (o + k * 10) (outV (z.getD k winNone)) ∧ OkW (z.getD k winNone) ∧ b < w.heap.size
set_option maxRecDepth 100000 in
theorem outs_of {H : Type} {enc : TypeId × Value → H} {w : World} {base : Nat} {spare : Nat → Bool} {held : Bool} {a : Option Addr} {len cap : Nat} {d : DataW H} {pl : List MemPlace}
    (h : DataW.Trod enc Try.prog w base spare held 28 (.slice a len cap) d pl) : ∃ z : List (Win AggV), IsOuts w a len cap z := by
  obtain ⟨fuel, hf⟩ := h
  rcases Go.Deep.open_slice Try.underlying28 hf with ⟨hcs, _⟩ | ⟨x, l, c, m, n, D, Pl, hcs, hb, hl, hm, hmm, _, hel⟩
  · simp [Value.cells] at hcs
    obtain ⟨rfl, rfl, rfl⟩ := hcs
    exact ⟨[], rfl, by unfold maxLen; omega, fun k hk => absurd hk (Nat.not_lt_zero _)⟩
  · simp [Value.cells] at hcs
    obtain ⟨rfl, rfl, rfl⟩ := hcs
    rw [mcells38] at hel
    have hlm : len ≤ m := by rw [hmm]; split <;> omega
    have len10 : ∀ p : Win AggV, (outV p).length = 10 := fun p => rfl
    have hp : ∀ k, k < len → ∃ p : Win AggV, OkW p ∧ (∃ b o, x = ⟨b, o, none⟩ ∧ w.rangeAt b (o + k * 10) (outV p) ∧ b < w.heap.size) := fun k hk => by
      obtain ⟨cs', h1, h2⟩ := hel k (by omega)
      obtain ⟨p, hin, hst, hkl, rfl⟩ := out_in h2
      obtain ⟨_, _, hc⟩ := World.cells?_some h1
      obtain ⟨b, o, spot⟩ := x
      have hspot : spot = none := by
        obtain ⟨cs0, i1, i2⟩ := hel 0 (by omega)
        obtain ⟨p0, _, _, _, rfl⟩ := out_in i2
        obtain ⟨_, _, hc'⟩ := World.cells?_some i1
        have := World.cell?_spot (w := w) (hc' 0 (by omega))
        simpa [Addr.add] using this
      subst hspot
      have cell : ∀ j, j < 10 → w.cell? ⟨b, o + k * 10 + j, none⟩ = (outV p)[j]? := fun j hj => by
        have := hc j hj
        rwa [Go.Deep.add_add, Addr.add_lit, ← Nat.add_assoc] at this
      have k0 : w.cell? ⟨b, o + k * 10 + 0, none⟩ = some (.string ⟨p.key.toArray⟩) := cell 0 (by omega)
      refine ⟨p, ⟨hin, hkl, hst⟩, b, o, rfl, fun j u hu => ?_, World.block_lt_of_cell? _ _ k0⟩
      have hj : j < 10 := by rw [← len10 p]; exact (List.getElem?_eq_some_iff.1 hu).1
      rw [cell j hj, hu]
    have ih : Inhabited (Win AggV) := ⟨winNone⟩
    obtain ⟨f, hf⟩ := Go.Deep.choose_lt (p := fun k p => OkW p ∧ (∃ b o, x = ⟨b, o, none⟩ ∧ w.rangeAt b (o + k * 10) (outV p) ∧ b < w.heap.size)) hp
    refine ⟨(List.range len).map f, by simp, by omega, fun k hk => ?_⟩
    have e : ((List.range len).map f).getD k winNone = f k := by simp [List.getD_eq_getElem?_getD, hk]
    rw [e]
    obtain ⟨ok, b, o, rfl, hat, hlt⟩ := hf k hk
    exact ⟨b, o, rfl, hat, ok, hlt⟩
theorem range_below {w w' : World} {b o : Nat} {cs : List Value} (h : w.rangeAt b o cs) (hlt : b < w.heap.size) (hb : Below w.heap.size w w') : w'.rangeAt b o cs := fun j u hu =>
  ((Moved.of_below (F := fun _ => False) hb).cell (p := ⟨b, o + j, none⟩) hlt id).trans (h j u hu)
theorem IsOuts.below {w w' : World} {a : Option Addr} {len cap : Nat} {z : List (Win AggV)} (h : IsOuts w a len cap z) (hb : Below w.heap.size w w') : IsOuts w' a len cap z :=
  ⟨h.size_, h.max, fun k hk => by
    obtain ⟨b, o, e, hp, ok, hlt⟩ := h.at_ k hk
    exact ⟨b, o, e, range_below hp hlt hb, ok, Nat.lt_of_lt_of_le hlt hb.size⟩⟩
theorem IsOuts.ok {w : World} {a : Option Addr} {len cap : Nat} {z : List (Win AggV)} (h : IsOuts w a len cap z) : ∀ x ∈ z, OkW x := fun p hp => by
  obtain ⟨k, hk, rfl⟩ := List.mem_iff_getElem.1 hp
  obtain ⟨_, _, _, _, ok, _⟩ := h.at_ k (by rw [← h.size_]; exact hk)
  rw [List.getD_eq_getElem?_getD, List.getElem?_eq_getElem hk] at ok
  exact ok
theorem IsOuts.at {w : World} {a : Option Addr} {len cap : Nat} {z : List (Win AggV)} (h : IsOuts w a len cap z) {k : Nat} {x : Win AggV} (hx : z[k]? = some x) : ∃ b o, a = some ⟨b, o, none⟩ ∧ w.rangeAt b (o + k * 10) (outV x) ∧ b < w.heap.size := by
  obtain ⟨b, o, e, hp, _, hlt⟩ := h.at_ k (by rw [← h.size_]; exact (List.getElem?_eq_some_iff.1 hx).1)
  rw [List.getD_eq_getElem?_getD, hx] at hp
  exact ⟨b, o, e, hp, hlt⟩
/-- Too long a key. -/
def longW (p : Win AggV) : Bool := decide (100 < p.key.length)
/-- More than 60 windows, or a key of more than 100 bytes. -/
def tooGreatW (z : List (Win AggV)) : Bool := decide (60 < z.length) || z.any longW
theorem anyW_at {z : List (Win AggV)} {k : Nat} (hk : k < z.length) (h : longW (z.getD k winNone) = true) : z.any longW = true := by
  rw [List.getD_eq_getElem?_getD, List.getElem?_eq_getElem hk] at h
  exact List.any_eq_true.2 ⟨_, List.getElem_mem hk, h⟩
theorem anyW_none {z : List (Win AggV)} (h : ∀ k, k < z.length → longW (z.getD k winNone) = false) : z.any longW = false := by
  rw [List.any_eq_false]
  intro p hp
  obtain ⟨k, hk, rfl⟩ := List.mem_iff_getElem.1 hp
  have := h k hk
  rw [List.getD_eq_getElem?_getD, List.getElem?_eq_getElem hk] at this
  simpa using this
set_option maxRecDepth 100000 in
set_option maxHeartbeats 2000000 in
theorem greatW_any (a : Option Addr) (len cap : Nat) (z : List (Win AggV)) (w : World) (hs : IsOuts w a len cap z) :
    Calls Try.prog 20 #[.slice a len cap] w fun e w' => e = .returned (.bool (tooGreatW z)) ∧ w' = w := by
  have HS := hide hs
  have hz := hs.size_
  have HZ := hide hz
  clear hs
  by_cases h200 : (60 : Int) < (len : Int)
  · have HG : Hid (tooGreatW z = true) := hide (by unfold tooGreatW; rw [hz, show decide (60 < len) = true from decide_eq_true (by omega)]; rfl)
    clear hz
    go_enter Try.func20, Try.ntmps20
    go_wp2_with fail
    go_ret
    exact ⟨by rw [unhide HG]; rfl, rfl⟩
  · have HG : Hid (tooGreatW z = z.any longW) := hide (by unfold tooGreatW; rw [hz, show decide (60 < len) = false from decide_eq_false (by omega)]; rfl)
    clear hz
    go_enter Try.func20, Try.ntmps20
    go_wp2_with fail
    go_loop [3] (fun i => ∃ k : Nat, k ≤ len ∧ i = .int .i64 k ∧ Hid (∀ j, j < k → longW (z.getD j winNone) = false)) (fun i => len - (intOf i).toNat)
    case atStart => exact ⟨0, by omega, rfl, hide fun j hj => absurd hj (Nat.not_lt_zero _)⟩
    case round =>
      obtain ⟨k, hk, rfl, HA⟩ := hrel
      by_cases hlt : k < len
      · have g1 : (k : Int) < (len : Int) := by omega
        have hk0 : (0 : Int) ≤ (k : Int) := by omega
        have hwk : IntKind.i64.wrap ((k : Int) + 1) = (k : Int) + 1 := Go.IntWalk.i64_in _ (by omega)
        obtain ⟨b, o, rfl, hat, ok, _⟩ := (unhide HS).at_ k hlt
        have hc1 : w.cell? ⟨b, o + k * 10, none⟩ = some (.string ⟨(z.getD k winNone).key.toArray⟩) := hat 0 _ rfl
        have HAT : Hid (longW (z.getD k winNone) = true → tooGreatW z = true) := hide fun h => by rw [unhide HG]; exact anyW_at (by rw [unhide HZ]; exact hlt) h
        have HAN : Hid (longW (z.getD k winNone) = false → ∀ j, j < k + 1 → longW (z.getD j winNone) = false) := hide fun h j hj => by
          by_cases e : j = k
          · rw [e]; exact h
          · exact unhide HA j (by omega)
        clear hat ok HA
        generalize z.getD k winNone = y at *
        obtain ⟨yk, ya, yn⟩ := y
        dsimp only at hc1
        have hz1 : (⟨yk.toArray⟩ : ByteArray).size = yk.length := by simp [ByteArray.size]
        by_cases h1 : (100 : Int) < (yk.length : Int)
        · have RR := hide (unhide HAT (by unfold longW; simp; omega))
          go_wp2_with fail
          go_ret
          exact ⟨by rw [unhide RR]; rfl, rfl⟩
        · have RR := hide (unhide HAN (by unfold longW; simp; omega))
          go_wp2_with fail
          go_round
          case rel => exact ⟨k + 1, by omega, by go_num, RR⟩
          case measure => simp [intOf]; omega
      · have g1 : ¬ (k : Int) < (len : Int) := by omega
        have hke : k = len := by omega
        have RR : Hid (tooGreatW z = false) := hide (by rw [unhide HG]; exact anyW_none (fun j hj => unhide HA j (by rw [hke, ← unhide HZ]; exact hj)))
        go_wp2_with fail
        go_ret
        exact ⟨by rw [unhide RR]; rfl, rfl⟩
end Go.Proofs.Ytmgmkdkdpeljmaa

namespace Go.Proofs.Ytmgmkdkdpeljmaa
open Go.RowKit
set_option maxRecDepth 100000 in
set_option maxHeartbeats 8000000 in
theorem tofx_any {v : World} {a : Option Addr} {c : Nat} {o : List (Win AggV)} (m : Int) (hlay : IsOuts v a o.length c o) (hmost : o.length ≤ 1000) (hx : ∀ x ∈ o, x.agg.In ∧ okk x.key x.start) :
    Calls Try.prog 22 #[.int .i64 m, .slice a o.length c] v fun e v' => ∃ pt, e = .returned (.tuple #[.pointer pt, .int .i64 ((ofL m o).2 : Int)]) ∧ Below v.heap.size v v' ∧
      ((ofL m o).2 = 0 → ∃ p, pt = some ⟨p, 0, none⟩ ∧ HL v v' p (ofL m o).1 [] ∧ Mild (ofL m o).1.row) ∧ (¬ (ofL m o).2 = 0 → pt = none) := by
  have CR := hide (fun u => Sp.right_any m u)
  have LAY := hide hlay
  have HX := hide hx
  clear hlay hx
  cases hr : Sp.rightI m with
  | false =>
    have HO : Hid (ofL m o = (newL, 1)) := hide (by unfold ofL; rw [hr]; rfl)
    rw [hr] at CR
    clear hr
    go_enter Try.func22, Try.ntmps22
    go_wp2_with fail
    refine (unhide CR _).mono ?_
    rintro e v' ⟨rfl, hw⟩
    rw [hw]
    clear hw v'
    go_wp2_with fail
    go_ret2
    exact ⟨none, by rw [unhide HO]; rfl, Below.refl _ _, fun h => (by rw [unhide HO] at h; cases h), fun _ => rfl⟩
  | true =>
    have HO : Hid (ofL m o = (⟨m, (setAll m [] o).1⟩, (setAll m [] o).2)) := hide (by unfold ofL; rw [hr]; rfl)
    rw [unhide HO]
    rw [hr] at CR
    have CN := hide (tnew_any v)
    clear hr HO
    go_enter Try.func22, Try.ntmps22
    go_upto_region 3 with fail
    refine (unhide CR _).mono ?_
    rintro e v' ⟨rfl, hw⟩
    rw [hw]
    clear hw v' CR
    go_upto_region 4 with fail
    refine (unhide CN).mono ?_
    rintro e u1 ⟨p, F, rfl, hl, hbig, hb⟩
    obtain ⟨q, G, hf, rfl⟩ := hl
    have k1 : u1.cell? ⟨p, 1, none⟩ = some (.int .i64 0) := hf.row.cell 1 (Nat.lt_of_sub_pos (Nat.succ_pos _))
    have f1 : u1.frozen? ⟨p, 1, none⟩ = false := hf.row.free 1 (Nat.lt_of_sub_pos (Nat.succ_pos _))
    obtain ⟨u2, hu2⟩ : ∃ u2, u2 = u1.setCell ⟨p, 1, none⟩ (.int .i64 m) := ⟨_, rfl⟩
    have m2 : Moved (fun k => k = p) u1 u2 := by rw [hu2]; exact moved_set u1 p 1 _
    have START : Hid (OfS v u2 p q G ⟨m, []⟩) := hide ⟨⟨by rw [hu2]; exact hf.row.set 1 (Nat.lt_of_sub_pos (Nat.succ_pos _)) _, hf.st.keep m2 (fun i hi g => hf.off (hi ▸ g)), hf.off⟩, hbig, ((Moved.of_below (F := fun k => k = p) hb).trans m2 (fun _ hi => .inl hi)).below (fun i hi => hbig i (.inl hi)) (Nat.le_refl _)⟩
    have HU2 := hide hu2
    clear hf hbig hb m2 hu2 CN
    go_upto_region 5 with fail
    rw [← unhide HU2]
    clear HU2 k1 f1
    have ho0 : (0 : Int) ≤ (o.length : Int) := by omega
    go_wp2_with fail
    go_loopw [20] (fun i wr => ∃ (k : Nat) (r : List (Win AggV)), i = .int .i64 (k : Int) ∧ k ≤ o.length ∧ (∃ G, OfS v wr p q G ⟨m, r⟩) ∧ Mild r ∧ Hid (setAll m [] o = setAll m r (o.drop k))) (fun i _ => o.length - (intOf i).toNat)
    case atStart => exact ⟨0, [], rfl, Nat.zero_le _, ⟨G, unhide START⟩, mild_nil, hide (by rw [List.drop_zero])⟩
    case round =>
      obtain ⟨k, r, rfl, hk, hs, hmm, HA⟩ := hrel
      have HS := hide hs
      have HMM := hide hmm
      clear hs hmm START
      by_cases hlt : k < o.length
      · have g1 : (k : Int) < (o.length : Int) := by omega
        have hk0 : (0 : Int) ≤ (k : Int) := by omega
        have hwk : IntKind.i64.wrap ((k : Int) + 1) = (k : Int) + 1 := Go.IntWalk.i64_in _ (by omega)
        obtain ⟨x, hx⟩ : ∃ x, o[k]? = some x := ⟨_, List.getElem?_eq_getElem hlt⟩
        have HXX := hide (unhide HX x (List.mem_of_getElem? hx))
        have hdrop : o.drop k = x :: o.drop (k + 1) := by rw [List.drop_eq_getElem_cons hlt, (List.getElem?_eq_some_iff.1 hx).2]
        rw [hdrop] at HA
        obtain ⟨G1, hs⟩ := unhide HS
        obtain ⟨g, og, rfl, hra, _⟩ := ((unhide LAY).below hs.bel).at hx
        have HRA := hide hra
        clear hx hdrop hra HS
        obtain ⟨xk, xs, ⟨g0, g1', g2, g3, g4, g5, g6, g7⟩⟩ := x
        simp only [outV_eq] at HRA
        obtain ⟨w1, hw1⟩ : ∃ w1, w1 = wr.alloc (.cells #[.string ⟨xk.toArray⟩, .int .i64 xs, .int .i64 g0, .int .i64 g1', .int .i64 g2, .int .i64 g3, .int .i64 g4, .int .i64 g5, .int .i64 g6, .int .i64 g7] 38) := ⟨_, rfl⟩
        obtain ⟨b, hb⟩ : ∃ b, b = wr.heap.size := ⟨_, rfl⟩
        have S1 := hide (hs.below (by rw [hw1]; exact (Below.refl _ _).alloc (Nat.le_refl _) _) : OfS v w1 p q G1 ⟨m, r⟩)
        have R1 : Hid (RowAt w1 b [.string ⟨xk.toArray⟩, .int .i64 xs, .int .i64 g0, .int .i64 g1', .int .i64 g2, .int .i64 g3, .int .i64 g4, .int .i64 g5, .int .i64 g6, .int .i64 g7]) := hide (by rw [hw1, hb]; exact row_new _ _ _)
        have hnb : ¬ (b = p ∨ G1 b) := fun h => by
          rw [hb] at h
          rcases h with h | h
          · have := hs.line.row.lt; omega
          · have := hs.line.st.lt _ h; omega
        have HNB := hide hnb
        have HW1 := hide hw1
        have HBB := hide hb
        clear hs hw1 hb hnb
        have CO := hide (fun u => Sp.over_any xs m u)
        go_upto_region 8 with (refine wpList_load_on rfl 38 (.tmp 22) rfl g (og + k * 10) rfl [.string ⟨xk.toArray⟩, .int .i64 xs, .int .i64 g0, .int .i64 g1', .int .i64 g2, .int .i64 g3, .int .i64 g4, .int .i64 g5, .int .i64 g6, .int .i64 g7] _ (unhide HRA) Try.underlying38 rfl (by kernel_rfl) ?_)
        rw [← unhide HBB]
        try change Code.wp _ _ _ _ (wr.alloc (.cells #[.string ⟨xk.toArray⟩, .int .i64 xs, .int .i64 g0, .int .i64 g1', .int .i64 g2, .int .i64 g3, .int .i64 g4, .int .i64 g5, .int .i64 g6, .int .i64 g7] 38))
        rw [← unhide HW1]
        clear HRA
        have k1 : w1.cell? ⟨b, 1, none⟩ = some (.int .i64 xs) := (unhide R1).cell 1 (by simp)
        go_upto_region 9 with fail
        refine (unhide CO _).mono ?_
        rintro e v' ⟨rfl, hw⟩
        rw [hw]
        clear hw v' CO k1
        cases hov : Sp.overI xs m with
        | true =>
          have HE := hide ((unhide HA).trans (setAll_over hov))
          have BB := hide (unhide S1).bel
          clear HA hov S1
          go_wp2_with fail
          go_ret2
          exact ⟨none, by rw [unhide HE]; rfl, unhide BB, fun h => (by rw [unhide HE] at h; cases h), fun _ => rfl⟩
        | false =>
          have CS := hide (set_any ((unhide S1).line.st.keep ((Moved.refl (fun _ => False) w1).drew) (fun _ f => f.elim)) (unhide HMM).most ⟨xk, xs, ⟨g0, g1', g2, g3, g4, g5, g6, g7⟩⟩ (unhide HXX).1 (unhide HXX).2)
          simp only [outV_eq] at CS
          obtain ⟨CL, hCL⟩ : ∃ CL : World → Prop, CL = fun u => Moved G1 w1 u := ⟨_, rfl⟩
          have un : ∀ u, CL u → Moved G1 w1 u := fun u k => by rw [hCL] at k; exact k
          have TO : Hid (∀ u, Moved G1 w1 u → CL u) := hide fun u k => by rw [hCL]; exact k
          have base : CL w1.drew := unhide TO _ ((Moved.refl _ _).drew)
          have q0 : ∀ u : SW CL, u.w.cell? ⟨p, 0, none⟩ = some (.pointer (some ⟨q, 0, none⟩)) := fun u => ((unhide S1).line.row.keep (un _ u.ok) (unhide S1).line.off).cell 0 (Nat.succ_pos _)
          have RB : Hid (∀ u, (∃ y : SW CL, u = y.w) → u.rangeAt b 0 [.string ⟨xk.toArray⟩, .int .i64 xs, .int .i64 g0, .int .i64 g1', .int .i64 g2, .int .i64 g3, .int .i64 g4, .int .i64 g5, .int .i64 g6, .int .i64 g7]) := hide (by rintro u ⟨y, rfl⟩; exact ((unhide R1).keep (un _ y.ok) (fun g => unhide HNB (.inr g))).range)
          have HOV := hide hov
          clear hCL un hov
          go_upto_region 10 with fail
          refine wp_region_chain (S := CL) [true, true, true, true, true, false, false] [false, false, false, false, false, true, true] (by kernel_rfl) (by kernel_rfl) (by kernel_rfl) base ?_
          apply Exists.intro
          apply And.intro
          · intro u
            have n0 : Nonempty (SK CL u.w) := ⟨⟨u, rfl⟩⟩
            simp only [pickM]
            repeat (go_big_quiet_step (fail))
            refine wpQuiet_load_onx rfl 38 (.tmp 8) rfl b 0 rfl [.string ⟨xk.toArray⟩, .int .i64 xs, .int .i64 g0, .int .i64 g1', .int .i64 g2, .int .i64 g3, .int .i64 g4, .int .i64 g5, .int .i64 g6, .int .i64 g7] _ (fun y ⟨q1, hq⟩ => by rw [hq]; exact unhide RB _ ⟨q1.s, rfl⟩) Try.underlying38 rfl (by kernel_rfl) ?_
            go_simp
            exact wpQuiet_nil rfl
          · simp only [pickZ]
            refine chain_call 37 #[.pointer (some ⟨q, 0, none⟩), .agg #[.string ⟨xk.toArray⟩, .int .i64 xs, .int .i64 g0, .int .i64 g1', .int .i64 g2, .int .i64 g3, .int .i64 g4, .int .i64 g5, .int .i64 g6, .int .i64 g7]] rfl (by simp [go_sem]) ?_
            refine (unhide CS).mono ?_
            rintro e w2 ⟨rfl, hd⟩
            have hd' : Did w1 w2 q G1 (setS SO r ⟨xk, xs, ⟨g0, g1', g2, g3, g4, g5, g6, g7⟩⟩).1 := Did.trans (fun _ f => .inl f) ((Moved.refl _ w1).drew) hd
            refine ⟨_, rfl, unhide TO _ (by obtain ⟨_, _, _, mm⟩ := hd'; exact mm), ?_⟩
            have S2 := hide ((unhide S1).did hd')
            have CL2 := hide (unhide TO w2 (by obtain ⟨_, _, _, mm⟩ := hd'; exact mm))
            have HM2 := hide (mild_set (unhide HMM) (x := ⟨xk, xs, ⟨g0, g1', g2, g3, g4, g5, g6, g7⟩⟩) (unhide HXX).1)
            clear hd hd' CS q0 base
            by_cases h0 : (setS SO r ⟨xk, xs, ⟨g0, g1', g2, g3, g4, g5, g6, g7⟩⟩).2 = 0
            · have HA2 := hide ((unhide HA).trans (setAll_set (unhide HOV) h0))
              rw [h0]
              clear HA h0
              go_simp
              refine chain_step (.int .i64 0) w2 rfl (by simp [go_sem]) (unhide CL2) ?_
              simp only [chainM]
              go_simp
              go_wp2_with fail
              exact ⟨⟨k + 1, _, rfl, by omega, unhide S2, unhide HM2, HA2⟩, by simp [intOf]; omega⟩
            · have HE := hide ((unhide HA).trans (setAll_no (unhide HOV) h0))
              have hz : ¬ (((setS SO r ⟨xk, xs, ⟨g0, g1', g2, g3, g4, g5, g6, g7⟩⟩).2 : Nat) : Int) = 0 := by omega
              have HZ := hide h0
              obtain ⟨ec, hec⟩ : ∃ ec : Int, ec = (((setS SO r ⟨xk, xs, ⟨g0, g1', g2, g3, g4, g5, g6, g7⟩⟩).2 : Nat) : Int) := ⟨_, rfl⟩
              rw [← hec] at hz ⊢
              have HEC := hide hec
              clear HA h0 hec
              go_simp
              refine chain_step (.int .i64 ec) w2 rfl (by simp [go_sem]) (unhide CL2) ?_
              simp only [chainM]
              go_simp
              go_wp2_with fail
              go_ret2
              obtain ⟨_, s2⟩ := unhide S2
              exact ⟨none, by rw [unhide HE, unhide HEC]; rfl, s2.bel, fun h => (by rw [unhide HE] at h; exact absurd h (unhide HZ)), fun _ => rfl⟩
      · have g1 : ¬ (k : Int) < (o.length : Int) := by omega
        have hke : k = o.length := by omega
        subst hke
        obtain ⟨G1, hs⟩ := unhide HS
        have HE : Hid (setAll m [] o = (r, 0)) := hide (by rw [unhide HA, List.drop_length]; rfl)
        have S1 := hide hs
        clear hs HS HA
        go_wp2_with fail
        go_ret2
        exact ⟨_, by rw [unhide HE]; rfl, (unhide S1).bel, fun _ => ⟨p, rfl, by rw [unhide HE]; exact (unhide S1).hl, by rw [unhide HE]; exact unhide HMM⟩, fun h => (by rw [unhide HE] at h; exact absurd rfl h)⟩
end Go.Proofs.Ytmgmkdkdpeljmaa

namespace Go.Proofs.Ytmgmkdkdpeljmaa
section
variable {P : Program} {ops : Array Oper} {md : Region.Mode} {S : World → Prop}
/-- A call among those that turn the world, whatever guards it. -/
theorem chain_call_on {K : Act → World → Prop} {j : Nat} {o : Oper} {l : List (Nat × Oper)} {a : Act} {w : World} (f : FuncId) (args : Array Value) (hw : Region.wanted o (yielded ops a.tmps) = true) (hr : (execOp a.eval o).run P w = .ok (.enter f args) w)
    (h : Calls P f args w fun e w' => ∃ v, e = .returned v ∧ S w' ∧ chainM P md ops S K l (a.put o.dst v) w') : chainM P md ops S K ((j, o) :: l) a w := by
  refine ⟨hw, ?_⟩
  unfold goes
  rw [hr]
  exact h.mono fun e w' ⟨v, he, hS, hc⟩ => ⟨v, he, fun _ => hS, hc⟩
theorem chain_step_on {K : Act → World → Prop} {j : Nat} {o : Oper} {l : List (Nat × Oper)} {a : Act} {w : World} (v : Value) (w' : World) (hw : Region.wanted o (yielded ops a.tmps) = true) (hr : (execOp a.eval o).run P w = .ok (.value v) w') (hS : S w')
    (h : chainM P md ops S K l (a.put o.dst v) w') : chainM P md ops S K ((j, o) :: l) a w := by
  refine ⟨hw, ?_⟩
  unfold goes
  rw [hr]
  exact ⟨fun _ => hS, h⟩
/-- Steps: quiet ones (true), and such as turn the world. -/
def seqZ (md : Region.Mode) (ops : Array Oper) : List (Bool × Nat × Oper) → Array Bool → Bool
  | [], listed => Region.ready md ops listed == []
  | (true, z) :: Z, listed => (Region.ready md ops listed).contains z.1 && freeB md ops listed z.1 z.2 && seqZ md ops Z (listed.setIfInBounds z.1 true)
  | (false, z) :: Z, listed => (Region.ready md ops listed == [z.1]) && seqZ md ops Z (listed.setIfInBounds z.1 true)
def seqM (P : Program) (md : Region.Mode) (ops : Array Oper) (S : World → Prop) (K : Act → World → Prop) : List (Bool × Nat × Oper) → Act → World → Prop
  | [], a, w => K a w
  | (true, z) :: l, a, w => S w ∧ ∃ v, YieldsS P ops S z.2 v a ∧ seqM P md ops S K l (a.put z.2.dst v) w
  | (false, z) :: l, a, w => Region.wanted z.2 (yielded ops a.tmps) = true ∧ goes P z.2 a w (fun a' w' => (needB md ops z.1 = true → S w') ∧ seqM P md ops S K l a' w')
theorem wpS_seq {K : Act → World → Prop} (hs : Region.noSelect ops = true) : ∀ (Z : List (Bool × Nat × Oper)) (listed : Array Bool) (a : Act) (w : World), (∀ z ∈ Z, ops[z.2.1]? = some z.2.2) → seqZ md ops Z listed = true → seqM P md ops S K Z a w → wpS P md ops S K Z.length listed a w
  | [], _, _, _, _, hB, h => ⟨by simpa [seqZ] using hB, h⟩
  | (true, z) :: Z, listed, a, w, hz, hB, h => by
    simp only [seqZ, Bool.and_eq_true] at hB
    obtain ⟨⟨hr, hf⟩, hB'⟩ := hB
    obtain ⟨hS, v, hy, hK⟩ := h
    exact wpS_first (hz (true, z) List.mem_cons_self) (Region.noSelect_spec hs) _ listed a w (free_of hf) (by simpa using hr) hy hS
      (wpS_seq hs Z _ _ _ (fun y hy => hz y (List.mem_cons_of_mem _ hy)) hB' hK)
  | (false, z) :: Z, listed, a, w, hz, hB, h => by
    simp only [seqZ, Bool.and_eq_true, beq_iff_eq] at hB
    refine ⟨fun h0 => (by rw [hB.1] at h0; cases h0), fun i hi => ?_⟩
    rw [hB.1, List.mem_singleton] at hi
    subst hi
    unfold sOp
    simp only [hz (false, z) List.mem_cons_self]
    obtain ⟨hw, hg⟩ := h
    rw [if_pos hw]
    exact goes_mono (fun a' w' ⟨h1, h2⟩ => ⟨h1, wpS_seq hs Z _ a' w' (fun y hy => hz y (List.mem_cons_of_mem _ hy)) hB.2 h2⟩) hg
theorem seqM_quiet {K : Act → World → Prop} {Q : Act → Prop} {rest : List (Bool × Nat × Oper)} {w : World} (hS : S w) (hQ : ∀ a, Q a → seqM P md ops S K rest a w) :
    ∀ (Z : List (Nat × Oper)) (a : Act), allS P ops S Q (Z.map Prod.snd) a → seqM P md ops S K (Z.map (fun z => (true, z)) ++ rest) a w
  | [], a, h => hQ a h
  | _ :: Z, _, h => by
    obtain ⟨v, hy, hK⟩ := h
    exact ⟨hS, v, hy, seqM_quiet hS hQ Z _ hK⟩
theorem seqM_chain {K K' : Act → World → Prop} {rest : List (Bool × Nat × Oper)} (hK : ∀ a w, K' a w → seqM P md ops S K rest a w) :
    ∀ (Z : List (Nat × Oper)) (a : Act) (w : World), chainM P md ops S K' Z a w → seqM P md ops S K (Z.map (fun z => (false, z)) ++ rest) a w
  | [], a, w, h => hK a w h
  | _ :: Z, _, _, h => ⟨h.1, goes_mono (fun a' w' ⟨h1, h2⟩ => ⟨h1, seqM_chain hK Z a' w' h2⟩) h.2⟩
def tag (b : Bool) (Z : List (Nat × Oper)) : List (Bool × Nat × Oper) := Z.map (fun z => (b, z))
/-- May it be walked so? m1, m3: those that yield, m2, m4: those that turn the world. -/
def seqB (os : List Oper) (m1 m2 m3 m4 : List Bool) : Bool :=
  Region.noSelect os.toArray && decide ((pickZ m1 os 0).length + (pickZ m2 os 0).length + (pickZ m3 os 0).length + (pickZ m4 os 0).length = os.length) &&
    seqZ .any os.toArray (tag true (pickZ m1 os 0) ++ (tag false (pickZ m2 os 0) ++ (tag true (pickZ m3 os 0) ++ tag false (pickZ m4 os 0)))) (Array.replicate os.length false)
theorem wp_region_seq {S : World → Prop} {os : List Oper} {id : Nat} {Q : Exit → Act → World → Prop} {a : Act} {w : World} (m1 m2 m3 m4 : List Bool) (hm : P.follows .mixedOrders = true) (hB : seqB os m1 m2 m3 m4 = true) (hA : apartB (pickM m1 os) a.tmps.size = true) (hS : S w.drew)
    (h : ∃ A, (∀ p : SW S, wpQuiet P os.toArray (fun w' => ∃ q : SK S p.w, w' = q.s.w) (fun a' => a' = A) (pickM m1 os) a) ∧ chainM P .any os.toArray S (fun a2 w2 => S w2 ∧ apartB (pickM m3 os) a2.tmps.size = true ∧
      ∃ A2, (∀ p : SW S, wpQuiet P os.toArray (fun w' => ∃ q : SK S p.w, w' = q.s.w) (fun a' => a' = A2) (pickM m3 os) a2) ∧ chainM P .any os.toArray S (fun a' w' => Q .normal a' w') (pickZ m4 os 0) A2 w2) (pickZ m2 os 0) A w.drew) : (Code.region id os.toArray true).wp P Q a w := by
  obtain ⟨A, hq, hc⟩ := h
  simp only [seqB, Bool.and_eq_true, decide_eq_true_eq] at hB
  obtain ⟨⟨hs, hlen⟩, hZ⟩ := hB
  have hz : ∀ m, ∀ z ∈ pickZ m os 0, os.toArray[z.1]? = some z.2 := fun m z hz => by
    rw [List.getElem?_toArray]; simpa using (pickZ_mem m os 0 z hz).2
  refine wp_region_any hm (wpAny_of_S (S := S) (K := fun a' w' => Q .normal a' w') (fun _ _ h => h) _ _ _ _ ?_)
  have hall : ∀ z ∈ tag true (pickZ m1 os 0) ++ (tag false (pickZ m2 os 0) ++ (tag true (pickZ m3 os 0) ++ tag false (pickZ m4 os 0))), os.toArray[z.2.1]? = some z.2.2 := by
    intro z hzm
    have tagm : ∀ b m, z ∈ tag b (pickZ m os 0) → os.toArray[z.2.1]? = some z.2.2 := fun b m hm => by
      obtain ⟨y, hy, rfl⟩ := List.mem_map.1 hm
      exact hz m y hy
    rcases List.mem_append.1 hzm with h1 | h1
    · exact tagm _ _ h1
    · rcases List.mem_append.1 h1 with h2 | h2
      · exact tagm _ _ h2
      · rcases List.mem_append.1 h2 with h3 | h3
        · exact tagm _ _ h3
        · exact tagm _ _ h3
  have key := wpS_seq (md := .any) (S := S) (K := fun a' w' => Q .normal a' w') (P := P) hs _ (Array.replicate os.length false) a w.drew hall hZ (by
    refine seqM_quiet (Q := fun a' => a' = A) hS (fun a' ha => ?_) _ a (by rw [pickZ_snd]; exact allS_of ⟨_, hS⟩ _ _ hA hq)
    rw [show a' = A from ha]
    refine seqM_chain (fun a2 w2 hK => ?_) _ _ _ hc
    obtain ⟨hS2, hA2, A2, hq2, hc2⟩ := hK
    refine seqM_quiet (Q := fun a' => a' = A2) hS2 (fun a' ha => ?_) _ a2 (by rw [pickZ_snd]; exact allS_of ⟨_, hS2⟩ _ _ hA2 hq2)
    rw [show a' = A2 from ha]
    have := seqM_chain (rest := []) (fun a3 w3 hK3 => hK3) _ _ _ hc2
    rw [List.append_nil] at this
    exact this)
  have hl : (tag true (pickZ m1 os 0) ++ (tag false (pickZ m2 os 0) ++ (tag true (pickZ m3 os 0) ++ tag false (pickZ m4 os 0)))).length = os.length := by
    simp only [tag, List.length_append, List.length_map]; omega
  rw [hl] at key
  simpa using key
end
end Go.Proofs.Ytmgmkdkdpeljmaa

namespace Go.Proofs.Ytmgmkdkdpeljmaa
section
variable {P : Program} {ops : Array Oper} {md : Region.Mode}
/-- Does number j wait for number i, by n steps or fewer? -/
def depB (md : Region.Mode) (ops : Array Oper) : Nat → Nat → Nat → Bool
  | 0, _, _ => false
  | n + 1, j, i => match ops[j]? with
    | some o => o.after.any fun e => Region.binds md e && (e.on == i || depB md ops n e.on i)
    | none => false
/-- What came up came up behind all for which it waits. -/
def Shut (md : Region.Mode) (ops : Array Oper) (listed : Array Bool) : Prop := ∀ k o, ops[k]? = some o → listed.getD k false = true → ∀ e ∈ o.after, Region.binds md e = true → listed.getD e.on false = true
theorem shut_dep {listed : Array Bool} {i : Nat} (hs : Shut md ops listed) (hi : listed.getD i false = false) : ∀ (n j : Nat), (∀ o, ops[j]? = some o → ∀ e ∈ o.after, Region.binds md e = true → listed.getD e.on false = true) → depB md ops n j i = false
  | 0, _, _ => rfl
  | n + 1, j, hj => by
    unfold depB
    cases ho : ops[j]? with
    | none => rfl
    | some o =>
      simp only
      refine Bool.eq_false_iff.2 fun h => ?_
      obtain ⟨k, hk, he⟩ := Array.any_eq_true.1 h
      have hm : o.after[k] ∈ o.after := Array.getElem_mem hk
      generalize o.after[k] = e at he hm
      simp only [Bool.and_eq_true, Bool.or_eq_true, beq_iff_eq] at he
      obtain ⟨hb, hh⟩ := he
      have hl := hj o ho e hm hb
      rcases hh with rfl | hd
      · rw [hi] at hl; cases hl
      · rw [shut_dep hs hi n e.on (fun o' ho' => hs e.on o' ho' hl)] at hd; cases hd
theorem shut_set {listed : Array Bool} {j : Nat} (hs : Shut md ops listed) (hj : j ∈ Region.ready md ops listed) : Shut md ops (listed.setIfInBounds j true) := fun k o hk hl e he hb => by
  obtain ⟨_, oj, hoj, hall⟩ := mem_ready.1 hj
  by_cases e1 : j = k
  · subst e1
    obtain rfl : o = oj := Option.some.inj (hk.symm.trans hoj)
    exact getD_set_true (hall e he hb)
  · rw [getD_set_ne false e1] at hl
    exact getD_set_true (hs k o hk hl e he hb)
/-- Whatever order is picked from here on; behind those that nb names S holds. -/
def wpT (P : Program) (md : Region.Mode) (ops : Array Oper) (S : World → Prop) (nb : Nat → Bool) (K : Act → World → Prop) : Nat → Array Bool → Act → World → Prop
  | 0, listed, a, w => Region.ready md ops listed = [] ∧ K a w
  | fuel + 1, listed, a, w => (Region.ready md ops listed = [] → K a w) ∧ ∀ i ∈ Region.ready md ops listed, sOp P ops (fun w' => nb i = true → S w') i (wpT P md ops S nb K fuel (listed.setIfInBounds i true)) a w
theorem wpAny_of_T {S : World → Prop} {nb : Nat → Bool} {K : Act → World → Prop} {Q : Exit → Act → World → Prop} (hQ : ∀ a w, K a w → Q .normal a w) : ∀ (fuel : Nat) (listed : Array Bool) (a : Act) (w : World), wpT P md ops S nb K fuel listed a w → wpAny P md ops Q fuel listed a w
  | 0, _, _, _, h => ⟨h.1, hQ _ _ h.2⟩
  | fuel + 1, listed, a, w, h => ⟨fun h0 => hQ _ _ (h.1 h0), fun i hi => by
      have hh := h.2 i hi
      unfold sOp at hh
      unfold wpOp
      split
      · next ho => simp only [ho] at hh; exact wpAny_of_T hQ fuel _ _ _ hh
      · next o ho =>
        simp only [ho] at hh
        split
        · next hw => simp only [hw, if_true] at hh; exact .inl (goes_wp (goes_mono (fun a' w' h' => wpAny_of_T hQ fuel _ a' w' h'.2) hh))
        · next hw => simp only [hw] at hh; exact wpAny_of_T hQ fuel _ _ _ hh⟩
/-- An operation that may come up now, and yields its value in every world of T, may be taken first: if T is kept by all that don't wait for it. -/
theorem wpT_first {S T : World → Prop} {nb : Nat → Bool} {K : Act → World → Prop} {i n : Nat} {oi : Oper} {v : Value} (hi : ops[i]? = some oi) (hsel : ∀ (j : Nat) (o : Oper) cs b, ops[j]? = some o → o.op ≠ .select cs b) (hTS : ∀ w, T w → nb i = true → S w) :
    ∀ (fuel : Nat) (listed : Array Bool) (a : Act) (w : World), Shut md ops listed →
      (∀ j oj, ops[j]? = some oj → j ≠ i → listed.getD j true = false → depB md ops n j i = false → oi.apart ops oj = true ∧ ∀ w, (nb j = true → S w) → T w) →
      i ∈ Region.ready md ops listed → YieldsS P ops T oi v a → T w →
      wpT P md ops S nb K fuel (listed.setIfInBounds i true) (a.put oi.dst v) w → wpT P md ops S nb K (fuel + 1) listed a w := by
  intro fuel
  induction fuel with
  | zero =>
    intro listed a w _ _ hr hy hT H
    refine ⟨fun h => (by rw [h] at hr; cases hr), fun j hj => ?_⟩
    by_cases hji : j = i
    · subst hji; exact hy.sOp hi hT (hTS w hT) H
    · have := ready_mono hj hji
      rw [H.1] at this
      cases this
  | succ fuel ih =>
    intro listed a w hsh hfree hr hy hT H
    refine ⟨fun h => (by rw [h] at hr; cases hr), fun j hj => ?_⟩
    by_cases hji : j = i
    · subst hji; exact hy.sOp hi hT (hTS w hT) H
    · have h1 := H.2 j (ready_mono hj hji)
      obtain ⟨hjun, oj, hoj, hall⟩ := mem_ready.1 hj
      have hiun : listed.getD i false = false := by
        have h0 := (mem_ready.1 hr).1
        rcases Nat.lt_or_ge i listed.size with h' | h'
        · simp [h'] at h0 ⊢; exact h0
        · simp [Array.getElem?_eq_none h']
      have hdep : depB md ops n j i = false := shut_dep hsh hiun n j (fun o ho e he hb => by
        obtain rfl : o = oj := Option.some.inj (ho.symm.trans hoj)
        exact hall e he hb)
      obtain ⟨hap, hTj⟩ := hfree j oj hoj hji hjun hdep
      have h2 := sOp_put hoj hap (fun cs b => hsel i oi cs b hi) (fun cs b => hsel j oj cs b hoj) hy h1
      have hfree' : ∀ k ok, ops[k]? = some ok → k ≠ i → (listed.setIfInBounds j true).getD k true = false → depB md ops n k i = false → oi.apart ops ok = true ∧ ∀ w, (nb k = true → S w) → T w := fun k ok hk hki hun hno => by
        refine hfree k ok hk hki ?_ hno
        by_cases hjk : j = k
        · subst hjk; exact hjun
        · rw [getD_set_ne true hjk] at hun; exact hun
      have step : ∀ a' w', (nb j = true → S w') → (YieldsS P ops T oi v a' ∧ wpT P md ops S nb K fuel ((listed.setIfInBounds i true).setIfInBounds j true) (a'.put oi.dst v) w') → wpT P md ops S nb K (fuel + 1) (listed.setIfInBounds j true) a' w' := fun a' w' hS' h3 =>
        ih (listed.setIfInBounds j true) a' w' (shut_set hsh hj) hfree' (ready_mono hr (Ne.symm hji)) h3.1 (hTj w' hS') (by rw [Array.setIfInBounds_comm _ _ hji]; exact h3.2)
      have stay : ∀ a', (YieldsS P ops T oi v a' ∧ wpT P md ops S nb K fuel ((listed.setIfInBounds i true).setIfInBounds j true) (a'.put oi.dst v) w) → wpT P md ops S nb K (fuel + 1) (listed.setIfInBounds j true) a' w := fun a' h3 =>
        ih (listed.setIfInBounds j true) a' w (shut_set hsh hj) hfree' (ready_mono hr (Ne.symm hji)) h3.1 hT (by rw [Array.setIfInBounds_comm _ _ hji]; exact h3.2)
      unfold sOp at h2 ⊢
      simp only [hoj] at h2 ⊢
      split
      · next hw => simp only [hw, if_true] at h2; exact goes_mono (fun a' w' ⟨hS', h3⟩ => ⟨hS', step a' w' hS' h3⟩) h2
      · next hw => simp only [hw] at h2; exact stay _ h2
/-- .. told by a look. -/
def freeT (md : Region.Mode) (ops : Array Oper) (nb : Nat → Bool) (all : Bool) (n : Nat) (listed : Array Bool) (i : Nat) (oi : Oper) : Bool :=
  (List.range ops.size).all fun j => j == i || listed.getD j true || depB md ops n j i || (match ops[j]? with
    | some oj => oi.apart ops oj && (all || nb j)
    | none => true)
theorem freeT_of {nb : Nat → Bool} {all : Bool} {n : Nat} {listed : Array Bool} {i : Nat} {oi : Oper} (h : freeT md ops nb all n listed i oi = true) :
    ∀ j oj, ops[j]? = some oj → j ≠ i → listed.getD j true = false → depB md ops n j i = false → oi.apart ops oj = true ∧ (all = true ∨ nb j = true) := by
  intro j oj hj hne hun hno
  have hlt : j < ops.size := (Array.getElem?_eq_some_iff.1 hj).1
  have hb := List.all_eq_true.1 h j (List.mem_range.2 hlt)
  rw [hj, hun, hno] at hb
  simpa [hne] using hb
/-- The steps: those ahead (2), those that yield whatever the world is (1), movers (0). -/
def preZ (md : Region.Mode) (ops : Array Oper) (nb : Nat → Bool) (n : Nat) : List (Nat × Nat × Oper) → Array Bool → Bool
  | [], listed => Region.ready md ops listed == []
  | (2, z) :: Z, listed => (Region.ready md ops listed).contains z.1 && freeT md ops nb false n listed z.1 z.2 && preZ md ops nb n Z (listed.setIfInBounds z.1 true)
  | (1, z) :: Z, listed => (Region.ready md ops listed).contains z.1 && freeT md ops nb true n listed z.1 z.2 && !nb z.1 && preZ md ops nb n Z (listed.setIfInBounds z.1 true)
  | (_, z) :: Z, listed => (Region.ready md ops listed == [z.1]) && !nb z.1 && preZ md ops nb n Z (listed.setIfInBounds z.1 true)
def preM (P : Program) (ops : Array Oper) (S : World → Prop) (K : Act → World → Prop) : List (Nat × Nat × Oper) → Act → World → Prop
  | [], a, w => K a w
  | (2, z) :: l, a, w => S w ∧ ∃ v, YieldsS P ops S z.2 v a ∧ preM P ops S K l (a.put z.2.dst v) w
  | (1, z) :: l, a, w => ∃ v, YieldsS P ops (fun _ => True) z.2 v a ∧ preM P ops S K l (a.put z.2.dst v) w
  | (_, z) :: l, a, w => Region.wanted z.2 (yielded ops a.tmps) = true ∧ goes P z.2 a w (fun a' w' => preM P ops S K l a' w')
theorem mover_T {S : World → Prop} {nb : Nat → Bool} {K : Act → World → Prop} {z : Nat × Oper} {fuel : Nat} {listed : Array Bool} {a : Act} {w : World} {R : Act → World → Prop} (hz : ops[z.1]? = some z.2) (hr : Region.ready md ops listed = [z.1]) (hn : nb z.1 = false)
    (h : Region.wanted z.2 (yielded ops a.tmps) = true ∧ goes P z.2 a w R) (hR : ∀ a' w', R a' w' → wpT P md ops S nb K fuel (listed.setIfInBounds z.1 true) a' w') : wpT P md ops S nb K (fuel + 1) listed a w := by
  refine ⟨fun h0 => (by rw [hr] at h0; cases h0), fun i hi => ?_⟩
  rw [hr, List.mem_singleton] at hi
  subst hi
  unfold sOp
  simp only [hz]
  rw [if_pos h.1]
  exact goes_mono (fun a' w' h1 => ⟨fun hb => (by rw [hn] at hb; cases hb), hR a' w' h1⟩) h.2
theorem wpT_pre {S : World → Prop} {nb : Nat → Bool} {n : Nat} {K : Act → World → Prop} (hs : Region.noSelect ops = true) : ∀ (Z : List (Nat × Nat × Oper)) (listed : Array Bool) (a : Act) (w : World), Shut md ops listed → (∀ z ∈ Z, ops[z.2.1]? = some z.2.2) → preZ md ops nb n Z listed = true → preM P ops S K Z a w → wpT P md ops S nb K Z.length listed a w
  | [], _, _, _, _, _, hB, h => ⟨by simpa [preZ] using hB, h⟩
  | (2, z) :: Z, listed, a, w, hsh, hz, hB, h => by
    simp only [preZ, Bool.and_eq_true] at hB
    obtain ⟨⟨hr, hf⟩, hB'⟩ := hB
    obtain ⟨hS, v, hy, hK⟩ := h
    have hr' : z.1 ∈ Region.ready md ops listed := by simpa using hr
    exact wpT_first (T := S) (n := n) (hz (2, z) List.mem_cons_self) (Region.noSelect_spec hs) (fun _ h _ => h) _ listed a w hsh (fun j oj h1 h2 h3 h4 => ⟨(freeT_of hf j oj h1 h2 h3 h4).1, fun w hw => hw ((freeT_of hf j oj h1 h2 h3 h4).2.resolve_left (by simp))⟩) hr' hy hS
      (wpT_pre hs Z _ _ _ (shut_set hsh hr') (fun y hy => hz y (List.mem_cons_of_mem _ hy)) hB' hK)
  | (1, z) :: Z, listed, a, w, hsh, hz, hB, h => by
    simp only [preZ, Bool.and_eq_true, Bool.not_eq_true'] at hB
    obtain ⟨⟨⟨hr, hf⟩, hn⟩, hB'⟩ := hB
    obtain ⟨v, hy, hK⟩ := h
    have hr' : z.1 ∈ Region.ready md ops listed := by simpa using hr
    exact wpT_first (T := fun _ => True) (n := n) (hz (1, z) List.mem_cons_self) (Region.noSelect_spec hs) (fun _ _ hb => (by rw [hn] at hb; cases hb)) _ listed a w hsh (fun j oj h1 h2 h3 h4 => ⟨(freeT_of hf j oj h1 h2 h3 h4).1, fun _ _ => trivial⟩) hr' hy trivial
      (wpT_pre hs Z _ _ _ (shut_set hsh hr') (fun y hy => hz y (List.mem_cons_of_mem _ hy)) hB' hK)
  | (0, z) :: Z, listed, a, w, hsh, hz, hB, h => by
    simp only [preZ, Bool.and_eq_true, beq_iff_eq, Bool.not_eq_true'] at hB
    exact mover_T (hz (0, z) List.mem_cons_self) hB.1.1 hB.1.2 h (fun a' w' h1 => wpT_pre hs Z _ a' w' (shut_set hsh (by rw [hB.1.1]; exact List.mem_singleton.2 rfl)) (fun y hy => hz y (List.mem_cons_of_mem _ hy)) hB.2 h1)
  | (k + 3, z) :: Z, listed, a, w, hsh, hz, hB, h => by
    simp only [preZ, Bool.and_eq_true, beq_iff_eq, Bool.not_eq_true'] at hB
    exact mover_T (hz (k + 3, z) List.mem_cons_self) hB.1.1 hB.1.2 h (fun a' w' h1 => wpT_pre hs Z _ a' w' (shut_set hsh (by rw [hB.1.1]; exact List.mem_singleton.2 rfl)) (fun y hy => hz y (List.mem_cons_of_mem _ hy)) hB.2 h1)
theorem preM_quiet {S : World → Prop} {K : Act → World → Prop} {Q : Act → Prop} {rest : List (Nat × Nat × Oper)} {w : World} (hS : S w) (hQ : ∀ a, Q a → preM P ops S K rest a w) :
    ∀ (Z : List (Nat × Oper)) (a : Act), allS P ops S Q (Z.map Prod.snd) a → preM P ops S K (Z.map (fun z => (2, z)) ++ rest) a w
  | [], a, h => hQ a h
  | _ :: Z, _, h => by
    obtain ⟨v, hy, hK⟩ := h
    exact ⟨hS, v, hy, preM_quiet hS hQ Z _ hK⟩
theorem preM_yields {S : World → Prop} {K : Act → World → Prop} {j : Nat} {o : Oper} {l : List (Nat × Nat × Oper)} {a : Act} {w : World} (v : Value) (hw : Region.wanted o (yielded ops a.tmps) = true) (hr : ∀ w, (execOp a.eval o).run P w = .ok (.value v) w)
    (h : preM P ops S K l (a.put o.dst v) w) : preM P ops S K ((1, j, o) :: l) a w :=
  ⟨v, .inl ⟨hw, fun w _ => by unfold Oper.quietAt; rw [hr w]; exact ⟨rfl, rfl⟩⟩, h⟩
theorem preM_call {S : World → Prop} {K : Act → World → Prop} {j : Nat} {o : Oper} {l : List (Nat × Nat × Oper)} {a : Act} {w : World} (f : FuncId) (args : Array Value) (hw : Region.wanted o (yielded ops a.tmps) = true) (hr : (execOp a.eval o).run P w = .ok (.enter f args) w)
    (h : Calls P f args w fun e w' => ∃ v, e = .returned v ∧ preM P ops S K l (a.put o.dst v) w') : preM P ops S K ((0, j, o) :: l) a w := by
  refine ⟨hw, ?_⟩
  unfold goes
  rw [hr]
  exact h
theorem preM_skip {S : World → Prop} {K : Act → World → Prop} {j : Nat} {o : Oper} {l : List (Nat × Nat × Oper)} {a : Act} {w : World} (w' : World) (hw : Region.wanted o (yielded ops a.tmps) = true) (hr : (execOp a.eval o).run P w = .ok .skip w')
    (h : preM P ops S K l (a.put o.dst undef) w') : preM P ops S K ((0, j, o) :: l) a w := by
  refine ⟨hw, ?_⟩
  unfold goes
  rw [hr]
  exact h
theorem preM_value {S : World → Prop} {K : Act → World → Prop} {j : Nat} {o : Oper} {l : List (Nat × Nat × Oper)} {a : Act} {w : World} (v : Value) (w' : World) (hw : Region.wanted o (yielded ops a.tmps) = true) (hr : (execOp a.eval o).run P w = .ok (.value v) w')
    (h : preM P ops S K l (a.put o.dst v) w') : preM P ops S K ((0, j, o) :: l) a w := by
  refine ⟨hw, ?_⟩
  unfold goes
  rw [hr]
  exact h
/-- May it be walked so? m1: those ahead; t: the rest in its order, 1: yields, 0: a mover. -/
def preB (os : List Oper) (m1 : List Bool) (t : List (Nat × Nat)) (n : Nat) : Bool :=
  Region.noSelect os.toArray && decide ((pickZ m1 os 0).length + t.length = os.length) && t.all (fun x => (os[x.2]?).isSome) &&
    preZ .any os.toArray (fun j => m1.getD j false) n ((pickZ m1 os 0).map (fun z => (2, z)) ++ t.map (fun x => (x.1, x.2, os.getD x.2 default))) (Array.replicate os.length false)
theorem wp_region_pre {S : World → Prop} {os : List Oper} {id : Nat} {Q : Exit → Act → World → Prop} {a : Act} {w : World} (m1 : List Bool) (t : List (Nat × Nat)) (n : Nat) (hm : P.follows .mixedOrders = true) (hB : preB os m1 t n = true) (hA : apartB (pickM m1 os) a.tmps.size = true) (hS : S w.drew)
    (h : ∃ A, (∀ p : SW S, wpQuiet P os.toArray (fun w' => ∃ q : SK S p.w, w' = q.s.w) (fun a' => a' = A) (pickM m1 os) a) ∧
      preM P os.toArray S (fun a' w' => Q .normal a' w') (t.map (fun x => (x.1, x.2, os.getD x.2 default))) A w.drew) : (Code.region id os.toArray true).wp P Q a w := by
  obtain ⟨A, hq, hc⟩ := h
  simp only [preB, Bool.and_eq_true, decide_eq_true_eq, List.all_eq_true] at hB
  obtain ⟨⟨⟨hs, hlen⟩, hin⟩, hZ⟩ := hB
  refine wp_region_any hm (wpAny_of_T (S := S) (nb := fun j => m1.getD j false) (K := fun a' w' => Q .normal a' w') (fun _ _ h => h) _ _ _ _ ?_)
  have hall : ∀ z ∈ (pickZ m1 os 0).map (fun z => ((2 : Nat), z)) ++ t.map (fun x => (x.1, x.2, os.getD x.2 default)), os.toArray[z.2.1]? = some z.2.2 := by
    intro z hzm
    rcases List.mem_append.1 hzm with h1 | h1
    · obtain ⟨y, hy, rfl⟩ := List.mem_map.1 h1
      rw [List.getElem?_toArray]; simpa using (pickZ_mem m1 os 0 y hy).2
    · obtain ⟨x, hx, rfl⟩ := List.mem_map.1 h1
      have := hin x hx
      rw [List.getElem?_toArray]
      obtain ⟨o, ho⟩ := Option.isSome_iff_exists.1 this
      simp [ho]
  have hsh : Shut .any os.toArray (Array.replicate os.length false) := fun k o _ hl => by
    simp [Array.getElem?_replicate] at hl
    split at hl <;> simp at hl
  have key := wpT_pre (md := .any) (S := S) (P := P) (nb := fun j => m1.getD j false) (n := n) (K := fun a' w' => Q .normal a' w') hs _ (Array.replicate os.length false) a w.drew hsh hall hZ (by
    refine preM_quiet (Q := fun a' => a' = A) hS (fun a' ha => ?_) _ a (by rw [pickZ_snd]; exact allS_of ⟨_, hS⟩ _ _ hA hq)
    rw [show a' = A from ha]
    exact hc)
  have hl : ((pickZ m1 os 0).map (fun z => ((2 : Nat), z)) ++ t.map (fun x => (x.1, x.2, os.getD x.2 default))).length = os.length := by
    simp only [List.length_append, List.length_map]; exact hlen
  rw [hl] at key
  simpa using key
end
end Go.Proofs.Ytmgmkdkdpeljmaa

namespace Go.Proofs.Ytmgmkdkdpeljmaa
open Go.RowKit
theorem exec_keep {P : Program} {op : Oper} {a : Act} {w : World} (ty : TypeId) (x y : Operand) (ho : op.op = .store ty x y) (b o : Nat) (cells : Array Value) (hx : a.eval x = .pointer (some ⟨b, o, none⟩)) (hy : a.eval y = .agg cells)
    (ht : w.there b o cells.size) (hi : (P.info? ty).map (·.size) = some cells.size) (h1 : cells.all (·.oneCell') = true) : (execOp a.eval op).run P w = .ok .skip (w.setCells b o cells.toList) := by
  unfold execOp
  simp only [ho, hx, hy, Instr.storeAt, Instr.sureAddr, Sem.run_bind, Sem.run_pure, Result.andThen_ok, run_storeVar_mid w b o ty cells ht hi h1]
/-- What Of's variables hold: the answer's room, the line on the way. -/
structure OB (w : World) (H : Nat) (x : List Value) (m : Int) (r : List (Win AggV)) (a1 : Option Addr) (c1 : Nat) (v : World) : Prop where
  r0 : RowAt v H x
  r1 : RowAt v (H + 1) [.int .i64 m, .slice a1 r.length c1]
  row : OutK.Row v (H + 2) a1 c1 r
  bel : Below w.heap.size w v
  big : H + 2 ≤ v.heap.size
theorem OB.below {w v v' : World} {H : Nat} {x : List Value} {m : Int} {r : List (Win AggV)} {a1 : Option Addr} {c1 : Nat} (h : OB w H x m r a1 c1 v) (hb : Below v.heap.size v v') : OB w H x m r a1 c1 v' :=
  ⟨h.r0.below hb, h.r1.below hb, row_below h.row hb, h.bel.trans (hb.mono h.bel.size), Nat.le_trans h.big hb.size⟩
theorem OB.set {w v v' : World} {H : Nat} {x : List Value} {m : Int} {r r' : List (Win AggV)} {a1 a2 : Option Addr} {c1 c2 : Nat} (h : OB w H x m r a1 c1 v) (hH : H = w.heap.size) (hb : Below v.heap.size v v') (hr : OutK.Row v' (H + 2) a2 c2 r') :
    v'.there (H + 1) 1 1 ∧ ∃ wf, v'.setCells (H + 1) 1 [.slice a2 r'.length c2] = wf ∧ OB w H x m r' a2 c2 wf := by
  have h1 := h.below hb
  have mv := setCells_moved v' (H + 1) 1 [.slice a2 r'.length c2]
  exact ⟨there_one h1.r1, _, rfl, h1.r0.keep mv (by omega), h1.r1.set 1 (by simp) _, row_moved hr mv (fun i hi k hk => by have := (row_lt hr k hk).1; omega), ((Moved.of_below (F := fun j => j = H + 1) h1.bel).trans mv (fun _ hi => .inl hi)).below (fun i hi => by omega) (Nat.le_refl _), Nat.le_trans h1.big mv.size⟩
theorem OB.put0 {w v : World} {H : Nat} {x : List Value} {m : Int} {r : List (Win AggV)} {a1 : Option Addr} {c1 : Nat} (h : OB w H x m r a1 c1 v) (hH : H = w.heap.size) (z : List Value) (hz : x.length = z.length) : ∃ wf, v.setCells H 0 z = wf ∧ OB w H z m r a1 c1 wf := by
  have mv := setCells_moved v H 0 z
  exact ⟨_, rfl, h.r0.put z hz, h.r1.keep mv (by omega), row_moved h.row mv (fun i hi k hk => by have := (row_lt h.row k hk).1; omega), ((Moved.of_below (F := fun j => j = H) h.bel).trans mv (fun _ hi => .inl hi)).below (fun i hi => by omega) (Nat.le_refl _), Nat.le_trans h.big mv.size⟩
/-- The document's line, behind its Of. -/
def ofD (m : Int) (o : List (Win AggV)) : LineV := if (ofL m o).2 = 0 then (ofL m o).1 else newL
set_option maxRecDepth 100000 in
set_option maxHeartbeats 8000000 in
theorem rtof_any {w : World} {a : Option Addr} {c : Nat} {o : List (Win AggV)} (m : Int) (hlay : IsOuts w a o.length c o) (hmost : o.length ≤ 1000) :
    Calls Try.prog 23 #[.int .i64 m, .slice a o.length c] w fun e w' => ∃ a' c', e = .returned (.tuple #[.agg #[.int .i64 (ofD m o).mark, .slice a' (ofD m o).row.length c'], .int .i64 ((ofL m o).2 : Int)]) ∧ OutK.Row w' w.heap.size a' c' (ofD m o).row ∧ Below w.heap.size w w' := by
  obtain ⟨W, hW⟩ : ∃ W, W = w.alloc (.cells #[.int .i64 0, .slice none 0 0] 51) := ⟨_, rfl⟩
  obtain ⟨H, hH⟩ : ∃ H, H = w.heap.size := ⟨_, rfl⟩
  have T0 : RowAt W H [.int .i64 0, .slice none 0 0] := by rw [hW, hH]; exact row_new _ _ _
  have bW : Below w.heap.size w W := by rw [hW]; exact (Below.refl _ _).alloc (Nat.le_refl _) _
  have HSZ : Hid (W.heap.size = H + 1) := hide (by rw [hW, hH]; simp)
  have HT := hide T0
  have HBW := hide bW
  have HW := hide hW
  have HH := hide hH
  have LAY := hide hlay
  have HX := hide hlay.ok
  clear hW hH T0 bW hlay
  have CR := hide (fun u => Sp.rright_any m u)
  cases hr : Sp.rightI m with
  | false =>
    have HO : Hid (ofL m o = (newL, 1)) := hide (by unfold ofL; rw [hr]; rfl)
    rw [hr] at CR
    clear hr
    go_enter Try.func23, Try.ntmps23
    go_upto_region 1 with fail
    rw [← unhide HH]
    try change Code.wp _ _ _ _ (w.alloc (.cells #[.int .i64 0, .slice none 0 0] 51))
    rw [← unhide HW]
    go_upto_region 2 with fail
    refine (unhide CR _).mono ?_
    rintro e v' ⟨rfl, hw⟩
    rw [hw]
    clear hw v' CR
    have hth := (unhide HT).there
    have hput := (unhide HT).put [.int .i64 0, .slice none 0 0] rfl
    have mv := setCells_moved W H 0 [.int .i64 0, .slice none 0 0]
    have hbf : Below w.heap.size w (W.setCells H 0 [.int .i64 0, .slice none 0 0]) := ((Moved.of_below (F := fun j => j = H) (unhide HBW)).trans mv (fun _ hi => .inl hi)).below (fun i hi => by have := unhide HH; omega) (Nat.le_refl _)
    obtain ⟨wf, hwf⟩ : ∃ wf, W.setCells H 0 [.int .i64 0, .slice none 0 0] = wf := ⟨_, rfl⟩
    rw [hwf] at hput hbf
    have HP := hide hput
    have HB := hide hbf
    clear hput hbf mv
    go_wp2_with (refine wpList_store_mid rfl 51 (.tmp 4) (.tmp 12) (by simp [go_sem]) H 0 #[.int .i64 0, .slice none 0 0] rfl rfl hth (by kernel_rfl) (by simp [Value.oneCell']) ?_; change wpList _ _ _ _ _ (World.setCells _ H 0 [.int .i64 0, .slice none 0 0]); rw [hwf])
    clear hth hwf
    refine bodyPost_ret (v := .tuple #[.agg #[.int .i64 0, .slice none 0 0], .int .i64 1]) ?_ rfl ?_
    · exact results_cell_tmp Try.results23 _ wf H [.int .i64 0, .slice none 0 0] _ rfl (unhide HP).range Try.underlying51 rfl (by kernel_rfl)
    · have hd : ofD m o = newL := by unfold ofD; rw [unhide HO]; rfl
      exact ⟨none, 0, by rw [hd, unhide HO]; rfl, by rw [hd]; exact row_none _ _, unhide HB⟩
  | true =>
    have HO : Hid (ofL m o = (⟨m, (setAll m [] o).1⟩, (setAll m [] o).2)) := hide (by unfold ofL; rw [hr]; rfl)
    rw [hr] at CR
    clear hr
    obtain ⟨W2, hW2⟩ : ∃ W2, W2 = W.alloc (.cells #[.int .i64 m, .slice none 0 0] 51) := ⟨_, rfl⟩
    have START : Hid (OB w H [.int .i64 0, .slice none 0 0] m [] none 0 W2) := hide (by
      have hb : Below W.heap.size W W2 := by rw [hW2]; exact (Below.refl _ _).alloc (Nat.le_refl _) _
      refine ⟨(unhide HT).below hb, ?_, row_none _ _, (unhide HBW).trans (hb.mono (unhide HBW).size), by rw [hW2]; have := unhide HSZ; simp; omega⟩
      have := row_new W [.int .i64 m, .slice none 0 0] 51
      rw [unhide HSZ, ← hW2] at this
      exact this)
    have HW2 := hide hW2
    clear hW2
    go_enter Try.func23, Try.ntmps23
    go_upto_region 1 with fail
    rw [← unhide HH]
    try change Code.wp _ _ _ _ (w.alloc (.cells #[.int .i64 0, .slice none 0 0] 51))
    rw [← unhide HW]
    go_upto_region 3 with fail
    refine (unhide CR _).mono ?_
    rintro e v' ⟨rfl, hw⟩
    rw [hw]
    clear hw v' CR
    go_upto_region 4 with fail
    rw [unhide HSZ]
    try change Code.wp _ _ _ _ (W.alloc (.cells #[.int .i64 m, .slice none 0 0] 51))
    rw [← unhide HW2]
    clear HW2 HW HT
    have ho0 : (0 : Int) ≤ (o.length : Int) := by omega
    go_wp2_with fail
    go_loopw [7] (fun i wr => ∃ (k : Nat) (r : List (Win AggV)), i = .int .i64 (k : Int) ∧ k ≤ o.length ∧ (∃ a1 c1, OB w H [.int .i64 0, .slice none 0 0] m r a1 c1 wr) ∧ Good SO r ∧ Mild r ∧ Hid (setAll m [] o = setAll m r (o.drop k))) (fun i _ => o.length - (intOf i).toNat)
    case atStart => exact ⟨0, [], rfl, Nat.zero_le _, ⟨_, _, unhide START⟩, good_nil, mild_nil, hide (by rw [List.drop_zero])⟩
    case round =>
      obtain ⟨k, r, rfl, hk, hs, hgg, hmm, HA⟩ := hrel
      have HS := hide hs
      have HGG := hide hgg
      have HMM := hide hmm
      clear hs hmm hgg START
      by_cases hlt : k < o.length
      · have g1 : (k : Int) < (o.length : Int) := by omega
        have hk0 : (0 : Int) ≤ (k : Int) := by omega
        have hwk : IntKind.i64.wrap ((k : Int) + 1) = (k : Int) + 1 := Go.IntWalk.i64_in _ (by omega)
        obtain ⟨x, hx⟩ : ∃ x, o[k]? = some x := ⟨_, List.getElem?_eq_getElem hlt⟩
        have HXX := hide (unhide HX x (List.mem_of_getElem? hx))
        have hdrop : o.drop k = x :: o.drop (k + 1) := by rw [List.drop_eq_getElem_cons hlt, (List.getElem?_eq_some_iff.1 hx).2]
        rw [hdrop] at HA
        obtain ⟨a1, c1, hs⟩ := unhide HS
        obtain ⟨g, og, rfl, hra, hgl⟩ := (unhide LAY).at hx
        have HRA := hide (range_below hra hgl hs.bel)
        have HGL := hide (Nat.lt_of_lt_of_le hgl hs.bel.size)
        clear hx hdrop hra HS hgl
        obtain ⟨xk, xs, ⟨g0, g1', g2, g3, g4, g5, g6, g7⟩⟩ := x
        simp only [outV_eq] at HRA
        have S1 := hide hs
        clear hs
        have CO := hide (fun u => Sp.rover_any xs m u)
        have k1 : wr.cell? ⟨g, og + k * 10 + 1, none⟩ = some (.int .i64 xs) := unhide HRA 1 _ rfl
        cases hov : Sp.overI xs m with
        | true =>
          rw [hov] at CO
          have HE := hide ((unhide HA).trans (setAll_over hov))
          clear HA hov
          go_upto_region 8 with fail
          refine (unhide CO _).mono ?_
          rintro e v' ⟨rfl, hw⟩
          rw [hw]
          clear hw v' CO k1
          have hth := (unhide S1).r0.there
          obtain ⟨wf, hwf, hfr⟩ := (unhide S1).put0 (unhide HH) [.int .i64 0, .slice none 0 0] rfl
          go_wp2_with (refine wpList_store_mid rfl 51 (.tmp 4) (.tmp 28) (by simp [go_sem]) H 0 #[.int .i64 0, .slice none 0 0] rfl rfl hth (by kernel_rfl) (by simp [Value.oneCell']) ?_; change wpList _ _ _ _ _ (World.setCells _ H 0 [.int .i64 0, .slice none 0 0]); rw [hwf])
          have HFR := hide hfr
          clear hth hwf hfr
          refine bodyPost_ret (v := .tuple #[.agg #[.int .i64 0, .slice none 0 0], .int .i64 12]) ?_ rfl ?_
          · exact results_cell_tmp Try.results23 _ wf H [.int .i64 0, .slice none 0 0] _ rfl (unhide HFR).r0.range Try.underlying51 rfl (by kernel_rfl)
          · have hd : ofD m o = newL := by unfold ofD; rw [unhide HO, unhide HE]; rfl
            exact ⟨none, 0, by rw [hd, unhide HO, unhide HE]; rfl, by rw [hd]; exact row_none _ _, (unhide HFR).bel⟩
        | false =>
          rw [hov] at CO
          obtain ⟨CL, hCL⟩ : ∃ CL : World → Prop, CL = fun u => OB w H [.int .i64 0, .slice none 0 0] m r a1 c1 u ∧ u.rangeAt g (og + k * 10) [.string ⟨xk.toArray⟩, .int .i64 xs, .int .i64 g0, .int .i64 g1', .int .i64 g2, .int .i64 g3, .int .i64 g4, .int .i64 g5, .int .i64 g6, .int .i64 g7] := ⟨_, rfl⟩
          have un : ∀ u, CL u → OB w H [.int .i64 0, .slice none 0 0] m r a1 c1 u ∧ u.rangeAt g (og + k * 10) [.string ⟨xk.toArray⟩, .int .i64 xs, .int .i64 g0, .int .i64 g1', .int .i64 g2, .int .i64 g3, .int .i64 g4, .int .i64 g5, .int .i64 g6, .int .i64 g7] := fun u k => by rw [hCL] at k; exact k
          have base : CL wr.drew := by rw [hCL]; exact ⟨(unhide S1).below (Below.refl _ _).drew, range_below (unhide HRA) (unhide HGL) (Below.refl _ _).drew⟩
          have RA : Hid (∀ u, (∃ y : SK CL wr.drew, u = y.s.w) → True) := hide (fun _ _ => trivial)
          have RX : Hid (∀ u, CL u → u.rangeAt g (og + k * 10) [.string ⟨xk.toArray⟩, .int .i64 xs, .int .i64 g0, .int .i64 g1', .int .i64 g2, .int .i64 g3, .int .i64 g4, .int .i64 g5, .int .i64 g6, .int .i64 g7]) := hide (fun u h => (un u h).2)
          have RL : Hid (∀ u, CL u → u.rangeAt (H + 1) 1 [.slice a1 r.length c1]) := hide (fun u h j x hx => by
            have := (un u h).1.r1.range (1 + j) x (by rw [← hx, Nat.add_comm 1 j]; rfl)
            rwa [Nat.zero_add] at this)
          have SB := hide (un _ base).1
          have HOV := hide hov
          have CS := hide (rset_any (un _ base).1.row (un _ base).1.big (unhide HGG) (⟨xk, xs, ⟨g0, g1', g2, g3, g4, g5, g6, g7⟩⟩ : Win AggV) (unhide HXX).1)
          simp only [outV_eq] at CS
          clear hCL un hov S1 RA
          go_upto_region 9 with fail
          refine (unhide CO _).mono ?_
          rintro e v' ⟨rfl, hw⟩
          rw [hw]
          clear hw v' CO k1
          go_upto_region 10 with fail
          refine wp_region_pre (S := CL) [true, true, true, true, true, true, false, false, false, false, false, false, false] [(0, 6), (1, 7), (1, 8), (1, 9), (1, 10), (0, 11), (0, 12)] 13 (by kernel_rfl) (by kernel_rfl) (by kernel_rfl) base ?_
          apply Exists.intro
          apply And.intro
          · intro u
            have n0 : Nonempty (SK CL u.w) := ⟨⟨u, rfl⟩⟩
            simp only [pickM]
            repeat (go_big_quiet_step (fail))
            refine wpQuiet_load_onx rfl 49 (.tmp 30) rfl (H + 1) 1 rfl [.slice a1 r.length c1] _ (fun y ⟨q1, hq⟩ => by rw [hq]; exact unhide RL _ q1.s.ok) Try.underlying49 rfl (by kernel_rfl) ?_
            go_simp
            repeat (go_big_quiet_step (fail))
            refine wpQuiet_load_onx rfl 38 (.tmp 34) rfl g (og + k * 10) rfl [.string ⟨xk.toArray⟩, .int .i64 xs, .int .i64 g0, .int .i64 g1', .int .i64 g2, .int .i64 g3, .int .i64 g4, .int .i64 g5, .int .i64 g6, .int .i64 g7] _ (fun y ⟨q1, hq⟩ => by rw [hq]; exact unhide RX _ q1.s.ok) Try.underlying38 rfl (by kernel_rfl) ?_
            go_simp
            exact wpQuiet_nil rfl
          · simp only [List.map_cons, List.map_nil, List.getD_cons_succ, List.getD_cons_zero]
            refine preM_call 51 #[.agg #[.slice a1 r.length c1], .agg #[.string ⟨xk.toArray⟩, .int .i64 xs, .int .i64 g0, .int .i64 g1', .int .i64 g2, .int .i64 g3, .int .i64 g4, .int .i64 g5, .int .i64 g6, .int .i64 g7]] rfl (by simp [go_sem]) ?_
            refine (unhide CS).mono ?_
            rintro e w2 ⟨a2, c2, rfl, hrow, _, hb⟩
            obtain ⟨hth, w3, hw3, hob⟩ := (unhide SB).set (unhide HH) hb hrow
            have HOB := hide hob
            have HG2 := hide (set_good (unhide HGG) (⟨xk, xs, ⟨g0, g1', g2, g3, g4, g5, g6, g7⟩⟩ : Win AggV))
            have HM2 := hide (mild_set (unhide HMM) (x := (⟨xk, xs, ⟨g0, g1', g2, g3, g4, g5, g6, g7⟩⟩ : Win AggV)) (unhide HXX).1)
            clear hob hrow hb CS base SB RX RL
            refine ⟨_, rfl, ?_⟩
            go_simp
            refine preM_yields (.tuple #[.agg #[.slice a2 (setS SO r (⟨xk, xs, ⟨g0, g1', g2, g3, g4, g5, g6, g7⟩⟩ : Win AggV)).1.length c2], .int .i64 ((setS SO r (⟨xk, xs, ⟨g0, g1', g2, g3, g4, g5, g6, g7⟩⟩ : Win AggV)).2 : Int)]) rfl (fun w => by simp [go_sem]) ?_
            go_simp
            refine preM_yields (.agg #[.slice a2 (setS SO r (⟨xk, xs, ⟨g0, g1', g2, g3, g4, g5, g6, g7⟩⟩ : Win AggV)).1.length c2]) rfl (fun w => by simp [go_sem]) ?_
            go_simp
            refine preM_yields (.int .i64 ((setS SO r (⟨xk, xs, ⟨g0, g1', g2, g3, g4, g5, g6, g7⟩⟩ : Win AggV)).2 : Int)) rfl (fun w => by simp [go_sem]) ?_
            go_simp
            refine preM_yields (.pointer (some ⟨H + 1, 1, none⟩)) rfl (fun w => by simp [go_sem]) ?_
            go_simp
            refine preM_skip _ rfl (exec_keep 49 (.tmp 39) (.tmp 37) rfl (H + 1) 1 #[.slice a2 (setS SO r (⟨xk, xs, ⟨g0, g1', g2, g3, g4, g5, g6, g7⟩⟩ : Win AggV)).1.length c2] rfl rfl hth (by kernel_rfl) (by simp [Value.oneCell'])) ?_
            rw [hw3]
            clear hw3 hth
            go_simp
            refine preM_value (.int .i64 ((setS SO r (⟨xk, xs, ⟨g0, g1', g2, g3, g4, g5, g6, g7⟩⟩ : Win AggV)).2 : Int)) w3 rfl (by simp [go_sem]) ?_
            simp only [preM]
            by_cases h0 : (setS SO r (⟨xk, xs, ⟨g0, g1', g2, g3, g4, g5, g6, g7⟩⟩ : Win AggV)).2 = 0
            · have HA2 := hide ((unhide HA).trans (setAll_set (unhide HOV) h0))
              rw [h0, show ((0 : Nat) : Int) = 0 from rfl]
              clear HA h0
              go_simp
              go_wp2_with fail
              exact ⟨⟨k + 1, _, rfl, by omega, ⟨_, _, unhide HOB⟩, unhide HG2, unhide HM2, HA2⟩, by simp [intOf]; omega⟩
            · have HE := hide ((unhide HA).trans (setAll_no (unhide HOV) h0))
              have hz : ¬ (((setS SO r (⟨xk, xs, ⟨g0, g1', g2, g3, g4, g5, g6, g7⟩⟩ : Win AggV)).2 : Nat) : Int) = 0 := by omega
              have HZ := hide h0
              obtain ⟨ec, hec⟩ : ∃ ec : Int, ec = (((setS SO r (⟨xk, xs, ⟨g0, g1', g2, g3, g4, g5, g6, g7⟩⟩ : Win AggV)).2 : Nat) : Int) := ⟨_, rfl⟩
              rw [← hec] at hz ⊢
              have HEC := hide hec
              clear HA h0 hec
              go_simp
              have hth := (unhide HOB).r0.there
              obtain ⟨wf, hwf, hfr⟩ := (unhide HOB).put0 (unhide HH) [.int .i64 0, .slice none 0 0] rfl
              go_wp2_with (refine wpList_store_mid rfl 51 (.tmp 4) (.tmp 42) (by simp [go_sem]) H 0 #[.int .i64 0, .slice none 0 0] rfl rfl hth (by kernel_rfl) (by simp [Value.oneCell']) ?_; change wpList _ _ _ _ _ (World.setCells _ H 0 [.int .i64 0, .slice none 0 0]); rw [hwf])
              have HFR := hide hfr
              clear hth hwf hfr
              refine bodyPost_ret (v := .tuple #[.agg #[.int .i64 0, .slice none 0 0], .int .i64 ec]) ?_ rfl ?_
              · exact results_cell_tmp Try.results23 _ wf H [.int .i64 0, .slice none 0 0] _ rfl (unhide HFR).r0.range Try.underlying51 rfl (by kernel_rfl)
              · have hd : ofD m o = newL := by unfold ofD; rw [unhide HO, unhide HE]; exact if_neg (unhide HZ)
                exact ⟨none, 0, by rw [hd, unhide HO, unhide HE, unhide HEC]; rfl, by rw [hd]; exact row_none _ _, (unhide HFR).bel⟩
      · have g1 : ¬ (k : Int) < (o.length : Int) := by omega
        have hke : k = o.length := by omega
        subst hke
        obtain ⟨a1, c1, hs⟩ := unhide HS
        have HE : Hid (setAll m [] o = (r, 0)) := hide (by rw [unhide HA, List.drop_length]; rfl)
        have S1 := hide hs
        clear hs HS HA
        have hrg := (unhide S1).r1.range
        have hth := (unhide S1).r0.there
        obtain ⟨wf, hwf, hfr⟩ := (unhide S1).put0 (unhide HH) [.int .i64 m, .slice a1 r.length c1] rfl
        go_wp2_with (first | refine wpList_load_on rfl 51 (.tmp 6) rfl (H + 1) 0 rfl [.int .i64 m, .slice a1 r.length c1] _ hrg Try.underlying51 rfl (by kernel_rfl) ?_ | (refine wpList_store_mid rfl 51 (.tmp 4) (.tmp 44) (by simp [go_sem]) H 0 #[.int .i64 m, .slice a1 r.length c1] rfl rfl hth (by kernel_rfl) (by simp [Value.oneCell']) ?_; change wpList _ _ _ _ _ (World.setCells _ H 0 [.int .i64 m, .slice a1 r.length c1]); rw [hwf]))
        have HFR := hide hfr
        clear hth hwf hfr hrg
        refine bodyPost_ret (v := .tuple #[.agg #[.int .i64 m, .slice a1 r.length c1], .int .i64 0]) ?_ rfl ?_
        · exact results_cell_tmp Try.results23 _ wf H [.int .i64 m, .slice a1 r.length c1] _ rfl (unhide HFR).r0.range Try.underlying51 rfl (by kernel_rfl)
        · have hd : ofD m o = ⟨m, r⟩ := by unfold ofD; rw [unhide HO, unhide HE]; rfl
          exact ⟨a1, c1, by rw [hd, unhide HO, unhide HE]; rfl, by rw [hd]; exact row_mono (unhide HFR).row (by have := unhide HH; omega), (unhide HFR).bel⟩
end Go.Proofs.Ytmgmkdkdpeljmaa

namespace Go.Proofs.Ytmgmkdkdpeljmaa
open Go.RowKit Go.ChangeShapes Go.WideShapes
structure ActL.Ok (p : ActL) : Prop where
  do_ : p.do_ < 256
  key : p.key.length ≤ maxLen
  at_ : i64 p.at_
  n : i64 p.n
def ActL.none_ : ActL := ⟨0, [], 0, 0⟩
structure ActLAt (w : World) (b o : Nat) (p : ActL) : Prop where
  c0 : w.cell? ⟨b, o, none⟩ = some (.int .u8 (p.do_ : Int))
  c1 : w.cell? ⟨b, o + 1, none⟩ = some (.string ⟨p.key.toArray⟩)
  c2 : w.cell? ⟨b, o + 2, none⟩ = some (.int .i64 p.at_)
  c3 : w.cell? ⟨b, o + 3, none⟩ = some (.int .i64 p.n)
structure IsActL (w : World) (a : Option Addr) (len cap : Nat) (z : List ActL) : Prop where
  size_ : z.length = len
  max : len ≤ maxLen
  at_ : ∀ k, k < len → ∃ b o, a = some ⟨b, o, none⟩ ∧ ActLAt w b (o + k * 4) (z.getD k ActL.none_) ∧ (z.getD k ActL.none_).Ok ∧ b < w.heap.size
theorem cells56 : Try.prog.cellsOf 56 = 4 := by kernel_rfl
theorem tcells5 : Try.prog.cellsOf 5 = 1 := by kernel_rfl
def actLC (p : ActL) : List Value := [.int .u8 (p.do_ : Int), .string ⟨p.key.toArray⟩, .int .i64 p.at_, .int .i64 p.n]
theorem tu8_in {x : Int} (h : (Lit.int .u8 x).wf = true) : 0 ≤ x ∧ x < 256 := by have := bounds_u8 h; omega
set_option maxRecDepth 100000 in
theorem actL_of {H : Type} {enc : TypeId × Value → H} {w : World} {base : Nat} {spare : Nat → Bool} {held : Bool} {fuel : Nat} {cs : List Value} {x : DataW H × List MemPlace} (h : DataW.trod enc Try.prog w base spare held fuel 56 cs = some x) :
    ∃ p : ActL, p.Ok ∧ cs = actLC p := by
  obtain ⟨xs, n, rfl, rfl, hl, hxl, hf⟩ := DataW.trod_struct Try.underlying56 h
  rw [cells56] at hl
  match cs, hl, xs, hxl with
  | [v0, v1, v2, v3], _, [y0, y1, y2, y3], _ =>
    have g0 : DataW.trod enc Try.prog w base spare held n 5 (List.take (Try.prog.cellsOf 5) (List.drop 0 [v0, v1, v2, v3])) = some y0 := hf 0 _ rfl
    have g1 : DataW.trod enc Try.prog w base spare held n 9 (List.take (Try.prog.cellsOf 9) (List.drop 1 [v0, v1, v2, v3])) = some y1 := hf 1 _ rfl
    have g2 : DataW.trod enc Try.prog w base spare held n 2 (List.take (Try.prog.cellsOf 2) (List.drop 2 [v0, v1, v2, v3])) = some y2 := hf 2 _ rfl
    have g3 : DataW.trod enc Try.prog w base spare held n 2 (List.take (Try.prog.cellsOf 2) (List.drop 3 [v0, v1, v2, v3])) = some y3 := hf 3 _ rfl
    rw [tcells5] at g0
    rw [mcells9] at g1
    rw [mcells2] at g2 g3
    obtain ⟨x0, e0, _, w0⟩ := DataW.trod_int Try.underlying5 (show DataW.trod enc Try.prog w base spare held n 5 [v0] = some y0 from g0)
    obtain ⟨x1, e1, _, w1⟩ := DataW.trod_string Try.underlying9 (show DataW.trod enc Try.prog w base spare held n 9 [v1] = some y1 from g1)
    obtain ⟨x2, e2, _, w2⟩ := DataW.trod_int Try.underlying2 (show DataW.trod enc Try.prog w base spare held n 2 [v2] = some y2 from g2)
    obtain ⟨x3, e3, _, w3⟩ := DataW.trod_int Try.underlying2 (show DataW.trod enc Try.prog w base spare held n 2 [v3] = some y3 from g3)
    simp only [List.cons.injEq, and_true] at e0 e1 e2 e3
    obtain ⟨b0, b0'⟩ := tu8_in w0
    refine ⟨⟨x0.toNat, x1.data.toList, x2, x3⟩, ⟨by show x0.toNat < 256; omega, by simp only [Array.length_toList]; exact w1, by have := bounds_i64 w2; unfold i64; simp only; omega, by have := bounds_i64 w3; unfold i64; simp only; omega⟩, ?_⟩
    rw [e0, e1, e2, e3]
    show [Value.int .u8 x0, _, _, _] = [Value.int .u8 ((x0.toNat : Nat) : Int), _, _, _]
    rw [show ((x0.toNat : Nat) : Int) = x0 by omega]
theorem actLs_of {H : Type} {enc : TypeId × Value → H} {w : World} {base : Nat} {spare : Nat → Bool} {held : Bool} {a : Option Addr} {len cap : Nat} {d : DataW H} {pl : List MemPlace}
    (h : DataW.Trod enc Try.prog w base spare held 42 (.slice a len cap) d pl) : ∃ z : List ActL, IsActL w a len cap z := by
  obtain ⟨fuel, hf⟩ := h
  rcases Go.Deep.open_slice Try.underlying42 hf with ⟨hcs, _⟩ | ⟨x, l, c, m, n, D, Pl, hcs, hb, hl, hm, hmm, _, hel⟩
  · simp [Value.cells] at hcs
    obtain ⟨rfl, rfl, rfl⟩ := hcs
    exact ⟨[], rfl, by unfold maxLen; omega, fun k hk => absurd hk (Nat.not_lt_zero _)⟩
  · simp [Value.cells] at hcs
    obtain ⟨rfl, rfl, rfl⟩ := hcs
    rw [cells56] at hel
    have hlm : len ≤ m := by rw [hmm]; split <;> omega
    have hp : ∀ k, k < len → ∃ p : ActL, p.Ok ∧ (∃ b o, x = ⟨b, o, none⟩ ∧ ActLAt w b (o + k * 4) p ∧ b < w.heap.size) := fun k hk => by
      obtain ⟨cs', h1, h2⟩ := hel k (by omega)
      obtain ⟨p, ok, rfl⟩ := actL_of h2
      obtain ⟨_, _, hc⟩ := World.cells?_some h1
      obtain ⟨b, o, spot⟩ := x
      have hspot : spot = none := by
        obtain ⟨cs0, i1, i2⟩ := hel 0 (by omega)
        obtain ⟨p0, _, rfl⟩ := actL_of i2
        obtain ⟨_, _, hc'⟩ := World.cells?_some i1
        have := World.cell?_spot (w := w) (hc' 0 (by omega))
        simpa [Addr.add] using this
      subst hspot
      have cell : ∀ j, j < 4 → w.cell? ⟨b, o + k * 4 + j, none⟩ = (actLC p)[j]? := fun j hj => by
        have := hc j hj
        rwa [Go.Deep.add_add, Addr.add_lit, ← Nat.add_assoc] at this
      have k0 := cell 0 (by omega)
      exact ⟨p, ok, b, o, rfl, ⟨k0, cell 1 (by omega), cell 2 (by omega), cell 3 (by omega)⟩, World.block_lt_of_cell? _ _ k0⟩
    have ih : Inhabited ActL := ⟨ActL.none_⟩
    obtain ⟨f, hf⟩ := Go.Deep.choose_lt (p := fun k p => ActL.Ok p ∧ (∃ b o, x = ⟨b, o, none⟩ ∧ ActLAt w b (o + k * 4) p ∧ b < w.heap.size)) hp
    refine ⟨(List.range len).map f, by simp, by omega, fun k hk => ?_⟩
    have e : ((List.range len).map f).getD k ActL.none_ = f k := by simp [List.getD_eq_getElem?_getD, hk]
    rw [e]
    obtain ⟨ok, b, o, rfl, hat, hlt⟩ := hf k hk
    exact ⟨b, o, rfl, hat, ok, hlt⟩
theorem ActLAt.keep {F : Nat → Prop} {w w' : World} {b o : Nat} {p : ActL} (h : ActLAt w b o p) (m : Moved F w w') (hb : b < w.heap.size) (hF : ¬ F b) : ActLAt w' b o p :=
  ⟨(m.cell (p := ⟨b, o, none⟩) hb hF).trans h.c0, (m.cell (p := ⟨b, o + 1, none⟩) hb hF).trans h.c1, (m.cell (p := ⟨b, o + 2, none⟩) hb hF).trans h.c2, (m.cell (p := ⟨b, o + 3, none⟩) hb hF).trans h.c3⟩
theorem IsActL.below {w w' : World} {a : Option Addr} {len cap : Nat} {z : List ActL} (h : IsActL w a len cap z) (hb : Below w.heap.size w w') : IsActL w' a len cap z :=
  ⟨h.size_, h.max, fun k hk => by
    obtain ⟨b, o, e, hp, ok, hlt⟩ := h.at_ k hk
    exact ⟨b, o, e, hp.keep (Moved.of_below (F := fun _ => False) hb) hlt id, ok, Nat.lt_of_lt_of_le hlt hb.size⟩⟩
theorem IsActL.ok {w : World} {a : Option Addr} {len cap : Nat} {z : List ActL} (h : IsActL w a len cap z) : ∀ p ∈ z, p.Ok := fun p hp => by
  obtain ⟨k, hk, rfl⟩ := List.mem_iff_getElem.1 hp
  obtain ⟨_, _, _, _, ok, _⟩ := h.at_ k (by rw [← h.size_]; exact hk)
  rw [List.getD_eq_getElem?_getD, List.getElem?_eq_getElem hk] at ok
  exact ok
/-- Too long a key. -/
def longL (p : ActL) : Bool := decide (100 < p.key.length)
/-- More than 200 acts, or a key of more than 100 bytes. -/
def tooGreatL (z : List ActL) : Bool := decide (200 < z.length) || z.any longL
theorem anyL_at {z : List ActL} {k : Nat} (hk : k < z.length) (h : longL (z.getD k ActL.none_) = true) : z.any longL = true := by
  rw [List.getD_eq_getElem?_getD, List.getElem?_eq_getElem hk] at h
  exact List.any_eq_true.2 ⟨_, List.getElem_mem hk, h⟩
theorem anyL_none {z : List ActL} (h : ∀ k, k < z.length → longL (z.getD k ActL.none_) = false) : z.any longL = false := by
  rw [List.any_eq_false]
  intro p hp
  obtain ⟨k, hk, rfl⟩ := List.mem_iff_getElem.1 hp
  have := h k hk
  rw [List.getD_eq_getElem?_getD, List.getElem?_eq_getElem hk] at this
  simpa using this
set_option maxRecDepth 100000 in
set_option maxHeartbeats 2000000 in
theorem greatL_any (a : Option Addr) (len cap : Nat) (z : List ActL) (w : World) (hs : IsActL w a len cap z) :
    Calls Try.prog 19 #[.slice a len cap] w fun e w' => e = .returned (.bool (tooGreatL z)) ∧ w' = w := by
  have HS := hide hs
  have hz := hs.size_
  have HZ := hide hz
  clear hs
  by_cases h200 : (200 : Int) < (len : Int)
  · have HG : Hid (tooGreatL z = true) := hide (by unfold tooGreatL; rw [hz, show decide (200 < len) = true from decide_eq_true (by omega)]; rfl)
    clear hz
    go_enter Try.func19, Try.ntmps19
    go_wp2_with fail
    go_ret
    exact ⟨by rw [unhide HG]; rfl, rfl⟩
  · have HG : Hid (tooGreatL z = z.any longL) := hide (by unfold tooGreatL; rw [hz, show decide (200 < len) = false from decide_eq_false (by omega)]; rfl)
    clear hz
    go_enter Try.func19, Try.ntmps19
    go_wp2_with fail
    go_loop [3] (fun i => ∃ k : Nat, k ≤ len ∧ i = .int .i64 k ∧ Hid (∀ j, j < k → longL (z.getD j ActL.none_) = false)) (fun i => len - (intOf i).toNat)
    case atStart => exact ⟨0, by omega, rfl, hide fun j hj => absurd hj (Nat.not_lt_zero _)⟩
    case round =>
      obtain ⟨k, hk, rfl, HA⟩ := hrel
      by_cases hlt : k < len
      · have g1 : (k : Int) < (len : Int) := by omega
        have hk0 : (0 : Int) ≤ (k : Int) := by omega
        have hwk : IntKind.i64.wrap ((k : Int) + 1) = (k : Int) + 1 := Go.IntWalk.i64_in _ (by omega)
        obtain ⟨b, o, rfl, hat, ok, _⟩ := (unhide HS).at_ k hlt
        have hc1 := hat.c1
        have HAT : Hid (longL (z.getD k ActL.none_) = true → tooGreatL z = true) := hide fun h => by rw [unhide HG]; exact anyL_at (by rw [unhide HZ]; exact hlt) h
        have HAN : Hid (longL (z.getD k ActL.none_) = false → ∀ j, j < k + 1 → longL (z.getD j ActL.none_) = false) := hide fun h j hj => by
          by_cases e : j = k
          · rw [e]; exact h
          · exact unhide HA j (by omega)
        clear hat ok HA
        generalize z.getD k ActL.none_ = y at *
        obtain ⟨yd, yk, ya, yn⟩ := y
        dsimp only at hc1
        have hz1 : (⟨yk.toArray⟩ : ByteArray).size = yk.length := by simp [ByteArray.size]
        by_cases h1 : (100 : Int) < (yk.length : Int)
        · have RR := hide (unhide HAT (by unfold longL; simp; omega))
          go_wp2_with fail
          go_ret
          exact ⟨by rw [unhide RR]; rfl, rfl⟩
        · have RR := hide (unhide HAN (by unfold longL; simp; omega))
          go_wp2_with fail
          go_round
          case rel => exact ⟨k + 1, by omega, by go_num, RR⟩
          case measure => simp [intOf]; omega
      · have g1 : ¬ (k : Int) < (len : Int) := by omega
        have hke : k = len := by omega
        have RR : Hid (tooGreatL z = false) := hide (by rw [unhide HG]; exact anyL_none (fun j hj => unhide HA j (by rw [hke, ← unhide HZ]; exact hj)))
        go_wp2_with fail
        go_ret
        exact ⟨by rw [unhide RR]; rfl, rfl⟩
theorem mild_actL {s : LineV × List (Win AggV)} (h : Mild s.1.row) {p : ActL} (hp : p.Ok) : Mild (actL s p).1.row := by
  unfold actL
  split
  · exact mild_putL h hp.n
  · split
    · exact (mild_markL h _).1
    · exact h
theorem takeL_snoc {z : List ActL} {k : Nat} (hk : k < z.length) : z.take (k + 1) = z.take k ++ [z.getD k ActL.none_] := by
  rw [List.take_add_one, List.getD_eq_getElem?_getD, List.getElem?_eq_getElem hk]; rfl
end Go.Proofs.Ytmgmkdkdpeljmaa

namespace Go.Proofs.Ytmgmkdkdpeljmaa
open Go.RowKit
abbrev ownB (a : Option Addr) (l : List (Win AggV)) (c : Nat) : Option Nat := (Value.slice a l.length c).ownBlock
/-- The line at p with L, the document's in the box h: M, whose row is a; the act's box b. -/
structure PLF (w0 v : World) (p h b : Nat) (y : List Value) (F : Nat → Prop) (L : LineV) (a : Option Addr) (c : Nat) (M : LineV) : Prop where
  here : HLF w0 v p F L [(a, c, M.row)]
  nh : ¬ F h
  nb : ¬ F b
  hb : ¬ h = b
  lo : w0.heap.size ≤ h
  lb : w0.heap.size ≤ b
  rh : RowAt v h [.int .i64 M.mark, .slice a M.row.length c]
  rb : RowAt v b y
  rn : ∀ k, ownB a M.row c = some k → k ≠ b ∧ k ≠ h
def PL (w0 v : World) (p h b : Nat) (y : List Value) (L : LineV) (a : Option Addr) (c : Nat) (M : LineV) : Prop := ∃ F, PLF w0 v p h b y F L a c M
/-- The same without the act's box. -/
def PLR (w0 v : World) (p h : Nat) (L : LineV) (a : Option Addr) (c : Nat) (M : LineV) : Prop :=
  ∃ F, HLF w0 v p F L [(a, c, M.row)] ∧ ¬ F h ∧ w0.heap.size ≤ h ∧ RowAt v h [.int .i64 M.mark, .slice a M.row.length c] ∧ ∀ k, ownB a M.row c = some k → k ≠ h
variable {w0 v v' : World} {p h b : Nat} {y : List Value} {F : Nat → Prop} {L L' M M' : LineV} {a a' : Option Addr} {c c' : Nat}
theorem PLR.start (hs : LineIs v p F L) (hF : ∀ k, F k → w0.heap.size ≤ k) (hb : Below w0.heap.size w0 v) (nh : ¬ F h) (lo : w0.heap.size ≤ h) (rh : RowAt v h [.int .i64 M.mark, .slice a M.row.length c]) (hr : OutK.Row v w0.heap.size a c M.row) (hn : ∀ k, ownB a M.row c = some k → k ≠ h ∧ ¬ F k) : PLR w0 v p h L a c M :=
  ⟨F, ⟨hs, hF, hb, fun r hr2 => by
    have : r = (a, c, M.row) := by simpa using hr2
    subst this
    exact ⟨hr, fun k hk => (hn k hk).2⟩⟩, nh, lo, rh, fun k hk => (hn k hk).1⟩
theorem PL.end_ (k : PL w0 v p h b y L a c M) : PLR w0 v p h L a c M := by obtain ⟨F, k⟩ := k; exact ⟨F, k.here, k.nh, k.lo, k.rh, fun j hj => (k.rn j hj).2⟩
theorem PL.bel (k : PL w0 v p h b y L a c M) : Below w0.heap.size w0 v := by obtain ⟨F, k⟩ := k; exact k.here.bel
theorem PLR.bel (k : PLR w0 v p h L a c M) : Below w0.heap.size w0 v := by obtain ⟨F, k, _⟩ := k; exact k.bel
/-- An act's box is made, and filled. -/
theorem PLR.box (k : PLR w0 v p h L a c M) (m : Moved (fun _ => False) v v') (hr : RowAt v' v.heap.size y) : PL w0 v' p h v.heap.size y L a c M := by
  obtain ⟨F, k1, k2, k3, k4, k5⟩ := k
  have hb : Below v.heap.size v v' := m.below (fun _ f => f.elim) (Nat.le_refl _)
  exact ⟨F, k1.below hb, k2, fun f => Nat.lt_irrefl _ (k1.st.lt _ f), fun e => Nat.lt_irrefl _ (e ▸ k4.lt), k3, k1.bel.size, k4.below hb, hr, fun j hj => ⟨fun e => Nat.lt_irrefl _ (e ▸ (row_lt (k1.rows _ List.mem_cons_self).1 j hj).2), k5 j hj⟩⟩
theorem PLF.did (k : PLF w0 v p h b y F L a c M) (hd : DidL v v' p F L') : PL w0 v' p h b y L' a c M := by
  obtain ⟨F', s, f, m⟩ := hd
  have hh := k.rh.lt
  have hb := k.rb.lt
  exact ⟨F', k.here.step s f m, fun e => (f h e).elim k.nh (fun e => by omega), fun e => (f b e).elim k.nb (fun e => by omega), k.hb, k.lo, k.lb, k.rh.keep m k.nh, k.rb.keep m k.nb, k.rn⟩
theorem PL.below (k : PL w0 v p h b y L a c M) (hb : Below v.heap.size v v') : PL w0 v' p h b y L a c M := by
  obtain ⟨F, k⟩ := k
  exact ⟨F, k.here.below hb, k.nh, k.nb, k.hb, k.lo, k.lb, k.rh.below hb, k.rb.below hb, k.rn⟩
theorem PL.drew (k : PL w0 v p h b y L a c M) : PL w0 v.drew p h b y L a c M := k.below ((Below.refl _ _).drew)
theorem PL.rh (k : PL w0 v p h b y L a c M) : RowAt v h [.int .i64 M.mark, .slice a M.row.length c] := by obtain ⟨F, k⟩ := k; exact k.rh
theorem PL.rb (k : PL w0 v p h b y L a c M) : RowAt v b y := by obtain ⟨F, k⟩ := k; exact k.rb
theorem PL.row (k : PL w0 v p h b y L a c M) : OutK.Row v w0.heap.size a c M.row := by obtain ⟨F, k⟩ := k; exact (k.here.rows _ List.mem_cons_self).1
theorem PL.hlt (k : PL w0 v p h b y L a c M) : h + 1 ≤ v.heap.size := by obtain ⟨F, k⟩ := k; exact k.rh.lt
theorem PL.put (k : PL w0 v p h b y L a c M) (hm : Mild L.row) (key : List UInt8) (at_ n : Int) (hn : i64 n) :
    Calls Try.prog 25 #[.pointer (some ⟨p, 0, none⟩), .string ⟨key.toArray⟩, .int .i64 at_, .int .i64 n] v fun e v' => e = .returned (.int .i64 ((putL L key at_ n).2 : Int)) ∧ PL w0 v' p h b y (putL L key at_ n).1 a c M := by
  obtain ⟨F, k⟩ := k
  exact (tput_any k.here.st hm.most hm.ins_ key at_ n hn).mono fun e v' ⟨h1, h2⟩ => ⟨h1, k.did h2⟩
theorem PL.mark (k : PL w0 v p h b y L a c M) (hm : Mild L.row) (m : Int) :
    Calls Try.prog 27 #[.pointer (some ⟨p, 0, none⟩), .int .i64 m] v fun e v' => ∃ a1 c1, e = .returned (.tuple #[.int .i64 ((markL L m).2.1 : Int), .slice a1 (markL L m).2.2.length c1]) ∧ OutK.Row v' v.heap.size a1 c1 (markL L m).2.2 ∧ PL w0 v' p h b y (markL L m).1 a c M ∧ v.heap.size ≤ v'.heap.size := by
  obtain ⟨F, k⟩ := k
  exact (tmark_any k.here.st (Nat.le_trans hm.most (by omega)) m).mono fun e v' ⟨a1, c1, h1, h2, h3, h4⟩ => ⟨a1, c1, h1, h2, k.did ⟨F, h3, fun _ f => .inl f, h4⟩, h4.size⟩
theorem PL.at_ (k : PL w0 v p h b y L a c M) : Calls Try.prog 29 #[.pointer (some ⟨p, 0, none⟩)] v fun e v' => e = .returned (.int .i64 L.mark) ∧ v' = v := by
  obtain ⟨F, k⟩ := k
  exact tat_any k.here.st
theorem PL.open_ (k : PL w0 v p h b y L a c M) (hm : Mild L.row) :
    Calls Try.prog 30 #[.pointer (some ⟨p, 0, none⟩)] v fun e v' => ∃ a1 c1, e = .returned (.slice a1 L.row.length c1) ∧ OutK.Row v' v.heap.size a1 c1 L.row ∧ PL w0 v' p h b y L a c M := by
  obtain ⟨F, k⟩ := k
  exact (topen_any k.here.st (Nat.le_trans hm.most (by omega))).mono fun e v' ⟨a1, c1, h1, h2, h3⟩ => ⟨a1, c1, h1, h2, PL.below ⟨F, k⟩ h3⟩
/-- The document's line is another now, and its box is written. -/
theorem PL.doc (k : PL w0 v p h b y L a c M) (hb : Below v.heap.size v v') (hr : OutK.Row v' w0.heap.size a' c' M'.row) (hn : ∀ j, ownB a' M'.row c' = some j → ownB a M.row c = some j ∨ v.heap.size ≤ j) :
    ∃ wf, v'.setCells h 0 [.int .i64 M'.mark, .slice a' M'.row.length c'] = wf ∧ PL w0 wf p h b y L a' c' M' ∧ Moved (fun i => i = h) v' wf := by
  obtain ⟨F, k⟩ := k
  have mf := setCells_moved v' h 0 [.int .i64 M'.mark, .slice a' M'.row.length c']
  have hlt := k.rh.lt
  have hlb := k.rb.lt
  have h1 := k.here.below hb
  have hne : ∀ j, ownB a' M'.row c' = some j → j ≠ b ∧ j ≠ h := fun j hj => by
    rcases hn j hj with e2 | e2
    · exact k.rn j e2
    · exact ⟨by omega, by omega⟩
  have hr' : OutK.Row (v'.setCells h 0 [.int .i64 M'.mark, .slice a' M'.row.length c']) w0.heap.size a' c' M'.row := row_moved hr mf (fun i hi j hj e => (hne j hj).2 (by omega))
  refine ⟨_, rfl, ⟨F, ⟨h1.st.keep mf (fun i hi f => k.nh (hi ▸ f)), h1.big, ((Moved.of_below (F := fun i => i = h) h1.bel).trans mf (fun _ hi => .inl hi)).below (fun i hi => by have := k.lo; omega) (Nat.le_refl _), ?_⟩,
    k.nh, k.nb, k.hb, k.lo, k.lb, (k.rh.below hb).put _ rfl, (k.rb.below hb).keep mf (fun e => k.hb e.symm), hne⟩, mf⟩
  intro r hr2
  have : r = (a', c', M'.row) := by simpa using hr2
  subst this
  refine ⟨hr', fun j hj f => ?_⟩
  rcases hn j hj with e | e
  · exact (k.here.rows _ List.mem_cons_self).2 j e f
  · have := k.here.st.lt j f; omega
theorem outs_lay {w : World} {B c : Nat} {a : Option Addr} {l : List (Win AggV)} (h : OutK.Row w B a c l) (hl : l.length ≤ 1000) : Lay w a l := by
  refine ⟨row_lies h, ?_, hl⟩
  rcases h.2 with ⟨_, h0⟩ | ⟨g, cap, cur, hv, _⟩
  · exact .inr (List.length_eq_zero_iff.1 h0)
  · refine .inl ⟨g, ?_, (row_lt h g (by rw [hv]; rfl)).2⟩
    simp only [Value.slice.injEq] at hv; exact hv.1
theorem good_putL (hg : Good SO L.row) {k : List UInt8} {x n : Int} (hn : i64 n) : Good SO (putL L k x n).1.row := by
  rcases putL_ways L k x n with ⟨_, e⟩ | ⟨_, ⟨_, e⟩ | ⟨hl, ⟨_, e⟩ | ⟨_, e⟩⟩⟩
  · rw [e]; exact hg
  · rw [e]; exact hg
  · rw [e]; exact put_good so_law hg hn
  · rw [e]; exact hg
theorem good_markL (hg : Good SO L.row) (x : Int) : Good SO (markL L x).1.row := by
  rcases markL_ways L x with ⟨_, e⟩ | ⟨hr, ⟨_, e⟩ | ⟨_, e⟩⟩
  · rw [e]; exact hg
  · rw [e]; exact hg
  · rw [e]; exact (take_good hg x).1
theorem good_actL {s : LineV × List (Win AggV)} (hg : Good SO s.1.row) {p : ActL} (hp : p.Ok) : Good SO (actL s p).1.row := by
  unfold actL
  split
  · exact good_putL hg hp.n
  · split
    · exact good_markL hg _
    · exact hg
theorem good_setAll {m : Int} : ∀ {xs r : List (Win AggV)}, Good SO r → Good SO (setAll m r xs).1
  | [], r, hg => hg
  | x :: xs, r, hg => by
    rw [setAll]
    split
    · exact hg
    · split
      · exact good_setAll (set_good hg x)
      · exact hg
theorem good_ofL {m : Int} {o : List (Win AggV)} : Good SO (ofL m o).1.row := by
  unfold ofL
  split
  · exact good_setAll good_nil
  · exact good_nil
end Go.Proofs.Ytmgmkdkdpeljmaa

namespace Go.Proofs.Ytmgmkdkdpeljmaa
open Go.RowKit
def wt1 : List (Win AggV) := [⟨[97], 0, put zero 5⟩]
theorem wt_put : putL newL [97] 3 5 = (⟨0, wt1⟩, 1) := by kernel_rfl
theorem wt_mark1 : markL ⟨0, wt1⟩ 14 = (⟨14, wt1⟩, 1, []) := by kernel_rfl
theorem wt_mark2 : markL ⟨14, wt1⟩ 15 = (⟨15, []⟩, 1, wt1) := by kernel_rfl
theorem wt_late : putL ⟨15, []⟩ [97] 4 1 = (⟨15, []⟩, 2) := by kernel_rfl
theorem wt_mild : Mild wt1 := by
  have := mild_putL (L := newL) mild_nil (k := [97]) (a := 3) (n := 5) (by unfold i64; omega)
  rw [wt_put] at this; exact this
theorem tw_put {w v : World} {p : Nat} (h : HL w v p newL []) : Calls Try.prog 25 #[.pointer (some ⟨p, 0, none⟩), .string ⟨#[97]⟩, .int .i64 3, .int .i64 5] v fun e v' => e = .returned (.int .i64 1) ∧ HL w v' p ⟨0, wt1⟩ [] := by
  have := h.put mild_nil [97] 3 5 (by unfold i64; omega)
  rw [wt_put] at this; exact this
theorem tw_mark1 {w v : World} {p : Nat} (h : HL w v p ⟨0, wt1⟩ []) : Calls Try.prog 27 #[.pointer (some ⟨p, 0, none⟩), .int .i64 14] v fun e v' => ∃ a c, e = .returned (.tuple #[.int .i64 1, .slice a 0 c]) ∧ HL w v' p ⟨14, wt1⟩ [] := by
  have := h.mark wt_mild 14
  rw [wt_mark1] at this
  exact this.mono fun e v' ⟨a, c, h1, h2⟩ => ⟨a, c, h1, h2.drop (fun _ h => by cases h)⟩
theorem tw_mark2 {w v : World} {p : Nat} (h : HL w v p ⟨14, wt1⟩ []) : Calls Try.prog 27 #[.pointer (some ⟨p, 0, none⟩), .int .i64 15] v fun e v' => ∃ a c, e = .returned (.tuple #[.int .i64 1, .slice a 1 c]) ∧ HL w v' p ⟨15, []⟩ [(a, c, wt1)] := by
  have := h.mark wt_mild 15
  rw [wt_mark2] at this
  exact this
theorem tw_late {w v : World} {p : Nat} {R : List Held} (h : HL w v p ⟨15, []⟩ R) : Calls Try.prog 25 #[.pointer (some ⟨p, 0, none⟩), .string ⟨#[97]⟩, .int .i64 4, .int .i64 1] v fun e v' => e = .returned (.int .i64 2) ∧ HL w v' p ⟨15, []⟩ R := by
  have := h.put mild_nil [97] 4 1 (by unfold i64; omega)
  rw [wt_late] at this; exact this
theorem wt_row {w v : World} {p : Nat} {a : Option Addr} {c : Nat} (h : HL w v p ⟨15, []⟩ [(a, c, wt1)]) : ∃ g, a = some ⟨g, 0, none⟩ ∧ v.cell? ⟨g, 3, none⟩ = some (.int .i64 5) := by
  obtain ⟨g, hg, hr, _⟩ := held_at (h.row List.mem_cons_self) (j := 0) (x := ⟨[97], 0, put zero 5⟩) rfl
  exact ⟨g, hg, hr 3 _ rfl⟩
set_option maxRecDepth 100000 in
set_option maxHeartbeats 4000000 in
theorem twakes_any (w : World) : Calls Try.prog 21 #[] w fun e w' => e = .returned (.bool true) ∧ Below w.heap.size w w' := by
  have hw0 := hide (HL.new (Below.refl w.heap.size w))
  go_enter Try.func21, Try.ntmps21
  go_upto_region 2 with fail
  refine (unhide hw0).mono ?_
  rintro e v1 ⟨p0, rfl, HE⟩
  have H1 := hide HE
  clear HE hw0
  go_upto_region 3 with fail
  refine (tw_put (unhide H1)).mono ?_
  rintro e v2 ⟨rfl, HE⟩
  have H2 := hide HE
  clear HE H1
  go_upto_region 4 with fail
  refine (tw_mark1 (unhide H2)).mono ?_
  rintro e v3 ⟨a3, c3, rfl, HE⟩
  have H3 := hide HE
  clear HE H2
  go_upto_region 5 with fail
  refine (tw_mark2 (unhide H3)).mono ?_
  rintro e v4 ⟨a4, c4, rfl, HE⟩
  have H4 := hide HE
  clear HE H3
  go_upto_region 6 with fail
  refine (tw_late (unhide H4)).mono ?_
  rintro e v5 ⟨rfl, HE⟩
  obtain ⟨g, rfl, hc⟩ := wt_row HE
  have H5 := hide HE
  have HAT := hide HE.at_
  clear HE H4
  go_wp2_with fail
  refine (unhide HAT).mono ?_
  rintro e v' ⟨rfl, hw⟩
  rw [hw]
  clear hw v'
  go_wp2_with fail
  go_ret
  exact ⟨rfl, (unhide H5).bel⟩
theorem tput_nil (k : ByteArray) (a n : Int) (w : World) : Calls Try.prog 25 #[.pointer none, .string k, .int .i64 a, .int .i64 n] w fun e w' => e = .returned (.int .i64 4) ∧ w' = w := by
  go_enter Try.func25, Try.ntmps25
  go_wp2_with fail
  go_ret
  exact ⟨rfl, rfl⟩
theorem tmark_nil (a : Int) (w : World) : Calls Try.prog 27 #[.pointer none, .int .i64 a] w fun e w' => e = .returned (.tuple #[.int .i64 4, .slice none 0 0]) ∧ w' = w := by
  go_enter Try.func27, Try.ntmps27
  go_wp2_with fail
  go_ret2
  exact ⟨rfl, rfl⟩
theorem tat_nil (w : World) : Calls Try.prog 29 #[.pointer none] w fun e w' => e = .returned (.int .i64 0) ∧ w' = w := by
  go_enter Try.func29, Try.ntmps29
  go_wp2_with fail
  go_ret
  exact ⟨rfl, rfl⟩
theorem topen_nil (w : World) : Calls Try.prog 30 #[.pointer none] w fun e w' => e = .returned (.slice none 0 0) ∧ w' = w := by
  go_enter Try.func30, Try.ntmps30
  go_wp2_with fail
  go_ret
  exact ⟨rfl, rfl⟩
theorem ttwin_nil (w : World) : Calls Try.prog 31 #[.pointer none] w fun e w' => e = .returned (.pointer none) ∧ w' = w := by
  go_enter Try.func31, Try.ntmps31
  go_wp2_with fail
  go_ret
  exact ⟨rfl, rfl⟩
set_option maxRecDepth 100000 in
set_option maxHeartbeats 4000000 in
theorem tnobody_any (s : ByteArray) (a n : Int) (w : World) : Calls Try.prog 5 #[.string s, .int .i64 a, .int .i64 n] w fun e w' => e = .returned (.bool true) ∧ Below w.heap.size w w' := by
  have WK := hide twakes_any
  by_cases h1 : (100 : Int) < (s.size : Int)
  · go_enter Try.func5, Try.ntmps5
    go_wp2_with fail
    refine (unhide WK _).mono ?_
    rintro e v' ⟨rfl, hb⟩
    go_wp2_with fail
    go_ret
    exact ⟨rfl, hb⟩
  · go_enter Try.func5, Try.ntmps5
    go_wp2_with (first | (go_at_call 25; refine (tput_nil _ _ _ _).mono ?_; rintro e w' ⟨rfl, hw⟩; rw [hw]) | (go_at_call 27; refine (tmark_nil _ _).mono ?_; rintro e w' ⟨rfl, hw⟩; rw [hw]) | (go_at_call 29; refine (tat_nil _).mono ?_; rintro e w' ⟨rfl, hw⟩; rw [hw]) | (go_at_call 30; refine (topen_nil _).mono ?_; rintro e w' ⟨rfl, hw⟩; rw [hw]) | (go_at_call 31; refine (ttwin_nil _).mono ?_; rintro e w' ⟨rfl, hw⟩; rw [hw]) | (go_at_call 21; refine (unhide WK _).mono ?_; rintro e w' ⟨rfl, hb⟩; have B4 := hide hb; clear hb))
    go_ret
    exact ⟨rfl, unhide B4⟩
end Go.Proofs.Ytmgmkdkdpeljmaa

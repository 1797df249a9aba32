/- What the statements' own helpers do: same, great, awake, tell, after. No conditions but the ones named. -/
import Derived.Test.YtdmjkbcjljnleaaHeres
namespace Go.Proofs.Ytdmjkbcjljnleaa
open Go.RowKit

theorem wpList_load_on {P : Program} {ops : Array Oper} {rest : List Oper} {op : Oper} {a : Go.Act} {w : World} {Q : Exit → Go.Act → World → Prop} (hw : Region.wanted op (yielded ops a.tmps) = true) (ty : TypeId) (x : Operand) (ho : op.op = .load ty x)
    (b o : Nat) (hx : a.eval x = .pointer (some ⟨b, o, none⟩)) (cs : List Value) (d : TypeDesc) (hc : w.rangeAt b o cs)
    (hu : P.underlying ty = some d) (hd : d.isRow = true) (hi : (P.info? ty).map (·.size) = some cs.length)
    (h : wpList P ops Q rest (a.put op.dst (.agg cs.toArray)) w) : wpList P ops Q (op :: rest) a w := by
  unfold wpList
  rw [if_pos hw]
  exact .inl (wp_load_mid ty x ho b o hx cs d hc hu hd hi h)
theorem take_snoc {β : Type} {l : List β} {k : Nat} {x : β} (h : l[k]? = some x) : l.take (k + 1) = l.take k ++ [x] := by
  rw [List.take_add_one, h]; rfl
def sameL (l m : List Int) : Bool := decide (l = m)
theorem sameL_false {l m : List Int} (h : l ≠ m) : sameL l m = false := decide_eq_false h
theorem take_eq_succ {l m : List Int} {k : Nat} (h : l.take k = m.take k) {x y : Int} (hx : l[k]? = some x) (hy : m[k]? = some y) : l.take (k + 1) = m.take (k + 1) ↔ x = y := by
  rw [take_snoc hx, take_snoc hy, h]
  simp
set_option maxRecDepth 100000 in
set_option maxHeartbeats 2000000 in
theorem same_any {w : World} {a b : Option Addr} {c d : Nat} {l m : List Int} (hl : IntK.At w a l) (hm : IntK.At w b m) (hz : l.length ≤ 1000000000000) :
    Calls Try.prog 11 #[.slice a l.length c, .slice b m.length d] w fun e w' => e = .returned (.bool (sameL l m)) ∧ Below w.heap.size w w' := by
  have HL := hide hl
  have HM := hide hm
  have HZ := hide hz
  clear hl hm hz
  by_cases hlen : l.length = m.length
  · have HLE := hide hlen
    have gl : (l.length : Int) = (m.length : Int) := by omega
    clear hlen
    go_enter Try.func11, Try.ntmps11
    go_wp2_with fail
    go_loopw [5] (fun i wr => ∃ k : Nat, i = .int .i64 (k : Int) ∧ k ≤ l.length ∧ l.take k = m.take k ∧ Below w.heap.size w wr) (fun i _ => l.length - (RowKit.intOf i).toNat)
    case atStart => exact ⟨0, rfl, Nat.zero_le _, by rw [List.take_zero, List.take_zero], Below.refl _ _⟩
    case round =>
      obtain ⟨k, rfl, hk, htk, hb⟩ := hrel
      have HTK := hide htk
      have HB := hide hb
      clear htk hb
      by_cases hlt : k < l.length
      · have g0 : (0 : Int) ≤ (k : Int) := by omega
        have g1 : (k : Int) < (l.length : Int) := by omega
        have g2 : (k : Int) < (m.length : Int) := by omega
        have hwk : IntKind.i64.wrap ((k : Int) + 1) = (k : Int) + 1 := Go.IntWalk.i64_in _ (by have := unhide HZ; omega)
        obtain ⟨x, hx⟩ : ∃ x, l[k]? = some x := ⟨_, List.getElem?_eq_getElem hlt⟩
        obtain ⟨y, hy⟩ : ∃ y, m[k]? = some y := ⟨_, List.getElem?_eq_getElem (by have := unhide HLE; omega)⟩
        obtain ⟨g, o, rfl, hg, hrg⟩ := ((unhide HL).below (Nat.le_refl _) (unhide HB)).cell intK_law hx
        obtain ⟨g', o', rfl, hg', hrg'⟩ := ((unhide HM).below (Nat.le_refl _) (unhide HB)).cell intK_law hy
        have z0 := hrg 0 (.int .i64 x) rfl
        have z1 := hrg' 0 (.int .i64 y) rfl
        simp only [IntK, Nat.mul_one, Nat.add_zero] at z0 z1
        have NEXT := hide (take_eq_succ (unhide HTK) hx hy)
        have DIFF : Hid (x ≠ y → sameL l m = false) := hide fun hne => sameL_false fun e => hne (by rw [e, hy] at hx; exact (Option.some.inj hx).symm)
        obtain ⟨CL, hCL⟩ : ∃ CL : World → Prop, CL = fun v => Below w.heap.size w v ∧ v.cell? ⟨g, o + k, none⟩ = some (.int .i64 x) ∧ v.cell? ⟨g', o' + k, none⟩ = some (.int .i64 y) := ⟨_, rfl⟩
        have un : ∀ v, CL v → Below w.heap.size w v ∧ v.cell? ⟨g, o + k, none⟩ = some (.int .i64 x) ∧ v.cell? ⟨g', o' + k, none⟩ = some (.int .i64 y) := fun v k => by rw [hCL] at k; exact k
        have base : CL wr.drew := by rw [hCL]; exact ⟨(unhide HB).drew, z0, z1⟩
        have ne : Nonempty (SX CL) := ⟨⟨_, base⟩⟩
        have x0 : ∀ q : SX CL, q.w.cell? ⟨g, o + k, none⟩ = some (.int .i64 x) := fun q => (un _ q.ok).2.1
        have x1 : ∀ q : SX CL, q.w.cell? ⟨g', o' + k, none⟩ = some (.int .i64 y) := fun q => (un _ q.ok).2.2
        have UN := hide fun v hv => (un v hv).1
        have BS := hide base
        clear hx hy hg hrg hg' hrg' hCL base un z0 z1
        by_cases he : x = y
        · subst he
          have HE := hide ((unhide NEXT).2 rfl)
          go_upto_region 6 with fail
          refine wp_region_sx (St := CL) (by kernel_rfl) (by kernel_rfl) (unhide BS) ?_
          repeat (go_big_quiet_step (fail))
          refine wpQuiet_nil ?_
          first | (rintro v1 ⟨⟨v1', OK1⟩, e1⟩; subst e1) | rintro ⟨v1, OK1⟩
          try dsimp only
          have B1 := hide (unhide UN _ OK1)
          clear OK1 x0 x1
          go_wp2_with fail
          exact ⟨⟨k + 1, rfl, by omega, unhide HE, unhide B1⟩, by simp [RowKit.intOf]; omega⟩
        · have HE := hide (unhide DIFF he)
          have hd : (x == y) = false := by simpa using he
          have hd2 : decide (x = y) = false := decide_eq_false he
          go_upto_region 6 with fail
          refine wp_region_sx (St := CL) (by kernel_rfl) (by kernel_rfl) (unhide BS) ?_
          repeat (go_big_quiet_step (fail))
          refine wpQuiet_nil ?_
          first | (rintro v1 ⟨⟨v1', OK1⟩, e1⟩; subst e1) | rintro ⟨v1, OK1⟩
          try dsimp only
          have B1 := hide (unhide UN _ OK1)
          clear OK1 x0 x1
          go_wp2_with fail
          go_ret
          exact ⟨by rw [unhide HE]; rfl, unhide B1⟩
      · have hke : k = l.length := by omega
        have HEQ : Hid (sameL l m = true) := hide (decide_eq_true (by
          have := unhide HTK
          rw [hke, List.take_length, unhide HLE, List.take_length] at this
          exact this))
        clear hke
        go_wp2_with fail
        go_ret
        exact ⟨by rw [unhide HEQ]; rfl, unhide HB⟩
  · have hne : Hid (sameL l m = false) := hide (sameL_false fun e => hlen (by rw [e]))
    have hl2 : ¬ (l.length : Int) = (m.length : Int) := by omega
    clear hlen
    go_enter Try.func11, Try.ntmps11
    go_wp2_with fail
    go_ret
    exact ⟨by rw [unhide hne]; rfl, Below.refl _ _⟩

/-- Whether acts are more than a statement takes. -/
def big (x : ActM) : Bool := decide (20 < x.set.length) || (decide (x.act = 1) && decide (200 < x.n))
def great (l : List ActM) : Bool := (l.take 61).any big || decide (60 < l.length)
structure Mild (l : List ActM) : Prop where
  len : l.length ≤ 60
  set : ∀ x ∈ l, x.set.length ≤ 20
  n : ∀ x ∈ l, x.act = 1 → x.n ≤ 200
theorem mild_of {l : List ActM} (h : great l = false) : Mild l := by
  unfold great at h
  rw [Bool.or_eq_false_iff, decide_eq_false_iff_not] at h
  have hl : l.length ≤ 60 := by omega
  have h1 := h.1
  rw [List.take_of_length_le (by omega)] at h1
  have key : ∀ x ∈ l, big x = false := fun x hx => by
    cases hb : big x with
    | false => rfl
    | true => rw [List.any_eq_true.2 ⟨x, hx, hb⟩] at h1; cases h1
  refine ⟨hl, fun x hx => ?_, fun x hx h1 => ?_⟩
  · have := key x hx
    unfold big at this
    rw [Bool.or_eq_false_iff, decide_eq_false_iff_not] at this
    omega
  · have := key x hx
    unfold big at this
    rw [Bool.or_eq_false_iff, decide_eq_true h1, Bool.true_and, decide_eq_false_iff_not, decide_eq_false_iff_not] at this
    have := this.2
    omega
set_option maxRecDepth 100000 in
set_option maxHeartbeats 2000000 in
theorem great_any {w : World} {a : Option Addr} {c : Nat} {l : List ActM} (hl : ActK.At w a l) (hz : l.length ≤ maxLen) :
    Calls Try.prog 17 #[.slice a l.length c] w fun e w' => e = .returned (.bool (great l)) ∧ w' = w := by
  have HL := hide hl
  have HZ := hide hz
  clear hl hz
  go_enter Try.func17, Try.ntmps17
  go_wp2_with fail
  go_loopw [3] (fun i wr => ∃ k : Nat, i = .int .i64 (k : Int) ∧ k ≤ l.length ∧ k ≤ 61 ∧ (l.take k).any big = false ∧ wr = w) (fun i _ => l.length - (RowKit.intOf i).toNat)
  case atStart => exact ⟨0, rfl, Nat.zero_le _, by omega, rfl, rfl⟩
  case round =>
    obtain ⟨k, rfl, hk, hk6, hno, rfl⟩ := hrel
    by_cases hlt : k < l.length
    · have g0 : (0 : Int) ≤ (k : Int) := by omega
      have g1 : (k : Int) < (l.length : Int) := by omega
      by_cases h6 : k ≤ 60
      · have g2 : (k : Int) ≤ 60 := by omega
        have hwk : IntKind.i64.wrap ((k : Int) + 1) = (k : Int) + 1 := Go.IntWalk.i64_in _ (by omega)
        obtain ⟨x, hx⟩ : ∃ x, l[k]? = some x := ⟨_, List.getElem?_eq_getElem hlt⟩
        obtain ⟨g, o, rfl, hg, hrg⟩ := (unhide HL).cell actK_law hx
        have z0 := hrg 0 (.int .i64 x.act) rfl
        have z1 := hrg 1 (.int .i64 x.n) rfl
        have z2 := hrg 2 (.slice x.a x.set.length x.c) rfl
        simp only [ActK, Nat.add_zero] at z0 z1 z2
        have YES : Hid (big x = true → great l = true) := hide fun hb => by
          unfold great
          rw [List.any_eq_true.2 ⟨x, List.mem_iff_getElem?.2 ⟨k, by rw [List.getElem?_take_of_lt (by omega)]; exact hx⟩, hb⟩]; rfl
        have NO : Hid (big x = false → (l.take (k + 1)).any big = false) := hide fun hb => by
          rw [take_snoc hx, List.any_append, hno]; simp [hb]
        clear hno hx hg hrg
        by_cases b1 : 20 < x.set.length
        · have bb : Hid (great l = true) := hide (unhide YES (by unfold big; rw [decide_eq_true b1]; rfl))
          have g3 : (20 : Int) < (x.set.length : Int) := by omega
          clear YES NO
          go_wp2_with fail
          go_ret
          exact ⟨by rw [unhide bb]; rfl, rfl⟩
        · have g3 : ¬ (20 : Int) < (x.set.length : Int) := by omega
          by_cases b2 : x.act = 1
          · by_cases b3 : 200 < x.n
            · have bb : Hid (great l = true) := hide (unhide YES (by unfold big; rw [decide_eq_true b2, decide_eq_true b3]; simp))
              clear YES NO
              go_wp2_with fail
              go_ret
              exact ⟨by rw [unhide bb]; rfl, rfl⟩
            · have bb := hide (unhide NO (by unfold big; rw [decide_eq_false b1, decide_eq_false b3]; simp))
              clear YES NO
              go_wp2_with fail
              exact ⟨⟨k + 1, rfl, by omega, by omega, unhide bb, trivial⟩, by simp [RowKit.intOf]; omega⟩
          · have bb := hide (unhide NO (by unfold big; rw [decide_eq_false b1, decide_eq_false b2]; rfl))
            clear YES NO
            go_wp2_with fail
            exact ⟨⟨k + 1, rfl, by omega, by omega, unhide bb, trivial⟩, by simp [RowKit.intOf]; omega⟩
      · have g2 : ¬ (k : Int) ≤ 60 := by omega
        have bb : Hid (great l = decide (60 < l.length)) := hide (by unfold great; rw [show (61 : Nat) = k by omega, hno]; rfl)
        have g3 : (60 : Int) < (l.length : Int) := by omega
        have g4 : Hid (60 < l.length) := hide (by omega)
        clear hno
        go_wp2_with fail
        go_ret
        exact ⟨by rw [unhide bb, decide_eq_true (unhide g4)]; rfl, rfl⟩
    · have hke : k = l.length := by omega
      have bb : Hid (great l = decide (60 < l.length)) := hide (by
        unfold great
        rw [List.take_of_length_le (show l.length ≤ 61 by omega), ← List.take_length (l := l), ← hke, hno, List.take_of_length_le (by omega)]; rfl)
      have hne : Hid (decide (60 < l.length) = decide ((60 : Int) < (l.length : Int))) := hide (by
        by_cases h : 60 < l.length
        · rw [decide_eq_true h, decide_eq_true (by omega)]
        · rw [decide_eq_false h, decide_eq_false (by omega)])
      clear hno hke
      go_wp2_with fail
      go_ret
      exact ⟨by rw [unhide bb]; first | rfl | (rw [unhide hne]; rfl), rfl⟩
end Go.Proofs.Ytdmjkbcjljnleaa

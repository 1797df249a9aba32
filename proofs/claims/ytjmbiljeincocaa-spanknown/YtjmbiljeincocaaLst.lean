/- What the document's own Starts answers: a row of its own, which holds the plain one (startsL). Conditions: none. -/
import Derived.Test.YtjmbiljeincocaaRef
import Derived.LoopTactic
import Derived.Deep.Upon
import Derived.Lib.Builder
import Derived.Laws.AppendOwn
namespace Go.Proofs.Ytjmbiljeincocaa
open Go.RowKit

/-- A row of numbers that lies from a on. -/
def Ints (w : World) (a : Option Addr) (xs : List Int) : Prop := ∀ i, i < xs.length → ∃ x, a = some x ∧ w.cell? (x.add i) = some (.int .i64 (xs.getD i 0))
theorem add_block (x : Addr) (i : Nat) : (x.add i).block = x.block := by unfold Addr.add; split <;> rfl

theorem wpList_app {w : World} {ops : Array Oper} {rest : List Oper} {o : Oper} {a : Act} {Q : Exit → Act → World → Prop} (hgd : o.guard = none) (s x : Operand) (t tx : TypeId)
    (ho : o.op = .call { callee := .builtin .append, args := #[s, x], argTypes := #[t, tx] }) {v xv v' : Value} {w' : World} (hs : a.eval s = v) (hx : a.eval x = xv)
    (hr : ∀ ty, (Builtin.append_ #[t, tx] ty #[v, xv]).run Try.prog w = .ok v' w') (h : wpList Try.prog ops Q rest (a.put o.dst v') w') : wpList Try.prog ops Q (o :: rest) a w :=
  wpList_plain hgd fun _ hK => by
    unfold Oper.wp execOp
    simp only [ho, resolve, invoke, builtin, Sem.run_bind, Sem.run_pure, Result.andThen_ok, List.map_toArray, List.map_cons, List.map_nil, hs, hx, hr]
    exact hK _ _ h

def intCells (l : List Int) : List Value := l.map fun x => .int .i64 x
theorem info2 : (Try.prog.info? 2).map (fun i => (i.zero, i.size, i.bytes)) = some (some (.int .i64 0), 1, 8) := by kernel_rfl
/-- One int more. -/
theorem app_int {w : World} {base : Nat} {v : Value} {l : List Int} (h : w.ownsRow base 2 1 v l.length (intCells l)) (x : Int) (hl : l.length ≤ 100000) (hb : base ≤ w.heap.size) :
    ∃ v' w', (∀ ty, (Builtin.append_ #[26, 26] ty #[v, .slice (some ⟨w.heap.size, 0, none⟩) 1 1]).run Try.prog (w.alloc (.cells #[.int .i64 x] 2)) = .ok v' w') ∧
      w'.ownsRow base 2 1 v' (l ++ [x]).length (intCells (l ++ [x])) ∧ Below base w w' := by
  obtain ⟨i0, hi, hz0, hz1, hz2⟩ := info_parts info2
  have hnews : ∀ j u, (intCells [x])[j]? = some u → (w.alloc (.cells #[.int .i64 x] 2)).cell? ((⟨w.heap.size, 0, none⟩ : Addr).add j) = some u := fun j u hj => by
    match j, hj with
    | 0, hj =>
      simp [intCells] at hj
      subst hj
      rw [Addr.add_lit]; simp
    | j + 1, hj => simp [intCells] at hj
  have h1 : ∀ u ∈ intCells [x], u.oneCell' = true := fun u hu => by simp [intCells] at hu; subst hu; rfl
  have key : ∀ ty, ∃ v' w', (Builtin.append_ #[26, 26] ty #[v, .slice (some ⟨w.heap.size, 0, none⟩) 1 1]).run Try.prog (w.alloc (.cells #[.int .i64 x] 2)) = .ok v' w' ∧ w'.ownsRow base 2 1 v' (l.length + 1) (intCells l ++ intCells [x]) ∧ (w.alloc (.cells #[.int .i64 x] 2)).grownBy w' v.ownBlock := fun ty => by
    obtain ⟨v', w', h2, h3, h4, _⟩ := run_append_own (P := Try.prog) (w.alloc (.cells #[.int .i64 x] 2)) base 26 ty 2 i0 (.int .i64 0) 1 8 Try.underlying26 hi hz0 hz1 hz2 rfl (by decide) v l.length (intCells l) (h.alloc _) ⟨w.heap.size, 0, none⟩ 1 1 (intCells [x]) rfl hnews h1
      (by unfold maxLen; omega) (by omega) (by simp; omega)
    exact ⟨v', w', h2, h3, h4⟩
  obtain ⟨v', w', h2, h3, h4⟩ := key 0
  have hc : intCells (l ++ [x]) = intCells l ++ intCells [x] := by simp [intCells]
  have hn : (l ++ [x]).length = l.length + 1 := by simp
  rw [hc, hn]
  refine ⟨v', w', fun ty => ?_, h3, ?_⟩
  · exact h2
  · exact ((Below.refl base w).alloc hb _).grown h4 (by simp; omega) (fun k hk => (h.lt k hk).1)
theorem ints_of_owns {w : World} {base : Nat} {v : Value} {l : List Int} (h : w.ownsRow base 2 1 v l.length (intCells l)) : ∃ a cap, v = .slice a l.length cap ∧ Ints w a l := by
  rcases h.2 with ⟨hv, h0⟩ | ⟨g, cap, cur, hv, _, hg, _, _, _, htake⟩
  · refine ⟨none, 0, by rw [hv, h0], fun i hi => by omega⟩
  · refine ⟨some ⟨g, 0, none⟩, cap, hv, fun i hi => ⟨_, rfl, ?_⟩⟩
    rw [Addr.add_lit, Nat.zero_add]
    rw [Nat.mul_one] at htake
    have hc : (cur.toList.take l.length)[i]? = some (.int .i64 (l.getD i 0)) := by
      rw [htake]
      simp [intCells, List.getD_eq_getElem?_getD, hi]
    rw [List.getElem?_take_of_lt hi] at hc
    unfold World.cell?
    simp only [hg]
    simpa using hc
theorem owns_none (w : World) (base : Nat) : w.ownsRow base 2 1 (.slice none 0 0) ([] : List Int).length (intCells []) := ⟨rfl, .inl ⟨rfl, rfl⟩⟩

/-- The first multiple that is not over, as the document counts it. -/
theorem ref_first {s : Int} (h : 0 ≤ s ∧ s ≤ 1099511627776) (h15 : 15 ≤ s) : (s - 15) / 10 * 10 + 10 = firstI s := by
  unfold firstI startI; rw [if_pos (by omega)]; omega
theorem ref_none {s : Int} (h : 0 ≤ s ∧ s ≤ 1099511627776) (h15 : ¬ 15 ≤ s) : 0 = firstI s := by
  unfold firstI startI; rw [if_pos (by omega)]; omega
theorem firstI_open {s : Int} (h : 0 ≤ s ∧ s ≤ 1099511627776) : s < firstI s + 15 := by
  unfold firstI startI; rw [if_pos (by omega)]; omega
theorem upL_none {m x : Int} (h : ¬ isOver x m) : ∀ k, upL m k x = []
  | 0 => rfl
  | k + 1 => by rw [upL, if_neg h]
theorem starts_nomark {m s : Int} (h : ¬ (0 ≤ m ∧ m ≤ 1099511627776)) : startsL m s = [] := by
  unfold startsL; split
  · exact upL_none (fun k => h k.2.1) _
  · rfl
theorem starts_nosince {m s : Int} (h : ¬ (0 ≤ s ∧ s ≤ 1099511627776)) : startsL m s = [] := by unfold startsL; rw [if_neg h]
theorem starts_back {m s : Int} (h : m < s) : startsL m s = [] := by
  unfold startsL; split
  · rename_i hs; exact upL_none (fun k => by have := firstI_open hs; have := k.2.2; omega) _
  · rfl

set_option maxRecDepth 100000 in
set_option maxHeartbeats 2000000 in
theorem rstarts_any (m s : Int) (w : World) : Calls Try.prog 20 #[.int .i64 m, .int .i64 s] w fun e w' => ∃ v, e = .returned v ∧ w'.ownsRow w.heap.size 2 1 v (startsL m s).length (intCells (startsL m s)) ∧ Below w.heap.size w w' := by
  by_cases hm : 0 ≤ m ∧ m ≤ 1099511627776
  · by_cases hs : 0 ≤ s ∧ s ≤ 1099511627776
    · have r1 := hide (rightI_iff.2 hm)
      have r2 := hide (rightI_iff.2 hs)
      have HM := hide hm
      by_cases hb : m < s
      · have E := hide (starts_back hb)
        clear hm hs
        go_enter Try.func20, Try.ntmps20
        go_wp2_with (go_at_call 10; refine (rright_any _ _).mono ?_; rintro e w' ⟨rfl, hw⟩; replace hw := hw.symm; subst hw; first | rw [unhide r1] | rw [unhide r2])
        go_ret
        rw [unhide E]
        exact ⟨_, rfl, owns_none _ _, Below.refl _ _⟩
      · have F0 := firstI_right hs
        by_cases h15 : 15 ≤ s
        · have e0 := ref_first hs h15
          have E1 : Hid (startsL m s = [] ++ upL m (1000 - 0) ((s - 15) / 10 * 10 + 10)) := hide (by unfold startsL; rw [if_pos hs, e0]; rfl)
          have F1 : Hid (0 ≤ (s - 15) / 10 * 10 + 10 ∧ (s - 15) / 10 * 10 + 10 ≤ 1099511627786 ∧ ((s - 15) / 10 * 10 + 10) % 10 = 0) := hide (by omega)
          have k1 := Go.IntWalk.i64_in (s - 15) (by omega)
          have k2 := Go.IntWalk.i64_in ((s - 15) / 10) (by omega)
          have k3 := Go.IntWalk.i64_in ((s - 15) / 10 * 10) (by omega)
          have k4 := Go.IntWalk.i64_in ((s - 15) / 10 * 10 + 10) (by omega)
          have k5 : Int.tdiv (s - 15) 10 = (s - 15) / 10 := Int.tdiv_eq_ediv_of_nonneg (by omega)
          clear hm hs e0 F0
          go_enter Try.func20, Try.ntmps20
          go_wp2_with (go_at_call 10; refine (rright_any _ _).mono ?_; rintro e w' ⟨rfl, hw⟩; replace hw := hw.symm; subst hw; first | rw [unhide r1] | rw [unhide r2])
          clear k1 k2 k3 k4 k5
          go_loopw [5, 7] (fun l x wr => ∃ (pre : List Int) (y : Int) (j : Nat), x = .int .i64 y ∧ j ≤ 1000 ∧ pre.length = j ∧ startsL m s = pre ++ upL m (1000 - j) y ∧ (0 ≤ y ∧ y ≤ 1099511627786 ∧ y % 10 = 0) ∧ wr.ownsRow w.heap.size 2 1 l pre.length (intCells pre) ∧ Below w.heap.size w wr) (fun _ x _ => (1099511627800 - intOf x).toNat)
          case atStart => exact ⟨[], _, 0, rfl, by omega, rfl, unhide E1, unhide F1, owns_none _ _, Below.refl _ _⟩
          case round =>
            obtain ⟨pre, y, j, rfl, hj, hp, hx, hy, ho, hB⟩ := hrel
            obtain ⟨a, cap, rfl, hI⟩ := ints_of_owns ho
            have O := hide ho
            have HB := hide hB
            have HX := hide hx
            have HP := hide hp
            clear ho hB hx hI
            have e1 := Go.IntWalk.i64_in (y + 15) (by omega)
            have e2 := Go.IntWalk.i64_in (y + 10) (by omega)
            by_cases ho : y + 15 ≤ m
            · have HO : Hid (isOver y m) := hide ⟨⟨hy.1, by have := unhide HM; omega, hy.2.2⟩, unhide HM, ho⟩
              have hy2 : y ≤ 1099511627776 := by have := unhide HM; omega
              by_cases hlt : pre.length < 1000
              · obtain ⟨v', w3, hr, hown3, hB3⟩ := app_int (unhide O) y (by omega) (unhide HB).size
                have HR := hide hr
                have O3 := hide hown3
                have B3 := hide ((unhide HB).trans hB3)
                have hlt' : (pre.length : Int) < 1000 := by omega
                have HY := hide hy
                have HL := hide hlt
                have HJ := hide hj
                clear hr hown3 hB3 hy hj hp hlt
                go_wp2_with (at_builtin; refine wpList_app rfl _ _ 26 26 rfl rfl rfl (unhide HR) ?_)
                go_roundw
                case rel =>
                  refine ⟨pre ++ [y], y + 10, j + 1, rfl, by have := unhide HL; have := unhide HP; omega, by simp [unhide HP], ?_, by have := unhide HY; omega, unhide O3, unhide B3⟩
                  obtain ⟨u, hu⟩ : ∃ u, 1000 - j = u + 1 := ⟨1000 - j - 1, by have := unhide HL; have := unhide HP; omega⟩
                  rw [show 1000 - (j + 1) = u by omega, unhide HX, hu, upL, if_pos (unhide HO)]; simp
                case measure => have := unhide HY; simp [intOf]; omega
              · have hlt' : ¬ (pre.length : Int) < 1000 := by omega
                have hj2 : j = 1000 := by omega
                have HJ := hide hj2
                clear hy hj hp hlt hj2
                go_wp2
                go_ret
                rw [unhide HX, unhide HJ, show upL m (1000 - 1000) y = [] from rfl, List.append_nil]
                exact ⟨_, rfl, unhide O, unhide HB⟩
            · have HO : Hid (¬ isOver y m) := hide (fun k => ho k.2.2)
              clear hy hj hp
              go_wp2
              go_ret
              rw [unhide HX, upL_none (unhide HO), List.append_nil]
              exact ⟨_, rfl, unhide O, unhide HB⟩
        · have e0 := ref_none hs h15
          have E1 : Hid (startsL m s = [] ++ upL m (1000 - 0) 0) := hide (by unfold startsL; rw [if_pos hs, ← e0]; rfl)
          have F1 : Hid ((0 : Int) ≤ 0 ∧ (0 : Int) ≤ 1099511627786 ∧ (0 : Int) % 10 = 0) := hide (by omega)
          clear hm hs e0 F0
          go_enter Try.func20, Try.ntmps20
          go_wp2_with (go_at_call 10; refine (rright_any _ _).mono ?_; rintro e w' ⟨rfl, hw⟩; replace hw := hw.symm; subst hw; first | rw [unhide r1] | rw [unhide r2])
          go_loopw [5, 7] (fun l x wr => ∃ (pre : List Int) (y : Int) (j : Nat), x = .int .i64 y ∧ j ≤ 1000 ∧ pre.length = j ∧ startsL m s = pre ++ upL m (1000 - j) y ∧ (0 ≤ y ∧ y ≤ 1099511627786 ∧ y % 10 = 0) ∧ wr.ownsRow w.heap.size 2 1 l pre.length (intCells pre) ∧ Below w.heap.size w wr) (fun _ x _ => (1099511627800 - intOf x).toNat)
          case atStart => exact ⟨[], _, 0, rfl, by omega, rfl, unhide E1, unhide F1, owns_none _ _, Below.refl _ _⟩
          case round =>
            obtain ⟨pre, y, j, rfl, hj, hp, hx, hy, ho, hB⟩ := hrel
            obtain ⟨a, cap, rfl, hI⟩ := ints_of_owns ho
            have O := hide ho
            have HB := hide hB
            have HX := hide hx
            have HP := hide hp
            clear ho hB hx hI
            have e1 := Go.IntWalk.i64_in (y + 15) (by omega)
            have e2 := Go.IntWalk.i64_in (y + 10) (by omega)
            by_cases ho : y + 15 ≤ m
            · have HO : Hid (isOver y m) := hide ⟨⟨hy.1, by have := unhide HM; omega, hy.2.2⟩, unhide HM, ho⟩
              have hy2 : y ≤ 1099511627776 := by have := unhide HM; omega
              by_cases hlt : pre.length < 1000
              · obtain ⟨v', w3, hr, hown3, hB3⟩ := app_int (unhide O) y (by omega) (unhide HB).size
                have HR := hide hr
                have O3 := hide hown3
                have B3 := hide ((unhide HB).trans hB3)
                have hlt' : (pre.length : Int) < 1000 := by omega
                have HY := hide hy
                have HL := hide hlt
                have HJ := hide hj
                clear hr hown3 hB3 hy hj hp hlt
                go_wp2_with (at_builtin; refine wpList_app rfl _ _ 26 26 rfl rfl rfl (unhide HR) ?_)
                go_roundw
                case rel =>
                  refine ⟨pre ++ [y], y + 10, j + 1, rfl, by have := unhide HL; have := unhide HP; omega, by simp [unhide HP], ?_, by have := unhide HY; omega, unhide O3, unhide B3⟩
                  obtain ⟨u, hu⟩ : ∃ u, 1000 - j = u + 1 := ⟨1000 - j - 1, by have := unhide HL; have := unhide HP; omega⟩
                  rw [show 1000 - (j + 1) = u by omega, unhide HX, hu, upL, if_pos (unhide HO)]; simp
                case measure => have := unhide HY; simp [intOf]; omega
              · have hlt' : ¬ (pre.length : Int) < 1000 := by omega
                have hj2 : j = 1000 := by omega
                have HJ := hide hj2
                clear hy hj hp hlt hj2
                go_wp2
                go_ret
                rw [unhide HX, unhide HJ, show upL m (1000 - 1000) y = [] from rfl, List.append_nil]
                exact ⟨_, rfl, unhide O, unhide HB⟩
            · have HO : Hid (¬ isOver y m) := hide (fun k => ho k.2.2)
              clear hy hj hp
              go_wp2
              go_ret
              rw [unhide HX, upL_none (unhide HO), List.append_nil]
              exact ⟨_, rfl, unhide O, unhide HB⟩
    · have r1 := hide (rightI_iff.2 hm)
      have r2 : Hid (rightI s = false) := hide (by unfold rightI; exact decide_eq_false hs)
      have E : Hid (startsL m s = []) := hide (starts_nosince hs)
      clear hm hs
      go_enter Try.func20, Try.ntmps20
      go_wp2_with (go_at_call 10; refine (rright_any _ _).mono ?_; rintro e w' ⟨rfl, hw⟩; replace hw := hw.symm; subst hw; first | rw [unhide r1] | rw [unhide r2])
      go_ret
      rw [unhide E]
      exact ⟨_, rfl, owns_none _ _, Below.refl _ _⟩
  · have r1 : Hid (rightI m = false) := hide (by unfold rightI; exact decide_eq_false hm)
    have E : Hid (startsL m s = []) := hide (starts_nomark hm)
    clear hm
    go_enter Try.func20, Try.ntmps20
    go_wp2_with (go_at_call 10; refine (rright_any _ _).mono ?_; rintro e w' ⟨rfl, hw⟩; replace hw := hw.symm; subst hw; rw [unhide r1])
    go_ret
    rw [unhide E]
    exact ⟨_, rfl, owns_none _ _, Below.refl _ _⟩
end Go.Proofs.Ytjmbiljeincocaa

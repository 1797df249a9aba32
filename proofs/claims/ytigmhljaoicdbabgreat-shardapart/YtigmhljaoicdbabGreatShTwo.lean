/- Two items of other sources and keys, in either row, as plain facts; what is told is over, and what is open is not. No Go. -/
import Derived.Test.YtigmhljaoicdbabGreatGShMath
namespace Go.Proofs.YtigmhljaoicdbabGreat
def offL (k : List UInt8) (a m : Int) : Prop := ¬ (keyOk k = true ∧ Sp.rightI a = true) ∨ Sp.lateI a m = true
theorem putL_off {k : List UInt8} {a m : Int} (h : offL k a m) : ∃ c, ∀ (M : LineV) (v : Int), M.mark = m → putL M k a v = (M, c) := by
  by_cases hk : keyOk k = true ∧ Sp.rightI a = true
  · refine ⟨2, fun M v hm => ?_⟩
    unfold putL
    rw [if_pos hk, hm, if_pos (h.resolve_left (fun g => g hk))]
  · refine ⟨4, fun M v _ => ?_⟩
    unfold putL
    rw [if_neg hk]
theorem putL_on {k : List UInt8} {a : Int} {M : LineV} (h : ¬ offL k a M.mark) (v : Int) : putL M k a v = if (putS SO M.row k a v).2 = 0 then (⟨M.mark, (putS SO M.row k a v).1⟩, 1) else (M, 3) := by
  have hk : keyOk k = true ∧ Sp.rightI a = true := Decidable.not_not.1 fun g => h (.inl g)
  have hl : ¬ Sp.lateI a M.mark = true := fun g => h (.inr g)
  unfold putL
  rw [if_pos hk, if_neg hl]
theorem putL_mark (L : LineV) (k : List UInt8) (a v : Int) : (putL L k a v).1.mark = L.mark := by
  rcases putL_ways L k a v with ⟨_, e⟩ | ⟨_, ⟨_, e⟩ | ⟨_, ⟨_, e⟩ | ⟨_, e⟩⟩⟩ <;> rw [e]
theorem putL_far {L : LineV} (hg : Good SO L.row) {k k' : List UInt8} {a a' v v' : Int} (hv : i64 v) (hv' : i64 v') (hk : k ≠ k') (h1 : (putL L k a v).2 ≠ 3) (h2 : (putL (putL L k a v).1 k' a' v').2 ≠ 3) :
    (putL L k' a' v').2 = (putL (putL L k a v).1 k' a' v').2 ∧ (putL (putL L k' a' v').1 k a v).2 = (putL L k a v).2 ∧ (putL (putL L k' a' v').1 k a v).1 = (putL (putL L k a v).1 k' a' v').1 := by
  by_cases o1 : offL k a L.mark
  · obtain ⟨c, hc⟩ := putL_off o1
    rw [hc L v rfl, hc (putL L k' a' v').1 v (putL_mark _ _ _ _)]
    exact ⟨rfl, rfl, rfl⟩
  · by_cases o2 : offL k' a' L.mark
    · obtain ⟨c, hc⟩ := putL_off o2
      rw [hc L v' rfl, hc (putL L k a v).1 v' (putL_mark _ _ _ _)]
      exact ⟨rfl, rfl, rfl⟩
    · have e1 := putL_on o1 v
      have z1 : (putS SO L.row k a v).2 = 0 := Decidable.not_not.1 fun g => h1 (by rw [e1, if_neg g])
      rw [if_pos z1] at e1
      rw [e1] at h2 ⊢
      have e2 := putL_on (M := ⟨L.mark, (putS SO L.row k a v).1⟩) o2 v'
      have z2 : (putS SO (putS SO L.row k a v).1 k' a' v').2 = 0 := Decidable.not_not.1 fun g => h2 (by rw [e2]; exact congrArg Prod.snd (if_neg g))
      have e2' := e2.trans (if_pos z2)
      obtain ⟨c1, c2, c3⟩ := put_comm so_law hg hv hv' (fun e => hk e.1) (k := k) (k' := k') (a := a) (a' := a') (by rw [z1]; decide) (by rw [z2]; decide)
      have e3 := (putL_on o2 v').trans (if_pos (c2.trans z2))
      rw [e3]
      have e4 := (putL_on (M := ⟨L.mark, (putS SO L.row k' a' v').1⟩) o1 v).trans (if_pos (c1.trans z1))
      rw [e2', e4]
      exact ⟨rfl, rfl, by rw [c3]⟩
theorem ask_far {S : StV} {x y : ItemV} (h : x.src ≠ y.src) : askS (appS S y) x = askS S x := by
  unfold appS
  split
  · show Sn.ask (Sn.note S.tab y.src y.seq y.low (doL S.line y).2.1) x.src x.seq x.low = Sn.ask S.tab x.src x.seq x.low
    by_cases hx : 0 ≤ x.src ∧ x.src < 4
    · exact Sn.ask_congr (Sn.note_other _ _ _ _ _ (by omega)) _ _
    · have hm : Sn.may x.src x.seq x.low = false := Bool.eq_false_iff.2 fun g => by
        have := Sn.may_iff.1 g
        exact hx ⟨this.1, this.2.1⟩
      unfold Sn.ask
      rw [hm]; rfl
  · rfl
theorem code_stale {S T : StV} {x : ItemV} (h : freshS S x = false) (e : askS T x = askS S x) : codeS T x = codeS S x := by
  have h' := stale_iff.1 h
  unfold codeS
  rw [e]
  split
  · rfl
  · first | rfl | rw [if_neg h', if_neg h']
theorem fresh_far {S : StV} {x y : ItemV} (h : x.src ≠ y.src) : freshS (appS S y) x = freshS S x := by
  unfold freshS
  rw [ask_far h]
theorem do_one {L : LineV} {x : ItemV} (h : x.kind = 1) : doL L x = ((putL L x.key x.at_ x.n).1, ((putL L x.key x.at_ x.n).2 : Int), []) := if_pos h
/-- Adds of two keys by two sources come to the same in either row, if both find room. -/
theorem apps_far {S : StV} (hS : GoodS S) {x y : ItemV} (nx : i64 x.n) (ny : i64 y.n) (hs : x.src ≠ y.src) (hk : x.key ≠ y.key) (kx : x.kind = 1) (ky : y.kind = 1) (ha : codeS S x ≠ 3) (hb : codeS (appS S x) y ≠ 3) :
    codeS S y = codeS (appS S x) y ∧ codeS (appS S y) x = codeS S x ∧ appS (appS S y) x = appS (appS S x) y := by
  have e1 := ask_far (S := S) (x := x) (y := y) hs
  have e2 := ask_far (S := S) (x := y) (y := x) (Ne.symm hs)
  have f1 := fresh_far (S := S) (x := x) (y := y) hs
  have f2 := fresh_far (S := S) (x := y) (y := x) (Ne.symm hs)
  cases hx : freshS S x with
  | false =>
    rw [hx] at f1
    rw [(app_stale hx).1, (app_stale f1).1]
    exact ⟨rfl, code_stale hx e1, rfl⟩
  | true =>
    cases hy : freshS S y with
    | false =>
      rw [hy] at f2
      rw [(app_stale hy).1, (app_stale f2).1]
      exact ⟨(code_stale hy e2).symm, rfl, rfl⟩
    | true =>
      rw [hx] at f1
      rw [hy] at f2
      have p1 := app_fresh hx
      have p2 := app_fresh hy
      have q1 := app_fresh f1
      have q2 := app_fresh f2
      have l1 : (appS S x).line = (doL S.line x).1 := by rw [p1.1]
      have l2 : (appS S y).line = (doL S.line y).1 := by rw [p2.1]
      rw [l1] at q2
      rw [l2] at q1
      rw [p1.2.2] at ha
      rw [q2.2.2] at hb
      have d1 := do_one (L := S.line) kx
      have d2 := do_one (L := S.line) ky
      have far := putL_far hS.line.good (k := x.key) (k' := y.key) (a := x.at_) (a' := y.at_) nx ny hk (fun g => ha (by rw [d1, g]; rfl)) (fun g => hb (by rw [do_one ky, d1, g]; rfl))
      have c1 : (doL S.line y).2.1 = (doL (doL S.line x).1 y).2.1 := by rw [d2, do_one (L := (doL S.line x).1) ky, d1]; exact congrArg (fun n : Nat => (n : Int)) far.1
      have c2 : (doL (doL S.line y).1 x).2.1 = (doL S.line x).2.1 := by rw [d1, do_one (L := (doL S.line y).1) kx, d2]; exact congrArg (fun n : Nat => (n : Int)) far.2.1
      have c3 : (doL (doL S.line y).1 x).1 = (doL (doL S.line x).1 y).1 := by rw [do_one (L := (doL S.line y).1) kx, do_one (L := (doL S.line x).1) ky, d2, d1]; exact far.2.2
      refine ⟨by rw [p2.2.2, q2.2.2]; exact c1, by rw [q1.2.2, p1.2.2]; exact c2, ?_⟩
      rw [q1.1, q2.1, c3, c2, ← c1, p2.1, p1.1]
      have sw := (Sn.note_swap S.tab (a := ⟨false, x.src, x.seq, x.low, (doL S.line x).2.1⟩) (b := ⟨false, y.src, y.seq, y.low, (doL S.line y).2.1⟩) hs).2
      have sw' : Sn.note (Sn.note S.tab x.src x.seq x.low (doL S.line x).2.1) y.src y.seq y.low (doL S.line y).2.1 = Sn.note (Sn.note S.tab y.src y.seq y.low (doL S.line y).2.1) x.src x.seq x.low (doL S.line x).2.1 := sw
      show (⟨_, _⟩ : StV) = ⟨_, _⟩
      rw [sw']
theorem mark_up (S : StV) (y : ItemV) : S.line.mark ≤ (appS S y).line.mark := by
  unfold appS
  split
  · show S.line.mark ≤ (doL S.line y).1.mark
    unfold doL
    split
    · rw [putL_mark]; exact Int.le_refl _
    · split
      · rcases markL_ways S.line y.at_ with ⟨_, e⟩ | ⟨_, ⟨_, e⟩ | ⟨h, e⟩⟩
        · rw [e]; exact Int.le_refl _
        · rw [e]; exact Int.le_refl _
        · rw [e]; show S.line.mark ≤ y.at_; omega
      · exact Int.le_refl _
  · exact Int.le_refl _
theorem outs_over {S : StV} {x : ItemV} : ∀ b ∈ outsS S x, Sp.overI b.start (appS S x).line.mark = true := by
  unfold outsS appS
  split
  · show ∀ b ∈ (doL S.line x).2.2, Sp.overI b.start (doL S.line x).1.mark = true
    unfold doL
    split
    · intro b hb; cases hb
    · split
      · exact markL_told
      · intro b hb; cases hb
  · intro b hb; cases hb
theorem told_over {S : StV} (hS : GoodS S) {x y : ItemV} (nx : i64 x.n) (ny : i64 y.n) : ∀ b ∈ outsS S x ++ outsS (appS S x) y, Sp.overI b.start (appS (appS S x) y).line.mark = true := fun b hb => by
  rcases List.mem_append.1 hb with h | h
  · exact over_up (outs_over b h) (goodS_app (goodS_app hS nx) ny).line.right (mark_up (appS S x) y)
  · exact outs_over b h
end Go.Proofs.YtigmhljaoicdbabGreat

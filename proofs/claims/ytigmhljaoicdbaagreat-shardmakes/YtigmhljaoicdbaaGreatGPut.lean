/- What the program's Put answers: the plain one; nothing that was there has turned. Conditions: all numbers are int64's. -/
import Derived.Test.YtigmhljaoicdbaaGreatJoin
import Derived.Test.YtigmhljaoicdbaaGreatGShelf
import Derived.Test.YtigmhljaoicdbaaGreatMem
import Derived.OwnWalk
import Derived.Test.YtigmhljaoicdbaaGreatKeep
import Derived.Test.YtigmhljaoicdbaaGreatRight
import Derived.Test.YtigmhljaoicdbaaGreatGStoreDo
namespace Go.Proofs.YtigmhljaoicdbaaGreat
open Go.RowKit

/-- Two rows, side by side, and nothing below them has turned. -/
def Two (w : World) (H : Nat) (us vs : List Value) (w' : World) : Prop := RowAt w' H us ∧ RowAt w' (H + 1) vs ∧ Below H w w'
theorem Two.carry {H : Nat} {w w1 w2 : World} {us vs : List Value} (h : Two w H us vs w1) (hb : Below w1.heap.size w1 w2) : Two w H us vs w2 :=
  ⟨h.1.keep (Moved.of_below (F := fun _ => False) hb) id, h.2.1.keep (Moved.of_below (F := fun _ => False) hb) id, h.2.2.trans (hb.mono (by have := h.1.lt; omega))⟩
theorem Two.drew {H : Nat} {w w1 : World} {us vs : List Value} (h : Two w H us vs w1) : Two w H us vs w1.drew :=
  ⟨h.1.keep (Moved.refl (fun _ => False) _).drew id, h.2.1.keep (Moved.refl (fun _ => False) _).drew id, h.2.2.drew⟩

set_option maxHeartbeats 1000000 in
set_option maxRecDepth 100000 in
theorem put_any (a : AggV) (v : Int) (w : World) (ha : a.In) (hv : i64 v) :
    Calls Tryz.prog 105 #[aggV a, .int .i64 v] w fun e w' => e = .returned (aggV (put a v)) ∧ Below w.heap.size w w' := by
  have HA := hide ha
  have HV := hide hv
  clear ha hv
  obtain ⟨w0, hw0⟩ : ∃ w0, w0 = (w.alloc (.cells (cellsA a).toArray 50)).alloc (.cells #[.int .i64 0, .int .i64 0, .int .i64 0, .int .i64 0, .int .i64 0, .int .i64 0, .int .i64 0, .int .i64 0] 50) := ⟨_, rfl⟩
  have Hw0 := hide hw0
  obtain ⟨H, hH⟩ : ∃ H, H = w.heap.size := ⟨_, rfl⟩
  have HH := hide hH
  have RA : RowAt w0 H (cellsA a) := by rw [hw0, hH]; exact row_old (row_new w (cellsA a) 50) _
  have RB : RowAt w0 (H + 1) (cellsA zero) := by rw [hw0, hH]; exact row_new2 w (cellsA zero) (cellsA a) 50 50
  have HBl : Below H w w0 := by rw [hw0, hH]; exact ((Below.refl _ _).alloc (Nat.le_refl _) _).alloc (by simp) _
  obtain ⟨St, hSt⟩ : ∃ St : World → Prop, St = Two w H (cellsA a) (cellsA zero) := ⟨_, rfl⟩
  have Hst := hide hSt
  have st : St w0.drew := by rw [hSt]; exact Two.drew ⟨RA, RB, HBl⟩
  have sS : Hid (∀ p : SW St, Calls Tryz.prog 119 #[.int .i64 v] p.w fun e w' => e = .returned (aggV (one v)) ∧ ∃ q : SW St, w' = q.w) := hide (fun ⟨p, hp⟩ => (single_any v p).mono (by
    rintro e w' ⟨rfl, hb⟩
    refine ⟨rfl, ⟨w', ?_⟩, rfl⟩
    rw [hSt] at hp ⊢; exact hp.carry hb))
  have sJ : Hid (∀ p : SW St, Calls Tryz.prog 118 #[aggV a, aggV (one v)] p.w fun e w' => e = .returned (aggV (put a v)) ∧ ∃ q : SW St, w' = q.w) := hide (fun ⟨p, hp⟩ => (join_any a (one v) p (unhide HA) (one_in (unhide HV))).mono (by
    rintro e w' ⟨rfl, hb⟩
    refine ⟨rfl, ⟨w', ?_⟩, rfl⟩
    rw [hSt] at hp ⊢; exact hp.carry hb))
  have QR : Hid (∀ w', (∃ p : SW St, w' = p.w) → w'.rangeAt H 0 (cellsA a)) := hide (by
    rintro w' ⟨⟨p, hp⟩, rfl⟩
    rw [hSt] at hp
    exact hp.1.range)
  clear hw0 hH RA RB HBl hSt
  go_enter Tryz.func105, Tryz.ntmps105
  unfold aggV
  go_upto_region 1 with fail
  rw [← unhide HH, ← unhide Hw0]
  clear Hw0
  have ne : Nonempty (SW St) := ⟨⟨_, st⟩⟩
  refine wp_region_last_sw (St := St) (by kernel_rfl) (by kernel_rfl) st ?_
  simp only [List.dropLast_cons_cons, List.dropLast_singleton]
  refine wpQuiet_load_on rfl 50 (.tmp 2) rfl H 0 rfl (cellsA a) _ (unhide QR) Tryz.underlying50 rfl (by kernel_rfl) ?_
  go_simp
  repeat (go_big_quiet_step (first | (go_at_call 119; exact unhide sS _) | (go_at_call 118; exact unhide sJ _)))
  refine wpQuiet_nil ?_
  intro w9 st9 o0 ho
  simp only [List.getLast?_cons_cons, List.getLast?_singleton, Option.some.injEq] at ho
  subst ho
  rw [unhide Hst] at st9
  have T := hide st9
  clear st9 ne st sS sJ QR
  have hth := (unhide T).2.1.there
  refine ⟨rfl, ?_⟩
  refine wp_store_mid 50 (.tmp 4) (.tmp 8) rfl (H + 1) 0 (cellsA (put a v)).toArray rfl rfl hth (by kernel_rfl) (by simp [Value.oneCell', cellsA, I]) ?_
  clear hth
  have RF := (unhide T).2.1.put (cellsA (put a v)) rfl
  have BF := hide ((unhide T).2.2.trans ((setCells_moved w9 (H + 1) 0 (cellsA (put a v))).below (B := H) (fun i hi => by omega) (by have := (unhide T).1.lt; omega)))
  change Exit.then _ _ _ _ (w9.setCells (H + 1) 0 (cellsA (put a v)))
  generalize w9.setCells (H + 1) 0 (cellsA (put a v)) = wf at *
  have hfr := RF.range
  go_wp2_with fail
  refine bodyPost_ret (v := aggV (put a v)) ?_ rfl ?_
  · exact results_cell_mid Tryz.results105 _ wf (H + 1) _ _ rfl hfr Tryz.underlying50 rfl (by kernel_rfl)
  · refine ⟨rfl, ?_⟩
    have h := unhide BF
    rw [unhide HH] at h; exact h
end Go.Proofs.YtigmhljaoicdbaaGreat

namespace Go.Proofs.YtigmhljaoicdbaaGreat
open Go.RowKit
theorem wpList_load_on {P : Program} {ops : Array Oper} {rest : List Oper} {op : Oper} {a : Act} {w : World} {Q : Exit → Act → World → Prop} (hw : Region.wanted op (yielded ops a.tmps) = true) (ty : TypeId) (x : Operand) (ho : op.op = .load ty x)
    (b o : Nat) (hx : a.eval x = .pointer (some ⟨b, o, none⟩)) (cs : List Value) (d : TypeDesc) (hc : w.rangeAt b o cs)
    (hu : P.underlying ty = some d) (hd : d.isRow = true) (hi : (P.info? ty).map (·.size) = some cs.length)
    (h : wpList P ops Q rest (a.put op.dst (.agg cs.toArray)) w) : wpList P ops Q (op :: rest) a w := by
  unfold wpList
  rw [if_pos hw]
  exact .inl (wp_load_mid ty x ho b o hx cs d hc hu hd hi h)
theorem wpList_app {P : Program} {w : World} {ops : Array Oper} {rest : List Oper} {o : Oper} {a : Act} {Q : Exit → Act → World → Prop} (hgd : o.guard = none) (s x : Operand) (t tx ty : TypeId)
    (ho : o.op = .call { callee := .builtin .append, args := #[s, x], argTypes := #[t, tx] }) (hty : o.type = ty) {v xv v' : Value} {w' : World} (hs : a.eval s = v) (hx : a.eval x = xv)
    (hr : (Builtin.append_ #[t, tx] ty #[v, xv]).run P w = .ok v' w') (h : wpList P ops Q rest (a.put o.dst v') w') : wpList P ops Q (o :: rest) a w :=
  wpList_plain hgd fun _ hK => by
    unfold Oper.wp execOp
    simp only [ho, resolve, invoke, builtin, Sem.run_bind, Sem.run_pure, Result.andThen_ok, List.map_toArray, List.map_cons, List.map_nil, hs, hx, hty, hr]
    exact hK _ _ h
/-- A struct is kept in a new block. -/
theorem keep_row (w : World) (ty : TypeId) (zs cs : List Value) (hl : zs.length = cs.length) : ∃ wf, (w.alloc (.cells zs.toArray ty)).setCells w.heap.size 0 cs = wf ∧ RowAt wf w.heap.size cs ∧ Moved (fun _ => False) w wf ∧ (w.alloc (.cells zs.toArray ty)).there w.heap.size 0 cs.length := by
  have h0 := row_new w zs ty
  have mv := setCells_moved (w.alloc (.cells zs.toArray ty)) w.heap.size 0 cs
  exact ⟨_, rfl, h0.put cs hl, ((Moved.refl _ w).alloc _).trans mv fun i hi => .inr (by omega), by rw [← hl]; exact h0.there⟩
end Go.Proofs.YtigmhljaoicdbaaGreat

namespace Go.Proofs.YtigmhljaoicdbaaGreat
open Go.RowKit

/-- What this store leans on. -/
def SO : Ops AggV := ⟨zero, put, fun a => right a && decide (1 ≤ a.count), Sp.rightI, Sp.startI, fun s => decide (0 ≤ Sp.endI s), Sp.overI⟩
theorem startI_i64 {x : Int} (h : Sp.rightI x = true) : 0 ≤ Sp.startI x ∧ Sp.startI x ≤ 1099511627776 := by
  have h' := Sp.rightI_iff.1 h
  rw [Sp.startI_right h']
  omega
theorem outV_eq (x : Win AggV) : outV x = [.string ⟨x.key.toArray⟩, .int .i64 x.start, .int .i64 x.agg.count, .int .i64 x.agg.sum, .int .i64 x.agg.mn, .int .i64 x.agg.mx, .int .i64 x.agg.h0, .int .i64 x.agg.h1, .int .i64 x.agg.h2, .int .i64 x.agg.h3] := rfl
/-- May a window be set? -/
theorem sright_any (x : Win AggV) (hx : x.agg.In) (w : World) : Calls Tryz.prog 87 #[.agg (outV x).toArray] w fun e w' => e = .returned (.bool (keyOk x.key && SO.isStart x.start && SO.ok x.agg)) ∧ Below w.heap.size w w' := by
  obtain ⟨W, hW⟩ : ∃ W, W = w.alloc (.cells (outV x).toArray 52) := ⟨_, rfl⟩
  obtain ⟨H, hH⟩ : ∃ H, H = w.heap.size := ⟨_, rfl⟩
  have bW : Below w.heap.size w W := by rw [hW]; exact (Below.refl _ _).alloc (Nat.le_refl _) _
  have hsz : W.heap.size = H + 1 := by rw [hW, hH]; simp
  have R0 : RowAt W H (outV x) := by rw [hW, hH]; exact row_new _ _ _
  have c0 : W.cell? ⟨H, 0, none⟩ = some (.string ⟨x.key.toArray⟩) := R0.cell 0 (Nat.succ_pos _)
  have c1 : W.cell? ⟨H, 1, none⟩ = some (.int .i64 x.start) := R0.cell 1 (Nat.lt_of_sub_pos (Nat.succ_pos _))
  have c2 : Hid (W.rangeAt H 2 (cellsA x.agg)) := hide fun j u hu => by
    have := R0.range (2 + j) u (by rw [Nat.add_comm]; exact hu)
    rwa [Nat.zero_add] at this
  have HW := hide hW
  have HH := hide hH
  have BW := hide bW
  have CE := hide (fun v => Sp.end_any x.start v)
  have CK := hide (fun v => key_any x.key v)
  clear hW hH bW hsz
  have c3' : W.cell? ⟨H, 2, none⟩ = some (.int .i64 x.agg.count) := R0.cell 2 (Nat.lt_of_sub_pos (Nat.succ_pos _))
  have C3 := hide c3'
  clear c3'
  by_cases hk : keyOk x.key = true
  · by_cases he : 0 ≤ Sp.endI x.start
    · by_cases hr : right x.agg = true
      · have RS : Hid ((keyOk x.key && SO.isStart x.start && SO.ok x.agg) = decide (1 ≤ x.agg.count)) := hide (by simp [SO, hk, he, hr])
        have CK2 := hide (fun v => (unhide CK v).mono (fun e w' (h : e = .returned (.bool (keyOk x.key)) ∧ w' = v) => (by rw [hk] at h; exact h : e = .returned (.bool true) ∧ w' = v)))
        clear CK hk
        go_enter Tryz.func87, Tryz.ntmps87
        go_upto_region 1 with fail
        rw [← unhide HH]
        try change Code.wp _ _ _ _ (w.alloc (.cells (outV x).toArray 52))
        rw [← unhide HW]
        go_wp2_with (first | (go_at_call 78; refine (unhide CK2 _).mono ?_; rintro e w' ⟨rfl, hw⟩; rw [hw]) | (go_at_call 86; refine (unhide CE _).mono ?_; rintro e w' ⟨rfl, hw⟩; rw [hw]) | (refine wpList_load_on rfl 50 (.tmp 13) rfl H 2 rfl (cellsA x.agg) _ (unhide c2) Tryz.underlying50 rfl (by kernel_rfl) ?_) | (go_at_call 109; refine (right_any x.agg _ hx).mono ?_; rintro e v2 ⟨rfl, hb⟩; have c3 : v2.cell? ⟨H, 2, none⟩ = some (.int .i64 x.agg.count) := (hb.cell (p := ⟨H, 2, none⟩) R0.lt).trans (unhide C3); have FI := hide ((unhide BW).trans (hb.mono (unhide BW).size)); rw [hr]; clear hb))
        go_ret
        exact ⟨by rw [unhide RS]; rfl, unhide FI⟩
      · replace hr := Bool.eq_false_iff.2 hr
        have RS : Hid ((keyOk x.key && SO.isStart x.start && SO.ok x.agg) = false) := hide (by simp [SO, hr])
        have CK2 := hide (fun v => (unhide CK v).mono (fun e w' (h : e = .returned (.bool (keyOk x.key)) ∧ w' = v) => (by rw [hk] at h; exact h : e = .returned (.bool true) ∧ w' = v)))
        clear CK hk
        go_enter Tryz.func87, Tryz.ntmps87
        go_upto_region 1 with fail
        rw [← unhide HH]
        try change Code.wp _ _ _ _ (w.alloc (.cells (outV x).toArray 52))
        rw [← unhide HW]
        go_wp2_with (first | (go_at_call 78; refine (unhide CK2 _).mono ?_; rintro e w' ⟨rfl, hw⟩; rw [hw]) | (go_at_call 86; refine (unhide CE _).mono ?_; rintro e w' ⟨rfl, hw⟩; rw [hw]) | (refine wpList_load_on rfl 50 (.tmp 13) rfl H 2 rfl (cellsA x.agg) _ (unhide c2) Tryz.underlying50 rfl (by kernel_rfl) ?_) | (go_at_call 109; refine (right_any x.agg _ hx).mono ?_; rintro e v2 ⟨rfl, hb⟩; have c3 : v2.cell? ⟨H, 2, none⟩ = some (.int .i64 x.agg.count) := (hb.cell (p := ⟨H, 2, none⟩) R0.lt).trans (unhide C3); have FI := hide ((unhide BW).trans (hb.mono (unhide BW).size)); rw [hr]; clear hb))
        go_ret
        exact ⟨by rw [unhide RS]; rfl, unhide FI⟩
    · have RS : Hid ((keyOk x.key && SO.isStart x.start && SO.ok x.agg) = false) := hide (by simp [SO, he])
      have CK2 := hide (fun v => (unhide CK v).mono (fun e w' (h : e = .returned (.bool (keyOk x.key)) ∧ w' = v) => (by rw [hk] at h; exact h : e = .returned (.bool true) ∧ w' = v)))
      clear CK hk
      go_enter Tryz.func87, Tryz.ntmps87
      go_upto_region 1 with fail
      rw [← unhide HH]
      try change Code.wp _ _ _ _ (w.alloc (.cells (outV x).toArray 52))
      rw [← unhide HW]
      go_wp2_with (first | (go_at_call 78; refine (unhide CK2 _).mono ?_; rintro e w' ⟨rfl, hw⟩; rw [hw]) | (go_at_call 86; refine (unhide CE _).mono ?_; rintro e w' ⟨rfl, hw⟩; rw [hw]) | (refine wpList_load_on rfl 50 (.tmp 13) rfl H 2 rfl (cellsA x.agg) _ (unhide c2) Tryz.underlying50 rfl (by kernel_rfl) ?_) | (go_at_call 109; refine (right_any x.agg _ hx).mono ?_; rintro e v2 ⟨rfl, hb⟩; have c3 : v2.cell? ⟨H, 2, none⟩ = some (.int .i64 x.agg.count) := (hb.cell (p := ⟨H, 2, none⟩) R0.lt).trans (unhide C3); have FI := hide ((unhide BW).trans (hb.mono (unhide BW).size)); rw [hr]; clear hb))
      go_ret
      exact ⟨by rw [unhide RS]; rfl, unhide BW⟩
  · replace hk := Bool.eq_false_iff.2 hk
    have RS : Hid ((keyOk x.key && SO.isStart x.start && SO.ok x.agg) = false) := hide (by simp [hk])
    have CK2 := hide (fun v => (unhide CK v).mono (fun e w' (h : e = .returned (.bool (keyOk x.key)) ∧ w' = v) => (by rw [hk] at h; exact h : e = .returned (.bool false) ∧ w' = v)))
    clear CK hk
    go_enter Tryz.func87, Tryz.ntmps87
    go_upto_region 1 with fail
    rw [← unhide HH]
    try change Code.wp _ _ _ _ (w.alloc (.cells (outV x).toArray 52))
    rw [← unhide HW]
    go_wp2_with (first | (go_at_call 78; refine (unhide CK2 _).mono ?_; rintro e w' ⟨rfl, hw⟩; rw [hw]) | (go_at_call 86; refine (unhide CE _).mono ?_; rintro e w' ⟨rfl, hw⟩; rw [hw]) | (refine wpList_load_on rfl 50 (.tmp 13) rfl H 2 rfl (cellsA x.agg) _ (unhide c2) Tryz.underlying50 rfl (by kernel_rfl) ?_) | (go_at_call 109; refine (right_any x.agg _ hx).mono ?_; rintro e v2 ⟨rfl, hb⟩; have c3 : v2.cell? ⟨H, 2, none⟩ = some (.int .i64 x.agg.count) := (hb.cell (p := ⟨H, 2, none⟩) R0.lt).trans (unhide C3); have FI := hide ((unhide BW).trans (hb.mono (unhide BW).size)); rw [hr]; clear hb))
    go_ret
    exact ⟨by rw [unhide RS]; rfl, unhide BW⟩
end Go.Proofs.YtigmhljaoicdbaaGreat

namespace Go.Proofs.YtigmhljaoicdbaaGreat
variable {α : Type} {O : Ops α} {num : Int → Prop} {l : List (Win α)}

/-- What a list of values adds up to. -/
def ofV (O : Ops α) (V : List Int) : α := V.foldl O.add O.zero
theorem ofV_snoc (V : List Int) (v : Int) : ofV O (V ++ [v]) = O.add (ofV O V) v := by simp [ofV]
/-- The window of a key and a Start has what these values add up to; it is not open if there are none. -/
structure Sums (O : Ops α) (k : List UInt8) (s : Int) (l : List (Win α)) (V : List Int) : Prop where
  good : Good O l
  is : look l k s = if V = [] then none else some (ofV O V)
theorem sums_nil (k : List UInt8) (s : Int) : Sums O k s [] [] := ⟨good_nil, rfl⟩
theorem sums_get {k : List UInt8} {s : Int} {V : List Int} (h : Sums O k s l V) : (look l k s).getD O.zero = ofV O V ∧ ((look l k s).isSome = true ↔ V ≠ []) := by
  rw [h.is]
  by_cases hV : V = []
  · subst hV; simp [ofV]
  · rw [if_neg hV]; simp [hV]
theorem sums_put (hO : O.Law num) {k : List UInt8} {s : Int} {V : List Int} (h : Sums O k s l V) {k' : List UInt8} {a v : Int} (hv : num v) :
    Sums O k s (putS O l k' a v).1 (if (putS O l k' a v).2 = 0 ∧ k' = k ∧ O.start a = s then V ++ [v] else V) := by
  refine ⟨put_good hO h.good hv, ?_⟩
  rw [look_put h.good]
  by_cases hc : (putS O l k' a v).2 = 0 ∧ k' = k ∧ O.start a = s
  · rw [if_pos hc, if_pos hc, if_neg (by simp), (sums_get h).1, ofV_snoc]
  · rw [if_neg hc, if_neg hc, h.is]
theorem sums_take {k : List UInt8} {s : Int} {V : List Int} (h : Sums O k s l V) (m : Int) :
    Sums O k s (takeS O l m).1 (if O.over s m then [] else V) ∧
    (∀ a ∈ (takeS O l m).2, at_ k s a → a.agg = ofV O V ∧ O.over s m = true) ∧
    ((∀ a ∈ (takeS O l m).2, ¬ at_ k s a) → (if O.over s m then [] else V) = V) := by
  obtain ⟨t1, t2⟩ := look_take (O := O) (l := l) m k s
  refine ⟨⟨(take_good h.good m).1, ?_⟩, fun a ha hk => ?_, fun hn => ?_⟩
  · rw [t1]
    cases O.over s m with
    | true => simp
    | false => simpa using h.is
  · have ho := take_over.1 ha
    rw [hk.2] at ho
    have hl := look_mem (take_good h.good m).2.rise ha
    rw [hk.1, hk.2, t2, if_pos ho, h.is] at hl
    by_cases hV : V = []
    · rw [if_pos hV] at hl; cases hl
    · rw [if_neg hV] at hl
      exact ⟨(Option.some.inj hl).symm, ho⟩
  · cases ho : O.over s m with
    | false => simp
    | true =>
      have hl := look_none hn
      rw [t2, if_pos ho, h.is] at hl
      by_cases hV : V = []
      · simp [hV]
      · rw [if_neg hV] at hl; cases hl

/-- What is done to a store. -/
structure ActV (α : Type) where
  do_ : Nat
  key : List UInt8
  at_ : Int
  n : Int
  out : Win α
def actS (O : Ops α) (l : List (Win α)) (a : ActV α) : List (Win α) :=
  if a.do_ = 0 then (putS O l a.key a.at_ a.n).1 else if a.do_ = 1 then (setS O l a.out).1 else if a.do_ = 2 then (takeS O l a.at_).1 else l
def playS (O : Ops α) (l : List (Win α)) (xs : List (ActV α)) : List (Win α) := xs.foldl (actS O) l
theorem act_good (hO : O.Law num) (h : Good O l) {a : ActV α} (hn : num a.n) : Good O (actS O l a) := by
  unfold actS
  split
  · exact put_good hO h hn
  · split
    · exact set_good h _
    · split
      · exact (take_good h _).1
      · exact h
theorem play_good (hO : O.Law num) : ∀ {xs : List (ActV α)} {l : List (Win α)}, Good O l → (∀ a ∈ xs, num a.n) → Good O (playS O l xs)
  | [], _, h, _ => h
  | a :: xs, _, h, hn => play_good hO (xs := xs) (act_good hO h (hn a List.mem_cons_self)) (fun b hb => hn b (List.mem_cons_of_mem _ hb))
theorem play_snoc (xs : List (ActV α)) (a : ActV α) : playS O l (xs ++ [a]) = actS O (playS O l xs) a := by simp [playS]
/-- Behind a Put each window is open that was, and is as it was, but the one that was put to; there is one more at most. -/
theorem put_apart (h : Good O l) {k : List UInt8} {a v : Int} :
    (∀ b ∈ l, ∃ x, look (putS O l k a v).1 b.key b.start = some x ∧ (x = b.agg ∨ (b.key = k ∧ b.start = O.start a))) ∧
    (putS O l k a v).1.length ≤ l.length + 1 ∧ ((putS O l k a v).2 ≠ 0 → (putS O l k a v).1.length = l.length) := by
  refine ⟨fun b hb => ?_, ?_, fun hne => ?_⟩
  · have hl := look_mem h.rise hb
    rw [look_put h]
    by_cases hc : (putS O l k a v).2 = 0 ∧ k = b.key ∧ O.start a = b.start
    · rw [if_pos hc]
      exact ⟨_, rfl, .inr ⟨hc.2.1.symm, hc.2.2.symm⟩⟩
    · rw [if_neg hc]
      exact ⟨_, hl, .inl rfl⟩
  · rw [put_len h]; split <;> omega
  · rw [put_len h, if_neg (fun hc => hne hc.1)]
end Go.Proofs.YtigmhljaoicdbaaGreat

namespace Go.Proofs.YtigmhljaoicdbaaGreat
theorem cl_up {x : Int} (h : 0 ≤ x) : (x ≤ 9223372036854775807 ∧ cl x = x) ∨ (9223372036854775807 < x ∧ cl x = 9223372036854775807) := by
  unfold cl
  by_cases h1 : 9223372036854775807 < x
  · rw [if_pos h1]; exact .inr ⟨h1, rfl⟩
  · rw [if_neg h1, if_neg (by omega)]; exact .inl ⟨by omega, rfl⟩
theorem neg4_iff (a : AggV) : neg4 a = false ↔ 0 ≤ a.h0 ∧ 0 ≤ a.h1 ∧ 0 ≤ a.h2 ∧ 0 ≤ a.h3 := by unfold neg4; simp; omega
theorem held4_iff (a : AggV) : held4 a = true ↔ a.h0 = 9223372036854775807 ∨ a.h1 = 9223372036854775807 ∨ a.h2 = 9223372036854775807 ∨ a.h3 = 9223372036854775807 := by unfold held4; simp [or_assoc]
theorem all4_is {a : AggV} (h : 0 ≤ a.h0 ∧ 0 ≤ a.h1 ∧ 0 ≤ a.h2 ∧ 0 ≤ a.h3) : (a.h0 + a.h1 + a.h2 + a.h3 ≤ 9223372036854775807 ∧ all4 a = a.h0 + a.h1 + a.h2 + a.h3) ∨ (9223372036854775807 < a.h0 + a.h1 + a.h2 + a.h3 ∧ all4 a = 9223372036854775807) := by
  obtain ⟨k0, k1, k2, k3⟩ := h
  unfold all4 plus
  have e0 := cl_up (x := 0 + a.h0) (by omega)
  have e1 := cl_up (x := cl (0 + a.h0) + a.h1) (by omega)
  have e2 := cl_up (x := cl (cl (0 + a.h0) + a.h1) + a.h2) (by omega)
  have e3 := cl_up (x := cl (cl (cl (0 + a.h0) + a.h1) + a.h2) + a.h3) (by omega)
  omega
theorem bucket_min (x y : Int) : bucket (min x y) = min (bucket x) (bucket y) := by unfold bucket; rcases Int.le_total x y with h | h <;> simp only [Int.min_eq_left h, Int.min_eq_right h] <;> (repeat' split) <;> omega
theorem bucket_max (x y : Int) : bucket (max x y) = max (bucket x) (bucket y) := by unfold bucket; rcases Int.le_total x y with h | h <;> simp only [Int.max_eq_left h, Int.max_eq_right h] <;> (repeat' split) <;> omega
theorem hist_iff (a : AggV) : rightHist a = true ↔ (0 ≤ a.h0 ∧ 0 ≤ a.h1 ∧ 0 ≤ a.h2 ∧ 0 ≤ a.h3) ∧ (held4 a = true ∨ (all4 a = a.count ∧ first4 a = bucket a.mn ∧ last4 a = bucket a.mx)) := by
  rw [← neg4_iff]
  unfold rightHist
  cases neg4 a <;> cases held4 a <;> simp [and_assoc]
set_option maxHeartbeats 2000000 in
theorem hist_put {a : AggV} {v : Int} (hc : 1 ≤ a.count) (h : rightHist a = true) : rightHist (put a v) = true := by
  obtain ⟨hn, hr⟩ := (hist_iff a).1 h
  obtain ⟨c, s, mn, mx, h0, h1, h2, h3⟩ := a
  dsimp only at hn hc
  have hb := bucket_le v
  obtain ⟨d0, e0⟩ : ∃ d, d = at1 v 0 := ⟨_, rfl⟩
  obtain ⟨d1, e1⟩ : ∃ d, d = at1 v 1 := ⟨_, rfl⟩
  obtain ⟨d2, e2⟩ : ∃ d, d = at1 v 2 := ⟨_, rfl⟩
  obtain ⟨d3, e3⟩ : ∃ d, d = at1 v 3 := ⟨_, rfl⟩
  have hp : put ⟨c, s, mn, mx, h0, h1, h2, h3⟩ v = ⟨cl (c + 1), plus s v, min mn v, max mx v, cl (h0 + d0), cl (h1 + d1), cl (h2 + d2), cl (h3 + d3)⟩ := by
    unfold put join least great one plus
    simp only [e0, e1, e2, e3, show ¬ c = 0 by omega, if_false, show ¬ (1 : Int) = 0 by decide]
  have hd : (bucket v = 0 ∧ d0 = 1 ∧ d1 = 0 ∧ d2 = 0 ∧ d3 = 0) ∨ (bucket v = 1 ∧ d0 = 0 ∧ d1 = 1 ∧ d2 = 0 ∧ d3 = 0) ∨ (bucket v = 2 ∧ d0 = 0 ∧ d1 = 0 ∧ d2 = 1 ∧ d3 = 0) ∨ (bucket v = 3 ∧ d0 = 0 ∧ d1 = 0 ∧ d2 = 0 ∧ d3 = 1) := by
    rw [e0, e1, e2, e3]
    unfold at1
    have : bucket v = 0 ∨ bucket v = 1 ∨ bucket v = 2 ∨ bucket v = 3 := by omega
    rcases this with k | k | k | k <;> rw [k] <;> simp
  clear e0 e1 e2 e3
  rw [hp]
  have f0 := cl_up (x := h0 + d0) (by omega)
  have f1 := cl_up (x := h1 + d1) (by omega)
  have f2 := cl_up (x := h2 + d2) (by omega)
  have f3 := cl_up (x := h3 + d3) (by omega)
  have fc := cl_up (x := c + 1) (by omega)
  have hA := all4_is (a := ⟨c, s, mn, mx, h0, h1, h2, h3⟩) hn
  rw [hist_iff]
  have hsum : d0 + d1 + d2 + d3 = 1 := by omega
  have n0 : 0 ≤ cl (h0 + d0) := by clear f1 f2 f3 fc hA; omega
  have n1 : 0 ≤ cl (h1 + d1) := by clear f0 f2 f3 fc hA; omega
  have n2 : 0 ≤ cl (h2 + d2) := by clear f0 f1 f3 fc hA; omega
  have n3 : 0 ≤ cl (h3 + d3) := by clear f0 f1 f2 fc hA; omega
  refine ⟨⟨n0, n1, n2, n3⟩, ?_⟩
  have hB := all4_is (a := ⟨cl (c + 1), plus s v, min mn v, max mx v, cl (h0 + d0), cl (h1 + d1), cl (h2 + d2), cl (h3 + d3)⟩) ⟨n0, n1, n2, n3⟩
  by_cases hh : held4 ⟨cl (c + 1), plus s v, min mn v, max mx v, cl (h0 + d0), cl (h1 + d1), cl (h2 + d2), cl (h3 + d3)⟩ = true
  · exact .inl hh
  · rw [held4_iff] at hh
    rw [held4_iff] at hr
    dsimp only at hA hB hr hh ⊢
    refine .inr ?_
    have g0 : cl (h0 + d0) = h0 + d0 ∧ h0 + d0 < 9223372036854775807 := by
      rcases f0 with ⟨k, e⟩ | ⟨k, e⟩
      · exact ⟨e, by have : ¬ cl (h0 + d0) = 9223372036854775807 := fun h => hh (.inl h); rw [e] at this; clear f1 f2 f3 fc hA hB hd hr; omega⟩
      · exact absurd (.inl e) hh
    have g1 : cl (h1 + d1) = h1 + d1 ∧ h1 + d1 < 9223372036854775807 := by
      rcases f1 with ⟨k, e⟩ | ⟨k, e⟩
      · exact ⟨e, by have : ¬ cl (h1 + d1) = 9223372036854775807 := fun h => hh (.inr (.inl h)); rw [e] at this; clear f0 f2 f3 fc hA hB hd hr; omega⟩
      · exact absurd (.inr (.inl e)) hh
    have g2 : cl (h2 + d2) = h2 + d2 ∧ h2 + d2 < 9223372036854775807 := by
      rcases f2 with ⟨k, e⟩ | ⟨k, e⟩
      · exact ⟨e, by have : ¬ cl (h2 + d2) = 9223372036854775807 := fun h => hh (.inr (.inr (.inl h))); rw [e] at this; clear f0 f1 f3 fc hA hB hd hr; omega⟩
      · exact absurd (.inr (.inr (.inl e))) hh
    have g3 : cl (h3 + d3) = h3 + d3 ∧ h3 + d3 < 9223372036854775807 := by
      rcases f3 with ⟨k, e⟩ | ⟨k, e⟩
      · exact ⟨e, by have : ¬ cl (h3 + d3) = 9223372036854775807 := fun h => hh (.inr (.inr (.inr h))); rw [e] at this; clear f0 f1 f2 fc hA hB hd hr; omega⟩
      · exact absurd (.inr (.inr (.inr e))) hh
    clear f0 f1 f2 f3 n0 n1 n2 n3 hh
    rw [g0.1, g1.1, g2.1, g3.1] at hB ⊢
    replace g0 := g0.2
    replace g1 := g1.2
    replace g2 := g2.2
    replace g3 := g3.2
    have hr' : all4 ⟨c, s, mn, mx, h0, h1, h2, h3⟩ = c ∧ first4 ⟨c, s, mn, mx, h0, h1, h2, h3⟩ = bucket mn ∧ last4 ⟨c, s, mn, mx, h0, h1, h2, h3⟩ = bucket mx := hr.resolve_left (by
      have d0' : 0 ≤ d0 := by clear hA hB; omega
      have d1' : 0 ≤ d1 := by clear hA hB; omega
      have d2' : 0 ≤ d2 := by clear hA hB; omega
      have d3' : 0 ≤ d3 := by clear hA hB; omega
      clear hA hB hd
      rintro (h | h | h | h) <;> omega)
    obtain ⟨r1, r2, r3⟩ := hr'
    clear hr hp h
    refine ⟨?_, ?_, ?_⟩
    · clear hd r2 r3 g0 g1 g2 g3
      omega
    · rw [bucket_min]
      unfold first4 at r2 ⊢
      dsimp only at r2 ⊢
      clear fc hA hB r1 r3 g0 g1 g2 g3 hsum
      rcases hd with ⟨k, rfl, rfl, rfl, rfl⟩ | ⟨k, rfl, rfl, rfl, rfl⟩ | ⟨k, rfl, rfl, rfl, rfl⟩ | ⟨k, rfl, rfl, rfl, rfl⟩ <;> rw [k] <;> (repeat' split) <;> (repeat' split at r2) <;> omega
    · rw [bucket_max]
      unfold last4 at r3 ⊢
      dsimp only at r3 ⊢
      clear fc hA hB r1 r2 g0 g1 g2 g3 hsum
      have hm := bucket_le mx
      rcases hd with ⟨k, rfl, rfl, rfl, rfl⟩ | ⟨k, rfl, rfl, rfl, rfl⟩ | ⟨k, rfl, rfl, rfl, rfl⟩ | ⟨k, rfl, rfl, rfl, rfl⟩ <;> rw [k] <;> (repeat' split) <;> (repeat' split at r3) <;> omega
theorem ok_put {a : AggV} {v : Int} (h : SO.ok a = true) : SO.ok (put a v) = true := by
  have h' : right a = true ∧ 1 ≤ a.count := by simpa [SO] using h
  obtain ⟨h1, hc⟩ := h'
  have hcnt : 1 ≤ (put a v).count := by
    have := cl_up (x := a.count + 1) (by omega)
    show 1 ≤ cl (a.count + 1)
    omega
  have hmn : (put a v).mn = min a.mn v := by unfold put join least one; simp only [show ¬ a.count = 0 by omega, if_false, show ¬ (1 : Int) = 0 by decide]
  have hmx : (put a v).mx = max a.mx v := by unfold put join great one; simp only [show ¬ a.count = 0 by omega, if_false, show ¬ (1 : Int) = 0 by decide]
  unfold right at h1
  rw [if_neg (show ¬ a.count = 0 by omega)] at h1
  simp only [Bool.and_eq_true, decide_eq_true_eq] at h1
  have hh := hist_put (v := v) hc h1.2
  have : right (put a v) = true := by
    unfold right
    rw [if_neg (by omega), hmn, hmx, hh]
    simp only [Bool.and_true, Bool.and_eq_true, decide_eq_true_eq]
    exact ⟨by omega, by omega⟩
  show (right (put a v) && decide (1 ≤ (put a v).count)) = true
  rw [this, decide_eq_true hcnt]; rfl
theorem ok_first (v : Int) : SO.ok (put zero v) = true := by
  have hz : put zero v = of [v] := rfl
  have h := is_right (is_of [v] (by simp)) (by simp)
  have hcnt : (put zero v).count = 1 := rfl
  show (right (put zero v) && decide (1 ≤ (put zero v).count)) = true
  rw [hz, h, ← hz, hcnt]; rfl
theorem so_law : SO.Law i64 where
  start := fun a h => by
    have hr := Sp.rightI_iff.1 (show Sp.rightI a = true from h)
    show decide (0 ≤ Sp.endI (Sp.startI a)) = true
    rw [Sp.startI_right hr]
    refine decide_eq_true ?_
    unfold Sp.endI
    rw [if_pos (by omega)]
    omega
  first := fun v _ => ok_first v
  more := fun _ _ h _ => ok_put h
end Go.Proofs.YtigmhljaoicdbaaGreat

namespace Go.Proofs.YtigmhljaoicdbaaGreat
structure LineV where
  mark : Int
  row : List (Win AggV)
/-- What a line always is. -/
structure GoodL (L : LineV) : Prop where
  good : Good SO L.row
  right : Sp.rightI L.mark = true
  young : ∀ a ∈ L.row, Sp.overI a.start L.mark = false
def newL : LineV := ⟨0, []⟩
def putL (L : LineV) (k : List UInt8) (a v : Int) : LineV × Nat :=
  if keyOk k = true ∧ Sp.rightI a = true then
    if Sp.lateI a L.mark = true then (L, 2) else if (putS SO L.row k a v).2 = 0 then (⟨L.mark, (putS SO L.row k a v).1⟩, 1) else (L, 3)
  else (L, 4)
def markL (L : LineV) (a : Int) : LineV × Nat × List (Win AggV) :=
  if Sp.rightI a = true then if a ≤ L.mark then (L, 1, []) else (⟨a, (takeS SO L.row a).1⟩, 1, (takeS SO L.row a).2) else (L, 4, [])
/-- Windows set one behind the other, till one can't be. -/
def setAll (m : Int) : List (Win AggV) → List (Win AggV) → List (Win AggV) × Nat
  | r, [] => (r, 0)
  | r, x :: xs => if Sp.overI x.start m = true then (r, 12) else if (setS SO r x).2 = 0 then setAll m (setS SO r x).1 xs else (r, (setS SO r x).2)
def ofL (m : Int) (o : List (Win AggV)) : LineV × Nat := if Sp.rightI m = true then (⟨m, (setAll m [] o).1⟩, (setAll m [] o).2) else (newL, 1)
theorem goodL_new : GoodL newL := ⟨good_nil, by decide, fun a h => by cases h⟩
theorem putL_ways (L : LineV) (k : List UInt8) (a v : Int) :
    (¬ (keyOk k = true ∧ Sp.rightI a = true) ∧ putL L k a v = (L, 4)) ∨
    ((keyOk k = true ∧ Sp.rightI a = true) ∧ ((Sp.lateI a L.mark = true ∧ putL L k a v = (L, 2)) ∨
      (Sp.lateI a L.mark = false ∧ (((putS SO L.row k a v).2 = 0 ∧ putL L k a v = (⟨L.mark, (putS SO L.row k a v).1⟩, 1)) ∨ (¬ (putS SO L.row k a v).2 = 0 ∧ putL L k a v = (L, 3)))))) := by
  unfold putL
  by_cases h : keyOk k = true ∧ Sp.rightI a = true
  · refine .inr ⟨h, ?_⟩
    rw [if_pos h]
    cases hl : Sp.lateI a L.mark with
    | true => exact .inl ⟨rfl, if_pos rfl⟩
    | false =>
      refine .inr ⟨rfl, ?_⟩
      rw [if_neg (by simp)]
      by_cases h0 : (putS SO L.row k a v).2 = 0
      · exact .inl ⟨h0, if_pos h0⟩
      · exact .inr ⟨h0, if_neg h0⟩
  · exact .inl ⟨h, if_neg h⟩
theorem markL_ways (L : LineV) (a : Int) :
    (Sp.rightI a = false ∧ markL L a = (L, 4, [])) ∨ (Sp.rightI a = true ∧ ((a ≤ L.mark ∧ markL L a = (L, 1, [])) ∨ (¬ a ≤ L.mark ∧ markL L a = (⟨a, (takeS SO L.row a).1⟩, 1, (takeS SO L.row a).2)))) := by
  unfold markL
  cases h : Sp.rightI a with
  | false => exact .inl ⟨rfl, if_neg (by simp)⟩
  | true =>
    refine .inr ⟨rfl, ?_⟩
    rw [if_pos rfl]
    by_cases h0 : a ≤ L.mark
    · exact .inl ⟨h0, if_pos h0⟩
    · exact .inr ⟨h0, if_neg h0⟩
theorem put_mem {l : List (Win AggV)} {k : List UInt8} {a v : Int} {b : Win AggV} (hb : b ∈ (putS SO l k a v).1) : b ∈ l ∨ (b.key = k ∧ b.start = Sp.startI a) := by
  rcases put_ways (O := SO) l k a v with ⟨_, e⟩ | ⟨hk, ⟨x, hx, e⟩ | ⟨hx, ⟨_, e⟩ | ⟨hl, e⟩⟩⟩
  · rw [e] at hb; exact .inl hb
  · rw [e] at hb
    rcases ins_mem hb with rfl | hb
    · exact .inr ⟨rfl, rfl⟩
    · exact .inl hb
  · rw [e] at hb; exact .inl hb
  · rw [e] at hb
    rcases ins_mem hb with rfl | hb
    · exact .inr ⟨rfl, rfl⟩
    · exact .inl hb
theorem goodL_put {L : LineV} (h : GoodL L) {k : List UInt8} {a v : Int} (hv : i64 v) : GoodL (putL L k a v).1 := by
  rcases putL_ways L k a v with ⟨_, e⟩ | ⟨_, ⟨_, e⟩ | ⟨hl, ⟨_, e⟩ | ⟨_, e⟩⟩⟩
  · rw [e]; exact h
  · rw [e]; exact h
  · rw [e]
    refine ⟨put_good so_law h.good hv, h.right, fun b hb => ?_⟩
    rcases put_mem hb with hb | ⟨_, hs⟩
    · exact h.young b hb
    · show Sp.overI b.start L.mark = false
      rw [hs]; exact hl
  · rw [e]; exact h
theorem goodL_mark {L : LineV} (h : GoodL L) (a : Int) : GoodL (markL L a).1 := by
  rcases markL_ways L a with ⟨_, e⟩ | ⟨hr, ⟨_, e⟩ | ⟨_, e⟩⟩
  · rw [e]; exact h
  · rw [e]; exact h
  · rw [e]; exact ⟨(take_good h.good a).1, hr, fun b hb => take_over.2 hb⟩
theorem markL_told {L : LineV} {a : Int} : ∀ b ∈ (markL L a).2.2, Sp.overI b.start (markL L a).1.mark = true := by
  rcases markL_ways L a with ⟨_, e⟩ | ⟨hr, ⟨_, e⟩ | ⟨_, e⟩⟩
  · rw [e]; intro b hb; cases hb
  · rw [e]; intro b hb; cases hb
  · rw [e]; exact fun b hb => take_over.1 hb
theorem markL_len {L : LineV} {a : Int} : (markL L a).2.2.length + (markL L a).1.row.length = L.row.length := by
  rcases markL_ways L a with ⟨_, e⟩ | ⟨hr, ⟨_, e⟩ | ⟨_, e⟩⟩
  · rw [e]; exact Nat.zero_add _
  · rw [e]; exact Nat.zero_add _
  · rw [e]; exact take_len _ _
/-- A later window stands at the end. -/
theorem ins_last {w : Win AggV} : ∀ {l : List (Win AggV)}, (∀ a ∈ l, ahead a w = true) → ins w l = l ++ [w]
  | [], _ => rfl
  | a :: l, h => by
    rw [ins, if_pos (h a List.mem_cons_self), ins_last (fun b hb => h b (List.mem_cons_of_mem _ hb))]
    rfl
theorem good_take {l : List (Win AggV)} (h : Good SO l) (n : Nat) : Good SO (l.take n) :=
  ⟨h.rise.sublist (List.take_sublist n l), Nat.le_trans (by rw [List.length_take]; omega) h.most, fun a ha => h.all a (List.mem_of_mem_take ha)⟩
theorem set_last {l : List (Win AggV)} (h : Good SO l) {j : Nat} {x : Win AggV} (hx : l[j]? = some x) : setS SO (l.take j) x = (l.take (j + 1), 0) := by
  obtain ⟨hj, rfl⟩ := List.getElem?_eq_some_iff.1 hx
  have hsplit : l = l.take j ++ l[j] :: l.drop (j + 1) := by rw [← List.drop_eq_getElem_cons hj, List.take_append_drop]
  have hr := h.rise
  have hah : ∀ a ∈ l.take j, ahead a l[j] = true := by
    have hr' : Rise (l.take j ++ l[j] :: l.drop (j + 1)) := by rw [← hsplit]; exact hr
    exact fun a ha => (List.pairwise_append.1 hr').2.2 a ha l[j] List.mem_cons_self
  have hn : look (l.take j) l[j].key l[j].start = none := look_none (fun b hb => ahead_not (hah b hb))
  have hl : ¬ 32 ≤ (l.take j).length := by have := h.most; rw [List.length_take]; omega
  unfold setS
  rw [if_pos (h.all _ (List.getElem_mem hj)), hn, if_neg (by simp), if_neg hl, ins_last hah, List.take_succ_eq_append_getElem hj]
theorem setAll_drop {m : Int} {l : List (Win AggV)} (h : Good SO l) (hy : ∀ a ∈ l, Sp.overI a.start m = false) : ∀ n j, n + j = l.length → setAll m (l.take j) (l.drop j) = (l, 0)
  | 0, j, e => by
    rw [List.drop_of_length_le (by omega), List.take_of_length_le (by omega)]; rfl
  | n + 1, j, e => by
    have hj : j < l.length := by omega
    rw [List.drop_eq_getElem_cons hj, setAll, if_neg (by rw [hy _ (List.getElem_mem hj)]; simp), set_last h (List.getElem?_eq_getElem hj), if_pos rfl]
    exact setAll_drop h hy n (j + 1) (by omega)
theorem ofL_self {L : LineV} (h : GoodL L) : ofL L.mark L.row = (L, 0) := by
  unfold ofL
  have := setAll_drop h.good h.young L.row.length 0 (by omega)
  rw [List.take_zero, List.drop_zero] at this
  rw [if_pos h.right, this]
/-- What is done to a line. -/
structure ActL where
  do_ : Nat
  key : List UInt8
  at_ : Int
  n : Int
def actL (s : LineV × List (Win AggV)) (a : ActL) : LineV × List (Win AggV) :=
  if a.do_ = 0 then ((putL s.1 a.key a.at_ a.n).1, s.2) else if a.do_ = 1 then ((markL s.1 a.at_).1, s.2 ++ (markL s.1 a.at_).2.2) else s
def playL (s : LineV × List (Win AggV)) (xs : List ActL) : LineV × List (Win AggV) := xs.foldl actL s
theorem playL_snoc (s : LineV × List (Win AggV)) (xs : List ActL) (a : ActL) : playL s (xs ++ [a]) = actL (playL s xs) a := by simp [playL]
theorem goodL_act {s : LineV × List (Win AggV)} (h : GoodL s.1) {a : ActL} (hn : i64 a.n) : GoodL (actL s a).1 := by
  unfold actL
  split
  · exact goodL_put h hn
  · split
    · exact goodL_mark h _
    · exact h
theorem goodL_play : ∀ {xs : List ActL} {s : LineV × List (Win AggV)}, GoodL s.1 → (∀ a ∈ xs, i64 a.n) → GoodL (playL s xs).1
  | [], _, h, _ => h
  | a :: xs, _, h, hn => goodL_play (xs := xs) (goodL_act h (hn a List.mem_cons_self)) (fun b hb => hn b (List.mem_cons_of_mem _ hb))
/-- What is over at a mark is over at a later one. -/
theorem over_up {s m x : Int} (h : Sp.overI s m = true) (hx : Sp.rightI x = true) (hm : m ≤ x) : Sp.overI s x = true := by
  rw [Sp.overI_iff] at *
  have := Sp.rightI_iff.1 hx
  unfold Sp.isOver at *
  omega
theorem over_down {s t m : Int} (h : Sp.overI t m = true) (hs : 0 ≤ s ∧ s ≤ 1099511627776 ∧ s % 10 = 0) (hst : s ≤ t) : Sp.overI s m = true := by
  rw [Sp.overI_iff] at *
  unfold Sp.isOver at *
  omega
theorem isStart_iff {s : Int} (h : SO.isStart s = true) : 0 ≤ s ∧ s ≤ 1099511627776 ∧ s % 10 = 0 := by
  have h' : 0 ≤ Sp.endI s := of_decide_eq_true (show decide (0 ≤ Sp.endI s) = true from h)
  unfold Sp.endI at h'
  split at h'
  · assumption
  · omega
theorem filter_steps {p q : Win AggV → Bool} : ∀ {l : List (Win AggV)}, (∀ a ∈ l, p a = true → q a = true) → l.Pairwise (fun a b => p b = true → p a = true) → l.filter p ++ (l.filter (fun a => !p a)).filter q = l.filter q
  | [], _, _ => rfl
  | a :: l, h, k => by
    obtain ⟨k1, k2⟩ := List.pairwise_cons.1 k
    have ih := filter_steps (fun b hb => h b (List.mem_cons_of_mem _ hb)) k2
    cases hp : p a with
    | true =>
      rw [List.filter_cons, hp, if_pos rfl, List.filter_cons, hp, if_neg (by simp), List.filter_cons (p := q), if_pos (h a List.mem_cons_self hp), List.cons_append, ih]
    | false =>
      have hn : l.filter p = [] := List.filter_eq_nil_iff.2 fun b hb hpb => by rw [k1 b hb hpb] at hp; cases hp
      rw [hn, List.nil_append] at ih
      rw [List.filter_cons, hp, if_neg (by simp), hn, List.nil_append, List.filter_cons, hp, if_pos (by simp), List.filter_cons, ih, ← List.filter_cons]
/-- Two marks, one behind the other, tell what the later one alone does, and leave the same. -/
theorem mark_mark {L : LineV} (h : GoodL L) {m x : Int} (hm : Sp.rightI m = true) (hx : Sp.rightI x = true) (hmx : m < x) :
    (markL (markL L m).1 x).1 = (markL L x).1 ∧ (markL L m).2.2 ++ (markL (markL L m).1 x).2.2 = (markL L x).2.2 := by
  rcases markL_ways L m with ⟨h0, _⟩ | ⟨_, ⟨_, e⟩ | ⟨hlt, e⟩⟩
  · rw [hm] at h0; cases h0
  · rw [e]; exact ⟨rfl, rfl⟩
  · rw [e]
    have e1 : markL ⟨m, (takeS SO L.row m).1⟩ x = (⟨x, (takeS SO (takeS SO L.row m).1 x).1⟩, 1, (takeS SO (takeS SO L.row m).1 x).2) := by
      unfold markL; rw [if_pos hx, if_neg (show ¬ x ≤ m by omega)]
    have e2 : markL L x = (⟨x, (takeS SO L.row x).1⟩, 1, (takeS SO L.row x).2) := by
      unfold markL; rw [if_pos hx, if_neg (show ¬ x ≤ L.mark by omega)]
    have hup : ∀ a ∈ L.row, Sp.overI a.start m = true → Sp.overI a.start x = true := fun a _ ha => over_up ha hx (by omega)
    have hpw : L.row.Pairwise (fun a b => Sp.overI b.start m = true → Sp.overI a.start m = true) := by
      refine (List.Pairwise.and_mem.1 h.good.rise).imp ?_
      rintro a b ⟨ha, _, hab⟩ hb
      refine over_down hb (isStart_iff (h.good.all a ha).2.1) ?_
      rcases ahead_iff.1 hab with h1 | ⟨h1, _⟩ <;> omega
    rw [e1, e2]
    refine ⟨?_, ?_⟩
    · show (⟨x, _⟩ : LineV) = ⟨x, _⟩
      congr 1
      show (L.row.filter (fun a => !Sp.overI a.start m)).filter (fun a => !Sp.overI a.start x) = L.row.filter (fun a => !Sp.overI a.start x)
      rw [List.filter_filter]
      refine List.filter_congr fun a ha => ?_
      cases hq : Sp.overI a.start m with
      | true => rw [hup a ha hq]; rfl
      | false => simp
    · exact filter_steps hup hpw
/-- A mark that is not above changes nothing. -/
theorem mark_low {L : LineV} {m x : Int} (hm : Sp.rightI m = true) (hx : x ≤ m) : (markL (markL L m).1 x).1 = (markL L m).1 ∧ (markL (markL L m).1 x).2.2 = [] := by
  have hmk : m ≤ (markL L m).1.mark := by
    rcases markL_ways L m with ⟨h0, _⟩ | ⟨_, ⟨hle, e⟩ | ⟨hlt, e⟩⟩
    · rw [hm] at h0; cases h0
    · rw [e]; exact hle
    · rw [e]; exact Int.le_refl _
  rcases markL_ways (markL L m).1 x with ⟨_, e⟩ | ⟨_, ⟨_, e⟩ | ⟨hlt, _⟩⟩
  · rw [e]; exact ⟨rfl, rfl⟩
  · rw [e]; exact ⟨rfl, rfl⟩
  · exact absurd (Int.le_trans hx hmk) hlt
theorem mark_wrong {L : LineV} {x : Int} (hx : Sp.rightI x = false) : markL L x = (L, 4, []) := by
  rcases markL_ways L x with ⟨_, e⟩ | ⟨h, _⟩
  · exact e
  · rw [hx] at h; cases h
/-- Marks one behind the other: where the line stands, what was told, and the greatest moment so far. -/
structure Steps (L0 : LineV) (first : Int) (i : Nat) (L : LineV) (told : List (Win AggV)) (most : Int) : Prop where
  is : (most = first ∧ L = L0 ∧ told = [] ∧ (i = 0 ∨ Sp.rightI most = false)) ∨ (Sp.rightI most = true ∧ L = (markL L0 most).1 ∧ told = (markL L0 most).2.2)
theorem steps_zero (L0 : LineV) (first : Int) : Steps L0 first 0 L0 [] first := ⟨.inl ⟨rfl, rfl, rfl, .inl rfl⟩⟩
def moreMost (most x : Int) : Bool := Sp.rightI x && (!Sp.rightI most || decide (most < x))
theorem steps_next {L0 : LineV} (h0 : GoodL L0) {first : Int} {i : Nat} {L : LineV} {told : List (Win AggV)} {most : Int} (h : Steps L0 first i L told most) (x : Int) (hx : i = 0 → x = first) :
    Steps L0 first (i + 1) (markL L x).1 (told ++ (markL L x).2.2) (if moreMost most x = true then x else most) := by
  unfold moreMost
  rcases h.is with ⟨rfl, rfl, rfl, hi⟩ | ⟨hr, rfl, rfl⟩
  · rw [List.nil_append]
    cases hrx : Sp.rightI x with
    | false =>
      rw [mark_wrong hrx]
      simp only [Bool.false_and, Bool.false_eq_true, if_false]
      refine ⟨.inl ⟨rfl, rfl, rfl, .inr ?_⟩⟩
      rcases hi with hi | hi
      · rw [← hx hi]; exact hrx
      · exact hi
    | true =>
      rcases hi with hi | hi
      · have := hx hi
        subst this
        have e : (true && (!Sp.rightI x || decide (x < x))) = false := by rw [hrx]; simp
        rw [e, if_neg (by simp)]
        exact ⟨.inr ⟨hrx, rfl, rfl⟩⟩
      · rw [hi]
        simp only [Bool.not_false, Bool.true_or, Bool.and_self, if_true]
        exact ⟨.inr ⟨hrx, rfl, rfl⟩⟩
  · rw [hr]
    cases hrx : Sp.rightI x with
    | false =>
      rw [mark_wrong hrx]
      simp only [Bool.false_and, Bool.false_eq_true, if_false, List.append_nil]
      exact ⟨.inr ⟨hr, rfl, rfl⟩⟩
    | true =>
      by_cases hlt : most < x
      · simp only [Bool.not_true, Bool.false_or, Bool.true_and, decide_eq_true hlt, if_true]
        obtain ⟨e1, e2⟩ := mark_mark h0 hr hrx hlt
        exact ⟨.inr ⟨hrx, e1, e2⟩⟩
      · simp only [Bool.not_true, Bool.false_or, Bool.true_and, decide_eq_false hlt, Bool.false_eq_true, if_false]
        obtain ⟨e1, e2⟩ := mark_low (L := L0) hr (show x ≤ most by omega)
        rw [e1, e2, List.append_nil]
        exact ⟨.inr ⟨hr, rfl, rfl⟩⟩
theorem steps_end {L0 : LineV} {first : Int} {i : Nat} {L : LineV} {told : List (Win AggV)} {most : Int} (h : Steps L0 first i L told most) (hi : 0 < i) : L = (markL L0 most).1 ∧ told = (markL L0 most).2.2 := by
  rcases h.is with ⟨_, rfl, rfl, h0 | h0⟩ | ⟨_, h1, h2⟩
  · omega
  · rw [mark_wrong h0]; exact ⟨rfl, rfl⟩
  · exact ⟨h1, h2⟩
end Go.Proofs.YtigmhljaoicdbaaGreat

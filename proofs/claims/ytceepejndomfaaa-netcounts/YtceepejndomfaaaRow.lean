/- A row of packets in memory: appended to, cleared, one taken out. No conditions but bounds on lengths. -/
import Derived.Test.YtceepejndomfaaaNet
import Derived.Lib.SliceRun
namespace Go.Proofs.Ytceepejndomfaaa
open Go.RowKit

/-- A slice at a, with room for c, whose packets are l, of memory of its own. -/
def Row (w : World) (a : Option Addr) (c : Nat) (l : List Pkt) : Prop := w.ownsRow 0 25 3 (.slice a l.length c) l.length (pcells l)
theorem info25 : (Try.prog.info? 25).map (fun i => (i.zero, i.size, i.bytes)) = some (some (.agg #[.int .i64 0, .int .i64 0, .string ⟨#[]⟩]), 3, 32) := by kernel_rfl

/-- A slice whose packets are m, wherever they lie. -/
def Lies (w : World) (a : Option Addr) (m : List Pkt) : Prop := (a = none → m = []) ∧ ∀ x, a = some x → ∀ j u, (pcells m)[j]? = some u → w.cell? (x.add j) = some u
theorem Row.lies {w : World} {a : Option Addr} {c : Nat} {l : List Pkt} (h : Row w a c l) : Lies w a l := by
  refine ⟨fun e => ?_, fun x e j u hu => ?_⟩
  · subst e
    rcases h.2 with ⟨_, h0⟩ | ⟨g, cap, cur, hv, _⟩
    · exact List.length_eq_zero_iff.1 h0
    · simp at hv
  · subst e
    rcases h.2 with ⟨hv, h0⟩ | ⟨g, cap, cur, hv, _⟩
    · simp at hv
    · simp only [Value.slice.injEq, Option.some.injEq] at hv
      obtain ⟨rfl, _, rfl⟩ := hv
      exact h.cells (g := g) rfl j u hu
theorem Row.form {w : World} {a : Option Addr} {c : Nat} {l : List Pkt} (h : Row w a c l) : (a = none ∧ c = 0 ∧ l = []) ∨ ∃ g, a = some ⟨g, 0, none⟩ ∧ g < w.heap.size ∧ l.length ≤ c ∧ c ≤ maxLen ∧ ∃ cur, w.heap[g]? = some (.cells cur 25 (0, 0)) ∧ cur.size = c * 3 := by
  rcases h.2 with ⟨hv, h0⟩ | ⟨g, cap, cur, hv, hbg, hg, hnc, hcm, hcs, htake⟩
  · simp only [Value.slice.injEq] at hv
    exact .inl ⟨hv.1, hv.2.2, List.length_eq_zero_iff.1 h0⟩
  · simp only [Value.slice.injEq] at hv
    obtain ⟨rfl, _, rfl⟩ := hv
    exact .inr ⟨g, rfl, lt_of_heap hg, hnc, hcm, cur, hg, hcs⟩
theorem Row.keep {F : Nat → Prop} {w w' : World} {a : Option Addr} {c : Nat} {l : List Pkt} (h : Row w a c l) (m : Moved F w w') (hF : ∀ x, a = some x → ¬ F x.block) : Row w' a c l := by
  refine ownsRow_keep h fun k hk => ?_
  cases a with
  | none => simp [Value.ownBlock] at hk
  | some x =>
    simp [Value.ownBlock] at hk
    subst hk
    exact m.block _ (h.lt x.block rfl).2 (hF x rfl)
theorem Row.lt {w : World} {a : Option Addr} {c : Nat} {l : List Pkt} (h : Row w a c l) (x : Addr) (e : a = some x) : x.block < w.heap.size := by
  subst e; exact (World.ownsRow.lt h x.block rfl).2
theorem Row.cap {w : World} {a : Option Addr} {c : Nat} {l : List Pkt} (h : Row w a c l) : l.length ≤ c := by
  rcases h.form with ⟨_, _, rfl⟩ | ⟨_, _, _, hc, _⟩
  · simp
  · exact hc
theorem row_nil (w : World) : Row w none 0 [] := World.ownsRow_nil w 0 25 3
theorem Lies.keep {F : Nat → Prop} {w w' : World} {a : Option Addr} {l : List Pkt} (h : Lies w a l) (m : Moved F w w') (hF : ∀ x, a = some x → ¬ F x.block) : Lies w' a l :=
  ⟨h.1, fun x e j u hu => by
    have hc := h.2 x e j u hu
    have hl := World.block_lt_of_cell? _ _ hc
    have hb : (x.add j).block = x.block := by unfold Addr.add; split <;> rfl
    exact (m.cell hl (by rw [hb]; exact hF x e)).trans hc⟩

/-- What an append of packets to a row comes to. -/
theorem prow_app {w : World} {a : Option Addr} {c : Nat} {l : List Pkt} (h : Row w a c l) (b : Option Addr) (cb : Nat) (m : List Pkt) (hm : Lies w b m) (hb : l.length + m.length ≤ 1099511627776) :
    ∃ a' c' w', (∀ ty, (Builtin.append_ #[36, 36] ty #[.slice a l.length c, .slice b m.length cb]).run Try.prog w = .ok (.slice a' (l ++ m).length c') w') ∧
      Row w' a' c' (l ++ m) ∧ Fresh w a a' ∧ w.grownBy w' (Value.slice a l.length c).ownBlock := by
  obtain ⟨i0, hi, hz0, hz1, hz2⟩ := info_parts info25
  have hS : Src Try.prog 3 36 (.slice b m.length cb) m.length (pcells m) w := by
    cases b with
    | none =>
      have := hm.1 rfl
      subst this
      exact Src.ofNil w Try.underlying36 cb
    | some x => exact Src.ofSlice w Try.underlying36 x m.length cb _ (pcells_length m) (hm.2 x rfl) (pcells_oneCell m)
  have key : ∃ a' c' w', (∀ ty, (Builtin.append_ #[36, 36] ty #[.slice a l.length c, .slice b m.length cb]).run Try.prog w = .ok (.slice a' (l.length + m.length) c') w') ∧ Fresh w a a' := by
    have hs' : Src Try.prog i0.size 36 (.slice b m.length cb) m.length (pcells m) w := by rw [hz1]; exact hS
    have hxl := h.1
    by_cases hroom : l.length + m.length ≤ c
    · by_cases hn : m.length = 0
      · have hnil : m = [] := List.length_eq_zero_iff.1 hn
        subst hnil
        exact ⟨a, c, w, fun ty => run_append_nothing (P := Try.prog) w 36 36 ty 25 i0 Try.underlying36 hi a l.length c (by simpa using hroom) _ hs', Fresh.refl _ _⟩
      · rcases h.2 with ⟨hv, h0⟩ | ⟨g, cap, cur, hv, hbg, hg, hnc, hcm, hcs, htake⟩
        · simp only [Value.slice.injEq] at hv
          omega
        · simp only [Value.slice.injEq] at hv
          obtain ⟨rfl, _, rfl⟩ := hv
          refine ⟨_, _, _, fun ty => run_append_room_src (P := Try.prog) w 36 36 ty 25 i0 Try.underlying36 hi g 0 l.length c _ m.length (pcells m) hs' hroom (fun j hj => ?_) (fun j hj => ?_), Fresh.refl _ _⟩
          · rw [hz1]
            rw [pcells_length] at hj
            have : (w.cell? ⟨g, 0 + l.length * 3 + j, none⟩) = cur[0 + l.length * 3 + j]? := by simp [World.cell?, hg]
            rw [this, Array.getElem?_eq_getElem (by omega)]; rfl
          · exact Lib.frozen_of_heap hg _
    · have h63 : ((l.length + m.length : Nat) : Int) ≤ 9223372036854775807 := by omega
      have hold : (Builtin.firstCells i0.size l.length (.slice a l.length c)).run Try.prog w.drew = .ok (pcells l).toArray w.drew := by
        rcases h.2 with ⟨hv, h0⟩ | ⟨g, cap, cur, hv, hbg, hg, hnc, hcm, hcs, htake⟩
        · simp only [Value.slice.injEq] at hv
          obtain ⟨rfl, h1, rfl⟩ := hv
          have hnil : l = [] := List.length_eq_zero_iff.1 h0
          subst hnil
          exact run_firstCells_none w.drew i0.size 0 0 0
        · simp only [Value.slice.injEq] at hv
          obtain ⟨rfl, _, rfl⟩ := hv
          exact run_firstCells_some w.drew i0.size l.length ⟨g, 0, none⟩ l.length c (pcells l) (by rw [hz1]; exact hxl) (fun j u' hu' => h.cells (g := g) rfl j u' hu')
      exact ⟨_, _, _, fun ty => run_append_grow_src (P := Try.prog) w 36 36 ty 25 i0 _ Try.underlying36 hi hz0 a l.length c (pcells l) hold _ m.length (pcells m) hs' (by omega) h63
        (growslice_fits (by omega) (by rw [hz2]; omega)), fun y hy => by cases hy; exact .inr (Nat.le_refl _)⟩
  obtain ⟨a', c', w', hrun, hf⟩ := key
  have hown : ∃ v' w', (Builtin.append_ #[36, 36] 0 #[.slice a l.length c, .slice b m.length cb]).run Try.prog w = .ok v' w' ∧ w'.ownsRow 0 25 3 v' (l.length + m.length) (pcells l ++ pcells m) ∧ w.grownBy w' (Value.slice a l.length c).ownBlock := by
    cases b with
    | none =>
      have := hm.1 rfl
      subst this
      have hs' : Src Try.prog i0.size 36 (.slice none ([] : List Pkt).length cb) 0 [] w := by rw [hz1]; exact hS
      refine ⟨_, w, run_append_nothing (P := Try.prog) w 36 36 0 25 i0 Try.underlying36 hi a l.length c (Row.cap h) _ hs', ?_, ⟨rfl, rfl, rfl, Nat.le_refl _, fun _ _ _ => rfl⟩⟩
      rw [show pcells ([] : List Pkt) = [] from rfl, List.append_nil]; exact h
    | some x =>
      obtain ⟨v', w', h2, h3, h4, _⟩ := run_append_own (P := Try.prog) w 0 36 0 25 i0 _ 3 32 Try.underlying36 hi hz0 hz1 hz2 rfl (by decide) _ _ _ h x m.length cb (pcells m) (pcells_length m) (hm.2 x rfl) (pcells_oneCell m) (by unfold maxLen; omega) (by omega) (Nat.zero_le _)
      exact ⟨v', w', h2, h3, h4⟩
  obtain ⟨v', w2, hr, ho, hg⟩ := hown
  rw [hrun 0] at hr
  simp only [Result.ok.injEq] at hr
  obtain ⟨rfl, rfl⟩ := hr
  refine ⟨a', c', w', fun ty => by rw [List.length_append]; exact hrun ty, ?_, hf, hg⟩
  unfold Row
  rw [List.length_append, pcells_append]
  exact ho

/-- The same as a step of a region that draws. -/
theorem step_prow {ops : Array Oper} {o : Oper} {ac : Act} {w : World} {K : Act → World → Prop} {Q : Exit → Act → World → Prop} {E : Prop}
    (hg : o.guard = none) (s x : Operand) (hop : o.op = Op.call { callee := Callee.builtin Builtin.append, args := #[s, x], argTypes := #[36, 36] })
    {a : Option Addr} {c : Nat} {l : List Pkt} (h : Row w a c l) (b : Option Addr) (cb : Nat) (m : List Pkt) (hm : Lies w b m) (hb : l.length + m.length ≤ 1099511627776)
    (hs : ac.eval s = .slice a l.length c) (hx : ac.eval x = .slice b m.length cb)
    (hK : ∀ a' c' w', Row w' a' c' (l ++ m) → Fresh w a a' → w.grownBy w' (Value.slice a l.length c).ownBlock → K (ac.put o.dst (.slice a' (l ++ m).length c')) w') :
    if Region.wanted o (yielded ops ac.tmps) = true then Oper.wp Try.prog o ac w K Q else E := by
  have hw : Region.wanted o (yielded ops ac.tmps) = true := by simp [Region.wanted, hg]
  rw [if_pos hw]
  obtain ⟨a', c', w', hr, h1, h2, h3⟩ := prow_app h b cb m hm hb
  unfold Oper.wp execOp
  simp only [hop, resolve, invoke, builtin, Sem.run_bind, Sem.run_pure, Result.andThen_ok, List.map_toArray, List.map_cons, List.map_nil, hs, hx, hr]
  exact hK a' c' w' h1 h2 h3
theorem wpList_prow {ops : Array Oper} {rest : List Oper} {o : Oper} {ac : Act} {w : World} {Q : Exit → Act → World → Prop} (hgd : o.guard = none) (s x : Operand)
    (ho : o.op = .call { callee := .builtin .append, args := #[s, x], argTypes := #[36, 36] })
    {a : Option Addr} {c : Nat} {l : List Pkt} (h : Row w a c l) (b : Option Addr) (cb : Nat) (m : List Pkt) (hm : Lies w b m) (hb : l.length + m.length ≤ 1099511627776)
    (hs : ac.eval s = .slice a l.length c) (hx : ac.eval x = .slice b m.length cb)
    (hK : ∀ a' c' w', Row w' a' c' (l ++ m) → Fresh w a a' → w.grownBy w' (Value.slice a l.length c).ownBlock → wpList Try.prog ops Q rest (ac.put o.dst (.slice a' (l ++ m).length c')) w') : wpList Try.prog ops Q (o :: rest) ac w := by
  obtain ⟨a', c', w', hr, h1, h2, h3⟩ := prow_app h b cb m hm hb
  refine wpList_plain hgd fun _ hK' => ?_
  unfold Oper.wp execOp
  simp only [ho, resolve, invoke, builtin, Sem.run_bind, Sem.run_pure, Result.andThen_ok, List.map_toArray, List.map_cons, List.map_nil, hs, hx, hr]
  exact hK' _ _ (hK a' c' w' h1 h2 h3)

/-- A row whose cells were written over. -/
theorem setCells_obj (g : Nat) (e : TypeId) (fz : Nat × Nat) : ∀ (vs : List Value) (o : Nat) (w : World) (cur : Array Value), w.heap[g]? = some (.cells cur e fz) → ∃ cur', (w.setCells g o vs).heap[g]? = some (.cells cur' e fz) ∧ cur'.size = cur.size
  | [], _, w, cur, h => ⟨cur, h, rfl⟩
  | v :: r, o, w, cur, h => by
    have h1 : (w.setCell ⟨g, o, none⟩ v).heap[g]? = some (.cells (cur.setIfInBounds o v) e fz) := by
      simp [World.setCell, Array.getElem?_modify, h]
    obtain ⟨cur', h2, h3⟩ := setCells_obj g e fz r (o + 1) _ _ h1
    exact ⟨cur', h2, by simpa using h3⟩
theorem row_of_cells {w : World} {g c : Nat} {l : List Pkt} {cur : Array Value} (hg : w.heap[g]? = some (.cells cur 25 (0, 0))) (hs : cur.size = c * 3) (hl : l.length ≤ c) (hc : c ≤ maxLen)
    (hcell : ∀ j, j < l.length * 3 → w.cell? ⟨g, j, none⟩ = (pcells l)[j]?) : Row w (some ⟨g, 0, none⟩) c l := by
  refine ⟨pcells_length l, .inr ⟨g, c, cur, rfl, Nat.zero_le _, hg, hl, hc, hs, ?_⟩⟩
  apply List.ext_getElem?
  intro j
  rw [List.getElem?_take]
  by_cases hj : j < l.length * 3
  · rw [if_pos hj, ← hcell j hj, Array.getElem?_toList]
    simp [World.cell?, hg]
  · rw [if_neg hj, List.getElem?_eq_none (by rw [pcells_length]; omega)]

theorem zeros3 (n : Nat) : (Builtin.zeroCells (Value.agg #[.int .i64 0, .int .i64 0, .string ⟨#[]⟩]).cells n).toList.length = n * 3 := by
  simp [Builtin.zeroCells, Value.cells]
theorem zero25 (w : World) : (zeroValue 25).run Try.prog w = .ok (.agg #[.int .i64 0, .int .i64 0, .string ⟨#[]⟩]) w := by
  obtain ⟨i0, hi, hz0, hz1, hz2⟩ := info_parts info25
  simp [zeroValue, typeInfo, hi, hz0]
theorem run_clear_pkts (w : World) (ty : TypeId) (b o n c : Nat) (hn : 0 < n) (hc : ∀ j, j < n * 3 → (w.cell? ⟨b, o + j, none⟩).isSome = true) (hf : ∀ j, j < n * 3 → w.frozen? ⟨b, o + j, none⟩ = false) :
    ∃ zs : List Value, zs.length = n * 3 ∧ (Builtin.clear_ #[36] ty #[.slice (some ⟨b, o, none⟩) n c]).run Try.prog w = .ok (.tuple #[]) (w.setCells b o zs) := by
  refine ⟨(Builtin.zeroCells (Value.agg #[.int .i64 0, .int .i64 0, .string ⟨#[]⟩]).cells n).toList, zeros3 n, ?_⟩
  have h1 : ∀ v ∈ (Builtin.zeroCells (Value.agg #[.int .i64 0, .int .i64 0, .string ⟨#[]⟩]).cells n).toList, v.oneCell' = true := by
    intro v hv
    rw [Array.mem_toList_iff] at hv
    unfold Builtin.zeroCells at hv
    obtain ⟨i, _, rfl⟩ := Array.mem_map.1 hv
    show (#[Value.int .i64 0, .int .i64 0, .string ⟨#[]⟩][i % 3]!).oneCell' = true
    have : i % 3 < 3 := Nat.mod_lt _ (by decide)
    rcases (show i % 3 = 0 ∨ i % 3 = 1 ∨ i % 3 = 2 by omega) with e | e | e <;> rw [e] <;> rfl
  have hst := run_storeCells_cells (P := Try.prog) b o _ 0 w (by rw [zeros3]; simpa using hc) (by rw [zeros3]; simpa using hf) h1
  simp only [Nat.add_zero] at hst
  obtain ⟨m, rfl⟩ : ∃ m, n = m + 1 := ⟨n - 1, by omega⟩
  simp [Builtin.clear_, run_underlying Try.underlying36, hst]
end Go.Proofs.Ytceepejndomfaaa

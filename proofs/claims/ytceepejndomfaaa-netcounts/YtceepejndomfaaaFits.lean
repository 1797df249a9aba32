/- A map that counts, and the statements' fits. No conditions. -/
import Derived.Test.YtceepejndomfaaaAfter
import Derived.WideKeyEntry
import Derived.WideKeyArr
namespace Go.Proofs.Ytceepejndomfaaa
open Go.RowKit Go.WideMaps Go.MapKept Go.ChangeMaps

/-- The key of two numbers. -/
def ky (f t : Nat) : Value := .agg #[.int .i64 (f : Int), .int .i64 (t : Int)]
theorem ky_inj {f t f' t' : Nat} (h : ky f t = ky f' t') : f = f' ∧ t = t' := by
  unfold ky at h; simp at h; omega
theorem ak : ArrKey Try.prog 62 3 2 := ⟨by kernel_rfl, by kernel_rfl, by kernel_rfl, by kernel_rfl⟩
theorem klaw : KeyLaw Try.prog 62 := ak.law
theorem kk : ∀ f t : Fin 9, (keyOf Try.prog 62 (.agg #[.int .i64 f.val, .int .i64 t.val])).isSome = true := by decide +kernel
theorem hkey {f t : Nat} (hf : f < 9) (ht : t < 9) : ∃ l, keyOf Try.prog 62 (ky f t) = some l := Option.isSome_iff_exists.1 (kk ⟨f, hf⟩ ⟨t, ht⟩)
theorem zero3 (w : World) : (zeroValue 3).run Try.prog w = .ok (.int .i64 0) w := by
  have h : (Try.prog.info? 3).map (fun i => (i.zero, i.size)) = some (some (.int .i64 0), 1) := by kernel_rfl
  obtain ⟨i, hi, he⟩ := Option.map_eq_some_iff.1 h
  simp only [Prod.mk.injEq] at he
  simp [zeroValue, typeInfo, hi, he.1]
/-- A map at b, whose counts are c. -/
structure MapIs (w : World) (b : Nat) (es : Array MapEntry) (clock : Nat) (c : Nat → Nat → Nat) : Prop where
  heap : w.heap[b]? = some (.map es clock)
  st : Stamped es clock
  keys : ∀ e ∈ es.toList, ∃ l, keyOf Try.prog 62 e.key = some l
  val : ∀ f t e, e ∈ es.toList → e.key = ky f t → e.val = .int .i64 ((c f t : Nat) : Int)
  none_ : ∀ f t, (∀ e ∈ es.toList, e.key ≠ ky f t) → c f t = 0
section
variable {w : World} {b : Nat} {es : Array MapEntry} {clock : Nat} {c : Nat → Nat → Nat}
theorem MapIs.look (h : MapIs w b es clock c) {f t : Nat} (hf : f < 9) (ht : t < 9) : (Instr.lookup 61 (.map (some b)) (ky f t) false).run Try.prog w = .ok (.int .i64 ((c f t : Nat) : Int)) w := by
  obtain ⟨l, hk⟩ := hkey hf ht
  rcases klaw.find w hk es.toList h.keys with ⟨h1, h2⟩ | ⟨j, e, h1, h2, h3⟩
  · rw [h.none_ f t h2]
    simp [Instr.lookup, run_underlying Try.underlying61, MapKept.run_getObj_map h.heap, klaw.check w _ hk, h1, Result.andThen]
  · rw [← h.val f t e (List.mem_of_getElem? h2) h3]
    simp [Instr.lookup, run_underlying Try.underlying61, MapKept.run_getObj_map h.heap, klaw.check w _ hk, h1, Result.andThen]
theorem heap_setBlock {o : Obj} (hb : b < w.heap.size) : (setBlock w b o).heap[b]? = some o := by simp [setBlock, hb]
theorem MapIs.entry (h : MapIs w b es clock c) {f t : Nat} (hf : f < 9) (ht : t < 9) :
    ∃ st es1 clock1, (Instr.mapEntry 61 (.map (some b)) (ky f t)).run Try.prog w = .ok (.tuple #[.int .i64 ((c f t : Nat) : Int), goInt st]) (setBlock w b (.map es1 clock1)) ∧ MapIs (setBlock w b (.map es1 clock1)) b es1 clock1 c ∧ ∃ (j : Nat) (e : MapEntry), es1.toList[j]? = some e ∧ e.key = ky f t ∧ (e.born : Int) = st := by
  obtain ⟨l, hk⟩ := hkey hf ht
  have hb := lt_of_heap h.heap
  obtain ⟨s1, s2, s3⟩ := h.st
  rcases klaw.find w hk es.toList h.keys with ⟨h1, h2⟩ | ⟨j, e, h1, h2, h3⟩
  · refine ⟨clock, es.push ⟨ky f t, .int .i64 0, clock⟩, clock + 1, ?_, ⟨heap_setBlock hb, ⟨fun x hx => ?_, ?_, ?_⟩, fun x hx => ?_, fun f' t' x hx hxk => ?_, fun f' t' hn => ?_⟩, es.size, ⟨ky f t, .int .i64 0, clock⟩, by simp, rfl, rfl⟩
    · rw [h.none_ f t h2]
      simp [Instr.mapEntry, run_underlying Try.underlying61, MapKept.run_getObj_map h.heap, klaw.check w false hk, h1, MapKept.run_setObj_map _ h.heap, Result.andThen, setBlock]
    · rw [Array.toList_push] at hx
      rcases List.mem_append.1 hx with e | e
      · have := s1 x e; omega
      · rw [List.mem_singleton.1 e]; exact Nat.lt_succ_self _
    · rw [Array.toList_push, List.map_append]
      refine List.nodup_append.2 ⟨s2, by simp, fun a ha d hd e1 => ?_⟩
      simp only [List.map_cons, List.map_nil, List.mem_singleton] at hd
      obtain ⟨x, hx, rfl⟩ := List.mem_map.1 ha
      have := s1 x hx
      omega
    · rw [Array.toList_push, List.map_append]
      refine List.nodup_append.2 ⟨s3, by simp, fun a ha d hd e1 => ?_⟩
      simp only [List.map_cons, List.map_nil, List.mem_singleton] at hd
      obtain ⟨x, hx, rfl⟩ := List.mem_map.1 ha
      exact h2 x hx (e1.trans hd)
    · rw [Array.toList_push] at hx
      rcases List.mem_append.1 hx with e | e
      · exact h.keys x e
      · rw [List.mem_singleton.1 e]; exact ⟨l, hk⟩
    · rw [Array.toList_push] at hx
      rcases List.mem_append.1 hx with e | e
      · exact h.val f' t' x e hxk
      · rw [List.mem_singleton.1 e] at hxk ⊢
        obtain ⟨rfl, rfl⟩ := ky_inj hxk
        rw [h.none_ f t h2]; rfl
    · exact h.none_ f' t' fun x hx => hn x (by rw [Array.toList_push]; exact List.mem_append.2 (.inl hx))
  · have hj : es[j]? = some e := by simpa using h2
    have hsame : es.modify j (fun e => { e with key := ky f t }) = es := by
      apply Array.ext'
      rw [Array.toList_modify, ChangeMaps.modify_eq_set _ _ _ _ h2]
      have : ({ e with key := ky f t } : MapEntry) = e := by rw [← h3]
      rw [this]
      exact WideElems.set_self _ _ _ h2
    have hset : setBlock w b (.map es clock) = w := by
      unfold setBlock
      have : w.heap.setIfInBounds b (.map es clock) = w.heap := by
        apply Array.ext_getElem?
        intro i
        by_cases hi : b = i
        · subst hi; rw [h.heap]; simp [hb]
        · rw [Array.getElem?_setIfInBounds_ne hi]
      rw [this]
    refine ⟨e.born, es, clock, ?_, by rw [hset]; exact h, j, e, h2, h3, rfl⟩
    rw [← h.val f t e (List.mem_of_getElem? h2) h3]
    simp [Instr.mapEntry, run_underlying Try.underlying61, MapKept.run_getObj_map h.heap, klaw.check w false hk, h1, hj, h3, klaw.stays w hk, MapKept.run_setObj_map _ h.heap, Result.andThen, setBlock, hsame]
theorem MapIs.store (h : MapIs w b es clock c) {f t : Nat} {j : Nat} {e : MapEntry} (h2 : es.toList[j]? = some e) (h3 : e.key = ky f t) {st : Int} (hst : (e.born : Int) = st) (v : Nat) :
    ∃ es', (Instr.entryStore 61 (.map (some b)) (goInt st) (.int .i64 (v : Int))).run Try.prog w = .ok () (setBlock w b (.map es' clock)) ∧ MapIs (setBlock w b (.map es' clock)) b es' clock (fun f' t' => if f' = f ∧ t' = t then v else c f' t') := by
  have hb := lt_of_heap h.heap
  obtain ⟨s1, s2, s3⟩ := h.st
  have hl : (es.modify j fun x => { x with val := .int .i64 (v : Int) }).toList = es.toList.set j { e with val := .int .i64 (v : Int) } := by
    rw [Array.toList_modify, ChangeMaps.modify_eq_set _ _ _ _ h2]
  have hidx : es.findIdx? (fun x => ((x.born : Nat) : Int) == st) = some j := by
    rw [WideElems.findIdx_arr, ← hst]
    exact WideElems.findIdx_born s2 h2
  have hmk : ∀ {α : Type} (g : MapEntry → α), g { e with val := .int .i64 (v : Int) } = g e → (es.toList.set j { e with val := .int .i64 (v : Int) }).map g = es.toList.map g := fun g hg => by
    rw [List.map_set, hg]
    exact WideElems.set_self _ _ _ (by rw [List.getElem?_map, h2]; rfl)
  have hjl : j < es.toList.length := (List.getElem?_eq_some_iff.1 h2).1
  have hmem : ∀ x ∈ es.toList.set j { e with val := .int .i64 (v : Int) }, x = { e with val := .int .i64 (v : Int) } ∨ ∃ i, i ≠ j ∧ es.toList[i]? = some x := fun x hx => by
    obtain ⟨i, hi⟩ := List.mem_iff_getElem?.1 hx
    by_cases hij : j = i
    · subst hij
      rw [List.getElem?_set_self hjl] at hi
      exact .inl (Option.some.inj hi).symm
    · rw [List.getElem?_set_ne hij] at hi
      exact .inr ⟨i, Ne.symm hij, hi⟩
  refine ⟨es.modify j fun x => { x with val := .int .i64 (v : Int) }, ?_, heap_setBlock hb, ⟨fun x hx => ?_, ?_, ?_⟩, fun x hx => ?_, fun f' t' x hx hxk => ?_, fun f' t' hn => ?_⟩
  · simp [Instr.entryStore, MapKept.run_getObj_map h.heap, asInt, asIntOf, goInt, hidx, MapKept.run_setObj_map _ h.heap, Result.andThen, setBlock]
  · rw [hl] at hx
    rcases hmem x hx with rfl | ⟨i, _, hi⟩
    · exact s1 e (List.mem_of_getElem? h2)
    · exact s1 x (List.mem_of_getElem? hi)
  · rw [hl, hmk (·.born) rfl]; exact s2
  · rw [hl, hmk (·.key) rfl]; exact s3
  · rw [hl] at hx
    rcases hmem x hx with rfl | ⟨i, _, hi⟩
    · exact h.keys e (List.mem_of_getElem? h2)
    · exact h.keys x (List.mem_of_getElem? hi)
  · rw [hl] at hx
    rcases hmem x hx with rfl | ⟨i, hij, hi⟩
    · obtain ⟨rfl, rfl⟩ := ky_inj (hxk.symm.trans h3)
      rw [if_pos ⟨rfl, rfl⟩]
    · by_cases hft : f' = f ∧ t' = t
      · obtain ⟨rfl, rfl⟩ := hft
        exfalso
        refine hij ((List.getElem?_inj (l := es.toList.map (·.key)) (by rw [List.length_map]; exact (List.getElem?_eq_some_iff.1 hi).1) s3).1 ?_)
        rw [List.getElem?_map, List.getElem?_map, hi, h2]
        simp [hxk, h3]
      · rw [if_neg hft]
        exact h.val f' t' x (List.mem_of_getElem? hi) hxk
  · by_cases hft : f' = f ∧ t' = t
    · obtain ⟨rfl, rfl⟩ := hft
      exfalso
      refine hn { e with val := .int .i64 (v : Int) } ?_ h3
      rw [hl]
      exact List.mem_iff_getElem?.2 ⟨j, List.getElem?_set_self hjl⟩
    · rw [if_neg hft]
      refine h.none_ f' t' fun x hx hxk => ?_
      obtain ⟨i, hi⟩ := List.mem_iff_getElem?.1 hx
      by_cases hij : j = i
      · subst hij
        rw [h2] at hi
        cases hi
        exact hft (ky_inj (hxk.symm.trans h3))
      · exact hn x (by rw [hl]; exact List.mem_iff_getElem?.2 ⟨i, by rw [List.getElem?_set_ne hij]; exact hi⟩) hxk
end

/-- How many with these numbers. -/
def cn (l : List Pkt) (f t : Nat) : Nat := (l.filter fun q => decide (q.f.toNat = f ∧ q.t.toNat = t)).length
theorem cn_nil : cn [] = fun _ _ => 0 := rfl
theorem cn_snoc (l : List Pkt) (q : Pkt) : cn (l ++ [q]) = fun f t => if f = q.f.toNat ∧ t = q.t.toNat then cn l q.f.toNat q.t.toNat + 1 else cn l f t := by
  funext f t
  unfold cn
  rw [List.filter_append, List.length_append]
  by_cases h : f = q.f.toNat ∧ t = q.t.toNat
  · obtain ⟨rfl, rfl⟩ := h
    simp
  · rw [if_neg h]
    have : ¬ (q.f.toNat = f ∧ q.t.toNat = t) := fun e => h ⟨e.1.symm, e.2.symm⟩
    simp only [List.filter_cons, List.filter_nil, this, decide_false, Bool.false_eq_true, if_false, List.length_nil, Nat.add_zero]
theorem cn_le (l : List Pkt) (f t : Nat) : cn l f t ≤ cnt (f * 9 + t) l := by
  unfold cn cnt
  induction l with
  | nil => simp
  | cons q l ih =>
    simp only [List.filter_cons]
    by_cases h : q.f.toNat = f ∧ q.t.toNat = t
    · have h2 : q.link = f * 9 + t := by unfold Pkt.link; rw [h.1, h.2]
      simp only [h, h2, and_self, decide_true, if_true, List.length_cons]
      omega
    · simp only [h, decide_false, Bool.false_eq_true, if_false]
      split
      · simp only [List.length_cons]; omega
      · exact ih
theorem cnt_take_le (i : Nat) (l : List Pkt) (k : Nat) : cnt i (l.take k) ≤ cnt i l := by
  conv => rhs; rw [← List.take_append_drop k l, cnt_append]
  omega
theorem take_snoc (l : List Pkt) (k : Nat) (h : k < l.length) : l.take (k + 1) = l.take k ++ [l.getD k Pkt.zero] := by
  rw [List.take_succ_eq_append_getElem h, List.getD_eq_getElem?_getD, List.getElem?_eq_getElem h]; rfl
theorem MapIs.moved {w w' : World} {b : Nat} {es : Array MapEntry} {clock : Nat} {c : Nat → Nat → Nat} (h : MapIs w b es clock c) (hb : w'.heap[b]? = w.heap[b]?) : MapIs w' b es clock c := ⟨hb.trans h.heap, h.st, h.keys, h.val, h.none_⟩
theorem moved_setBlock {F : Nat → Prop} {a w : World} (h : Moved F a w) {b : Nat} (hb : F b ∨ a.heap.size ≤ b) (o : Obj) : Moved F a (setBlock w b o) :=
  ⟨h.os, h.tape, h.output, by simpa [setBlock] using h.size, fun i hi hF => by
    have hne : b ≠ i := fun e => by subst e; exact hb.elim hF (fun h' => by omega)
    have : (setBlock w b o).heap[i]? = w.heap[i]? := by simp [setBlock, Array.getElem?_setIfInBounds_ne hne]
    rw [this]; exact h.block i hi hF⟩

set_option maxHeartbeats 4000000 in
theorem fits_any {w : World} {a : Option Addr} {c : Nat} {l : List Pkt} (h : Row w a c l) (hg : ∀ q ∈ l, q.ok) (hm : ∀ i, cnt i l ≤ 64) (hl : l.length ≤ 5184) :
    Calls Try.prog 19 #[.slice a l.length c] w fun e w' => e = .returned (.bool true) ∧ Below w.heap.size w w' := by
  have hmm := @run_makeMap Try.prog
  have H := hide h
  have HG := hide hg
  have HM := hide hm
  have S0 : Hid (∃ es clock, MapIs (w.alloc (.map #[] 0)) w.heap.size es clock (cn [])) :=
    ⟨#[], 0, heap_alloc_new w _, ⟨fun x hx => (by simp at hx), by simp, by simp⟩, fun e he => (by simp at he), fun f t e he => (by simp at he), fun _ _ _ => rfl⟩
  clear h hg hm
  go_enter Try.func19, Try.ntmps19
  go_wp2_with fail
  go_loopw [4] (fun s wr => ∃ k : Nat, k ≤ l.length ∧ s = .int .i64 (k : Int) ∧ (∃ es clock, MapIs wr w.heap.size es clock (cn (l.take k))) ∧ Moved (fun _ => False) w wr) (fun s _ => l.length - (intOf s).toNat)
  case atStart => exact ⟨0, by omega, rfl, by rw [List.take_zero]; exact unhide S0, (Moved.refl _ _).alloc _⟩
  case round =>
    obtain ⟨k, hk, rfl, ⟨es, clock, hM⟩, hmv⟩ := hrel
    clear S0
    by_cases hlt : k < l.length
    · have hrow := (unhide H).keep hmv fun _ _ f => f
      have hqk : (l.getD k Pkt.zero).ok := unhide HG _ (by rw [List.getD_eq_getElem?_getD, List.getElem?_eq_getElem hlt]; simp)
      rcases hrow.form with ⟨_, _, e⟩ | ⟨g, rfl, hgl, _⟩
      · rw [e] at hlt; simp at hlt
      obtain ⟨c0, c1, _⟩ := hrow.at k hlt
      have hsn := take_snoc l k hlt
      generalize l.getD k Pkt.zero = q at *
      unfold Pkt.ok at hqk
      obtain ⟨f, hf⟩ : ∃ f : Nat, q.f = f := ⟨q.f.toNat, by omega⟩
      obtain ⟨t, ht⟩ : ∃ t : Nat, q.t = t := ⟨q.t.toNat, by omega⟩
      rw [hf] at c0
      rw [ht] at c1
      have hf9 : f < 9 := by omega
      have ht9 : t < 9 := by omega
      have hcn : cn (l.take (k + 1)) = fun f' t' => if f' = f ∧ t' = t then cn (l.take k) f t + 1 else cn (l.take k) f' t' := by
        rw [hsn, cn_snoc, hf, ht]; rfl
      have hle : cn (l.take k) f t + 1 ≤ 64 := by
        have h1 := cn_le (l.take (k + 1)) f t
        rw [hcn] at h1
        simp only [and_self, if_true] at h1
        have h2 := cnt_take_le (f * 9 + t) l (k + 1)
        have h3 := unhide HM (f * 9 + t)
        omega
      obtain ⟨w5, hw5⟩ : ∃ w5, w5 = (wr.alloc (.cells #[.int .i64 (f : Int), .int .i64 (t : Int)] 62)).drew := ⟨_, rfl⟩
      have hbl := lt_of_heap hM.heap
      have hM5 : MapIs w5.drew w.heap.size es clock (cn (l.take k)) := hM.moved (by rw [hw5]; exact Below.heap_alloc wr _ _ hbl)
      have m5 : Moved (fun _ => False) w w5.drew := by rw [hw5]; exact ((hmv.alloc _).drew).drew
      have d5 : w5.cell? ⟨wr.heap.size, 0, none⟩ = some (.int .i64 (f : Int)) ∧ w5.cell? ⟨wr.heap.size, 1, none⟩ = some (.int .i64 (t : Int)) := by rw [hw5]; exact ⟨by simp, by simp⟩
      have hs5 : w5.heap.size = wr.heap.size + 1 := by rw [hw5]; simp
      have look5 := hM5.look hf9 ht9
      obtain ⟨st, es1, clock1, ent, hM6, j, e, hj, hek, heb⟩ := hM5.entry hf9 ht9
      obtain ⟨w6, hw6⟩ : ∃ w6, w6 = setBlock w5.drew w.heap.size (.map es1 clock1) := ⟨_, rfl⟩
      have m6 : Moved (fun k => k = w.heap.size) w5.drew w6 := by rw [hw6]; exact moved_setBlock (Moved.refl (fun k => k = w.heap.size) _) (.inl rfl) _
      rw [← hw6] at ent hM6
      have look6 := hM6.look hf9 ht9
      obtain ⟨es2, str, hM7⟩ := hM6.store hj hek heb (cn (l.take k) f t + 1)
      obtain ⟨w7, hw7⟩ : ∃ w7, w7 = setBlock w6 w.heap.size (.map es2 clock1) := ⟨_, rfl⟩
      have m7 : Moved (fun k => k = w.heap.size) w6 w7 := by rw [hw7]; exact moved_setBlock (Moved.refl (fun k => k = w.heap.size) _) (.inl rfl) _
      rw [← hw7] at str hM7
      have look7 := hM7.look hf9 ht9
      simp only [and_self, if_true] at look7
      have m57 : Moved (fun k => k = w.heap.size) w5.drew w7 := m6.trans m7 fun k hk => .inl hk
      have hne : wr.heap.size ≠ w.heap.size := by omega
      have hl5 : wr.heap.size < w5.drew.heap.size := by show wr.heap.size < w5.heap.size; omega
      have e0 := (m57.cell (p := ⟨wr.heap.size, 0, none⟩) hl5 hne).trans d5.1
      have e1 := (m57.cell (p := ⟨wr.heap.size, 1, none⟩) hl5 hne).trans d5.2
      have f0 := (m6.cell (p := ⟨wr.heap.size, 0, none⟩) hl5 hne).trans d5.1
      have f1 := (m6.cell (p := ⟨wr.heap.size, 1, none⟩) hl5 hne).trans d5.2
      obtain ⟨g0, g1⟩ := d5
      rw [← hcn] at hM7
      have mfin : Moved (fun _ => False) w w7 := m5.trans m57 fun k hk => .inr (by omega)
      have HFIN := hide (And.intro hM7 mfin)
      have HW5 := hide hw5
      unfold ky at look5 ent look6 look7
      unfold goInt at ent str
      rw [show (((cn (l.take k) f t + 1 : Nat) : Int)) = ((cn (l.take k) f t : Nat) : Int) + 1 by omega] at str look7
      generalize cn (l.take k) f t = cv at *
      clear hM hM5 hM6 hM7 m5 m6 m7 m57 mfin hw5 hw6 hw7 hsn hcn hj hek heb hqk hmv hrow hf ht H
      go_wp2_with fail
      go_region
      rw [← unhide HW5]
      generalize wr.heap.size = B5 at *
      go_wp2_with fail
      go_region
      all_goals
        go_wp2_with fail
        go_roundw
        case rel => exact ⟨k + 1, by omega, by go_num, ⟨es2, clock1, (unhide HFIN).1⟩, (unhide HFIN).2⟩
        case measure => simp [intOf]; omega
    · go_wp2_with fail
      go_ret
      exact ⟨rfl, hmv.below (fun _ f => f.elim) (Nat.le_refl _)⟩
end Go.Proofs.Ytceepejndomfaaa

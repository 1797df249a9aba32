/- A table in memory, and what New and Ask of it do. Conditions: numbers are a machine's. -/
import Derived.Test.YtigmhljaoicdbaaGreatGSnSeenMath
import Derived.Test.YtigmhljaoicdbaaGreatGEqW
import Derived.OwnWalk
namespace Go.Proofs.YtigmhljaoicdbaaGreat.Sn
open Go.RowKit

/-- Block p is a table; M: where its sources' maps lie. -/
structure TabAt (w : World) (p : Nat) (M : Nat → Option Nat) (T : Tab) : Prop where
  src : ∀ i, i < 4 → SrcAt w p (i * 2) (M i) (T i)
  apart : ∀ i j b, i < 4 → j < 4 → M i = some b → M j = some b → i = j
def foot (p : Nat) (M : Nat → Option Nat) (k : Nat) : Prop := k = p ∨ ∃ i, i < 4 ∧ M i = some k
theorem TabAt.plt {w : World} {p : Nat} {M : Nat → Option Nat} {T : Tab} (h : TabAt w p M T) : p < w.heap.size := (h.src 0 (by decide)).lt
theorem TabAt.lt {w : World} {p : Nat} {M : Nat → Option Nat} {T : Tab} (h : TabAt w p M T) : ∀ k, foot p M k → k < w.heap.size := by
  rintro k (rfl | ⟨i, hi, e⟩)
  · exact h.plt
  · exact (h.src i hi).mo.lt k e
theorem TabAt.keep {G : Nat → Prop} {w w' : World} {p : Nat} {M : Nat → Option Nat} {T : Tab} (h : TabAt w p M T) (k : Moved G w w') (hG : ∀ i, G i → ¬ foot p M i) : TabAt w' p M T :=
  ⟨fun i hi => (h.src i hi).keep k (fun g => hG p g (.inl rfl)) (fun b e g => hG b g (.inr ⟨i, hi, e⟩)), h.apart⟩
/-- A table at p, of the blocks F. -/
def TIs (w : World) (p : Nat) (F : Nat → Prop) (T : Tab) : Prop := ∃ M, TabAt w p M T ∧ F = foot p M
theorem TIs.lt {w : World} {p : Nat} {F : Nat → Prop} {T : Tab} (h : TIs w p F T) : ∀ k, F k → k < w.heap.size := by obtain ⟨M, h, rfl⟩ := h; exact h.lt
theorem TIs.self {w : World} {p : Nat} {F : Nat → Prop} {T : Tab} (h : TIs w p F T) : F p := by obtain ⟨M, h, rfl⟩ := h; exact .inl rfl
theorem TIs.keep {G F : Nat → Prop} {w w' : World} {p : Nat} {T : Tab} (h : TIs w p F T) (k : Moved G w w') (hG : ∀ i, G i → ¬ F i) : TIs w' p F T := by
  obtain ⟨M, h, rfl⟩ := h; exact ⟨M, h.keep k hG, rfl⟩
/-- A step of a table. -/
def Did (w w' : World) (p : Nat) (F : Nat → Prop) (T : Tab) : Prop := ∃ F', TIs w' p F' T ∧ (∀ k, F' k → F k ∨ w.heap.size ≤ k) ∧ Moved F w w'
theorem Did.start {w w' : World} {p : Nat} {F : Nat → Prop} {T : Tab} (h : TIs w p F T) (k : Moved (fun _ => False) w w') : Did w w' p F T :=
  ⟨F, h.keep k fun _ f => f.elim, fun _ f => .inl f, k.mono fun _ f => f.elim⟩
theorem Did.trans {w w1 w2 : World} {p : Nat} {F F1 : Nat → Prop} {T : Tab} (hf : ∀ k, F1 k → F k ∨ w.heap.size ≤ k) (k : Moved F w w1) (h : Did w1 w2 p F1 T) : Did w w2 p F T := by
  obtain ⟨F2, h2, f2, m2⟩ := h
  refine ⟨F2, h2, fun i hi => ?_, k.trans m2 hf⟩
  rcases f2 i hi with h' | h'
  · exact hf i h'
  · exact .inr (Nat.le_trans k.size h')
/-- A step of one source is a step of the table. -/
theorem TIs.step {w w' : World} {p : Nat} {F : Nat → Prop} {T : Tab} (h : TIs w p F T) {i : Nat} (hi : i < 4) {s' : Src}
    (hs : ∀ m, SrcAt w p (i * 2) m (T i) → ∃ m', SDid w w' p (i * 2) m s' m') : Did w w' p F (upd T i s') := by
  obtain ⟨M, h, rfl⟩ := h
  obtain ⟨m', d⟩ := hs (M i) (h.src i hi)
  have hM : ∀ j, j < 4 → j ≠ i → ∀ b, M j = some b → ¬ SFoot p (M i) b := fun j hj hji b e f => by
    rcases f with f | f
    · exact (h.src j hj).ne (by rw [e, f])
    · exact hji (h.apart j i b hj hi e f)
  have hnew : ∀ b, m' = some b → foot p M b ∨ w.heap.size ≤ b := fun b e => (d.new_ b e).imp (fun e => .inr ⟨i, hi, e⟩) id
  refine ⟨foot p (fun j => if j = i then m' else M j), ⟨_, ⟨fun j hj => ?_, fun j k b hj hk e1 e2 => ?_⟩, rfl⟩, fun k f => ?_, d.moved.mono fun k f => .inl (f.imp id fun e => ⟨i, hi, e⟩)⟩
  · unfold upd
    by_cases e : j = i
    · subst e; rw [if_pos rfl, if_pos rfl]; exact d.at_
    · rw [if_neg e, if_neg e]
      have o := h.src j hj
      have a0 := d.others (j * 2) (by omega) (by omega)
      have a1 := d.others (j * 2 + 1) (by omega) (by omega)
      exact ⟨a0.1.trans o.c0, a1.1.trans o.c1, a0.2.trans o.f0, a1.2.trans o.f1, o.mo.keep fun b eb => d.moved.block b (o.mo.lt b eb) (hM j hj e b eb), o.fine⟩
  · replace e1 : (if j = i then m' else M j) = some b := e1
    replace e2 : (if k = i then m' else M k) = some b := e2
    by_cases ej : j = i
    · by_cases ek : k = i
      · rw [ej, ek]
      · rw [if_pos ej] at e1
        rw [if_neg ek] at e2
        exfalso
        rcases d.new_ b e1 with g | g
        · exact ek (h.apart k i b hk hi e2 g)
        · have := (h.src k hk).mo.lt b e2; omega
    · by_cases ek : k = i
      · rw [if_neg ej] at e1
        rw [if_pos ek] at e2
        exfalso
        rcases d.new_ b e2 with g | g
        · exact ej (h.apart j i b hj hi e1 g)
        · have := (h.src j hj).mo.lt b e1; omega
      · rw [if_neg ej] at e1
        rw [if_neg ek] at e2
        exact h.apart j k b hj hk e1 e2
  · rcases f with rfl | ⟨j, hj, e⟩
    · exact .inl (.inl rfl)
    · replace e : (if j = i then m' else M j) = some k := e
      by_cases ej : j = i
      · rw [if_pos ej] at e; exact hnew k e
      · rw [if_neg ej] at e; exact .inl (.inr ⟨j, hj, e⟩)
theorem new_any (w : World) : Calls Tryz.prog 28 #[] w fun e w' => e = .returned (.pointer (some ⟨w.heap.size, 0, none⟩)) ∧ Below w.heap.size w w' ∧ TIs w' w.heap.size (foot w.heap.size fun _ => none) new_ := by
  go_enter Tryz.func28, Tryz.ntmps28
  go_wp2
  go_ret
  refine ⟨rfl, (Below.refl _ _).alloc (Nat.le_refl _) _, _, ⟨fun i hi => ?_, fun _ _ _ _ _ e => (by cases e)⟩, rfl⟩
  have hc : ∀ n v, (w.alloc (.cells #[.int .i64 0, .map none, .int .i64 0, .map none, .int .i64 0, .map none, .int .i64 0, .map none] 84)).cell? ⟨w.heap.size, n, none⟩ = v ↔ #[.int .i64 0, .map none, .int .i64 0, .map none, .int .i64 0, .map none, .int .i64 0, .map none][n]? = v := fun n v => by rw [World.cell?_alloc_new]
  refine ⟨?_, ?_, by simp, by simp, .inl ⟨rfl, rfl⟩, Src.Fine.new⟩
  · rw [hc]
    match i, hi with
    | 0, _ => rfl
    | 1, _ => rfl
    | 2, _ => rfl
    | 3, _ => rfl
  · rw [hc]
    match i, hi with
    | 0, _ => rfl
    | 1, _ => rfl
    | 2, _ => rfl
    | 3, _ => rfl
theorem ask_nil (src seq low : Int) (w : World) : Calls Tryz.prog 30 #[.pointer none, .int .i64 src, .int .i64 seq, .int .i64 low] w fun e w' => e = .returned (.tuple #[.int .i64 0, .int .i64 0]) ∧ w' = w := by
  go_enter Tryz.func30, Tryz.ntmps30
  go_wp2
  go_ret2
  exact ⟨rfl, rfl⟩
set_option maxRecDepth 100000 in
theorem task_any {w : World} {p : Nat} {F : Nat → Prop} {T : Tab} (h : TIs w p F T) (src seq low : Int) :
    Calls Tryz.prog 30 #[.pointer (some ⟨p, 0, none⟩), .int .i64 src, .int .i64 seq, .int .i64 low] w fun e w' => e = .returned (.tuple #[.int .i64 (ask T src seq low).1, .int .i64 (ask T src seq low).2]) ∧ w' = w := by
  have hmay := fun W => may_any src seq low W
  cases hm : may src seq low with
  | false =>
    have hd : Hid (ask T src seq low = (0, 0)) := hide (by unfold ask; rw [hm]; rfl)
    rw [hm] at hmay
    clear h hm
    go_enter Tryz.func30, Tryz.ntmps30
    go_wp2_with fail
    refine (hmay w).mono ?_
    rintro e w' ⟨rfl, hw'⟩
    rw [hw']
    go_wp2_with fail
    go_ret2
    exact ⟨by rw [unhide hd]; rfl, rfl⟩
  | true =>
    have hr := may_iff.1 hm
    obtain ⟨k, rfl⟩ : ∃ k : Nat, src = k := ⟨src.toNat, by omega⟩
    have hd : Hid (ask T (k : Int) seq low = (T k).ask seq) := hide (by unfold ask; rw [hm, if_pos rfl]; rfl)
    have hk : k < 4 := by omega
    obtain ⟨M, hA, _⟩ := h
    have cA := ask_any (hA.src k hk) (q := seq) (by omega)
    rw [hm] at hmay
    have g0 : (0 : Int) ≤ (k : Int) := by omega
    have g1 : (k : Int) < 4 := by omega
    clear hA hm hr
    go_enter Tryz.func30, Tryz.ntmps30
    go_wp2_with fail
    refine (hmay w).mono ?_
    rintro e w' ⟨rfl, hw'⟩
    rw [hw']
    go_wp2_with fail
    refine cA.mono ?_
    rintro e w' ⟨rfl, hw'⟩
    rw [hw']
    go_wp2_with fail
    go_ret2
    exact ⟨by rw [unhide hd]; rfl, rfl⟩
end Go.Proofs.YtigmhljaoicdbaaGreat.Sn

namespace Go.Proofs.YtigmhljaoicdbaaGreat.Sn
open Go.RowKit

theorem note_nil (src seq low code : Int) (w : World) : Calls Tryz.prog 32 #[.pointer none, .int .i64 src, .int .i64 seq, .int .i64 low, .int .i64 code] w fun e w' => e = .returned (.int .i64 2) ∧ w' = w := by
  go_enter Tryz.func32, Tryz.ntmps32
  go_wp2
  go_ret
  exact ⟨rfl, rfl⟩
theorem TIs.drew {w : World} {p : Nat} {F : Nat → Prop} {T : Tab} (h : TIs w p F T) : TIs w.drew p F T := h.keep ((Moved.refl (fun _ => False) w).drew) fun _ f => f.elim
set_option maxRecDepth 100000 in
set_option maxHeartbeats 2000000 in
theorem tnote_any {w : World} {p : Nat} {F : Nat → Prop} {T : Tab} (h : TIs w p F T) (hT : T.Ok) (src seq low code : Int) :
    Calls Tryz.prog 32 #[.pointer (some ⟨p, 0, none⟩), .int .i64 src, .int .i64 seq, .int .i64 low, .int .i64 code] w fun e w' => e = .returned (.int .i64 (noteE T src seq low code)) ∧ Did w w' p F (note T src seq low code) := by
  have cA := task_any h src seq low
  have cC := fun W => code_any code W
  have SAME : Hid (noteE T src seq low code ≠ 0 → Did w w p F (note T src seq low code)) := hide fun hn => by
    have : note T src seq low code = T := if_neg hn
    rw [this]
    exact Did.start h (Moved.refl _ _)
  rcases ask_state T src seq low with ⟨hs, hm⟩ | ⟨hm, hst⟩
  · have hd : Hid (noteE T src seq low code = 1) := hide (by unfold noteE; rw [hs]; simp)
    clear hm
    go_enter Tryz.func32, Tryz.ntmps32
    go_wp2_with fail
    refine cA.mono ?_
    rintro e w' ⟨rfl, hw'⟩
    rw [hw', hs]
    generalize (ask T src seq low).2 = c2
    clear cA hw'
    go_wp2_with fail
    go_ret
    exact ⟨by rw [unhide hd]; rfl, unhide SAME (by rw [unhide hd]; decide)⟩
  · cases hc : isCode code with
    | false =>
      have hd : Hid (noteE T src seq low code = 1) := hide (by unfold noteE; rw [hc]; simp)
      rw [hc] at cC
      clear hm hc
      rcases hst with ⟨hs, _⟩ | ⟨hs, _⟩ | ⟨hs, _⟩
      · skip
        go_enter Tryz.func32, Tryz.ntmps32
        go_wp2_with fail
        refine cA.mono ?_
        rintro e w' ⟨rfl, hw'⟩
        rw [hw', hs]
        generalize (ask T src seq low).2 = c2
        clear cA hw'
        go_wp2_with fail
        refine (cC w).mono ?_
        rintro e w' ⟨rfl, hw'⟩
        rw [hw']
        clear hw'
        go_wp2_with fail
        go_ret
        exact ⟨by rw [unhide hd]; rfl, unhide SAME (by rw [unhide hd]; decide)⟩
      · skip
        go_enter Tryz.func32, Tryz.ntmps32
        go_wp2_with fail
        refine cA.mono ?_
        rintro e w' ⟨rfl, hw'⟩
        rw [hw', hs]
        generalize (ask T src seq low).2 = c2
        clear cA hw'
        go_wp2_with fail
        refine (cC w).mono ?_
        rintro e w' ⟨rfl, hw'⟩
        rw [hw']
        clear hw'
        go_wp2_with fail
        go_ret
        exact ⟨by rw [unhide hd]; rfl, unhide SAME (by rw [unhide hd]; decide)⟩
      · skip
        go_enter Tryz.func32, Tryz.ntmps32
        go_wp2_with fail
        refine cA.mono ?_
        rintro e w' ⟨rfl, hw'⟩
        rw [hw', hs]
        generalize (ask T src seq low).2 = c2
        clear cA hw'
        go_wp2_with fail
        refine (cC w).mono ?_
        rintro e w' ⟨rfl, hw'⟩
        rw [hw']
        clear hw'
        go_wp2_with fail
        go_ret
        exact ⟨by rw [unhide hd]; rfl, unhide SAME (by rw [unhide hd]; decide)⟩
    | true =>
      rw [hc] at cC
      rcases hst with ⟨hs, _⟩ | ⟨hs, _⟩ | ⟨hs, h1, h2⟩
      · have hd : Hid (noteE T src seq low code = 12) := hide (by unfold noteE; rw [hc, hs]; simp)
        clear hm hc
        go_enter Tryz.func32, Tryz.ntmps32
        go_wp2_with fail
        refine cA.mono ?_
        rintro e w' ⟨rfl, hw'⟩
        rw [hw', hs]
        generalize (ask T src seq low).2 = c2
        clear cA hw'
        go_wp2_with fail
        refine (cC w).mono ?_
        rintro e w' ⟨rfl, hw'⟩
        rw [hw']
        clear hw'
        go_wp2_with fail
        go_ret
        exact ⟨by rw [unhide hd]; rfl, unhide SAME (by rw [unhide hd]; decide)⟩
      · have hd : Hid (noteE T src seq low code = 5) := hide (by unfold noteE; rw [hc, hs]; simp)
        clear hm hc
        go_enter Tryz.func32, Tryz.ntmps32
        go_wp2_with fail
        refine cA.mono ?_
        rintro e w' ⟨rfl, hw'⟩
        rw [hw', hs]
        generalize (ask T src seq low).2 = c2
        clear cA hw'
        go_wp2_with fail
        refine (cC w).mono ?_
        rintro e w' ⟨rfl, hw'⟩
        rw [hw']
        clear hw'
        go_wp2_with fail
        go_ret
        exact ⟨by rw [unhide hd]; rfl, unhide SAME (by rw [unhide hd]; decide)⟩
      · have hd : Hid (noteE T src seq low code = 0) := hide (by unfold noteE; rw [hc, hs]; simp)
        have hn : Hid (note T src seq low code = noted T src seq low code) := hide (if_pos (unhide hd))
        have hr := may_iff.1 hm
        obtain ⟨k, rfl⟩ : ∃ k : Nat, src = k := ⟨src.toNat, by omega⟩
        have hk : k < 4 := by omega
        have g0 : (0 : Int) ≤ (k : Int) := by omega
        have g1 : (k : Int) < 4 := by omega
        have hl16 := (hT k).len16
        have hcd := code_iff.1 hc
        have K1 : Hid (∀ M, TabAt w p M T → Calls Tryz.prog 57 #[.pointer (some ⟨p, k * 2, none⟩), .int .i64 seq, .int .i64 code] w fun e w' => e = .returned (.tuple #[]) ∧ ∃ m', SDid w w' p (k * 2) (M k) ((T k).keep seq code) m') :=
          hide fun M hA => keep_any (hA.src k hk) (by omega) hcd (by omega)
        have K2 : Hid (∀ (v : World) m', SrcAt v p (k * 2) m' ((T k).keep seq code) → Calls Tryz.prog 58 #[.pointer (some ⟨p, k * 2, none⟩), .int .i64 low] v fun e w' => e = .returned (.tuple #[]) ∧ SDid v w' p (k * 2) m' (((T k).keep seq code).rise_ low) m') :=
          hide fun v m' hA => rise_any hA (by omega)
        have hh := h
        obtain ⟨M, hA, hF⟩ := h
        have HA := hide hA
        have HH := hide hh
        clear hm hc hr hl16 hcd h1 h2 hA hh SAME
        go_enter Tryz.func32, Tryz.ntmps32
        go_wp2_with fail
        refine cA.mono ?_
        rintro e w' ⟨rfl, hw'⟩
        rw [hw', hs]
        generalize (ask T (k : Int) seq low).2 = c2
        clear cA hw'
        go_wp2_with fail
        refine (cC w).mono ?_
        rintro e w' ⟨rfl, hw'⟩
        rw [hw']
        clear hw'
        go_wp2_with fail
        refine (unhide K1 M (unhide HA)).mono ?_
        rintro e v ⟨rfl, m', d1⟩
        have D1 := hide d1
        clear d1
        go_wp2_with fail
        refine (unhide K2 v m' (unhide D1).at_).mono ?_
        rintro e v2 ⟨rfl, d2⟩
        have D2 := hide d2
        clear d2
        go_wp2_with fail
        go_ret
        refine ⟨by rw [unhide hd]; rfl, ?_⟩
        rw [unhide hn]
        exact (unhide HH).step hk fun m hm => by
          have e : m = M k := by
            have := hm.c1.symm.trans ((unhide HA).src k hk).c1
            simpa using this
          rw [e]
          exact ⟨m', (unhide D1).trans (unhide D2)⟩
end Go.Proofs.YtigmhljaoicdbaaGreat.Sn

namespace Go.Proofs.YtigmhljaoicdbaaGreat.Sn
open Go.RowKit

def I (n : Int) : Value := .int .i64 n
theorem info_parts {z : Value} {a b : Nat} {t : TypeId} (h : (Tryz.prog.info? t).map (fun i => (i.zero, i.size, i.bytes)) = some (some z, a, b)) : ∃ i, Tryz.prog.info? t = some i ∧ i.zero = some z ∧ i.size = a ∧ i.bytes = b := by
  obtain ⟨i, hi, he⟩ := Option.map_eq_some_iff.1 h
  simp only [Prod.mk.injEq] at he
  exact ⟨i, hi, he⟩
def IntK : RowK Int := ⟨47, 3, 1, 8, .int .i64 0, fun n => [.int .i64 n]⟩
theorem intK_law : IntK.Law Tryz.prog where
  und := Tryz.underlying47
  info := info_parts (by kernel_rfl)
  zc := rfl
  pos := by decide
  len := fun _ => rfl
  one := fun b u hu => by
    simp [IntK] at hu
    rw [hu]; rfl
  small := by decide
def entV (x : Ent) : List Value := [.int .i64 x.src, .int .i64 x.seq, .int .i64 x.code]
def EntK : RowK Ent := ⟨56, 99, 3, 24, .agg #[.int .i64 0, .int .i64 0, .int .i64 0], entV⟩
theorem entK_law : EntK.Law Tryz.prog where
  und := Tryz.underlying56
  info := info_parts (by kernel_rfl)
  zc := rfl
  pos := by decide
  len := fun _ => rfl
  one := fun b u hu => by
    simp [EntK, entV] at hu
    rcases hu with rfl | rfl | rfl <;> rfl
  small := by decide
def RefK : RowK Ent := ⟨33, 100, 3, 24, .agg #[.int .i64 0, .int .i64 0, .int .i64 0], entV⟩
theorem refK_law : RefK.Law Tryz.prog where
  und := Tryz.underlying33
  info := info_parts (by kernel_rfl)
  zc := rfl
  pos := by decide
  len := fun _ => rfl
  one := fun b u hu => by
    simp [RefK, entV] at hu
    rcases hu with rfl | rfl | rfl <;> rfl
  small := by decide
theorem wpList_app {P : Program} {w : World} {ops : Array Oper} {rest : List Oper} {o : Oper} {a : Act} {Q : Exit → Act → World → Prop} (hgd : o.guard = none) (s x : Operand) (t tx ty : TypeId)
    (ho : o.op = .call { callee := .builtin .append, args := #[s, x], argTypes := #[t, tx] }) (hty : o.type = ty) {v xv v' : Value} {w' : World} (hs : a.eval s = v) (hx : a.eval x = xv)
    (hr : (Builtin.append_ #[t, tx] ty #[v, xv]).run P w = .ok v' w') (h : wpList P ops Q rest (a.put o.dst v') w') : wpList P ops Q (o :: rest) a w :=
  wpList_plain hgd fun _ hK => by
    unfold Oper.wp execOp
    simp only [ho, resolve, invoke, builtin, Sem.run_bind, Sem.run_pure, Result.andThen_ok, List.map_toArray, List.map_cons, List.map_nil, hs, hx, hty, hr]
    exact hK _ _ h
section
variable {β : Type} {K : RowK β}
theorem row_lt {w : World} {B : Nat} {a : Option Addr} {c : Nat} {l : List β} (h : K.Row w B a c l) : ∀ k, (Value.slice a l.length c).ownBlock = some k → B ≤ k ∧ k < w.heap.size := fun k e => h.lt k e
theorem lies_new (K : RowK β) (w : World) (z : β) (ty : TypeId) : K.Lies (w.alloc (.cells (K.f z).toArray ty)) (some ⟨w.heap.size, 0, none⟩) [z] := by
  refine ⟨fun e => (by cases e), fun x e j u hu => ?_⟩
  cases e
  have hu' : (K.f z)[j]? = some u := by simpa [RowK.cells] using hu
  have := (row_new w (K.f z) ty).range j u hu'
  rwa [Addr.add_mid]
/-- Where a row of one's own lies: nowhere, or at a block's beginning. -/
theorem row_shape {w : World} {B : Nat} {a : Option Addr} {c : Nat} {l : List β} (h : K.Row w B a c l) : (∃ g, a = some ⟨g, 0, none⟩ ∧ B ≤ g ∧ g < w.heap.size) ∨ (a = none ∧ l = []) := by
  rcases h.2 with ⟨hv, h0⟩ | ⟨g, cap, cur, hv, hb, hg, _⟩
  · simp only [Value.slice.injEq] at hv
    exact .inr ⟨hv.1, List.length_eq_zero_iff.1 h0⟩
  · simp only [Value.slice.injEq] at hv
    exact .inl ⟨g, hv.1, hb, (h.lt g (by rw [hv.1]; rfl)).2⟩
theorem row_keep {G : Nat → Prop} {w w' : World} {B : Nat} {a : Option Addr} {c : Nat} {l : List β} (h : K.Row w B a c l) (k : Moved G w w') (hG : ∀ i, G i → ¬ (B ≤ i ∧ (Value.slice a l.length c).ownBlock = some i)) : K.Row w' B a c l := by
  refine ⟨h.1, h.2.imp id ?_⟩
  rintro ⟨g, cap, cur, e1, e2, e3, e4⟩
  have hg : g < w.heap.size := (h.lt g (by rw [e1]; rfl)).2
  exact ⟨g, cap, cur, e1, e2, (k.block g hg fun gg => hG g gg ⟨e2, by rw [e1]; rfl⟩).trans e3, e4⟩
theorem row_base {w : World} {B B' : Nat} {a : Option Addr} {c : Nat} {l : List β} (h : K.Row w B a c l) (hb : B' ≤ B) : K.Row w B' a c l := by
  refine ⟨h.1, h.2.imp id ?_⟩
  rintro ⟨g, cap, cur, e1, e2, e3⟩
  exact ⟨g, cap, cur, e1, Nat.le_trans hb e2, e3⟩
/-- In which block a slice lies. -/
abbrev own (a : Option Addr) (n c : Nat) : Option Nat := (Value.slice a n c).ownBlock
/-- An append of one datum that lies in a new block. -/
theorem grow_one (hK : K.Law Tryz.prog) {w : World} {B : Nat} {a : Option Addr} {c : Nat} {l : List β} (h : K.Row w B a c l) (z : β) (ty : TypeId) (hl : l.length ≤ 100000) (hB : B ≤ w.heap.size) :
    ∃ a' c' w', (Builtin.append_ #[K.t, K.t] K.t #[.slice a l.length c, .slice (some ⟨w.heap.size, 0, none⟩) 1 1]).run Tryz.prog (w.alloc (.cells (K.f z).toArray ty)) = .ok (.slice a' (l.length + 1) c') w' ∧ K.Row w' B a' c' (l ++ [z]) ∧ Below B w w' ∧ Moved (fun k => own a l.length c = some k) w w' ∧
      (own a' (l.length + 1) c' = own a l.length c ∨ own a' (l.length + 1) c' = some (w.heap.size + 1)) := by
  have rV : K.Row (w.alloc (.cells (K.f z).toArray ty)) B a c l := h.alloc _
  obtain ⟨a', c', w', happ, row', grow', hown⟩ := grow_at hK rV ⟨w.heap.size, 0, none⟩ 1 [z] (lies_new K w z ty) (by simp; omega) (by simp; omega) K.t
  have e : (l ++ [z]).length = l.length + 1 := by simp
  rw [e] at happ hown
  rw [World.size_alloc] at hown
  refine ⟨a', c', w', happ, row', ?_, ?_, hown⟩
  · exact ((Below.refl B w).alloc hB _).grown grow' (by simp; omega) (fun k e => (h.lt k e).1)
  · exact ((Moved.refl _ w).alloc _).grown grow' (fun k e => .inl e)
end
end Go.Proofs.YtigmhljaoicdbaaGreat.Sn

namespace Go.Proofs.YtigmhljaoicdbaaGreat.Sn
open Go.RowKit

theorem wpList_load_on {P : Program} {ops : Array Oper} {rest : List Oper} {op : Oper} {a : Go.Act} {w : World} {Q : Exit → Go.Act → World → Prop} (hw : Region.wanted op (yielded ops a.tmps) = true) (ty : TypeId) (x : Operand) (ho : op.op = .load ty x)
    (b o : Nat) (hx : a.eval x = .pointer (some ⟨b, o, none⟩)) (cs : List Value) (d : TypeDesc) (hc : w.rangeAt b o cs)
    (hu : P.underlying ty = some d) (hd : d.isRow = true) (hi : (P.info? ty).map (·.size) = some cs.length)
    (h : wpList P ops Q rest (a.put op.dst (.agg cs.toArray)) w) : wpList P ops Q (op :: rest) a w := by
  unfold wpList
  rw [if_pos hw]
  exact .inl (wp_load_mid ty x ho b o hx cs d hc hu hd hi h)
/-- A table's cells. -/
def cells8 (M : Nat → Option Nat) (T : Tab) : List Value := [.int .i64 ((T 0).low - 1), .map (M 0), .int .i64 ((T 1).low - 1), .map (M 1), .int .i64 ((T 2).low - 1), .map (M 2), .int .i64 ((T 3).low - 1), .map (M 3)]
theorem TabAt.range {w : World} {p : Nat} {M : Nat → Option Nat} {T : Tab} (h : TabAt w p M T) : w.rangeAt p 0 (cells8 M T) := fun j v hv => by
  rw [Nat.zero_add]
  have s0 := h.src 0 (by decide)
  have s1 := h.src 1 (by decide)
  have s2 := h.src 2 (by decide)
  have s3 := h.src 3 (by decide)
  match j, hv with
  | 0, hv => cases hv; exact s0.c0
  | 1, hv => cases hv; exact s0.c1
  | 2, hv => cases hv; exact s1.c0
  | 3, hv => cases hv; exact s1.c1
  | 4, hv => cases hv; exact s2.c0
  | 5, hv => cases hv; exact s2.c1
  | 6, hv => cases hv; exact s3.c0
  | 7, hv => cases hv; exact s3.c1
  | n + 8, hv => cases hv
theorem idx61 (M : Nat → Option Nat) (T : Tab) {k : Nat} (hk : k < 4) (w : World) : (Instr.index 82 (.agg (cells8 M T).toArray) (.int .i64 (k : Int))).run Tryz.prog w = .ok (.agg #[.int .i64 ((T k).low - 1), .map (M k)]) w := by
  have u2 := Tryz.underlying81
  have g2 := Tryz.isAgg81
  have z2 := Tryz.sizeOf81
  match k, hk with
  | 0, _ => simp [Instr.index, run_underlying Tryz.underlying82, asIntOf, go_sem, g2, z2, cells8]
  | 1, _ => simp [Instr.index, run_underlying Tryz.underlying82, asIntOf, go_sem, g2, z2, cells8]
  | 2, _ => simp [Instr.index, run_underlying Tryz.underlying82, asIntOf, go_sem, g2, z2, cells8]
  | 3, _ => simp [Instr.index, run_underlying Tryz.underlying82, asIntOf, go_sem, g2, z2, cells8]
def lowsTo (T : Tab) (n : Nat) : List Int := (List.range n).map fun i => (T i).low
theorem lowsTo_succ (T : Tab) (n : Nat) : lowsTo T (n + 1) = lowsTo T n ++ [(T n).low] := by unfold lowsTo; rw [List.range_succ, List.map_append]; rfl
theorem lowsTo_len (T : Tab) (n : Nat) : (lowsTo T n).length = n := by simp [lowsTo]
theorem lowsTo_four (T : Tab) : lowsTo T 4 = lows T := rfl
theorem lows_nil (w : World) : Calls Tryz.prog 44 #[.pointer none] w fun e w' => e = .returned (.slice none 0 0) ∧ w' = w := by
  go_enter Tryz.func44, Tryz.ntmps44
  go_wp2
  go_ret
  exact ⟨rfl, rfl⟩
set_option maxRecDepth 100000 in
set_option maxHeartbeats 2000000 in
theorem lows_any {w : World} {p : Nat} {F : Nat → Prop} {T : Tab} (h : TIs w p F T) :
    Calls Tryz.prog 44 #[.pointer (some ⟨p, 0, none⟩)] w fun e w' => ∃ a c, e = .returned (.slice a 4 c) ∧ IntK.Row w' w.heap.size a c (lows T) ∧ Below w.heap.size w w' := by
  obtain ⟨M, hA, _⟩ := h
  have HR := hide hA.range
  have HF := hide (fun k hk => (hA.src k hk).fine)
  obtain ⟨B, hB⟩ : ∃ B, B = w.heap.size := ⟨_, rfl⟩
  have HB := hide hB
  clear hA
  go_enter Tryz.func44, Tryz.ntmps44
  go_wp2_with (refine wpList_load_on rfl 82 (.tmp 10) rfl p 0 rfl (cells8 M T) _ (unhide HR) Tryz.underlying82 rfl (by kernel_rfl) ?_)
  go_loopw [3, 12] (fun lv i wr => ∃ (k : Nat) (a : Option Addr) (c : Nat), i = .int .i64 (k : Int) ∧ k ≤ 4 ∧ lv = .slice a (lowsTo T k).length c ∧ IntK.Row wr B a c (lowsTo T k) ∧ Below B w wr) (fun _ i _ => 4 - (intOf i).toNat)
  case atStart => exact ⟨0, none, 0, rfl, by decide, rfl, row_none _ _, by rw [unhide HB]; exact Below.refl _ _⟩
  case round =>
    obtain ⟨k, a, c, rfl, hk, rfl, hrow, hbl⟩ := hrel
    by_cases hlt : k < 4
    · have g0 : (0 : Int) ≤ (k : Int) := by omega
      have g1 : (k : Int) < 4 := by omega
      have hwk : IntKind.i64.wrap ((k : Int) + 1) = (k : Int) + 1 := Go.IntWalk.i64_in _ (by omega)
      have ix := fun W => idx61 M T hlt W
      have ll := lowsTo_len T k
      have hbz : B ≤ wr.heap.size := by rw [unhide HB]; exact hbl.size
      obtain ⟨W1, hW1⟩ : ∃ W1, W1 = wr.alloc (.cells #[.int .i64 ((T k).low - 1), .map (M k)] 81) := ⟨_, rfl⟩
      have b1 : Below B wr W1 := by rw [hW1]; exact (Below.refl _ _).alloc hbz _
      have r1 : IntK.Row W1 B a c (lowsTo T k) := by rw [hW1]; exact hrow.alloc _
      have lw : Calls Tryz.prog 72 #[.pointer (some ⟨wr.heap.size, 0, none⟩)] W1 fun e w' => e = .returned (.int .i64 (T k).low) ∧ w' = W1 := by
        have F := unhide HF k hlt
        have h1 := F.lo
        have h2 := F.hi
        have c0 : W1.cell? ⟨wr.heap.size, 0, none⟩ = some (.int .i64 ((T k).low - 1)) := by rw [hW1, World.cell?_alloc_new]; rfl
        have := low_any c0 (Go.IntWalk.i64_in _ (by omega))
        rw [show (T k).low - 1 + 1 = (T k).low by omega] at this
        exact this
      have hB1 : B ≤ W1.heap.size := by have := b1.size; have := hbz; omega
      obtain ⟨a', c', w9, happ, row9, bel9, _, _⟩ := grow_one intK_law r1 (T k).low 3 (by rw [ll]; omega) hB1
      rw [← lowsTo_succ] at row9
      rw [ll] at happ
      have REL := hide (⟨row9, hbl.trans (b1.trans bel9)⟩ : IntK.Row w9 B a' c' (lowsTo T (k + 1)) ∧ Below B w w9)
      have HW1 := hide hW1
      have HAP : Hid ((Builtin.append_ #[47, 47] 47 #[.slice a (k : Nat) c, .slice (some ⟨W1.heap.size, 0, none⟩) 1 1]).run Tryz.prog (W1.alloc (.cells #[.int .i64 (T k).low] 3)) = .ok (.slice a' ((k + 1 : Nat)) c') w9) := hide happ
      have HLL := hide (lowsTo_len T (k + 1))
      rw [ll]
      clear hrow hbl r1 b1 hB1 happ row9 bel9 ll hW1
      go_upto_region 7 with fail
      rw [← unhide HW1]
      go_wp2_with fail
      refine lw.mono ?_
      rintro e w' ⟨rfl, hw'⟩
      rw [hw']
      clear lw
      go_wp2_with (at_builtin; refine wpList_app rfl _ _ 47 47 47 rfl rfl rfl rfl (unhide HAP) ?_)
      exact ⟨⟨k + 1, a', c', rfl, by omega, by rw [unhide HLL], (unhide REL).1, (unhide REL).2⟩, by simp [intOf]; omega⟩
    · have hk4 : k = 4 := by omega
      subst hk4
      have ll := lowsTo_len T 4
      have REL := hide (⟨hrow, hbl⟩ : IntK.Row wr B a c (lowsTo T 4) ∧ Below B w wr)
      rw [ll]
      clear hrow hbl ll
      go_wp2_with fail
      go_ret
      exact ⟨a, c, rfl, by rw [← unhide HB]; exact (unhide REL).1, by rw [← unhide HB]; exact (unhide REL).2⟩
end Go.Proofs.YtigmhljaoicdbaaGreat.Sn

namespace Go.Proofs.YtigmhljaoicdbaaGreat.Sn
open Go.RowKit Go.Maps Go.Sort Go.Shelf

theorem sortsL (m : Nat) : AnyZI.SortsIn Tryz.prog sortedL_ren Fence.wide m :=
  ⟨fun blk off cap ss W hH hblk hsz => callsIn_wide.2 (AnyM.slices_Sort_int sortL blk off cap ss W hH hblk hsz),
   fun p cap W => callsIn_wide.2 (AnyM.slices_Sort_int_none sortL p cap W)⟩
theorem keys_call (mb : Option Nat) (W : World) : Calls Tryz.prog 74 #[.map mb] W fun e w' => e = .returned (.func (.func 101) #[] #[.pointer (some ⟨W.heap.size, 0, none⟩)]) ∧ w' = W.alloc (.cells #[.map mb] 79) :=
  callsIn_wide.1 (AnyZI.keys_in keysL Fence.wide 5 trivial rfl mb W)
theorem sorted_some {w : World} {b : Nat} {l : Codes} (h : MIs w b l) (hr : Rise l) (hl : l.length ≤ 1000) :
    Calls Tryz.prog 73 #[.func (.func 101) #[] #[.pointer (some ⟨w.heap.size, 0, none⟩)]] (w.alloc (.cells #[.map (some b)] 79)) fun e w' => ∃ a c, e = .returned (.slice a l.length c) ∧ IntK.Row w' w.heap.size a c (l.map (·.1)) ∧ Below w.heap.size w w' := by
  obtain ⟨D, hown, hD⟩ := h
  have hbl := hown.lt
  have hseq : SeqGives Fence.wide 2 Tryz.prog 101 #[.pointer (some ⟨w.heap.size, 0, none⟩)] encZ (fun ss => ss.Perm (intKeys D)) (Maps.size D) (w.alloc (.cells #[.map (some b)] 79)) :=
    AnyZI.keys_gives (ρ := keysL_ren) { keysL with } Fence.wide _ trivial rfl (by omega) w.heap.size b l.length D _ (by simp) (by simp) (by
      obtain ⟨es, clock, hb, Ft, hs, hDe⟩ := hown
      exact ⟨es, clock, (Below.heap_alloc _ _ b hbl).trans hb, Ft, hs, hDe⟩)
  have hsz := dis_size hD
  have cS := AnyZI.sorted_in sortedL Fence.wide 5 trivial trivial trivial trivial rfl (by omega) (sortsL _) (enters_of Tryz.func100 (by kernel_rfl) rfl) 101 #[.pointer (some ⟨w.heap.size, 0, none⟩)] trivial (enters_of Tryz.func101 (by kernel_rfl) rfl) _ _ (by rw [hsz]; unfold maxLen; omega) (by rw [hsz]; omega) _ hseq
  change CallsIn _ _ Tryz.prog 73 _ _ _ at cS
  refine (callsIn_wide.1 cS).mono ?_
  rintro e w' ⟨v, ss, rfl, hS, hrow, hnil, hb⟩
  have hlen : ss.length = l.length := by rw [hS.length_eq, (dis_keys hD).length_eq, List.length_map]
  rw [dis_sorted hD hr hS] at hrow
  have hcells : IntK.cells (l.map (·.1)) = (l.map (·.1)).map encZ := by
    generalize l.map (·.1) = z
    induction z with
    | nil => rfl
    | cons a z ih => exact congrArg (encZ a :: ·) ih
  rw [← hcells, hlen] at hrow
  have hlm : (l.map (·.1)).length = l.length := List.length_map ..
  obtain ⟨a, c, rfl⟩ : ∃ a c, v = .slice a l.length c := by
    rcases hrow.2 with ⟨e, h0⟩ | ⟨g, cap, cur, e, _⟩
    · exact ⟨none, 0, by rw [e, h0]⟩
    · exact ⟨_, _, e⟩
  have hrow2 : IntK.Row w' (w.alloc (.cells #[.map (some b)] 79)).heap.size a c (l.map (·.1)) := by
    unfold RowK.Row
    rw [hlm]
    exact hrow
  exact ⟨a, c, rfl, row_base hrow2 (by simp), ((Below.refl _ w).alloc (Nat.le_refl _) _).trans (hb.mono (by simp))⟩
theorem sorted_none (w : World) :
    Calls Tryz.prog 73 #[.func (.func 101) #[] #[.pointer (some ⟨w.heap.size, 0, none⟩)]] (w.alloc (.cells #[.map none] 79)) fun e w' => e = .returned (.slice none 0 0) ∧ Below w.heap.size w w' := by
  have hseq : SeqGives Fence.wide 2 Tryz.prog 101 #[.pointer (some ⟨w.heap.size, 0, none⟩)] encZ (fun ss : List Int => ss = []) 0 (w.alloc (.cells #[.map none] 79)) :=
    AnyZI.keys_gives_nil (ρ := keysL_ren) { keysL with } Fence.wide _ trivial rfl w.heap.size _ (by simp) (by simp)
  have cS := AnyZI.sorted_in sortedL Fence.wide 5 trivial trivial trivial trivial rfl (by omega) (sortsL _) (enters_of Tryz.func100 (by kernel_rfl) rfl) 101 #[.pointer (some ⟨w.heap.size, 0, none⟩)] trivial (enters_of Tryz.func101 (by kernel_rfl) rfl) _ 0 (Nat.zero_le _) (by omega) _ hseq
  change CallsIn _ _ Tryz.prog 73 _ _ _ at cS
  refine (callsIn_wide.1 cS).mono ?_
  rintro e w' ⟨v, ss, rfl, hS, hrow, hnil, hb⟩
  subst hS
  obtain rfl : v = .slice none 0 0 := hnil.2 rfl
  exact ⟨rfl, ((Below.refl _ w).alloc (Nat.le_refl _) _).trans (hb.mono (by simp))⟩
/-- Both. -/
theorem sorted_any {w : World} {m : Option Nat} {l : Codes} (h : MO w m l) (hr : Rise l) (hl : l.length ≤ 1000) :
    Calls Tryz.prog 73 #[.func (.func 101) #[] #[.pointer (some ⟨w.heap.size, 0, none⟩)]] (w.alloc (.cells #[.map m] 79)) fun e w' => ∃ a c, e = .returned (.slice a l.length c) ∧ IntK.Row w' w.heap.size a c (l.map (·.1)) ∧ Below w.heap.size w w' := by
  rcases h with ⟨rfl, rfl⟩ | ⟨b, rfl, h⟩
  · exact (sorted_none w).mono fun e w' ⟨h1, h2⟩ => ⟨none, 0, h1, row_none _ _, h2⟩
  · exact sorted_some h hr hl
end Go.Proofs.YtigmhljaoicdbaaGreat.Sn

namespace Go.Proofs.YtigmhljaoicdbaaGreat.Sn
open Go.RowKit

theorem ents_append (k : Nat) (l m : Codes) : ents k (l ++ m) = ents k l ++ ents k m := by simp [ents]
theorem take_snoc {α : Type} {l : List α} {j : Nat} {x : α} (h : l[j]? = some x) : l.take (j + 1) = l.take j ++ [x] := by
  obtain ⟨hj, rfl⟩ := List.getElem?_eq_some_iff.1 h
  exact List.take_succ_eq_append_getElem hj
theorem all_nil (w : World) : Calls Tryz.prog 45 #[.pointer none] w fun e w' => e = .returned (.slice none 0 0) ∧ w' = w := by
  go_enter Tryz.func45, Tryz.ntmps45
  go_wp2
  go_ret
  exact ⟨rfl, rfl⟩
theorem all_len_to {T : Tab} (h : T.Ok) (k : Nat) : (allTo T k).length ≤ k * 16 := allTo_length h k
/-- A row of numbers at a, whose block another row does not write. -/
theorem ints_at {w : World} {B : Nat} {a : Option Addr} {c : Nat} {l : List Int} (h : IntK.Row w B a c l) {j : Nat} {n : Int} (hj : l[j]? = some n) : ∃ g, a = some ⟨g, 0, none⟩ ∧ w.cell? ⟨g, j, none⟩ = some (.int .i64 n) := by
  rcases row_shape h with ⟨g, rfl, _, _⟩ | ⟨rfl, rfl⟩
  · refine ⟨g, rfl, ?_⟩
    have := lies_at intK_law (row_lies h) hj 0 (.int .i64 n) rfl
    simpa [IntK] using this
  · cases hj
set_option maxRecDepth 100000 in
set_option maxHeartbeats 4000000 in
theorem all_any {w : World} {p : Nat} {F : Nat → Prop} {T : Tab} (h : TIs w p F T) (hT : T.Ok) :
    Calls Tryz.prog 45 #[.pointer (some ⟨p, 0, none⟩)] w fun e w' => ∃ a c, e = .returned (.slice a (all T).length c) ∧ EntK.Row w' w.heap.size a c (all T) ∧ Below w.heap.size w w' := by
  obtain ⟨M, hA, _⟩ := h
  have HR := hide hA.range
  have HM : Hid (∀ k, k < 4 → ∀ v, Below w.heap.size w v → MO v (M k) (T k).codes) := hide (fun k hk v hb => (hA.src k hk).mo.keep fun b e => hb.block b ((hA.src k hk).mo.lt b e))
  obtain ⟨B, hB⟩ : ∃ B, B = w.heap.size := ⟨_, rfl⟩
  rw [← hB] at HM
  have HB := hide hB
  clear hA
  go_enter Tryz.func45, Tryz.ntmps45
  go_wp2_with (refine wpList_load_on rfl 82 (.tmp 12) rfl p 0 rfl (cells8 M T) _ (unhide HR) Tryz.underlying82 rfl (by kernel_rfl) ?_)
  go_loopw [3, 14] (fun lv i wr => ∃ (k : Nat) (a : Option Addr) (c : Nat), i = .int .i64 (k : Int) ∧ k ≤ 4 ∧ lv = .slice a (allTo T k).length c ∧ EntK.Row wr B a c (allTo T k) ∧ Below B w wr) (fun _ i _ => 4 - (intOf i).toNat)
  case atStart => exact ⟨0, none, 0, rfl, by decide, rfl, row_none _ _, by rw [unhide HB]; exact Below.refl _ _⟩
  case round =>
    obtain ⟨k, a, c, rfl, hk, rfl, hrow, hbl⟩ := hrel
    have hbz : B ≤ wr.heap.size := by rw [unhide HB]; exact hbl.size
    by_cases hlt : k < 4
    · have g0 : (0 : Int) ≤ (k : Int) := by omega
      have g1 : (k : Int) < 4 := by omega
      have hwk : IntKind.i64.wrap ((k : Int) + 1) = (k : Int) + 1 := Go.IntWalk.i64_in _ (by omega)
      have ix := fun W => idx61 M T hlt W
      obtain ⟨W1, hW1⟩ : ∃ W1, W1 = wr.alloc (.cells #[.int .i64 ((T k).low - 1), .map (M k)] 81) := ⟨_, rfl⟩
      obtain ⟨H, hH⟩ : ∃ H, H = wr.heap.size := ⟨_, rfl⟩
      have b1 : Below B wr W1 := by rw [hW1]; exact (Below.refl _ _).alloc hbz _
      have r1 : EntK.Row W1 B a c (allTo T k) := by rw [hW1]; exact hrow.alloc _
      have c1 : W1.cell? ⟨H, 1, none⟩ = some (.map (M k)) := by rw [hW1, hH, World.cell?_alloc_new]; rfl
      have hs1 : W1.heap.size = H + 1 := by rw [hW1, hH]; simp
      have mo1 : MO W1 (M k) (T k).codes := unhide HM k hlt W1 (hbl.trans b1)
      have bw1 : Below B w W1 := hbl.trans b1
      have hlen := (hT k).len16
      have CK := hide (keys_call (M k) W1)
      have CS := hide (sorted_any mo1 (hT k).rise (by omega))
      have HW1 := hide hW1
      have HH := hide hH
      have HS1 := hide hs1
      have R1 := hide r1
      have BW1 := hide bw1
      have C1 := hide c1
      have HK := hide hlt
      have HO : Hid (∀ i, own a (allTo T k).length c = some i → i < H) := hide (fun i e => by rw [hH]; exact (row_lt hrow i e).2)
      have HTN := hide (all_len_to hT k)
      have HL16 := hide hlen
      clear hrow hbl b1 r1 mo1 bw1 hW1 hH hs1 hlen c1
      go_upto_region 7 with fail
      rw [← unhide HW1]
      rw [← unhide HH]
      have c1 := unhide C1
      go_wp2_with fail
      refine (unhide CK).mono ?_
      rintro e w' ⟨rfl, hw'⟩
      rw [hw']
      clear CK
      go_wp2_with fail
      refine (unhide CS).mono ?_
      rintro e v2 ⟨a2, c2, rfl, hi2, hb2⟩
      have START : Hid (EntK.Row v2 B a c (allTo T k) ∧ Below B w v2 ∧ IntK.Row v2 (H + 1) a2 c2 ((T k).codes.map (·.1)) ∧ v2.cell? ⟨H, 1, none⟩ = some (.map (M k)) ∧ (∀ i, own a (allTo T k).length c = some i → i ≠ H ∧ own a2 ((T k).codes.map (·.1)).length c2 ≠ some i)) := hide (by
        have hs := unhide HS1
        refine ⟨row_keep (unhide R1) (Moved.of_below (F := fun _ => False) hb2) (fun _ f => f.elim), (unhide BW1).trans (hb2.mono (by have := unhide HH; omega)), by rw [← hs]; exact hi2, (hb2.cell (p := ⟨H, 1, none⟩) (by show H < _; omega)).trans c1, fun i e => ?_⟩
        have h1 := unhide HO i e
        refine ⟨by omega, fun e2 => ?_⟩
        have := (row_lt hi2 i e2).1
        omega)
      clear CS hi2 hb2 hw' c1 HO R1 BW1 C1
      go_wp2_with fail
      go_loopw [3, 23] (fun lv i wr => ∃ (j : Nat) (a : Option Addr) (c : Nat), i = .int .i64 (j : Int) ∧ j ≤ (T k).codes.length ∧ lv = .slice a (allTo T k ++ ents k ((T k).codes.take j)).length c ∧ EntK.Row wr B a c (allTo T k ++ ents k ((T k).codes.take j)) ∧ Below B w wr ∧ IntK.Row wr (H + 1) a2 c2 ((T k).codes.map (·.1)) ∧ wr.cell? ⟨H, 1, none⟩ = some (.map (M k)) ∧ (∀ i, own a (allTo T k ++ ents k ((T k).codes.take j)).length c = some i → i ≠ H ∧ own a2 ((T k).codes.map (·.1)).length c2 ≠ some i)) (fun _ i _ => (T k).codes.length - (intOf i).toNat)
      case atStart =>
        have e0 : allTo T k ++ ents k ((T k).codes.take 0) = allTo T k := by rw [List.take_zero]; exact List.append_nil _
        refine ⟨0, a, c, rfl, Nat.zero_le _, by rw [e0], ?_⟩
        rw [e0]
        exact unhide START
      case round =>
        obtain ⟨j, a, c, rfl, hj, rfl, hrow, hbl, hi2, hc1, hown⟩ := hrel
        clear START
        have hbz : B ≤ wr.heap.size := by rw [unhide HB]; exact hbl.size
        have hen : (allTo T k ++ ents k ((T k).codes.take j)).length = (allTo T k).length + j := by simp [ents]; omega
        by_cases hjl : j < (T k).codes.length
        · have gj : (j : Int) < ((T k).codes.length : Int) := by omega
          have gj0 : (0 : Int) ≤ (j : Int) := by omega
          have hwj : IntKind.i64.wrap ((j : Int) + 1) = (j : Int) + 1 := Go.IntWalk.i64_in _ (by have := unhide HL16; omega)
          obtain ⟨x, hx⟩ : ∃ x, (T k).codes[j]? = some x := ⟨_, List.getElem?_eq_getElem hjl⟩
          have hmem := List.mem_of_getElem? hx
          obtain ⟨q, cd⟩ := x
          obtain ⟨g, rfl, hcq⟩ := ints_at hi2 (j := j) (n := q) (by rw [List.getElem?_map, hx]; rfl)
          have hq := (hT k).num _ hmem
          have hlk := (unhide HM k (unhide HK) wr hbl).get (hT k).rise (q := q) (by simp only at hq; omega)
          rw [show look (T k).codes q = some cd from look_mem (a := (q, cd)) (hT k).rise hmem] at hlk
          simp only [Option.getD_some] at hlk
          obtain ⟨a', c', w9, happ, row9, bel9, mv9, own9⟩ := grow_one entK_law hrow ⟨(k : Int), q, cd⟩ 99 (by rw [hen]; have := unhide HTN; have := unhide HL16; omega) hbz
          have hsn : allTo T k ++ ents k ((T k).codes.take j) ++ [(⟨(k : Int), q, cd⟩ : Ent)] = allTo T k ++ ents k ((T k).codes.take (j + 1)) := by
            rw [take_snoc hx, ents_append, List.append_assoc]; rfl
          have hen2 : (allTo T k ++ ents k ((T k).codes.take (j + 1))).length = (allTo T k).length + j + 1 := by rw [← hsn, List.length_append, hen]; rfl
          rw [hsn] at row9
          have REL : Hid (EntK.Row w9 B a' c' (allTo T k ++ ents k ((T k).codes.take (j + 1))) ∧ Below B w w9 ∧ IntK.Row w9 (H + 1) (some ⟨g, 0, none⟩) c2 ((T k).codes.map (·.1)) ∧ w9.cell? ⟨H, 1, none⟩ = some (.map (M k)) ∧ (∀ i, own a' (allTo T k ++ ents k ((T k).codes.take (j + 1))).length c' = some i → i ≠ H ∧ own (some ⟨g, 0, none⟩) ((T k).codes.map (·.1)).length c2 ≠ some i)) := hide (by
            have hHl : H < wr.heap.size := World.block_lt_of_cell? _ _ hc1
            refine ⟨row9, hbl.trans bel9, row_keep hi2 mv9 (fun i e f => (hown i e).2 f.2), (mv9.cell (p := ⟨H, 1, none⟩) hHl (fun e => (hown H e).1 rfl)).trans hc1, fun i e => ?_⟩
            rw [hen2, ← hen] at e
            rcases own9 with e9 | e9
            · rw [e9] at e; exact hown i e
            · rw [e9] at e
              cases e
              refine ⟨by omega, fun e2 => ?_⟩
              have := (row_lt hi2 _ e2).2
              omega)
          have HAP : Hid ((Builtin.append_ #[56, 56] 56 #[.slice a (allTo T k ++ ents k ((T k).codes.take j)).length c, .slice (some ⟨wr.heap.size, 0, none⟩) 1 1]).run Tryz.prog (wr.alloc (.cells #[.int .i64 (k : Int), .int .i64 q, .int .i64 cd] 99)) = .ok (.slice a' ((allTo T k ++ ents k ((T k).codes.take j)).length + 1) c') w9) := hide happ
          have HE2 : Hid ((allTo T k ++ ents k ((T k).codes.take (j + 1))).length = (allTo T k ++ ents k ((T k).codes.take j)).length + 1) := hide (by rw [hen2, hen])
          clear hrow hbl hi2 hown hx hmem hq happ row9 bel9 mv9 own9 hsn hen2 hen hbz
          generalize (allTo T k ++ ents k ((T k).codes.take j)).length = n0 at *
          go_wp2_with (at_builtin; refine wpList_app rfl _ _ 56 56 56 rfl rfl rfl rfl (unhide HAP) ?_)
          exact ⟨⟨j + 1, a', c', rfl, by omega, by rw [unhide HE2], unhide REL⟩, by simp [intOf]; omega⟩
        · have hje : j = (T k).codes.length := by omega
          have REL : Hid (EntK.Row wr B a c (allTo T (k + 1)) ∧ Below B w wr) := hide ⟨by rw [allTo]; rw [hje, List.take_length] at hrow; exact hrow, hbl⟩
          have HE2 : Hid ((allTo T k ++ ents k ((T k).codes.take j)).length = (allTo T (k + 1)).length) := hide (by rw [hje, List.take_length]; rfl)
          clear hrow hbl hi2 hown hen hbz hje
          generalize (allTo T k ++ ents k ((T k).codes.take j)).length = n0 at *
          go_wp2_with fail
          exact ⟨⟨k + 1, a, c, rfl, by omega, by rw [unhide HE2], unhide REL⟩, by simp [intOf]; omega⟩
    · have hk4 : k = 4 := by omega
      subst hk4
      have REL := hide (⟨hrow, hbl⟩ : EntK.Row wr B a c (allTo T 4) ∧ Below B w wr)
      clear hrow hbl
      go_wp2_with fail
      go_ret
      exact ⟨a, c, rfl, by rw [← unhide HB]; exact (unhide REL).1, by rw [← unhide HB]; exact (unhide REL).2⟩
end Go.Proofs.YtigmhljaoicdbaaGreat.Sn

/- A shard's state as plain data: a line and a table; what an item does to it, and what follows of that. No Go. -/
import Derived.Test.YtigmhljaoicdbaaGreatGSnTwind
import Derived.Test.YtigmhljaoicdbaaGreatGEqW
import Derived.Test.YtigmhljaoicdbaaGreatGShelf
namespace Go.Proofs.YtigmhljaoicdbaaGreat
structure ItemV where
  src : Int
  seq : Int
  low : Int
  kind : Nat
  key : List UInt8
  part : Int
  at_ : Int
  n : Int
structure StV where
  line : LineV
  tab : Sn.Tab
def newS : StV := ⟨newL, Sn.new_⟩
structure GoodS (S : StV) : Prop where
  line : GoodL S.line
  mild : Mild S.line.row
  tab : S.tab.Ok
theorem goodS_new : GoodS newS := ⟨goodL_new, mild_nil, Sn.new_ok⟩
/-- What an item's kind does to a line: the line, the code, what is told. -/
def doL (L : LineV) (x : ItemV) : LineV × Int × List (Win AggV) :=
  if x.kind = 1 then ((putL L x.key x.at_ x.n).1, ((putL L x.key x.at_ x.n).2 : Int), [])
  else if x.kind = 2 then ((markL L x.at_).1, ((markL L x.at_).2.1 : Int), (markL L x.at_).2.2) else (L, 4, [])
def askS (S : StV) (x : ItemV) : Int × Int := Sn.ask S.tab x.src x.seq x.low
def freshS (S : StV) (x : ItemV) : Bool := decide ((askS S x).1 = 3)
def codeS (S : StV) (x : ItemV) : Int := if (askS S x).1 = 0 then 4 else if (askS S x).1 = 3 then (doL S.line x).2.1 else (askS S x).2
def outsS (S : StV) (x : ItemV) : List (Win AggV) := if (askS S x).1 = 3 then (doL S.line x).2.2 else []
def appS (S : StV) (x : ItemV) : StV := if (askS S x).1 = 3 then ⟨(doL S.line x).1, Sn.note S.tab x.src x.seq x.low (doL S.line x).2.1⟩ else S
/-- The codes that an item may be given. -/
theorem doL_ways (L : LineV) (x : ItemV) : (1 ≤ (doL L x).2.1 ∧ (doL L x).2.1 ≤ 4) ∧ ((doL L x).2.1 ≠ 1 → (doL L x).1 = L ∧ (doL L x).2.2 = []) := by
  unfold doL
  split
  · rcases putL_ways L x.key x.at_ x.n with ⟨_, e⟩ | ⟨_, ⟨_, e⟩ | ⟨_, ⟨_, e⟩ | ⟨_, e⟩⟩⟩ <;> rw [e] <;> simp
  · split
    · rcases markL_ways L x.at_ with ⟨_, e⟩ | ⟨_, ⟨_, e⟩ | ⟨_, e⟩⟩ <;> rw [e] <;> simp
    · simp
theorem doL_code (L : LineV) (x : ItemV) : Sn.isCode (doL L x).2.1 = true := Sn.code_iff.2 (doL_ways L x).1
theorem goodL_do {L : LineV} (h : GoodL L) {x : ItemV} (hn : i64 x.n) : GoodL (doL L x).1 := by
  unfold doL
  split
  · exact goodL_put h hn
  · split
    · exact goodL_mark h _
    · exact h
theorem mild_do {L : LineV} (h : Mild L.row) {x : ItemV} (hn : i64 x.n) : Mild (doL L x).1.row := by
  unfold doL
  split
  · exact mild_putL h hn
  · split
    · exact (mild_markL h _).1
    · exact h
theorem ask_cases (S : StV) (x : ItemV) : ((askS S x).1 = 0 ∧ askS S x = (0, 0)) ∨ (askS S x).1 = 1 ∧ askS S x = (1, 0) ∨ (askS S x).1 = 2 ∨ (askS S x).1 = 3 ∧ askS S x = (3, 0) := by
  unfold askS Sn.ask
  split
  · unfold Sn.Src.ask
    split
    · exact .inr (.inl ⟨rfl, rfl⟩)
    · split
      · exact .inr (.inr (.inl rfl))
      · exact .inr (.inr (.inr ⟨rfl, rfl⟩))
  · exact .inl ⟨rfl, rfl⟩
theorem fresh_iff {S : StV} {x : ItemV} : freshS S x = true ↔ (askS S x).1 = 3 := by unfold freshS; exact decide_eq_true_iff
theorem stale_iff {S : StV} {x : ItemV} : freshS S x = false ↔ (askS S x).1 ≠ 3 := by unfold freshS; exact decide_eq_false_iff_not
theorem app_stale {S : StV} {x : ItemV} (h : freshS S x = false) : appS S x = S ∧ outsS S x = [] := by
  have h := stale_iff.1 h
  exact ⟨if_neg h, if_neg h⟩
theorem app_fresh {S : StV} {x : ItemV} (h : freshS S x = true) : appS S x = ⟨(doL S.line x).1, Sn.note S.tab x.src x.seq x.low (doL S.line x).2.1⟩ ∧ outsS S x = (doL S.line x).2.2 ∧ codeS S x = (doL S.line x).2.1 := by
  have h := fresh_iff.1 h
  refine ⟨if_pos h, if_pos h, ?_⟩
  unfold codeS
  rw [if_neg (by rw [h]; decide), if_pos h]
theorem goodS_app {S : StV} (h : GoodS S) {x : ItemV} (hn : i64 x.n) : GoodS (appS S x) := by
  cases hf : freshS S x with
  | false => rw [(app_stale hf).1]; exact h
  | true => rw [(app_fresh hf).1]; exact ⟨goodL_do h.line hn, mild_do h.mild hn, Sn.note_ok h.tab _ _ _ _⟩
theorem fresh_facts {S : StV} {x : ItemV} : freshS S x = true ↔ Sn.may x.src x.seq x.low = true ∧ (S.tab x.src.toNat).low ≤ x.seq ∧ Sn.look (S.tab x.src.toNat).codes x.seq = none := by
  rw [fresh_iff]
  rcases Sn.ask_state S.tab x.src x.seq x.low with ⟨h, hm⟩ | ⟨hm, ⟨h, h1⟩ | ⟨h, h1, h2⟩ | ⟨h, h1, h2⟩⟩
  · show (Sn.ask _ _ _ _).1 = 3 ↔ _
    rw [h, hm]; simp
  · show (Sn.ask _ _ _ _).1 = 3 ↔ _
    rw [h]; simp; intro _ h3; omega
  · show (Sn.ask _ _ _ _).1 = 3 ↔ _
    rw [h, h2]; simp
  · show (Sn.ask _ _ _ _).1 = 3 ↔ _
    rw [h, hm, h2]; simp [h1]
theorem note_fresh {S : StV} {x : ItemV} (h : freshS S x = true) {c : Int} (hc : Sn.isCode c = true) : Sn.note S.tab x.src x.seq x.low c = Sn.noted S.tab x.src x.seq x.low c := by
  obtain ⟨h1, h2, h3⟩ := fresh_facts.1 h
  exact if_pos (Sn.noteE_zero.2 ⟨h1, hc, h2, h3⟩)
/-- A number that is not fresh is not fresh behind any note. -/
theorem src_stale {s : Sn.Src} (hr : Sn.Rise s.codes) {q q' c low : Int} (h : ¬ (s.low ≤ q ∧ Sn.look s.codes q = none)) : ¬ (((s.keep q' c).rise_ low).low ≤ q ∧ Sn.look ((s.keep q' c).rise_ low).codes q = none) := by
  rintro ⟨h1, h2⟩
  have hi := Sn.look_ins (q := q') (c := c) (q' := q) hr
  unfold Sn.Src.rise_ at h1 h2
  split at h1
  · rename_i e
    rw [if_pos e] at h2
    have h2' : Sn.look (Sn.ins q' c s.codes) q = none := h2
    rw [hi] at h2'
    split at h2'
    · cases h2'
    · exact h ⟨h1, h2'⟩
  · rename_i e
    rw [if_neg e] at h2
    have e' : ¬ low ≤ s.low := e
    have h1' : low ≤ q := h1
    have h2' : Sn.look ((Sn.ins q' c s.codes).filter (fun a => decide (low ≤ a.1))) q = none := h2
    rw [Sn.look_filter (Sn.ins_rise hr) (fun z => decide (low ≤ z)) q, if_pos (by simpa using h1'), hi] at h2'
    split at h2'
    · cases h2'
    · exact h ⟨by omega, h2'⟩
theorem stale_stays {S : StV} (hS : GoodS S) {x : ItemV} (h : freshS S x = false) (y : ItemV) : freshS (appS S y) x = false := by
  cases hf : freshS S y with
  | false => rw [(app_stale hf).1]; exact h
  | true =>
    rw [(app_fresh hf).1, note_fresh hf (doL_code _ _)]
    refine Bool.eq_false_iff.2 fun hx => ?_
    obtain ⟨h1, h2, h3⟩ := fresh_facts.1 hx
    refine Bool.eq_false_iff.1 h (fresh_facts.2 ⟨h1, ?_⟩)
    by_cases e : x.src.toNat = y.src.toNat
    · have e' : Sn.noted S.tab y.src y.seq y.low (doL S.line y).2.1 x.src.toNat = ((S.tab x.src.toNat).keep y.seq (doL S.line y).2.1).rise_ y.low := by
        unfold Sn.noted; rw [e]; exact Sn.upd_same _ _ _
      change (Sn.noted S.tab y.src y.seq y.low (doL S.line y).2.1 x.src.toNat).low ≤ x.seq at h2
      change Sn.look (Sn.noted S.tab y.src y.seq y.low (doL S.line y).2.1 x.src.toNat).codes x.seq = none at h3
      rw [e'] at h2 h3
      exact Decidable.not_not.1 fun hn => src_stale (hS.tab _).rise hn ⟨h2, h3⟩
    · have e' : Sn.noted S.tab y.src y.seq y.low (doL S.line y).2.1 x.src.toNat = S.tab x.src.toNat := Sn.upd_other _ _ e
      change (Sn.noted S.tab y.src y.seq y.low (doL S.line y).2.1 x.src.toNat).low ≤ x.seq at h2
      change Sn.look (Sn.noted S.tab y.src y.seq y.low (doL S.line y).2.1 x.src.toNat).codes x.seq = none at h3
      rw [e'] at h2 h3
      exact ⟨h2, h3⟩
/-- What was fresh is known then, with its code. -/
theorem known_then {S : StV} (hS : GoodS S) {x : ItemV} (h : freshS S x = true) : askS (appS S x) x = (2, codeS S x) := by
  obtain ⟨e1, e2, e3⟩ := app_fresh h
  rw [e1, e3]
  obtain ⟨h1, h2, h3⟩ := fresh_facts.1 h
  obtain ⟨g1, g2, g3, g4, g5, g6⟩ := Sn.may_iff.1 h1
  rw [note_fresh h (doL_code _ _)]
  unfold askS Sn.ask
  rw [if_pos h1]
  show Sn.Src.ask (Sn.noted S.tab x.src x.seq x.low (doL S.line x).2.1 x.src.toNat) x.seq = _
  have e' : Sn.noted S.tab x.src x.seq x.low (doL S.line x).2.1 x.src.toNat = ((S.tab x.src.toNat).keep x.seq (doL S.line x).2.1).rise_ x.low := Sn.upd_same _ _ _
  rw [e']
  have hr := (hS.tab x.src.toNat).rise
  have hi := Sn.look_ins (q := x.seq) (c := (doL S.line x).2.1) (q' := x.seq) hr
  rw [if_pos rfl] at hi
  unfold Sn.Src.rise_
  split
  · unfold Sn.Src.ask
    rw [if_neg (by show ¬ x.seq < (S.tab x.src.toNat).low; omega)]
    show (match Sn.look (Sn.ins x.seq (doL S.line x).2.1 (S.tab x.src.toNat).codes) x.seq with
      | some c => ((2 : Int), c)
      | none => (3, 0)) = _
    rw [hi]
  · unfold Sn.Src.ask
    rw [if_neg (by show ¬ x.seq < x.low; omega)]
    show (match Sn.look ((Sn.ins x.seq (doL S.line x).2.1 (S.tab x.src.toNat).codes).filter (fun a => decide (x.low ≤ a.1))) x.seq with
      | some c => ((2 : Int), c)
      | none => (3, 0)) = _
    rw [Sn.look_filter (Sn.ins_rise hr) (fun z => decide (x.low ≤ z)) x.seq, if_pos (by simpa using g4), hi]
theorem stale_then {S : StV} (hS : GoodS S) (x : ItemV) : freshS (appS S x) x = false := by
  cases hf : freshS S x with
  | false => rw [(app_stale hf).1]; exact hf
  | true => rw [stale_iff, known_then hS hf]; exact fun e => absurd (show (2 : Int) = 3 from e) (by decide)
theorem again_code {S : StV} (hS : GoodS S) {x : ItemV} (h : freshS S x = true) : codeS (appS S x) x = codeS S x := by
  have e := known_then hS h
  generalize codeS S x = c at *
  unfold codeS
  rw [e]
  rfl
/-- Items one behind the other. -/
def runS (S : StV) (l : List ItemV) : StV := l.foldl appS S
def toldS (S : StV) : List ItemV → List (Win AggV)
  | [] => []
  | x :: l => outsS S x ++ toldS (appS S x) l
theorem playS_snoc (S : StV) (l : List ItemV) (x : ItemV) : runS S (l ++ [x]) = appS (runS S l) x := by unfold runS; rw [List.foldl_append]; rfl
theorem toldS_snoc (S : StV) (l : List ItemV) (x : ItemV) : toldS S (l ++ [x]) = toldS S l ++ outsS (runS S l) x := by
  induction l generalizing S with
  | nil => simp [toldS, runS]
  | cons a l ih =>
    show outsS S a ++ toldS (appS S a) (l ++ [x]) = (outsS S a ++ toldS (appS S a) l) ++ outsS (runS (appS S a) l) x
    rw [ih, List.append_assoc]
theorem goodS_run {S : StV} (h : GoodS S) {l : List ItemV} (hn : ∀ x ∈ l, i64 x.n) : GoodS (runS S l) := by
  induction l generalizing S with
  | nil => exact h
  | cons a l ih => exact ih (goodS_app h (hn a List.mem_cons_self)) fun x hx => hn x (List.mem_cons_of_mem _ hx)
theorem play_stale {S : StV} (h : GoodS S) {x : ItemV} (hx : freshS S x = false) {l : List ItemV} (hn : ∀ y ∈ l, i64 y.n) : freshS (runS S l) x = false := by
  induction l generalizing S with
  | nil => exact hx
  | cons a l ih => exact ih (goodS_app h (hn a List.mem_cons_self)) (stale_stays h hx a) fun y hy => hn y (List.mem_cons_of_mem _ hy)
/-- Whatever was done is not fresh any more. -/
theorem played_stale {S : StV} (h : GoodS S) {l : List ItemV} (hn : ∀ y ∈ l, i64 y.n) {x : ItemV} (hx : x ∈ l) : freshS (runS S l) x = false := by
  obtain ⟨a, b, rfl⟩ := List.append_of_mem hx
  have ha := goodS_run (l := a) h fun y hy => hn y (List.mem_append_left _ hy)
  have hax := goodS_app (x := x) ha (hn x (List.mem_append_right _ List.mem_cons_self))
  have e : runS S (a ++ x :: b) = runS (appS (runS S a) x) b := by unfold runS; rw [List.foldl_append]; rfl
  rw [e]
  exact play_stale hax (stale_then ha x) fun y hy => hn y (List.mem_append_right _ (List.mem_cons_of_mem _ hy))
end Go.Proofs.YtigmhljaoicdbaaGreat

namespace Go.Proofs.YtigmhljaoicdbaaGreat
open Go.RowKit
/-- A state at p: a store at q, of the blocks G, and maps M. -/
structure StateF (v : World) (p q : Nat) (G : Nat → Prop) (M : Nat → Option Nat) (S : StV) : Prop where
  line : LineC v p q G S.line
  tab : Sn.B.TabAt v p M S.tab
  apart : ∀ i b, i < 4 → M i = some b → ¬ G b
def footS (p : Nat) (G : Nat → Prop) (M : Nat → Option Nat) (k : Nat) : Prop := k = p ∨ G k ∨ ∃ i, i < 4 ∧ M i = some k
def StateIs (v : World) (p : Nat) (F : Nat → Prop) (S : StV) : Prop := ∃ q G M, StateF v p q G M S ∧ F = footS p G M
section
variable {v v' : World} {p q : Nat} {F G : Nat → Prop} {M : Nat → Option Nat} {S : StV}
theorem StateIs.lt (h : StateIs v p F S) : ∀ k, F k → k < v.heap.size := by
  obtain ⟨q, G, M, h, rfl⟩ := h
  rintro k (rfl | hk | ⟨i, hi, e⟩)
  · exact h.line.lt
  · exact h.line.st.lt k hk
  · exact (h.tab.src i hi).mo.lt k e
theorem StateIs.keep {K : Nat → Prop} (h : StateIs v p F S) (m : Moved K v v') (hK : ∀ i, K i → ¬ F i) : StateIs v' p F S := by
  obtain ⟨q, G, M, h, rfl⟩ := h
  exact ⟨q, G, M, ⟨h.line.keep m (fun g => hK p g (.inl rfl)) (fun i g f => hK i g (.inr (.inl f))), h.tab.keep m (fun i g f => hK i g (f.imp id .inr)), h.apart⟩, rfl⟩
theorem StateIs.below (h : StateIs v p F S) (b : Below v.heap.size v v') : StateIs v' p F S := h.keep (Moved.of_below (F := fun _ => False) b) fun _ f => f.elim
theorem StateIs.self (h : StateIs v p F S) : F p := by obtain ⟨q, G, M, h, rfl⟩ := h; exact .inl rfl
/-- A step of a state. -/
def DidS (v v' : World) (p : Nat) (F : Nat → Prop) (S : StV) : Prop := ∃ F', StateIs v' p F' S ∧ (∀ k, F' k → F k ∨ v.heap.size ≤ k) ∧ Moved F v v'
theorem DidS.same (h : StateIs v p F S) : DidS v v p F S := ⟨F, h, fun _ f => .inl f, Moved.refl _ _⟩
theorem DidS.ahead {v0 : World} {S' : StV} (h : DidS v v' p F S') (b : Below v0.heap.size v0 v) : DidS v0 v' p F S' := by
  obtain ⟨F', h1, h2, h3⟩ := h
  exact ⟨F', h1, fun k hk => (h2 k hk).imp id fun e => Nat.le_trans b.size e, (Moved.of_below (F := F) b).trans h3 fun _ f => .inl f⟩
theorem DidS.trans {v2 : World} {F1 : Nat → Prop} {S2 : StV} (hf : ∀ k, F1 k → F k ∨ v.heap.size ≤ k) (m : Moved F v v') (h : DidS v' v2 p F1 S2) : DidS v v2 p F S2 := by
  obtain ⟨F2, h1, h2, h3⟩ := h
  exact ⟨F2, h1, fun k hk => (h2 k hk).elim (hf k) fun e => .inr (Nat.le_trans m.size e), m.trans h3 hf⟩
theorem StateF.line_did (h : StateF v p q G M S) {L' : LineV} (d : DidC v v' p q G L') : DidS v v' p (footS p G M) ⟨L', S.tab⟩ := by
  obtain ⟨G', h1, h2, h3, h4⟩ := d
  refine ⟨_, ⟨q, G', M, ⟨h1, ⟨fun i hi => ?_, h.tab.apart⟩, fun i b hi e g => ?_⟩, rfl⟩, ?_, h3.mono fun k f => .inl (f.imp id .inl)⟩
  · have s := h.tab.src i hi
    have a0 := h4 (2 + i * 2) (by omega)
    have a1 := h4 (2 + i * 2 + 1) (by omega)
    exact ⟨a0.1.trans s.c0, a1.1.trans s.c1, a0.2.trans s.f0, a1.2.trans s.f1, s.mo.keep fun b e => h3.block b (s.mo.lt b e) (fun f => f.elim (fun e' => s.ne (by rw [e, e'])) (h.apart i b hi e)), s.fine⟩
  · rcases h2 b g with g | g
    · exact h.apart i b hi e g
    · have := (h.tab.src i hi).mo.lt b e; omega
  · rintro k (rfl | g | e)
    · exact .inl (.inl rfl)
    · exact (h2 k g).imp (fun g => .inr (.inl g)) id
    · exact .inl (.inr (.inr e))
/-- .. beside a row of one's own. -/
def DidR (v v' : World) (p : Nat) (F : Nat → Prop) (S : StV) (a : Option Addr) (n c : Nat) : Prop := ∃ F', StateIs v' p F' S ∧ (∀ k, F' k → F k ∨ v.heap.size ≤ k) ∧ Moved F v v' ∧ ∀ k, (Value.slice a n c).ownBlock = some k → ¬ F' k
theorem DidS.row {a : Option Addr} {n c : Nat} {S' : StV} (h : DidS v v' p F S') (ha : (Value.slice a n c).ownBlock = none) : DidR v v' p F S' a n c := by
  obtain ⟨F', h1, h2, h3⟩ := h
  exact ⟨F', h1, h2, h3, fun k e => by rw [ha] at e; cases e⟩
theorem DidR.did {a : Option Addr} {n c : Nat} {S' : StV} (h : DidR v v' p F S' a n c) : DidS v v' p F S' := by
  obtain ⟨F', h1, h2, h3, _⟩ := h
  exact ⟨F', h1, h2, h3⟩
theorem DidR.ahead {v0 : World} {a : Option Addr} {n c : Nat} {S' : StV} (h : DidR v v' p F S' a n c) (b : Below v0.heap.size v0 v) : DidR v0 v' p F S' a n c := by
  obtain ⟨F', h1, h2, h3, h4⟩ := h
  exact ⟨F', h1, fun k hk => (h2 k hk).imp id fun e => Nat.le_trans b.size e, (Moved.of_below (F := F) b).trans h3 fun _ f => .inl f, h4⟩
theorem StateF.line_same (h : StateF v p q G M S) {L' : LineV} (h1 : LineC v' p q G L') (h3 : Moved (fun k => k = p ∨ G k) v v') (h4 : Behind v v' p) : StateIs v' p (footS p G M) ⟨L', S.tab⟩ ∧ Moved (footS p G M) v v' := by
  refine ⟨⟨q, G, M, ⟨h1, ⟨fun i hi => ?_, h.tab.apart⟩, h.apart⟩, rfl⟩, h3.mono fun k f => .inl (f.imp id .inl)⟩
  have s := h.tab.src i hi
  have a0 := h4 (2 + i * 2) (by omega)
  have a1 := h4 (2 + i * 2 + 1) (by omega)
  exact ⟨a0.1.trans s.c0, a1.1.trans s.c1, a0.2.trans s.f0, a1.2.trans s.f1, s.mo.keep fun b e => h3.block b (s.mo.lt b e) (fun f => f.elim (fun e' => s.ne (by rw [e, e'])) (h.apart i b hi e)), s.fine⟩
theorem StateF.tab_did (h : StateF v p q G M S) {T' : Sn.Tab} (d : Sn.B.Did v v' p (Sn.B.foot p M) T') (ha : Sn.B.Ahead v v' p) : DidS v v' p (footS p G M) ⟨S.line, T'⟩ := by
  obtain ⟨F', ⟨M', t, rfl⟩, d2, d3⟩ := d
  have l := h.line
  refine ⟨_, ⟨q, G, M', ⟨⟨(ha 0 (by omega)).1.trans l.c0, (ha 1 (by omega)).1.trans l.c1, (ha 0 (by omega)).2.trans l.f0, (ha 1 (by omega)).2.trans l.f1, l.st.keep d3 (fun i f g => ?_), l.off⟩, t, fun i b hi e g => ?_⟩, rfl⟩, ?_, d3.mono fun k f => .inl (f.imp id .inr)⟩
  · rcases f with rfl | ⟨j, hj, e⟩
    · exact l.off g
    · exact h.apart j i hj e g
  · rcases d2 b (.inr ⟨i, hi, e⟩) with (rfl | ⟨j, hj, e'⟩) | f
    · exact l.off g
    · exact h.apart j b hj e' g
    · have := l.st.lt b g; omega
  · rintro k (rfl | g | ⟨i, hi, e⟩)
    · exact .inl (.inl rfl)
    · exact .inl (.inr (.inl g))
    · exact (d2 k (.inr ⟨i, hi, e⟩)).imp (fun f => f.imp id .inr) id
end
theorem smark_any {v : World} {p : Nat} {F : Nat → Prop} {S : StV} (h : StateIs v p F S) : Calls Tryz.prog 19 #[.pointer (some ⟨p, 0, none⟩)] v fun e v' => e = .returned (.int .i64 S.line.mark) ∧ v' = v := by
  obtain ⟨q, G, M, h, rfl⟩ := h
  have C := hide (cat_any h.line)
  clear h
  go_enter Tryz.func19, Tryz.ntmps19
  go_wp2_with fail
  refine (unhide C).mono ?_
  rintro e v' ⟨rfl, hw⟩
  rw [hw]
  clear hw v'
  go_wp2_with fail
  go_ret
  exact ⟨rfl, rfl⟩
theorem sopen_any {v : World} {p : Nat} {F : Nat → Prop} {S : StV} (h : StateIs v p F S) (hm : Mild S.line.row) :
    Calls Tryz.prog 20 #[.pointer (some ⟨p, 0, none⟩)] v fun e v' => ∃ a c, e = .returned (.slice a S.line.row.length c) ∧ OutK.Row v' v.heap.size a c S.line.row ∧ Below v.heap.size v v' := by
  obtain ⟨q, G, M, h, rfl⟩ := h
  have C := hide (copen_any h.line (Nat.le_trans hm.most (by omega)))
  clear h
  go_enter Tryz.func20, Tryz.ntmps20
  go_wp2_with fail
  refine (unhide C).mono ?_
  rintro e v1 ⟨a, c, rfl, h1, h2⟩
  have H1 := hide h1
  have H2 := hide h2
  clear h1 h2 C
  go_wp2_with fail
  go_ret
  exact ⟨a, c, rfl, unhide H1, unhide H2⟩
theorem slows_any {v : World} {p : Nat} {F : Nat → Prop} {S : StV} (h : StateIs v p F S) :
    Calls Tryz.prog 21 #[.pointer (some ⟨p, 0, none⟩)] v fun e v' => ∃ a c, e = .returned (.slice a 4 c) ∧ Sn.IntK.Row v' v.heap.size a c (Sn.lows S.tab) ∧ Below v.heap.size v v' := by
  obtain ⟨q, G, M, h, rfl⟩ := h
  have C := hide (Sn.B.lows_any ⟨M, h.tab, rfl⟩)
  clear h
  go_enter Tryz.func21, Tryz.ntmps21
  go_wp2_with fail
  refine (unhide C).mono ?_
  rintro e v1 ⟨a, c, rfl, h1, h2⟩
  have H1 := hide h1
  have H2 := hide h2
  clear h1 h2 C
  go_wp2_with fail
  go_ret
  exact ⟨a, c, rfl, unhide H1, unhide H2⟩
theorem sans_any {v : World} {p : Nat} {F : Nat → Prop} {S : StV} (h : StateIs v p F S) (hT : S.tab.Ok) :
    Calls Tryz.prog 22 #[.pointer (some ⟨p, 0, none⟩)] v fun e v' => ∃ a c, e = .returned (.slice a (Sn.all S.tab).length c) ∧ Sn.EntK.Row v' v.heap.size a c (Sn.all S.tab) ∧ Below v.heap.size v v' := by
  obtain ⟨q, G, M, h, rfl⟩ := h
  have C := hide (Sn.B.all_any ⟨M, h.tab, rfl⟩ hT)
  clear h
  go_enter Tryz.func22, Tryz.ntmps22
  go_wp2_with fail
  refine (unhide C).mono ?_
  rintro e v1 ⟨a, c, rfl, h1, h2⟩
  have H1 := hide h1
  have H2 := hide h2
  clear h1 h2 C
  go_wp2_with fail
  go_ret
  exact ⟨a, c, rfl, unhide H1, unhide H2⟩
set_option maxRecDepth 100000 in
/-- A state of a line and a table: they are copied. -/
theorem state_any {v : World} {p1 p2 : Nat} {F1 F2 : Nat → Prop} {L : LineV} {T : Sn.Tab} (h1 : LineIs v p1 F1 L) (h2 : Sn.TIs v p2 F2 T) (hd : ∀ k, F1 k → ¬ F2 k) :
    Calls Tryz.prog 26 #[.pointer (some ⟨p1, 0, none⟩), .pointer (some ⟨p2, 0, none⟩)] v fun e v' => ∃ F, e = .returned (.pointer (some ⟨v.heap.size, 0, none⟩)) ∧ StateIs v' v.heap.size F ⟨L, T⟩ ∧ (∀ k, F k → k = v.heap.size ∨ F1 k ∨ F2 k) ∧ Below v.heap.size v v' := by
  obtain ⟨q, G, h1, rfl⟩ := h1
  obtain ⟨M, h2, rfl⟩ := h2
  have R1 : Hid (v.rangeAt p1 0 [.pointer (some ⟨q, 0, none⟩), .int .i64 L.mark]) := hide h1.row.range
  have R2 := hide h2.range
  obtain ⟨W1, hW1⟩ : ∃ W1, W1 = v.drew.alloc (.cells #[.pointer (some ⟨q, 0, none⟩), .int .i64 L.mark, .int .i64 ((T 0).low - 1), .map (M 0), .int .i64 ((T 1).low - 1), .map (M 1), .int .i64 ((T 2).low - 1), .map (M 2), .int .i64 ((T 3).low - 1), .map (M 3)] 86) := ⟨_, rfl⟩
  have b1 : Below v.heap.size v W1 := by rw [hW1]; exact ((Below.refl v.heap.size v).drew).alloc (Nat.le_refl _) _
  have FIN : Hid (StateIs W1 v.heap.size (footS v.heap.size G M) ⟨L, T⟩) := hide (by
    have hc : ∀ n u, W1.cell? ⟨v.heap.size, n, none⟩ = u ↔ #[.pointer (some ⟨q, 0, none⟩), .int .i64 L.mark, .int .i64 ((T 0).low - 1), .map (M 0), .int .i64 ((T 1).low - 1), .map (M 1), .int .i64 ((T 2).low - 1), .map (M 2), .int .i64 ((T 3).low - 1), .map (M 3)][n]? = u := fun n u => by
      rw [hW1]
      show (v.drew.alloc _).cell? ⟨v.drew.heap.size, n, none⟩ = u ↔ _
      rw [World.cell?_alloc_new]
    have hf : ∀ n, W1.frozen? ⟨v.heap.size, n, none⟩ = false := fun n => by
      rw [hW1]
      exact (show (v.alloc _).frozen? ⟨v.heap.size, n, none⟩ = false by simp)
    refine ⟨q, G, M, ⟨⟨(hc _ _).2 rfl, (hc _ _).2 rfl, hf _, hf _, h1.st.keep (Moved.of_below (F := fun _ => False) b1) (fun _ f => f.elim), fun f => Nat.lt_irrefl _ (h1.st.lt _ f)⟩, ⟨fun i hi => ?_, h2.apart⟩, fun i b hi e g => ?_⟩, rfl⟩
    · have s := h2.src i hi
      refine ⟨?_, ?_, hf _, hf _, s.mo.keep fun b e => b1.block b (s.mo.lt b e), s.fine⟩
      · rw [hc]
        match i, hi with
        | 0, _ => rfl
        | 1, _ => rfl
        | 2, _ => rfl
        | 3, _ => rfl
      · rw [hc]
        match i, hi with
        | 0, _ => rfl
        | 1, _ => rfl
        | 2, _ => rfl
        | 3, _ => rfl
    · exact hd b (.inr g) (.inr ⟨i, hi, e⟩))
  have B1 := hide b1
  have HW1 := hide hW1
  have l1 := h1.row.lt
  have l2 := h2.plt
  obtain ⟨CL, hCL⟩ : ∃ CL : World → Prop, CL = fun u => Below v.heap.size v u := ⟨_, rfl⟩
  have BS : Hid (CL v.drew) := hide (by rw [hCL]; exact (Below.refl _ _).drew)
  have CL1 : Hid (CL W1) := hide (by rw [hCL]; exact b1)
  have Q1 : Hid (∀ u, CL u → u.rangeAt p1 0 [.pointer (some ⟨q, 0, none⟩), .int .i64 L.mark]) := hide fun u hu => by rw [hCL] at hu; exact fun j z hz => (hu.cell (p := ⟨p1, 0 + j, none⟩) l1).trans (unhide R1 j z hz)
  have Q2 : Hid (∀ u, CL u → u.rangeAt p2 0 (Sn.cells8 M T)) := hide fun u hu => by rw [hCL] at hu; exact fun j z hz => (hu.cell (p := ⟨p2, 0 + j, none⟩) l2).trans (unhide R2 j z hz)
  clear b1 hd h1 h2 hW1 hCL l1 l2 R1 R2
  go_enter Tryz.func26, Tryz.ntmps26
  go_upto_region 1 with fail
  refine wp_region_chain (S := CL) [true, true, true, true, true, true, true, false, false] [false, false, false, false, false, false, false, true, true] (by kernel_rfl) (by kernel_rfl) (by kernel_rfl) (unhide BS) ?_
  apply Exists.intro
  apply And.intro
  · intro q0
    have n0 : Nonempty (SK CL q0.w) := ⟨⟨q0, rfl⟩⟩
    simp only [pickM]
    go_big_quiet_step (fail)
    go_big_quiet_step (fail)
    refine wpQuiet_load_onx rfl 78 (.tmp 6) rfl p1 0 rfl [.pointer (some ⟨q, 0, none⟩), .int .i64 L.mark] _ (fun y ⟨q1, hq⟩ => by rw [hq]; exact unhide Q1 _ q1.s.ok) Tryz.underlying78 rfl (by kernel_rfl) ?_
    go_simp
    go_big_quiet_step (fail)
    go_big_quiet_step (fail)
    refine wpQuiet_load_onx rfl 84 (.tmp 9) rfl p2 0 rfl [.int .i64 ((T 0).low - 1), .map (M 0), .int .i64 ((T 1).low - 1), .map (M 1), .int .i64 ((T 2).low - 1), .map (M 2), .int .i64 ((T 3).low - 1), .map (M 3)] _ (fun y ⟨q1, hq⟩ => by rw [hq]; exact unhide Q2 _ q1.s.ok) Tryz.underlying84 rfl (by kernel_rfl) ?_
    go_simp
    repeat (go_big_quiet_step (fail))
    exact wpQuiet_nil rfl
  · simp only [pickZ]
    refine chain_step (.pointer (some ⟨v.heap.size, 0, none⟩)) W1 rfl (by rw [unhide HW1]; simp [go_sem]) (unhide CL1) ?_
    go_simp
    refine chain_step (.pointer (some ⟨v.heap.size, 0, none⟩)) W1 rfl (by simp [go_sem]) (unhide CL1) ?_
    simp only [chainM]
    go_simp
    go_wp2_with fail
    go_ret
    refine ⟨_, rfl, unhide FIN, ?_, unhide B1⟩
    rintro k (rfl | g | e)
    · exact .inl rfl
    · exact .inr (.inl (.inr g))
    · exact .inr (.inr (.inr e))
end Go.Proofs.YtigmhljaoicdbaaGreat

namespace Go.Proofs.YtigmhljaoicdbaaGreat
section
variable {P : Program} {ops : Array Oper} {md : Region.Mode} {S : World → Prop}
/-- A call among those that turn the world, whatever guards it. -/
theorem chain_call_on {K : Act → World → Prop} {j : Nat} {o : Oper} {l : List (Nat × Oper)} {a : Act} {w : World} (f : FuncId) (args : Array Value) (hw : Region.wanted o (yielded ops a.tmps) = true) (hr : (execOp a.eval o).run P w = .ok (.enter f args) w)
    (h : Calls P f args w fun e w' => ∃ v, e = .returned v ∧ S w' ∧ chainM P md ops S K l (a.put o.dst v) w') : chainM P md ops S K ((j, o) :: l) a w := by
  refine ⟨hw, ?_⟩
  unfold goes
  rw [hr]
  exact h.mono fun e w' ⟨v, he, hS, hc⟩ => ⟨v, he, fun _ => hS, hc⟩
theorem chain_step_on {K : Act → World → Prop} {j : Nat} {o : Oper} {l : List (Nat × Oper)} {a : Act} {w : World} (v : Value) (w' : World) (hw : Region.wanted o (yielded ops a.tmps) = true) (hr : (execOp a.eval o).run P w = .ok (.value v) w') (hS : S w')
    (h : chainM P md ops S K l (a.put o.dst v) w') : chainM P md ops S K ((j, o) :: l) a w := by
  refine ⟨hw, ?_⟩
  unfold goes
  rw [hr]
  exact ⟨fun _ => hS, h⟩
/-- Steps: quiet ones (true), and such as turn the world. -/
def seqZ (md : Region.Mode) (ops : Array Oper) : List (Bool × Nat × Oper) → Array Bool → Bool
  | [], listed => Region.ready md ops listed == []
  | (true, z) :: Z, listed => (Region.ready md ops listed).contains z.1 && freeB md ops listed z.1 z.2 && seqZ md ops Z (listed.setIfInBounds z.1 true)
  | (false, z) :: Z, listed => (Region.ready md ops listed == [z.1]) && seqZ md ops Z (listed.setIfInBounds z.1 true)
def seqM (P : Program) (md : Region.Mode) (ops : Array Oper) (S : World → Prop) (K : Act → World → Prop) : List (Bool × Nat × Oper) → Act → World → Prop
  | [], a, w => K a w
  | (true, z) :: l, a, w => S w ∧ ∃ v, YieldsS P ops S z.2 v a ∧ seqM P md ops S K l (a.put z.2.dst v) w
  | (false, z) :: l, a, w => Region.wanted z.2 (yielded ops a.tmps) = true ∧ goes P z.2 a w (fun a' w' => (needB md ops z.1 = true → S w') ∧ seqM P md ops S K l a' w')
theorem wpS_seq {K : Act → World → Prop} (hs : Region.noSelect ops = true) : ∀ (Z : List (Bool × Nat × Oper)) (listed : Array Bool) (a : Act) (w : World), (∀ z ∈ Z, ops[z.2.1]? = some z.2.2) → seqZ md ops Z listed = true → seqM P md ops S K Z a w → wpS P md ops S K Z.length listed a w
  | [], _, _, _, _, hB, h => ⟨by simpa [seqZ] using hB, h⟩
  | (true, z) :: Z, listed, a, w, hz, hB, h => by
    simp only [seqZ, Bool.and_eq_true] at hB
    obtain ⟨⟨hr, hf⟩, hB'⟩ := hB
    obtain ⟨hS, v, hy, hK⟩ := h
    exact wpS_first (hz (true, z) List.mem_cons_self) (Region.noSelect_spec hs) _ listed a w (free_of hf) (by simpa using hr) hy hS
      (wpS_seq hs Z _ _ _ (fun y hy => hz y (List.mem_cons_of_mem _ hy)) hB' hK)
  | (false, z) :: Z, listed, a, w, hz, hB, h => by
    simp only [seqZ, Bool.and_eq_true, beq_iff_eq] at hB
    refine ⟨fun h0 => (by rw [hB.1] at h0; cases h0), fun i hi => ?_⟩
    rw [hB.1, List.mem_singleton] at hi
    subst hi
    unfold sOp
    simp only [hz (false, z) List.mem_cons_self]
    obtain ⟨hw, hg⟩ := h
    rw [if_pos hw]
    exact goes_mono (fun a' w' ⟨h1, h2⟩ => ⟨h1, wpS_seq hs Z _ a' w' (fun y hy => hz y (List.mem_cons_of_mem _ hy)) hB.2 h2⟩) hg
theorem seqM_quiet {K : Act → World → Prop} {Q : Act → Prop} {rest : List (Bool × Nat × Oper)} {w : World} (hS : S w) (hQ : ∀ a, Q a → seqM P md ops S K rest a w) :
    ∀ (Z : List (Nat × Oper)) (a : Act), allS P ops S Q (Z.map Prod.snd) a → seqM P md ops S K (Z.map (fun z => (true, z)) ++ rest) a w
  | [], a, h => hQ a h
  | _ :: Z, _, h => by
    obtain ⟨v, hy, hK⟩ := h
    exact ⟨hS, v, hy, seqM_quiet hS hQ Z _ hK⟩
theorem seqM_chain {K K' : Act → World → Prop} {rest : List (Bool × Nat × Oper)} (hK : ∀ a w, K' a w → seqM P md ops S K rest a w) :
    ∀ (Z : List (Nat × Oper)) (a : Act) (w : World), chainM P md ops S K' Z a w → seqM P md ops S K (Z.map (fun z => (false, z)) ++ rest) a w
  | [], a, w, h => hK a w h
  | _ :: Z, _, _, h => ⟨h.1, goes_mono (fun a' w' ⟨h1, h2⟩ => ⟨h1, seqM_chain hK Z a' w' h2⟩) h.2⟩
def tag (b : Bool) (Z : List (Nat × Oper)) : List (Bool × Nat × Oper) := Z.map (fun z => (b, z))
/-- May it be walked so? m1, m3: those that yield, m2, m4: those that turn the world. -/
def seqB (os : List Oper) (m1 m2 m3 m4 : List Bool) : Bool :=
  Region.noSelect os.toArray && decide ((pickZ m1 os 0).length + (pickZ m2 os 0).length + (pickZ m3 os 0).length + (pickZ m4 os 0).length = os.length) &&
    seqZ .any os.toArray (tag true (pickZ m1 os 0) ++ (tag false (pickZ m2 os 0) ++ (tag true (pickZ m3 os 0) ++ tag false (pickZ m4 os 0)))) (Array.replicate os.length false)
theorem wp_region_seq {S : World → Prop} {os : List Oper} {id : Nat} {Q : Exit → Act → World → Prop} {a : Act} {w : World} (m1 m2 m3 m4 : List Bool) (hm : P.follows .mixedOrders = true) (hB : seqB os m1 m2 m3 m4 = true) (hA : apartB (pickM m1 os) a.tmps.size = true) (hS : S w.drew)
    (h : ∃ A, (∀ p : SW S, wpQuiet P os.toArray (fun w' => ∃ q : SK S p.w, w' = q.s.w) (fun a' => a' = A) (pickM m1 os) a) ∧ chainM P .any os.toArray S (fun a2 w2 => S w2 ∧ apartB (pickM m3 os) a2.tmps.size = true ∧
      ∃ A2, (∀ p : SW S, wpQuiet P os.toArray (fun w' => ∃ q : SK S p.w, w' = q.s.w) (fun a' => a' = A2) (pickM m3 os) a2) ∧ chainM P .any os.toArray S (fun a' w' => Q .normal a' w') (pickZ m4 os 0) A2 w2) (pickZ m2 os 0) A w.drew) : (Code.region id os.toArray true).wp P Q a w := by
  obtain ⟨A, hq, hc⟩ := h
  simp only [seqB, Bool.and_eq_true, decide_eq_true_eq] at hB
  obtain ⟨⟨hs, hlen⟩, hZ⟩ := hB
  have hz : ∀ m, ∀ z ∈ pickZ m os 0, os.toArray[z.1]? = some z.2 := fun m z hz => by
    rw [List.getElem?_toArray]; simpa using (pickZ_mem m os 0 z hz).2
  refine wp_region_any hm (wpAny_of_S (S := S) (K := fun a' w' => Q .normal a' w') (fun _ _ h => h) _ _ _ _ ?_)
  have hall : ∀ z ∈ tag true (pickZ m1 os 0) ++ (tag false (pickZ m2 os 0) ++ (tag true (pickZ m3 os 0) ++ tag false (pickZ m4 os 0))), os.toArray[z.2.1]? = some z.2.2 := by
    intro z hzm
    have tagm : ∀ b m, z ∈ tag b (pickZ m os 0) → os.toArray[z.2.1]? = some z.2.2 := fun b m hm => by
      obtain ⟨y, hy, rfl⟩ := List.mem_map.1 hm
      exact hz m y hy
    rcases List.mem_append.1 hzm with h1 | h1
    · exact tagm _ _ h1
    · rcases List.mem_append.1 h1 with h2 | h2
      · exact tagm _ _ h2
      · rcases List.mem_append.1 h2 with h3 | h3
        · exact tagm _ _ h3
        · exact tagm _ _ h3
  have key := wpS_seq (md := .any) (S := S) (K := fun a' w' => Q .normal a' w') (P := P) hs _ (Array.replicate os.length false) a w.drew hall hZ (by
    refine seqM_quiet (Q := fun a' => a' = A) hS (fun a' ha => ?_) _ a (by rw [pickZ_snd]; exact allS_of ⟨_, hS⟩ _ _ hA hq)
    rw [show a' = A from ha]
    refine seqM_chain (fun a2 w2 hK => ?_) _ _ _ hc
    obtain ⟨hS2, hA2, A2, hq2, hc2⟩ := hK
    refine seqM_quiet (Q := fun a' => a' = A2) hS2 (fun a' ha => ?_) _ a2 (by rw [pickZ_snd]; exact allS_of ⟨_, hS2⟩ _ _ hA2 hq2)
    rw [show a' = A2 from ha]
    have := seqM_chain (rest := []) (fun a3 w3 hK3 => hK3) _ _ _ hc2
    rw [List.append_nil] at this
    exact this)
  have hl : (tag true (pickZ m1 os 0) ++ (tag false (pickZ m2 os 0) ++ (tag true (pickZ m3 os 0) ++ tag false (pickZ m4 os 0)))).length = os.length := by
    simp only [tag, List.length_append, List.length_map]; omega
  rw [hl] at key
  simpa using key
end
end Go.Proofs.YtigmhljaoicdbaaGreat

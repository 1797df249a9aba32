/- States beside other things of a law's own: New, Of, Apply, Twin, Same and what a state tells. Conditions: a state has at most 32 windows, whose numbers are 64 bits wide; an item's numbers are a machine's. -/
import Derived.Test.YtigmhljaoicdbaaGreatShApply
import Derived.Test.YtigmhljaoicdbaaGreatGSnIns
namespace Go.Proofs.YtigmhljaoicdbaaGreat
open Go.RowKit
section
variable {v v' : World} {p : Nat} {F : Nat → Prop} {S : StV}
theorem StIs.stay {q : Nat} {l : List (Win AggV)} (h : StIs v q F l) (hk : ∀ k, F k → v'.heap[k]? = v.heap[k]?) : StIs v' q F l := by
  obtain ⟨m, h, rfl⟩ := h
  have hq := hk q (.inl rfl)
  refine ⟨m, ⟨(World.cell?_of_block (w := v) hq).trans h.way, (World.frozen?_of_block (w := v) hq).trans h.free, h.what.imp id ?_, h.off, h.fine⟩, rfl⟩
  rintro ⟨b, hb, hm⟩
  exact ⟨b, hb, hm.keep (hk b (.inr hb))⟩
theorem StateIs.stay (h : StateIs v p F S) (hk : ∀ k, F k → v'.heap[k]? = v.heap[k]?) : StateIs v' p F S := by
  obtain ⟨q, G, M, h, rfl⟩ := h
  have hp := hk p (.inl rfl)
  have l := h.line
  refine ⟨q, G, M, ⟨⟨(World.cell?_of_block (w := v) hp).trans l.c0, (World.cell?_of_block (w := v) hp).trans l.c1, (World.frozen?_of_block (w := v) hp).trans l.f0, (World.frozen?_of_block (w := v) hp).trans l.f1, l.st.stay (fun k g => hk k (.inr (.inl g))), l.off⟩, ⟨fun i hi => ?_, h.tab.apart⟩, h.apart⟩, rfl⟩
  have s := h.tab.src i hi
  exact ⟨(World.cell?_of_block (w := v) hp).trans s.c0, (World.cell?_of_block (w := v) hp).trans s.c1, (World.frozen?_of_block (w := v) hp).trans s.f0, (World.frozen?_of_block (w := v) hp).trans s.f1, s.mo.keep fun b e => hk b (.inr (.inr ⟨i, hi, e⟩)), s.fine⟩
end
/-- A state. -/
def hState (p : Nat) (F : Nat → Prop) (S : StV) : Sn.Held := ⟨F, fun v => StateIs v p F S, fun _ h => h.lt, fun _ _ h _ hk => h.stay hk⟩
abbrev hOuts (a : Option Addr) (c : Nat) (l : List (Win AggV)) : Sn.Held := Sn.hRow OutK a c l
section
variable {w0 v v' : World} {p : Nat} {F : Nat → Prop} {S : StV} {R : List Sn.Held}
theorem below_of_none (m : Moved (fun _ => False) v v') : Below v.heap.size v v' := m.below (fun _ f => f.elim) (Nat.le_refl _)
theorem HR.turn2 {r r' s : Sn.Held} (h : Sn.HR w0 v (r :: R)) (m : Moved r.own v v') (hr : r'.ok v') (hn : ∀ k, r'.own k → r.own k ∨ v.heap.size ≤ k) (hs : s.ok v') (hsn : ∀ k, s.own k → v.heap.size ≤ k) (ha : ∀ k, s.own k → ¬ r'.own k) : Sn.HR w0 v' (s :: r' :: R) := by
  have t := h.turn m hr hn
  refine ⟨t.bel, fun x hx => ?_, fun x hx k hk => ?_, List.pairwise_cons.2 ⟨fun x hx k hk hxk => ?_, t.apart⟩⟩
  · rcases List.mem_cons.1 hx with rfl | hx
    · exact hs
    · exact t.ok x hx
  · rcases List.mem_cons.1 hx with rfl | hx
    · exact Nat.le_trans h.bel.size (hsn k hk)
    · exact t.big x hx k hk
  · rcases List.mem_cons.1 hx with rfl | hx
    · exact ha k hk hxk
    · have h1 := hsn k hk
      have h2 := x.lt v (h.ok x (List.mem_cons_of_mem _ hx)) k hxk
      omega
theorem HR.state (h : Sn.HR w0 v R) (m : hState p F S ∈ R) : StateIs v p F S := h.ok _ m
/-- A row that was made is held. -/
theorem HR.rowed {β : Type} {K : RowK β} {a : Option Addr} {c : Nat} {l : List β} (h : Sn.HR w0 v R) (b : Below v.heap.size v v') (hr : K.Row v' v.heap.size a c l) : Sn.HR w0 v' (Sn.hRow K a c l :: R) :=
  h.add b (Sn.row_base hr (Nat.zero_le _)) fun k e => (Sn.row_lt hr k e).1
theorem hs_apply (h : Sn.HR w0 v (hState p F S :: R)) (hS : GoodS S) (x : ItemV) (hn : i64 x.n) (hk : x.kind < 256) :
    Calls Tryz.prog 12 #[.pointer (some ⟨p, 0, none⟩), itemV x] v fun e v' => ∃ a c F', e = .returned (.tuple #[.int .i64 (codeS S x), .slice a (outsS S x).length c, .bool (freshS S x)]) ∧ Sn.HR w0 v' (hOuts a c (outsS S x) :: hState p F' (appS S x) :: R) :=
  (sapply_any (HR.state h List.mem_cons_self) hS x hn hk).mono fun _ _ ⟨a, c, h1, h2, F', d1, d2, d3, d4⟩ =>
    ⟨a, c, F', h1, HR.turn2 (r := hState p F S) (r' := hState p F' (appS S x)) (s := hOuts a c (outsS S x)) h d3 d1 d2 (Sn.row_base h2 (Nat.zero_le _)) (fun k e => (Sn.row_lt h2 k e).1) d4⟩
theorem hs_mark (h : Sn.HR w0 v R) (m : hState p F S ∈ R) : Calls Tryz.prog 19 #[.pointer (some ⟨p, 0, none⟩)] v fun e v' => e = .returned (.int .i64 S.line.mark) ∧ v' = v := smark_any (HR.state h m)
theorem hs_open (h : Sn.HR w0 v R) (m : hState p F S ∈ R) (hS : GoodS S) : Calls Tryz.prog 20 #[.pointer (some ⟨p, 0, none⟩)] v fun e v' => ∃ a c, e = .returned (.slice a S.line.row.length c) ∧ Sn.HR w0 v' (hOuts a c S.line.row :: R) :=
  (sopen_any (HR.state h m) hS.mild).mono fun _ _ ⟨a, c, h1, h2, h3⟩ => ⟨a, c, h1, HR.rowed h h3 h2⟩
theorem hs_lows (h : Sn.HR w0 v R) (m : hState p F S ∈ R) : Calls Tryz.prog 21 #[.pointer (some ⟨p, 0, none⟩)] v fun e v' => ∃ a c, e = .returned (.slice a 4 c) ∧ Sn.HR w0 v' (Sn.hRow Sn.IntK a c (Sn.lows S.tab) :: R) :=
  (slows_any (HR.state h m)).mono fun _ _ ⟨a, c, h1, h2, h3⟩ => ⟨a, c, h1, HR.rowed h h3 h2⟩
theorem hs_ans (h : Sn.HR w0 v R) (m : hState p F S ∈ R) (hS : GoodS S) : Calls Tryz.prog 22 #[.pointer (some ⟨p, 0, none⟩)] v fun e v' => ∃ a c, e = .returned (.slice a (Sn.all S.tab).length c) ∧ Sn.HR w0 v' (Sn.hRow Sn.EntK a c (Sn.all S.tab) :: R) :=
  (sans_any (HR.state h m) hS.tab).mono fun _ _ ⟨a, c, h1, h2, h3⟩ => ⟨a, c, h1, HR.rowed h h3 h2⟩
end
set_option maxRecDepth 100000 in
theorem snew_any (v : World) : Calls Tryz.prog 10 #[] v fun e v' => ∃ p F, e = .returned (.pointer (some ⟨p, 0, none⟩)) ∧ StateIs v' p F newS ∧ (∀ k, F k → v.heap.size ≤ k) ∧ Below v.heap.size v v' := by
  have C1 := hide (tnew_any v)
  have B0 := hide (Below.refl v.heap.size v)
  go_enter Tryz.func10, Tryz.ntmps10
  go_wp2_with fail
  refine (unhide C1).mono ?_
  rintro e v1 ⟨p1, F1, rfl, l1, g1, b1⟩
  have C2 := hide (Sn.new_any v1)
  have L1 := hide l1
  have G1 := hide g1
  have B1 := hide b1
  clear l1 g1 b1 C1
  go_wp2_with fail
  refine (unhide C2).mono ?_
  rintro e v2 ⟨rfl, b2, t2⟩
  have C3 := hide (state_any ((unhide L1).keep (Moved.of_below (F := fun _ => False) b2) (fun _ f => f.elim)) t2 (fun k f g => by
    have h1 := (unhide L1).lt k f
    have h2 := Sn.foot_none _ k g
    omega))
  have B2 := hide b2
  have T2 := hide t2
  clear b2 t2 C2
  go_wp2_with fail
  refine (unhide C3).mono ?_
  rintro e v3 ⟨F3, rfl, s3, g3, b3⟩
  have S3 := hide s3
  have G3 := hide g3
  have B3 := hide b3
  clear s3 g3 b3 C3
  go_wp2_with fail
  go_ret
  have z1 := (unhide B1).size
  have z2 := (unhide B2).size
  refine ⟨_, F3, rfl, unhide S3, fun k hk => ?_, (unhide B1).trans (((unhide B2).mono z1).trans ((unhide B3).mono (by omega)))⟩
  rcases unhide G3 k hk with rfl | f | f
  · omega
  · exact unhide G1 k f
  · have := Sn.foot_none _ k f; omega
set_option maxRecDepth 100000 in
theorem stwin_any {v : World} {p : Nat} {F : Nat → Prop} {S : StV} (h : StateIs v p F S) : Calls Tryz.prog 23 #[.pointer (some ⟨p, 0, none⟩)] v fun e v' => ∃ p' F', e = .returned (.pointer (some ⟨p', 0, none⟩)) ∧ StateIs v' p' F' S ∧ (∀ k, F' k → v.heap.size ≤ k) ∧ Below v.heap.size v v' := by
  have h0 := h.keep ((Moved.refl (fun _ => False) v).drew) (fun _ f => f.elim)
  have C2 : Hid (∀ v1, Below v.drew.heap.size v.drew v1 → Calls Tryz.prog 47 #[.pointer (some ⟨p, 2, none⟩)] v1 fun e w' => ∃ q F', e = .returned (.pointer (some ⟨q, 0, none⟩)) ∧ Sn.TIs w' q F' S.tab ∧ (∀ k, F' k → v1.heap.size ≤ k) ∧ Below v1.heap.size v1 w') := hide fun v1 b => by
    obtain ⟨q, G, M, hF, _⟩ := h0.below b
    exact Sn.B.twin_any ⟨M, hF.tab, rfl⟩
  have C1 : Hid (Calls Tryz.prog 46 #[.pointer (some ⟨p, 0, none⟩)] v.drew fun e v' => ∃ p2 F2, e = .returned (.pointer (some ⟨p2, 0, none⟩)) ∧ LineIs v' p2 F2 S.line ∧ (∀ k, F2 k → v.drew.heap.size ≤ k) ∧ Below v.drew.heap.size v.drew v') := hide (by
    obtain ⟨q, G, M, hF, _⟩ := h0
    exact ctwin_any hF.line)
  obtain ⟨CL, hCL⟩ : ∃ CL : World → Prop, CL = fun _ => True := ⟨_, rfl⟩
  have CT : Hid (∀ u, CL u) := hide fun u => by rw [hCL]; trivial
  have BS : Hid (CL v.drew) := hide (unhide CT _)
  have B0 : Hid (Below v.heap.size v v.drew) := hide (Below.refl _ _).drew
  clear h h0 hCL
  go_enter Tryz.func23, Tryz.ntmps23
  go_upto_region 3 with fail
  refine wp_region_chain (S := CL) [true, true, true, false, true, true, true, false, false, false] [false, false, false, true, false, false, false, true, true, true] (by kernel_rfl) (by kernel_rfl) (by kernel_rfl) (unhide BS) ?_
  apply Exists.intro
  apply And.intro
  · intro q0
    have n0 : Nonempty (SK CL q0.w) := ⟨⟨q0, rfl⟩⟩
    simp only [pickM]
    repeat (go_big_quiet_step (fail))
    exact wpQuiet_nil rfl
  · simp only [pickZ]
    refine chain_call 46 #[.pointer (some ⟨p, 0, none⟩)] rfl (by simp [go_sem]) ?_
    refine (unhide C1).mono ?_
    rintro e v1 ⟨p1, F1, rfl, l1, g1, b1⟩
    refine ⟨_, rfl, unhide CT _, ?_⟩
    have C2' := hide (unhide C2 v1 b1)
    have L1 := hide l1
    have G1 := hide g1
    have B1 := hide b1
    clear l1 g1 b1 C1 C2
    go_simp
    refine chain_call 47 #[.pointer (some ⟨p, 2, none⟩)] rfl (by simp [go_sem]) ?_
    refine (unhide C2').mono ?_
    rintro e v2 ⟨p2, F2, rfl, t2, g2, b2⟩
    refine ⟨_, rfl, unhide CT _, ?_⟩
    have C3 := hide (state_any ((unhide L1).keep (Moved.of_below (F := fun _ => False) b2) (fun _ f => f.elim)) t2 (fun k f g => by
      have h1 := (unhide L1).lt k f
      have h2 := g2 k g
      omega))
    have G2 := hide g2
    have B2 := hide b2
    clear t2 g2 b2 C2'
    go_simp
    refine chain_call 26 #[.pointer (some ⟨p1, 0, none⟩), .pointer (some ⟨p2, 0, none⟩)] rfl (by simp [go_sem]) ?_
    refine (unhide C3).mono ?_
    rintro e v3 ⟨F3, rfl, s3, g3, b3⟩
    refine ⟨_, rfl, unhide CT _, ?_⟩
    have S3 := hide s3
    have G3 := hide g3
    have B3 := hide b3
    clear s3 g3 b3 C3
    go_simp
    refine chain_step (.pointer (some ⟨v2.heap.size, 0, none⟩)) v3 rfl (by simp [go_sem]) (unhide CT _) ?_
    simp only [chainM]
    go_simp
    go_wp2_with fail
    go_ret
    have z1 := (unhide B1).size
    have z0 : v.drew.heap.size = v.heap.size := rfl
    have z2 := (unhide B2).size
    refine ⟨_, F3, rfl, unhide S3, fun k hk => ?_, (unhide B0).trans (((unhide B1).mono (Nat.le_refl _)).trans (((unhide B2).mono z1).trans ((unhide B3).mono (by omega))))⟩
    rcases unhide G3 k hk with rfl | f | f
    · omega
    · exact unhide G1 k f
    · have := unhide G2 k f; omega
/-- Whether two states have the same. -/
def sameS (S T : StV) : Bool := decide (S.line.mark = T.line.mark ∧ S.line.row = T.line.row ∧ Sn.lows S.tab = Sn.lows T.tab ∧ Sn.all S.tab = Sn.all T.tab)
section
variable {w0 v v' : World} {p : Nat} {F : Nat → Prop} {S : StV} {R : List Sn.Held}
theorem hs_new (h : Sn.HR w0 v R) : Calls Tryz.prog 10 #[] v fun e v' => ∃ p F, e = .returned (.pointer (some ⟨p, 0, none⟩)) ∧ Sn.HR w0 v' (hState p F newS :: R) :=
  (snew_any v).mono fun _ _ ⟨p, F, h1, h2, h3, h4⟩ => ⟨p, F, h1, h.add h4 h2 h3⟩
theorem hs_twin (h : Sn.HR w0 v R) (m : hState p F S ∈ R) : Calls Tryz.prog 23 #[.pointer (some ⟨p, 0, none⟩)] v fun e v' => ∃ p' F', e = .returned (.pointer (some ⟨p', 0, none⟩)) ∧ Sn.HR w0 v' (hState p' F' S :: R) :=
  (stwin_any (HR.state h m)).mono fun _ _ ⟨p, F, h1, h2, h3, h4⟩ => ⟨p, F, h1, h.add h4 h2 h3⟩
end
end Go.Proofs.YtigmhljaoicdbaaGreat

/- A line in memory, and what New, Put, Mark, At, Open and Twin of it do, and of a nil line. Conditions: a line has at most 32 windows, whose numbers are 64 bits wide. -/
import Derived.Test.YtmgmkdkdpeljmaaTellMath
import Derived.Test.YtmgmkdkdpeljmaaTwinH
namespace Go.Proofs.Ytmgmkdkdpeljmaa
open Go.RowKit
theorem tlate_any (a m : Int) (w : World) : Calls Try.prog 52 #[.int .i64 a, .int .i64 m] w fun e w' => e = .returned (.bool (Sp.lateI a m)) ∧ w' = w := by
  have C1 := hide (fun v => Sp.start_any a v)
  have C2 := hide (fun v => Sp.over_any (Sp.startI a) m v)
  have HL : Hid (Sp.lateI a m = Sp.overI (Sp.startI a) m) := hide rfl
  generalize Sp.startI a = s at *
  go_enter Try.func52, Try.ntmps52
  go_wp2_with fail
  refine (unhide C1 _).mono ?_
  rintro e v' ⟨rfl, hw⟩
  rw [hw]
  clear hw v'
  go_wp2_with fail
  refine (unhide C2 _).mono ?_
  rintro e v' ⟨rfl, hw⟩
  rw [hw]
  clear hw v'
  go_wp2_with fail
  go_ret
  exact ⟨by rw [unhide HL]; rfl, rfl⟩
/-- Block p holds a line: a store at q, of the blocks G, and the mark. -/
structure LineF (v : World) (p q : Nat) (G : Nat → Prop) (L : LineV) : Prop where
  row : RowAt v p [.pointer (some ⟨q, 0, none⟩), .int .i64 L.mark]
  st : StIs v q G L.row
  off : ¬ G p
/-- A line at p, of the blocks F. -/
def LineIs (v : World) (p : Nat) (F : Nat → Prop) (L : LineV) : Prop := ∃ q G, LineF v p q G L ∧ F = fun k => k = p ∨ G k
theorem LineIs.lt {v : World} {p : Nat} {F : Nat → Prop} {L : LineV} (h : LineIs v p F L) : ∀ k, F k → k < v.heap.size := by
  obtain ⟨q, G, h, rfl⟩ := h
  rintro k (rfl | hk)
  · exact h.row.lt
  · exact h.st.lt k hk
theorem LineIs.keep {G F : Nat → Prop} {v v' : World} {p : Nat} {L : LineV} (h : LineIs v p F L) (k : Moved G v v') (hG : ∀ i, G i → ¬ F i) : LineIs v' p F L := by
  obtain ⟨q, G', h, rfl⟩ := h
  exact ⟨q, G', ⟨h.row.keep k (fun g => hG p g (.inl rfl)), h.st.keep k (fun i g f => hG i g (.inr f)), h.off⟩, rfl⟩
theorem LineIs.fine {v : World} {p : Nat} {F : Nat → Prop} {L : LineV} (h : LineIs v p F L) : Fine L.row := by obtain ⟨q, G, h, rfl⟩ := h; exact h.st.fine
/-- A step of a line. -/
def DidL (v v' : World) (p : Nat) (F : Nat → Prop) (L : LineV) : Prop := ∃ F', LineIs v' p F' L ∧ (∀ k, F' k → F k ∨ v.heap.size ≤ k) ∧ Moved F v v'
theorem DidL.same {v : World} {p : Nat} {F : Nat → Prop} {L : LineV} (h : LineIs v p F L) : DidL v v p F L := ⟨F, h, fun _ f => .inl f, Moved.refl _ _⟩
theorem LineF.did {v v' : World} {p q : Nat} {G : Nat → Prop} {L : LineV} {l : List (Win AggV)} (h : LineF v p q G L) (hd : Did v v' q G l) : DidL v v' p (fun k => k = p ∨ G k) ⟨L.mark, l⟩ := by
  obtain ⟨G', h1, h2, h3⟩ := hd
  refine ⟨_, ⟨q, G', ⟨h.row.keep h3 h.off, h1, fun f => ?_⟩, rfl⟩, fun k hk => ?_, h3.mono fun _ g => .inl (.inr g)⟩
  · rcases h2 p f with f | f
    · exact h.off f
    · have := h.row.lt; omega
  · rcases hk with rfl | hk
    · exact .inl (.inl rfl)
    · exact (h2 k hk).imp .inr id
theorem LineF.same {v v' : World} {p q : Nat} {G : Nat → Prop} {L : LineV} {l : List (Win AggV)} (h : LineF v p q G L) (hs : StIs v' q G l) (m : Moved G v v') : LineIs v' p (fun k => k = p ∨ G k) ⟨L.mark, l⟩ ∧ Moved (fun k => k = p ∨ G k) v v' :=
  ⟨⟨q, G, ⟨h.row.keep m h.off, hs, h.off⟩, rfl⟩, m.mono fun _ g => .inl (.inr g)⟩
theorem tnew_any (v : World) : Calls Try.prog 24 #[] v fun e v' => ∃ p F, e = .returned (.pointer (some ⟨p, 0, none⟩)) ∧ LineIs v' p F newL ∧ (∀ k, F k → v.heap.size ≤ k) ∧ Below v.heap.size v v' := by
  have C := hide (new_any v)
  go_enter Try.func24, Try.ntmps24
  go_wp2_with fail
  refine (unhide C).mono ?_
  rintro e v1 ⟨rfl, hb, hs⟩
  have HB := hide hb
  have HS := hide hs
  clear hb hs C
  go_wp2_with fail
  go_ret
  have b2 : Below v1.heap.size v1 (v1.alloc (.cells #[.pointer (some ⟨v.heap.size, 0, none⟩), .int .i64 0] 95)) := (Below.refl _ _).alloc (Nat.le_refl _) _
  refine ⟨v1.heap.size, _, rfl, ⟨v.heap.size, foot v.heap.size none, ⟨row_new v1 _ _, (unhide HS).keep (Moved.of_below (F := fun _ => False) b2) (fun _ f => f.elim), fun f => Nat.lt_irrefl _ ((unhide HS).lt _ f)⟩, rfl⟩, ?_, (unhide HB).trans (b2.mono (unhide HB).size)⟩
  rintro k (rfl | rfl | f)
  · exact (unhide HB).size
  · exact Nat.le_refl _
  · cases f
theorem tat_any {v : World} {p : Nat} {F : Nat → Prop} {L : LineV} (h : LineIs v p F L) : Calls Try.prog 29 #[.pointer (some ⟨p, 0, none⟩)] v fun e v' => e = .returned (.int .i64 L.mark) ∧ v' = v := by
  obtain ⟨q, G, h, rfl⟩ := h
  have c1 : v.cell? ⟨p, 1, none⟩ = some (.int .i64 L.mark) := h.row.cell 1 (Nat.lt_of_sub_pos (Nat.succ_pos _))
  clear h
  go_enter Try.func29, Try.ntmps29
  go_wp2_with fail
  go_ret
  exact ⟨rfl, rfl⟩
theorem topen_any {v : World} {p : Nat} {F : Nat → Prop} {L : LineV} (h : LineIs v p F L) (hl : L.row.length ≤ 1000) :
    Calls Try.prog 30 #[.pointer (some ⟨p, 0, none⟩)] v fun e v' => ∃ a c, e = .returned (.slice a L.row.length c) ∧ OutK.Row v' v.heap.size a c L.row ∧ Below v.heap.size v v' := by
  obtain ⟨q, G, h, rfl⟩ := h
  have c0 : v.cell? ⟨p, 0, none⟩ = some (.pointer (some ⟨q, 0, none⟩)) := h.row.cell 0 (Nat.succ_pos _)
  have C := hide (all_any h.st hl)
  clear h
  go_enter Try.func30, Try.ntmps30
  go_wp2_with fail
  refine (unhide C).mono ?_
  rintro e v1 ⟨a, c, rfl, h1, h2⟩
  have H1 := hide h1
  have H2 := hide h2
  clear h1 h2 C c0
  go_wp2_with fail
  go_ret
  exact ⟨a, c, rfl, unhide H1, unhide H2⟩
theorem put_code {l : List (Win AggV)} {k : List UInt8} {a v : Int} (hk : keyOk k = true ∧ Sp.rightI a = true) : (putS SO l k a v).2 = 0 ∨ ((putS SO l k a v).2 = 6 ∧ (putS SO l k a v).1 = l) := by
  rcases put_ways (O := SO) l k a v with ⟨hn, _⟩ | ⟨_, ⟨x, hx, e⟩ | ⟨hx, ⟨_, e⟩ | ⟨hl, e⟩⟩⟩
  · exact absurd hk hn
  · rw [e]; exact .inl rfl
  · rw [e]; exact .inr ⟨rfl, rfl⟩
  · rw [e]; exact .inl rfl
set_option maxRecDepth 100000 in
set_option maxHeartbeats 4000000 in
theorem tput_any {v : World} {p : Nat} {F : Nat → Prop} {L : LineV} (h : LineIs v p F L) (hl : L.row.length ≤ 32) (hIn : ∀ a ∈ L.row, a.agg.In) (k : List UInt8) (a n : Int) (hn : i64 n) :
    Calls Try.prog 25 #[.pointer (some ⟨p, 0, none⟩), .string ⟨k.toArray⟩, .int .i64 a, .int .i64 n] v fun e v' => e = .returned (.int .i64 ((putL L k a n).2 : Int)) ∧ DidL v v' p F (putL L k a n).1 := by
  have SAME := hide (DidL.same h)
  obtain ⟨q, G, h, rfl⟩ := h
  have c0 : v.cell? ⟨p, 0, none⟩ = some (.pointer (some ⟨q, 0, none⟩)) := h.row.cell 0 (Nat.succ_pos _)
  have c1 : v.cell? ⟨p, 1, none⟩ = some (.int .i64 L.mark) := h.row.cell 1 (Nat.lt_of_sub_pos (Nat.succ_pos _))
  have CK := hide (fun u => key_any k u)
  have CR := hide (fun u => Sp.right_any a u)
  have CL := hide (fun u => tlate_any a L.mark u)
  have CP := hide (sput_any h.st hl hIn k a n hn)
  have H := hide h
  clear h
  rcases putL_ways L k a n with ⟨hk, e⟩ | ⟨hk, ⟨hlt, e⟩ | ⟨hlt, hz⟩⟩
  · rw [e]
    have HE := hide e
    clear e
    by_cases hko : keyOk k = true
    · have hro : Sp.rightI a = false := Bool.eq_false_iff.2 (fun h => hk ⟨hko, h⟩)
      rw [hko] at CK
      rw [hro] at CR
      clear hk hko hro
      go_enter Try.func25, Try.ntmps25
      go_wp2_with fail
      refine (unhide CK _).mono ?_
      rintro e v' ⟨rfl, hw⟩
      rw [hw]
      clear hw v'
      go_wp2_with fail
      refine (unhide CR _).mono ?_
      rintro e v' ⟨rfl, hw⟩
      rw [hw]
      clear hw v'
      go_wp2_with fail
      go_ret
      exact ⟨rfl, unhide SAME⟩
    · rw [Bool.eq_false_iff.2 hko] at CK
      clear hk hko
      go_enter Try.func25, Try.ntmps25
      go_wp2_with fail
      refine (unhide CK _).mono ?_
      rintro e v' ⟨rfl, hw⟩
      rw [hw]
      clear hw v'
      go_wp2_with fail
      go_ret
      exact ⟨rfl, unhide SAME⟩
  · rw [e]
    rw [hk.1] at CK
    rw [hk.2] at CR
    rw [hlt] at CL
    clear hk hlt e
    go_enter Try.func25, Try.ntmps25
    go_wp2_with fail
    refine (unhide CK _).mono ?_
    rintro e v' ⟨rfl, hw⟩
    rw [hw]
    clear hw v'
    go_wp2_with fail
    refine (unhide CR _).mono ?_
    rintro e v' ⟨rfl, hw⟩
    rw [hw]
    clear hw v'
    go_wp2_with fail
    refine (unhide CL _).mono ?_
    rintro e v' ⟨rfl, hw⟩
    rw [hw]
    clear hw v'
    go_wp2_with fail
    go_ret
    exact ⟨rfl, unhide SAME⟩
  · have HC := hide (put_code (l := L.row) (v := n) hk)
    rw [hk.1] at CK
    rw [hk.2] at CR
    rw [hlt] at CL
    rcases hz with ⟨h0, e⟩ | ⟨h0, e⟩
    · rw [e]
      rw [h0] at CP
      clear e h0 HC
      
      clear hk hlt
      go_enter Try.func25, Try.ntmps25
      go_wp2_with fail
      refine (unhide CK _).mono ?_
      rintro e v' ⟨rfl, hw⟩
      rw [hw]
      clear hw v'
      go_wp2_with fail
      refine (unhide CR _).mono ?_
      rintro e v' ⟨rfl, hw⟩
      rw [hw]
      clear hw v'
      go_wp2_with fail
      refine (unhide CL _).mono ?_
      rintro e v' ⟨rfl, hw⟩
      rw [hw]
      clear hw v'
      go_upto_region 8 with fail
      refine (unhide CP).mono ?_
      rintro e v1 ⟨rfl, hd⟩
      have HD := hide hd
      clear hd CP c0 c1
      go_wp2_with fail
      go_ret
      exact ⟨rfl, (unhide H).did (unhide HD)⟩
    · have h6 := (unhide HC).resolve_left h0
      rw [e]
      rw [h6.1, h6.2] at CP
      clear e h0 HC h6
      
      clear hk hlt
      go_enter Try.func25, Try.ntmps25
      go_wp2_with fail
      refine (unhide CK _).mono ?_
      rintro e v' ⟨rfl, hw⟩
      rw [hw]
      clear hw v'
      go_wp2_with fail
      refine (unhide CR _).mono ?_
      rintro e v' ⟨rfl, hw⟩
      rw [hw]
      clear hw v'
      go_wp2_with fail
      refine (unhide CL _).mono ?_
      rintro e v' ⟨rfl, hw⟩
      rw [hw]
      clear hw v'
      go_upto_region 8 with fail
      refine (unhide CP).mono ?_
      rintro e v1 ⟨rfl, hd⟩
      have HD := hide hd
      clear hd CP c0 c1
      go_wp2_with fail
      go_ret
      exact ⟨rfl, (unhide H).did (unhide HD)⟩
set_option maxRecDepth 100000 in
set_option maxHeartbeats 4000000 in
theorem tmark_any {v : World} {p : Nat} {F : Nat → Prop} {L : LineV} (h : LineIs v p F L) (hl : L.row.length ≤ 1000) (a : Int) :
    Calls Try.prog 27 #[.pointer (some ⟨p, 0, none⟩), .int .i64 a] v fun e v' => ∃ a1 c1, e = .returned (.tuple #[.int .i64 ((markL L a).2.1 : Int), .slice a1 (markL L a).2.2.length c1]) ∧ OutK.Row v' v.heap.size a1 c1 (markL L a).2.2 ∧ LineIs v' p F (markL L a).1 ∧ Moved F v v' := by
  have SAME := hide (⟨h, Moved.refl F v⟩ : LineIs v p F L ∧ Moved F v v)
  obtain ⟨q, G, h, rfl⟩ := h
  have c0 : v.cell? ⟨p, 0, none⟩ = some (.pointer (some ⟨q, 0, none⟩)) := h.row.cell 0 (Nat.succ_pos _)
  have c1 : v.cell? ⟨p, 1, none⟩ = some (.int .i64 L.mark) := h.row.cell 1 (Nat.lt_of_sub_pos (Nat.succ_pos _))
  have CR := hide (fun u => Sp.right_any a u)
  have H := hide h
  clear h
  rcases markL_ways L a with ⟨hr, e⟩ | ⟨hr, ⟨hle, e⟩ | ⟨hle, e⟩⟩
  · rw [e]
    rw [hr] at CR
    clear e hr
    go_enter Try.func27, Try.ntmps27
    go_wp2_with fail
    refine (unhide CR _).mono ?_
    rintro e v' ⟨rfl, hw⟩
    rw [hw]
    clear hw v'
    go_wp2_with fail
    go_ret2
    exact ⟨none, 0, rfl, row_none _ _, (unhide SAME).1, (unhide SAME).2⟩
  · rw [e]
    rw [hr] at CR
    clear e hr
    go_enter Try.func27, Try.ntmps27
    go_wp2_with fail
    refine (unhide CR _).mono ?_
    rintro e v' ⟨rfl, hw⟩
    rw [hw]
    clear hw v'
    go_wp2_with fail
    go_ret2
    exact ⟨none, 0, rfl, row_none _ _, (unhide SAME).1, (unhide SAME).2⟩
  · rw [e]
    rw [hr] at CR
    have f1 : v.frozen? ⟨p, 1, none⟩ = false := (unhide H).row.free 1 (Nat.lt_of_sub_pos (Nat.succ_pos _))
    obtain ⟨v1, hv1⟩ : ∃ v1, v1 = v.setCell ⟨p, 1, none⟩ (.int .i64 a) := ⟨_, rfl⟩
    have m1 : Moved (fun k => k = p) v v1 := by rw [hv1]; exact moved_set v p 1 _
    have r1 : RowAt v1 p [.pointer (some ⟨q, 0, none⟩), .int .i64 a] := by rw [hv1]; exact (unhide H).row.set 1 (Nat.lt_of_sub_pos (Nat.succ_pos _)) _
    have H1 : LineF v1 p q G ⟨a, L.row⟩ := ⟨r1, (unhide H).st.keep m1 (fun i hi g => (unhide H).off (hi ▸ g)), (unhide H).off⟩
    have CT := hide (take_any H1.st hl a)
    have c2 : v1.cell? ⟨p, 0, none⟩ = some (.pointer (some ⟨q, 0, none⟩)) := r1.cell 0 (Nat.succ_pos _)
    have HV := hide hv1
    have M1 := hide m1
    have HH1 := hide H1
    clear e hr m1 hv1 r1 H1
    go_enter Try.func27, Try.ntmps27
    go_wp2_with fail
    refine (unhide CR _).mono ?_
    rintro e v' ⟨rfl, hw⟩
    rw [hw]
    clear hw v'
    go_upto_region 6 with fail
    rw [← unhide HV]
    clear c0 c1 f1
    go_wp2_with fail
    refine (unhide CT).mono ?_
    rintro e v2 ⟨a1, cp, rfl, hro, hst, hmv⟩
    have HRO := hide hro
    have HST := hide hst
    have HMV := hide hmv
    clear hro hst hmv CT c2
    go_wp2_with fail
    go_ret2
    obtain ⟨l1, l2⟩ := (unhide HH1).same (unhide HST) (unhide HMV)
    exact ⟨a1, cp, rfl, row_mono (unhide HRO) (unhide M1).size, l1, ((unhide M1).mono (fun k e => .inl (.inl e))).trans l2 (fun _ f => .inl f)⟩
set_option maxRecDepth 100000 in
set_option maxHeartbeats 4000000 in
theorem ttwin_any {v : World} {p : Nat} {F : Nat → Prop} {L : LineV} (h : LineIs v p F L) :
    Calls Try.prog 31 #[.pointer (some ⟨p, 0, none⟩)] v fun e v' => ∃ p2 F2, e = .returned (.pointer (some ⟨p2, 0, none⟩)) ∧ LineIs v' p2 F2 L ∧ (∀ k, F2 k → v.heap.size ≤ k) ∧ Below v.heap.size v v' := by
  obtain ⟨q, G, h, rfl⟩ := h
  obtain ⟨CL, hCL⟩ : ∃ CL : World → Prop, CL = fun u => Below v.heap.size v u := ⟨_, rfl⟩
  have un : ∀ u, CL u → Below v.heap.size v u := fun u k => by rw [hCL] at k; exact k
  have to_ : Hid (∀ u, Below v.heap.size v u → CL u) := hide fun u k => by rw [hCL]; exact k
  have base : CL v.drew := unhide to_ _ ((Below.refl _ _).drew)
  have q0 : ∀ u : SW CL, u.w.cell? ⟨p, 0, none⟩ = some (.pointer (some ⟨q, 0, none⟩)) := fun u => (h.row.below (un _ u.ok)).cell 0 (Nat.succ_pos _)
  have q1 : ∀ u : SW CL, u.w.cell? ⟨p, 1, none⟩ = some (.int .i64 L.mark) := fun u => (h.row.below (un _ u.ok)).cell 1 (Nat.lt_of_sub_pos (Nat.succ_pos _))
  have C := hide (twin_any (h.st.keep ((Moved.refl (fun _ => False) v).drew) (fun _ f => f.elim)))
  clear h hCL un
  go_enter Try.func31, Try.ntmps31
  go_upto_region 3 with fail
  refine wp_region_chain (S := CL) [true, true, true, true, false, true, true, true, true, false, false, false] [false, false, false, false, true, false, false, false, false, true, true, true] (by kernel_rfl) (by kernel_rfl) (by kernel_rfl) base ?_
  apply Exists.intro
  apply And.intro
  · intro q
    have n0 : Nonempty (SK CL q.w) := ⟨⟨q, rfl⟩⟩
    simp only [pickM]
    repeat (go_big_quiet_step (fail))
    exact wpQuiet_nil rfl
  · simp only [pickZ]
    refine chain_call 13 #[.pointer (some ⟨q, 0, none⟩)] rfl (by simp [go_sem]) ?_
    refine (unhide C).mono ?_
    rintro e v1 ⟨q2, G2, rfl, hs, hg, hb⟩
    have hb' : Below v.heap.size v v1 := ((Below.refl v.heap.size v).drew).trans (hb.mono (Nat.le_refl _))
    refine ⟨_, rfl, unhide to_ _ hb', ?_⟩
    have HS := hide hs
    have HG := hide hg
    have HB := hide hb'
    clear hs hg hb hb' C base q0 q1
    go_simp
    have hb3 : Below v1.heap.size v1 (v1.alloc (.cells #[.pointer (some ⟨q2, 0, none⟩), .int .i64 L.mark] 95)) := (Below.refl _ _).alloc (Nat.le_refl _) _
    have hb4 : Below v.heap.size v (v1.alloc (.cells #[.pointer (some ⟨q2, 0, none⟩), .int .i64 L.mark] 95)) := (unhide HB).trans (hb3.mono (unhide HB).size)
    have CL4 := hide (unhide to_ _ hb4)
    have HB3 := hide hb3
    have HB4 := hide hb4
    clear hb3 hb4
    refine chain_step (.agg #[.pointer (some ⟨q2, 0, none⟩), .int .i64 L.mark]) v1 rfl (by simp [go_sem]) (unhide to_ _ (unhide HB)) ?_
    go_simp
    refine chain_step (.pointer (some ⟨v1.heap.size, 0, none⟩)) (v1.alloc (.cells #[.pointer (some ⟨q2, 0, none⟩), .int .i64 L.mark] 95)) rfl (by simp [go_sem]) (unhide CL4) ?_
    go_simp
    refine chain_step (.pointer (some ⟨v1.heap.size, 0, none⟩)) (v1.alloc (.cells #[.pointer (some ⟨q2, 0, none⟩), .int .i64 L.mark] 95)) rfl (by simp [go_sem]) (unhide CL4) ?_
    simp only [chainM]
    go_simp
    go_wp2_with fail
    go_ret
    refine ⟨v1.heap.size, _, rfl, ⟨q2, G2, ⟨row_new v1 _ _, (unhide HS).keep (Moved.of_below (F := fun _ => False) (unhide HB3)) (fun _ f => f.elim), fun f => Nat.lt_irrefl _ ((unhide HS).lt _ f)⟩, rfl⟩, ?_, unhide HB4⟩
    rintro k (rfl | f)
    · exact (unhide HB).size
    · exact unhide HG k f
end Go.Proofs.Ytmgmkdkdpeljmaa

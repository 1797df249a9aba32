/- The document's own Set. Condition: the list is shorter than 10^11. -/
import Derived.Test.YtdmjkbcjljnleaaRefA
import Derived.Test.YtdmjkbcjljnleaaRefB
namespace Go.Proofs.Ytdmjkbcjljnleaa
open Go.RowKit

/-- The numbers above one, put in one by one. -/
def acc (n : Int) (l : List Int) : List Int := l.foldl (fun A x => if x ≤ n then A else insN x A) []
theorem acc_snoc (n : Int) (l : List Int) (x : Int) : acc n (l ++ [x]) = if x ≤ n then acc n l else insN x (acc n l) := by unfold acc; rw [List.foldl_append]; rfl
theorem acc_facts (n : Int) (l : List Int) : Rise (acc n l) ∧ ∀ x, x ∈ acc n l ↔ x ∈ l ∧ n < x := by
  obtain ⟨m, hm⟩ : ∃ m, m = l.reverse := ⟨_, rfl⟩
  have hl : l = m.reverse := by rw [hm, List.reverse_reverse]
  subst hl
  clear hm
  induction m with
  | nil => exact ⟨List.Pairwise.nil, fun x => by simp [acc]⟩
  | cons y m ih =>
    rw [List.reverse_cons, acc_snoc]
    obtain ⟨h1, h2⟩ := ih
    split
    · refine ⟨h1, fun x => ?_⟩
      rw [h2, List.mem_append, List.mem_singleton]
      constructor
      · rintro ⟨h3, h4⟩; exact ⟨.inl h3, h4⟩
      · rintro ⟨h3 | h3, h4⟩
        · exact ⟨h3, h4⟩
        · omega
    · refine ⟨insN_rise h1, fun x => ?_⟩
      rw [mem_insN, h2, List.mem_append, List.mem_singleton]
      constructor
      · rintro (h3 | ⟨h3, h4⟩)
        · exact ⟨.inr h3, by omega⟩
        · exact ⟨.inl h3, h4⟩
      · rintro ⟨h3 | h3, h4⟩
        · exact .inr ⟨h3, h4⟩
        · exact .inl h3
theorem acc_length (n : Int) (l : List Int) (h : l.Nodup) : (acc n l).length ≤ l.length := by
  have hf := acc_facts n l
  have key : ∀ (A : List Int), A.Nodup → (∀ x ∈ A, x ∈ l) → A.length ≤ l.length := by
    clear hf
    intro A hA hs
    induction A generalizing l with
    | nil => exact Nat.zero_le _
    | cons a A ih =>
      have ha : a ∈ l := hs a List.mem_cons_self
      have hA' := List.nodup_cons.1 hA
      have := ih (l.erase a) (h.erase a) hA'.2 (fun x hx => (List.mem_erase_of_ne (fun e => hA'.1 (by rw [← e]; exact hx))).2 (hs x (List.mem_cons_of_mem _ hx)))
      rw [List.length_erase_of_mem ha] at this
      have hp : 0 < l.length := List.length_pos_of_mem ha
      rw [List.length_cons]; omega
  exact key _ (rise_nodup hf.1) fun x hx => ((hf.2 x).1 hx).1
theorem acc_set {s : AckV} {l : List Int} (h : RelA s l) : acc s.low l = s.set := by
  have hf := acc_facts s.low l
  refine rise_ext hf.1 h.fine.rise fun x => ?_
  rw [hf.2, h.mem, has_iff]
  constructor
  · rintro ⟨h1 | h1, h2⟩
    · omega
    · exact h1
  · intro h1
    exact ⟨.inr h1, by have := h.fine.beh x h1; omega⟩
theorem nodup_take {l : List Int} (h : l.Nodup) {k : Nat} {x : Int} (hx : l[k]? = some x) : x ∉ l.take k := by
  have h1 : (l.take (k + 1)).Nodup := h.sublist (List.take_sublist _ _)
  rw [take_snoc hx] at h1
  exact fun hm => (List.nodup_append.1 h1).2.2 x hm x (by simp) rfl
theorem insN_split : ∀ {A : List Int} {x : Int} {j : Nat}, j ≤ A.length → (∀ y ∈ A.take j, y < x) → (∀ y, A[j]? = some y → ¬ y < x) → x ∉ A → insN x A = A.take j ++ [x] ++ A.drop j
  | [], x, j, hj, _, _, _ => by
    have : j = 0 := by simpa using hj
    subst this
    rfl
  | a :: A, x, 0, _, _, h2, h3 => by
    have hn := h2 a rfl
    have hne : ¬ x = a := fun e => h3 (by rw [e]; exact List.mem_cons_self)
    rw [insN, if_pos (by omega)]
    rfl
  | a :: A, x, j + 1, hj, h1, h2, h3 => by
    have ha := h1 a (by simp)
    rw [insN, if_neg (by omega), if_neg (by omega), insN_split (j := j) (by simpa using hj) (fun y hy => h1 y (by rw [List.take_succ_cons]; exact List.mem_cons_of_mem _ hy)) (fun y hy => h2 y (by simpa using hy)) (fun e => h3 (List.mem_cons_of_mem _ e))]
    simp
theorem slice_to (a : Option Addr) (n c i : Nat) (hi : i ≤ c) (W : World) : (Instr.slice 27 (.slice a n c) none (some (.int .i64 (i : Int))) none).run Try.prog W = .ok (.slice a i c) W := by
  have u := Try.underlying27
  have z := Try.sizeOf3
  simp [Instr.slice, go_sem]
  intro h; omega
theorem slice_from (a : Option Addr) (n c i : Nat) (hi : i ≤ n) (W : World) : (Instr.slice 27 (.slice a n c) (some (.int .i64 (i : Int))) none none).run Try.prog W = .ok (.slice (if c = i then a else a.map (·.add i)) (n - i) (c - i)) W := by
  have u := Try.underlying27
  have z := Try.sizeOf3
  simp [Instr.slice, go_sem]
  intro h; omega
theorem lies_nil (w : World) (a : Option Addr) : IntK.Lies w a [] := ⟨fun _ => rfl, fun x e j u hu => by simp [RowK.cells] at hu⟩
theorem lies_from {w : World} {a : Option Addr} {l : List Int} {c i : Nat} (h : IntK.Lies w a l) (hi : i ≤ l.length) (hc : l.length ≤ c) : IntK.Lies w (if c = i then a else a.map (·.add i)) (l.drop i) := by
  split
  · rw [List.drop_of_length_le (by omega)]; exact lies_nil w a
  · cases a with
    | none => rw [h.1 rfl, List.drop_nil]; exact lies_nil w none
    | some x =>
      have := lies_drop intK_law h i
      rw [show i * IntK.sz = i by simp [IntK]] at this
      exact this
/-- The three appends: what stands ahead of a place, a number, what stands behind. -/
theorem three_app {v : World} {B : Nat} {a : Option Addr} {c : Nat} {A : List Int} (h : IntK.Row v B a c A) (hB : B ≤ v.heap.size) (hl : A.length ≤ 100000000000) (x : Int) {j : Nat} (hj : j ≤ A.length) :
    ∃ a3 c3 v3 a4 c4 v4 a5 c5 v5, (Builtin.append_ #[27, 27] 27 #[.slice none 0 0, .slice a j c]).run Try.prog v = .ok (.slice a3 j c3) v3 ∧
      (Builtin.append_ #[27, 27] 27 #[.slice a3 j c3, .slice (some ⟨v3.heap.size, 0, none⟩) 1 1]).run Try.prog (v3.alloc (.cells #[.int .i64 x] 3)) = .ok (.slice a4 (j + 1) c4) v4 ∧
      (Builtin.append_ #[27, 27] 27 #[.slice a4 (j + 1) c4, .slice (if c = j then a else a.map (·.add j)) (A.length - j) (c - j)]).run Try.prog v4 = .ok (.slice a5 (A.take j ++ [x] ++ A.drop j).length c5) v5 ∧
      IntK.Row v5 B a5 c5 (A.take j ++ [x] ++ A.drop j) ∧ Below v.heap.size v v3 ∧ Below v.heap.size v v4 ∧ Below v.heap.size v v5 := by
  have e1 : (A.take j).length = j := by rw [List.length_take]; omega
  have hcap := row_cap h
  obtain ⟨a3, c3, v3, r1, w1, g1⟩ := grow_app intK_law (row_none v v.heap.size) a c (A.take j) (lies_take intK_law (row_lies h) j) (by simp; omega) (Nat.le_refl _) 27
  rw [List.nil_append] at r1 w1
  have b1 : Below v.heap.size v v3 := (Below.refl _ _).grown g1 (Nat.le_refl _) (fun k e => by cases e)
  have s1 := b1.size
  have h3 := row_below h b1
  obtain ⟨a4, c4, v4, r2, w2, b2, _, _⟩ := grow_at_one (B := v.heap.size) w1 x (by omega) b1.size
  have b12 := b1.trans b2
  have s2 := b12.size
  have e2 : (A.take j ++ [x]).length = j + 1 := by rw [List.length_append, e1]; rfl
  have h4 := row_below h b12
  obtain ⟨a5, c5, v5, r3, w3, g3⟩ := grow_app intK_law w2 (if c = j then a else a.map (·.add j)) (c - j) (A.drop j) (lies_from (row_lies h4) hj hcap) (by rw [e2, List.length_drop]; omega) s2 27
  have b3 : Below v.heap.size v4 v5 := (Below.refl _ _).grown g3 s2 (fun k e => (row_lt w2 k e).1)
  have e3 : (A.drop j).length = A.length - j := List.length_drop
  have rr : (Builtin.append_ #[27, 27] 27 #[.slice none 0 0, .slice a (A.take j).length c]).run Try.prog v = .ok (.slice a3 (A.take j).length c3) v3 := r1
  have rr3 : (Builtin.append_ #[27, 27] 27 #[.slice a4 (A.take j ++ [x]).length c4, .slice (if c = j then a else a.map (·.add j)) (A.drop j).length (c - j)]).run Try.prog v4 = .ok (.slice a5 (A.take j ++ [x] ++ A.drop j).length c5) v5 := r3
  rw [e1] at rr r2
  rw [e2, e3] at rr3
  exact ⟨a3, c3, v3, a4, c4, v4, a5, c5, v5, rr, r2, rr3, row_base w3 hB, b1, b12, b12.trans b3⟩
set_option maxRecDepth 100000 in
set_option maxHeartbeats 4000000 in
theorem rset_any {w : World} {a : Option Addr} {c : Nat} {l : List Int} (h : IntK.At w a l) (hl : l.length ≤ 100000000000) {s : AckV} (hr : RelA s l) :
    Calls Try.prog 21 #[.agg #[.slice a l.length c]] w fun e w' => ∃ a' c', e = .returned (.slice a' s.set.length c') ∧ IntK.Row w' w.heap.size a' c' s.set ∧ Below w.heap.size w w' := by
  obtain ⟨H, hH⟩ : ∃ H, H = w.heap.size := ⟨_, rfl⟩
  obtain ⟨W, hW⟩ : ∃ W, W = w.alloc (.cells #[.slice a l.length c] 35) := ⟨_, rfl⟩
  have bW : Below w.heap.size w W := by rw [hW]; exact (Below.refl _ _).alloc (Nat.le_refl _) _
  have c0 : W.cell? ⟨H, 0, none⟩ = some (.slice a l.length c) := by rw [hW, hH]; exact (row_new w [.slice a l.length c] 35).cell 0 (Nat.succ_pos _)
  have hHW : H < W.heap.size := World.block_lt_of_cell? _ _ c0
  have C0 : Hid (∀ V, Below W.heap.size W V → V.cell? ⟨H, 0, none⟩ = some (.slice a l.length c)) := hide fun V hV => (hV.cell (p := ⟨H, 0, none⟩) hHW).trans c0
  have hAW := h.below (Nat.le_refl _) bW
  have HA : Hid (∀ V, Below W.heap.size W V → IntK.At V a l) := hide fun V hV => hAW.below (Nat.le_refl _) hV
  have LOW := hide (rlow_any (c := c) hAW (by omega) hr)
  have HBW := hide bW
  have HW := hide hW
  have HH := hide hH
  have HL := hide hl
  have HND := hide hr.nodup
  have HSET := hide (acc_set hr)
  have HLEN : Hid (∀ k, (acc s.low (l.take k)).length ≤ 100000000000) := hide fun k => by
    have h1 := acc_length s.low (l.take k) (hr.nodup.sublist (List.take_sublist _ _))
    rw [List.length_take] at h1
    omega
  have CW := hide c0
  clear hW bW h hl hr hAW hHW c0 hH
  go_enter Try.func21, Try.ntmps21
  go_upto_region 1 with fail
  simp only [← unhide HH]
  rw [← unhide HW]
  have c0 := unhide CW
  go_wp2_with fail
  refine (unhide LOW).mono ?_
  rintro e w0 ⟨rfl, b0⟩
  have HB0 := hide b0
  clear b0 LOW c0
  go_wp2_with fail
  go_loopw [4, 5] (fun sl i wr => ∃ (k : Nat) (a1 : Option Addr) (c1 : Nat), i = .int .i64 (k : Int) ∧ k ≤ l.length ∧ sl = .slice a1 (acc s.low (l.take k)).length c1 ∧ IntK.Row wr w.heap.size a1 c1 (acc s.low (l.take k)) ∧ Below W.heap.size W wr) (fun _ i _ => l.length - (RowKit.intOf i).toNat)
  case atStart => exact ⟨0, none, 0, rfl, Nat.zero_le _, rfl, row_none _ _, unhide HB0⟩
  case round =>
    obtain ⟨k, a1, c1, rfl, hk, rfl, hrow, hb⟩ := hrel
    clear HB0
    obtain ⟨wo, rfl⟩ : ∃ wo, wo = wr := ⟨_, rfl⟩
    have c0 := unhide C0 wo hb
    by_cases hlt : k < l.length
    · have g0 : (0 : Int) ≤ (k : Int) := by omega
      have g1 : (k : Int) < (l.length : Int) := by omega
      have hwk : IntKind.i64.wrap ((k : Int) + 1) = (k : Int) + 1 := Go.IntWalk.i64_in _ (by have := unhide HL; omega)
      obtain ⟨x, hx⟩ : ∃ x, l[k]? = some x := ⟨_, List.getElem?_eq_getElem hlt⟩
      have X0 : Hid (∀ V, Below W.heap.size W V → ∃ g o, a = some ⟨g, o, none⟩ ∧ V.cell? ⟨g, o + k, none⟩ = some (.int .i64 x)) := hide fun V hV => by
        obtain ⟨g, o, e, hg, hrg⟩ := (unhide HA V hV).cell intK_law hx
        have z0 := hrg 0 (.int .i64 x) rfl
        simp only [IntK, Nat.mul_one, Nat.add_zero] at z0
        exact ⟨g, o, e, z0⟩
      obtain ⟨g, o, rfl, z0⟩ := unhide X0 wo hb
      have X1 : Hid (∀ V, Below W.heap.size W V → V.cell? ⟨g, o + k, none⟩ = some (.int .i64 x)) := hide fun V hV => by
        obtain ⟨g', o', e, z⟩ := unhide X0 V hV
        cases e
        exact z
      have hsn := acc_snoc s.low (l.take k) x
      rw [← take_snoc hx] at hsn
      by_cases hxl : x ≤ s.low
      · rw [if_pos hxl] at hsn
        have REL := hide (⟨k + 1, a1, c1, rfl, by omega, by rw [hsn], by rw [hsn]; exact hrow, hb⟩ : ∃ (k' : Nat) (a1' : Option Addr) (c1' : Nat), (Value.int .i64 ((k + 1 : Nat) : Int)) = .int .i64 (k' : Int) ∧ k' ≤ l.length ∧ (Value.slice a1 (acc s.low (l.take k)).length c1) = .slice a1' (acc s.low (l.take k')).length c1' ∧ IntK.Row wo w.heap.size a1' c1' (acc s.low (l.take k')) ∧ Below W.heap.size W wo)
        clear hsn hrow hb hx
        go_wp2_with fail
        exact ⟨unhide REL, by simp [RowKit.intOf]; omega⟩
      · rw [if_neg hxl] at hsn
        have XN := hide (fun e => nodup_take (unhide HND) hx (((acc_facts s.low (l.take k)).2 x).1 e).1 : x ∉ acc s.low (l.take k))
        have LA := unhide HLEN k
        obtain ⟨A, hA⟩ : ∃ A, A = acc s.low (l.take k) := ⟨_, rfl⟩
        rw [← hA] at hsn hrow XN LA
        rw [← hA]
        have SN := hide hsn
        have HR := hide hrow
        have HB := hide hb
        have hwB := hb.size
        clear hA hsn hrow hb hx
        go_wp2_with fail
        go_loopw [6] (fun i v => ∃ j : Nat, i = .int .i64 (j : Int) ∧ j ≤ A.length ∧ (∀ y ∈ A.take j, y < x) ∧ Below wo.heap.size wo v) (fun i _ => A.length - (RowKit.intOf i).toNat)
        case atStart => exact ⟨0, rfl, Nat.zero_le _, by simp, Below.refl _ _⟩
        case round =>
          obtain ⟨j, rfl, hj, hall, hbv⟩ := hrel
          clear c0 z0
          have BWr := (unhide HB).trans (hbv.mono hwB)
          have c0 := unhide C0 wr BWr
          have z0 := unhide X1 wr BWr
          have HALL := hide hall
          have HBV := hide hbv
          have j0 : (0 : Int) ≤ (j : Int) := by omega
          have hwj : IntKind.i64.wrap ((j : Int) + 1) = (j : Int) + 1 := Go.IntWalk.i64_in _ (by omega)
          obtain ⟨CL, hCL⟩ : ∃ CL : World → Prop, CL = fun v => Below wr.heap.size wr v := ⟨_, rfl⟩
          have un : ∀ v, CL v → Below wr.heap.size wr v := fun v k => by rw [hCL] at k; exact k
          have base : CL wr.drew := by rw [hCL]; exact (Below.refl _ _).drew
          have ne : Nonempty (SX CL) := ⟨⟨_, base⟩⟩
          have kc : ∀ (q : SX CL) (b i : Nat) (v : Value), wr.cell? ⟨b, i, none⟩ = some v → q.w.cell? ⟨b, i, none⟩ = some v := fun q b i v hv => ((un _ q.ok).cell (p := ⟨b, i, none⟩) (World.block_lt_of_cell? _ _ hv)).trans hv
          have x0 : ∀ q : SX CL, q.w.cell? ⟨H, 0, none⟩ = some (.slice (some ⟨g, o, none⟩) l.length c) := fun q => kc q _ _ _ c0
          have x1 : ∀ q : SX CL, q.w.cell? ⟨g, o + k, none⟩ = some (.int .i64 x) := fun q => kc q _ _ _ z0
          have BS := hide base
          have UN := hide (fun v hv => hbv.trans ((un v hv).mono hbv.size))
          by_cases hjt : j < A.length
          · have j1 : (j : Int) < (A.length : Int) := by omega
            obtain ⟨y, hy⟩ : ∃ y, A[j]? = some y := ⟨_, List.getElem?_eq_getElem hjt⟩
            obtain ⟨g1', o1', rfl, hg1, hrg1⟩ := (row_below (row_below (unhide HR) hbv) (Below.refl _ _)).at_.cell intK_law hy
            have z1 := hrg1 0 (.int .i64 y) rfl
            simp only [IntK, Nat.mul_one, Nat.add_zero] at z1
            have x2 : ∀ q : SX CL, q.w.cell? ⟨g1', o1' + j, none⟩ = some (.int .i64 y) := fun q => kc q _ _ _ z1
            by_cases hyx : y < x
            · have hd : decide (y < x) = true := decide_eq_true hyx
              have NX := hide (fun z hz => by
                rw [take_snoc hy, List.mem_append, List.mem_singleton] at hz
                rcases hz with hz | rfl
                · exact unhide HALL z hz
                · exact hyx : ∀ z ∈ A.take (j + 1), z < x)
              clear hall hbv hCL un base kc hy hg1 hrg1 z1 BWr c0 z0
              go_upto_region 8 with fail
              refine wp_region_sx (St := CL) (by kernel_rfl) (by kernel_rfl) (unhide BS) ?_
              repeat (go_big_quiet_step (fail))
              refine wpQuiet_nil ?_
              first | (rintro v4 ⟨⟨v4', OK4⟩, e4x⟩; subst e4x) | rintro ⟨v4, OK4⟩
              try dsimp only
              have B4 := hide (unhide UN _ OK4)
              clear OK4
              clear x0 x1 x2
              go_wp2_with fail
              exact ⟨⟨j + 1, rfl, by omega, unhide NX, unhide B4⟩, by simp [RowKit.intOf]; omega⟩
            · have hd : decide (y < x) = false := decide_eq_false hyx
              have STOP := hide (fun z hz => by rw [hy] at hz; cases hz; exact hyx : ∀ z, A[j]? = some z → ¬ z < x)
              clear hall hbv hCL un base kc hy hg1 hrg1 z1 BWr c0 z0
              go_upto_region 8 with fail
              refine wp_region_sx (St := CL) (by kernel_rfl) (by kernel_rfl) (unhide BS) ?_
              repeat (go_big_quiet_step (fail))
              refine wpQuiet_nil ?_
              first | (rintro v4 ⟨⟨v4', OK4⟩, e4x⟩; subst e4x) | rintro ⟨v4, OK4⟩
              try dsimp only
              have B4 := hide (unhide UN _ OK4)
              clear OK4
              clear x0 x1 x2
              have TK : Hid (insN x A = A.take j ++ [x] ++ A.drop j) := hide (insN_split hj (unhide HALL) (unhide STOP) (unhide XN))
              have BW4 := (unhide HB).trans ((unhide B4).mono hwB)
              obtain ⟨a3, c3, v3, a5, c5, v5, a6, c6, v6, ap1, ap2, ap3, row6, b43, b45, b46⟩ := three_app (row_below (unhide HR) (unhide B4)) (by have := (unhide HBW).size; have := (unhide B4).size; omega) LA x hj
              have BW3 : Below W.heap.size W v3 := BW4.trans (b43.mono BW4.size)
              have BW6 : Below W.heap.size W v6 := BW4.trans (b46.mono BW4.size)
              have c3' := unhide C0 v3 BW3
              have x3 := unhide X1 v3 BW3
              have hjc : j ≤ c1 := Nat.le_trans hj (row_cap (unhide HR))
              have hst := fun W' => slice_to (some ⟨g1', o1', none⟩) A.length c1 j hjc W'
              have hsf := fun W' => slice_from (some ⟨g1', o1', none⟩) A.length c1 j hj W'
              obtain ⟨A5, hA5⟩ : ∃ A5, A5 = (if c1 = j then (some ⟨g1', o1', none⟩) else (some (⟨g1', o1', none⟩ : Addr)).map (·.add j)) := ⟨_, rfl⟩
              rw [← hA5] at ap3
              simp only [← hA5] at hsf
              have REL := hide (⟨k + 1, a6, c6, rfl, by omega, by rw [unhide SN, unhide TK], by rw [unhide SN, unhide TK]; exact row6, BW6⟩ : ∃ (k' : Nat) (a1' : Option Addr) (c1' : Nat), (Value.int .i64 ((k + 1 : Nat) : Int)) = .int .i64 (k' : Int) ∧ k' ≤ l.length ∧ (Value.slice a6 (A.take j ++ [x] ++ A.drop j).length c6) = .slice a1' (acc s.low (l.take k')).length c1' ∧ IntK.Row v6 w.heap.size a1' c1' (acc s.low (l.take k')) ∧ Below W.heap.size W v6)
              obtain ⟨n6, hn6⟩ : ∃ n6, n6 = (A.take j ++ [x] ++ A.drop j).length := ⟨_, rfl⟩
              rw [← hn6] at ap3 REL
              have AP1 : Hid ((Builtin.append_ #[27, 27] 27 #[.slice none 0 0, .slice (some ⟨g1', o1', none⟩) j c1]).run Try.prog v4 = .ok (.slice a3 j c3) v3) := hide ap1
              have AP2 : Hid ((Builtin.append_ #[27, 27] 27 #[.slice a3 j c3, .slice (some ⟨v3.heap.size, 0, none⟩) 1 1]).run Try.prog (v3.alloc (.cells #[.int .i64 x] 3)) = .ok (.slice a5 (j + 1) c5) v5) := hide ap2
              have AP3 : Hid ((Builtin.append_ #[27, 27] 27 #[.slice a5 (j + 1) c5, .slice A5 (A.length - j) (c1 - j)]).run Try.prog v5 = .ok (.slice a6 n6 c6) v6) := hide ap3
              clear hA5 hn6 ap1 ap2 ap3 row6 b43 b45 b46 BW4 BW3 BW6 TK hjc
              go_upto_region 12 with (at_builtin; refine wpList_app rfl _ _ 27 27 27 rfl rfl rfl rfl (unhide AP1) ?_)
              go_upto_region 13 with (at_builtin; refine wpList_app rfl _ _ 27 27 27 rfl rfl rfl rfl (unhide AP2) ?_)
              go_wp2_with (at_builtin; refine wpList_app rfl _ _ 27 27 27 rfl rfl rfl rfl (unhide AP3) ?_)
              exact ⟨unhide REL, by simp [RowKit.intOf]; omega⟩
          · have hje : j = A.length := by omega
            have j1 : ¬ (j : Int) < (A.length : Int) := by omega
            have hd : decide (j < A.length) = false := decide_eq_false hjt
            have STOP := hide (fun z hz => (by rw [hje, List.getElem?_eq_none (Nat.le_refl _)] at hz; cases hz) : ∀ z, A[j]? = some z → ¬ z < x)
            clear hall hbv hCL un base kc BWr c0 z0 hje
            go_upto_region 8 with fail
            refine wp_region_sx (St := CL) (by kernel_rfl) (by kernel_rfl) (unhide BS) ?_
            repeat (go_big_quiet_step (fail))
            refine wpQuiet_nil ?_
            first | (rintro v4 ⟨⟨v4', OK4⟩, e4x⟩; subst e4x) | rintro ⟨v4, OK4⟩
            try dsimp only
            have B4 := hide (unhide UN _ OK4)
            clear OK4
            clear x0 x1
            have TK : Hid (insN x A = A.take j ++ [x] ++ A.drop j) := hide (insN_split hj (unhide HALL) (unhide STOP) (unhide XN))
            have BW4 := (unhide HB).trans ((unhide B4).mono hwB)
            obtain ⟨a3, c3, v3, a5, c5, v5, a6, c6, v6, ap1, ap2, ap3, row6, b43, b45, b46⟩ := three_app (row_below (unhide HR) (unhide B4)) (by have := (unhide HBW).size; have := (unhide B4).size; omega) LA x hj
            have BW3 : Below W.heap.size W v3 := BW4.trans (b43.mono BW4.size)
            have BW6 : Below W.heap.size W v6 := BW4.trans (b46.mono BW4.size)
            have c3' := unhide C0 v3 BW3
            have x3 := unhide X1 v3 BW3
            have hjc : j ≤ c1 := Nat.le_trans hj (row_cap (unhide HR))
            have hst := fun W' => slice_to a1 A.length c1 j hjc W'
            have hsf := fun W' => slice_from a1 A.length c1 j hj W'
            obtain ⟨A5, hA5⟩ : ∃ A5, A5 = (if c1 = j then a1 else a1.map (·.add j)) := ⟨_, rfl⟩
            rw [← hA5] at ap3
            simp only [← hA5] at hsf
            have REL := hide (⟨k + 1, a6, c6, rfl, by omega, by rw [unhide SN, unhide TK], by rw [unhide SN, unhide TK]; exact row6, BW6⟩ : ∃ (k' : Nat) (a1' : Option Addr) (c1' : Nat), (Value.int .i64 ((k + 1 : Nat) : Int)) = .int .i64 (k' : Int) ∧ k' ≤ l.length ∧ (Value.slice a6 (A.take j ++ [x] ++ A.drop j).length c6) = .slice a1' (acc s.low (l.take k')).length c1' ∧ IntK.Row v6 w.heap.size a1' c1' (acc s.low (l.take k')) ∧ Below W.heap.size W v6)
            obtain ⟨n6, hn6⟩ : ∃ n6, n6 = (A.take j ++ [x] ++ A.drop j).length := ⟨_, rfl⟩
            rw [← hn6] at ap3 REL
            have AP1 : Hid ((Builtin.append_ #[27, 27] 27 #[.slice none 0 0, .slice a1 j c1]).run Try.prog v4 = .ok (.slice a3 j c3) v3) := hide ap1
            have AP2 : Hid ((Builtin.append_ #[27, 27] 27 #[.slice a3 j c3, .slice (some ⟨v3.heap.size, 0, none⟩) 1 1]).run Try.prog (v3.alloc (.cells #[.int .i64 x] 3)) = .ok (.slice a5 (j + 1) c5) v5) := hide ap2
            have AP3 : Hid ((Builtin.append_ #[27, 27] 27 #[.slice a5 (j + 1) c5, .slice A5 (A.length - j) (c1 - j)]).run Try.prog v5 = .ok (.slice a6 n6 c6) v6) := hide ap3
            clear hA5 hn6 ap1 ap2 ap3 row6 b43 b45 b46 BW4 BW3 BW6 TK hjc
            go_upto_region 12 with (at_builtin; refine wpList_app rfl _ _ 27 27 27 rfl rfl rfl rfl (unhide AP1) ?_)
            go_upto_region 13 with (at_builtin; refine wpList_app rfl _ _ 27 27 27 rfl rfl rfl rfl (unhide AP2) ?_)
            go_wp2_with (at_builtin; refine wpList_app rfl _ _ 27 27 27 rfl rfl rfl rfl (unhide AP3) ?_)
            exact ⟨unhide REL, by simp [RowKit.intOf]; omega⟩
    · have hke : k = l.length := by omega
      have FIN : Hid (IntK.Row wo w.heap.size a1 c1 s.set ∧ Below w.heap.size w wo) := hide (by
        rw [hke, List.take_length, unhide HSET] at hrow
        exact ⟨hrow, (unhide HBW).trans (hb.mono (unhide HBW).size)⟩)
      have EQ : Hid (acc s.low (l.take k) = s.set) := hide (by rw [hke, List.take_length, unhide HSET])
      clear hrow hb hke
      rw [unhide EQ]
      go_wp2_with fail
      go_ret
      exact ⟨a1, c1, rfl, (unhide FIN).1, (unhide FIN).2⟩
end Go.Proofs.Ytdmjkbcjljnleaa

/- Many numbers are put; what is missing; whether all came; the set. Conditions: less than 10^12 stand behind the low mark. -/
import Derived.Test.YtdmjkbcjljnleaaSortd
namespace Go.Proofs.Ytdmjkbcjljnleaa
open Go.RowKit

theorem new_any (w : World) : Calls Try.prog 8 #[] w fun e w' => e = .returned (.pointer (some ⟨w.heap.size, 0, none⟩)) ∧ AcIs w' w.heap.size none none0 ∧ Below w.heap.size w w' := by
  have r := row_new w [.int .i64 0, .map none] 49
  have FIN := hide (⟨⟨⟨r.cell 0 (by decide), r.cell 1 (by decide), r.free 0 (by decide), r.free 1 (by decide), .inl ⟨rfl, rfl⟩⟩, fine_none⟩, (Below.refl _ w).alloc (Nat.le_refl _) _⟩ : AcIs (w.alloc (.cells #[.int .i64 0, .map none] 49)) w.heap.size none none0 ∧ Below w.heap.size w (w.alloc (.cells #[.int .i64 0, .map none] 49)))
  clear r
  go_enter Try.func8, Try.ntmps8
  go_wp2_with fail
  go_ret
  exact ⟨rfl, unhide FIN⟩
theorem merge_nil (low : Int) (sv : Value) (w : World) : Calls Try.prog 13 #[.pointer none, .int .i64 low, sv] w fun e w' => e = .returned (.int .i64 0) ∧ w' = w := by
  go_enter Try.func13, Try.ntmps13
  go_wp2
  go_ret
  exact ⟨rfl, rfl⟩
theorem set_nil (w : World) : Calls Try.prog 12 #[.pointer none] w fun e w' => e = .returned (.slice none 0 0) ∧ w' = w := by
  go_enter Try.func12, Try.ntmps12
  go_wp2
  go_ret
  exact ⟨rfl, rfl⟩
theorem missing_nil (n : Int) (w : World) : Calls Try.prog 14 #[.pointer none, .int .i64 n] w fun e w' => e = .returned (.slice none 0 0) ∧ w' = w := by
  go_enter Try.func14, Try.ntmps14
  go_wp2
  go_ret
  exact ⟨rfl, rfl⟩
set_option maxRecDepth 100000 in
theorem set_any {w : World} {B : Nat} {m : Option Nat} {s : AckV} (h : AcIs w B m s) (hl : s.set.length ≤ 1000000000000) :
    Calls Try.prog 12 #[.pointer (some ⟨B, 0, none⟩)] w fun e w' => ∃ a c, e = .returned (.slice a s.set.length c) ∧ IntK.Row w' w.heap.size a c s.set ∧ Below w.heap.size w w' := by
  have c1 := h.1.c1
  have hk := keys_call m w
  have hs := sorted_any h.1.mo h.2.rise hl
  clear h
  go_enter Try.func12, Try.ntmps12
  go_wp2_with fail
  refine hk.mono ?_
  rintro e w1 ⟨rfl, rfl⟩
  go_wp2_with fail
  refine hs.mono ?_
  rintro e w2 ⟨a, c, rfl, hr, hb⟩
  have FIN := hide (⟨hr, hb⟩ : IntK.Row w2 w.heap.size a c s.set ∧ Below w.heap.size w w2)
  clear hr hb hk hs
  go_wp2_with fail
  go_ret
  exact ⟨a, c, rfl, unhide FIN⟩
theorem whole_any {w : World} {B : Nat} {v : Int} (h : w.cell? ⟨B, 0, none⟩ = some (.int .i64 v)) (upto : Int) :
    Calls Try.prog 15 #[.pointer (some ⟨B, 0, none⟩), .int .i64 upto] w fun e w' => e = .returned (.bool (decide (min upto 2147483647 ≤ v))) ∧ w' = w := by
  have hl := low_any h
  go_enter Try.func15, Try.ntmps15
  go_wp2_with fail
  refine hl.mono ?_
  rintro e w' ⟨rfl, hw'⟩
  rw [hw']
  clear hl
  go_wp2_with fail
  go_ret
  exact ⟨rfl, rfl⟩
theorem whole_nil (upto : Int) (w : World) :
    Calls Try.prog 15 #[.pointer none, .int .i64 upto] w fun e w' => e = .returned (.bool (decide (min upto 2147483647 ≤ 0))) ∧ w' = w := by
  have hl := low_nil w
  go_enter Try.func15, Try.ntmps15
  go_wp2_with fail
  refine hl.mono ?_
  rintro e w' ⟨rfl, hw'⟩
  rw [hw']
  clear hl
  go_wp2_with fail
  go_ret
  exact ⟨rfl, rfl⟩
set_option maxRecDepth 100000 in
set_option maxHeartbeats 2000000 in
theorem merge_any {w : World} {B : Nat} {m : Option Nat} {s : AckV} (h : AcIs w B m s) (low : Int) {a : Option Addr} {c : Nat} {l : List Int} (hAt : IntK.At w a l) (hsep : l ≠ [] → ∀ x, a = some x → ¬ SFoot B m x.block) (hin : ∀ x ∈ l, i64 x) (hl : s.total + l.length < 900000000000) :
    Calls Try.prog 13 #[.pointer (some ⟨B, 0, none⟩), .int .i64 low, .slice a l.length c] w fun e w' => e = .returned (.int .i64 (s.news (told low l))) ∧ ∃ m', ADid w w' B m (s.merge low l) m' := by
  have hst := set_total h.2
  have ht0 := Int.le_trans h.2.lo low_total
  have hr := rise_any h (low := min low 1048576) (by omega) (by omega)
  have he : s.rise (min low 1048576) = s.adds (upTo (cut20 low)) := rise_adds h.2 (by omega)
  rw [he] at hr
  have hbnd := total_adds_le s (upTo (cut20 low))
  rw [length_upTo] at hbnd
  have H := hide h
  have HA := hide hAt
  have HS := hide hsep
  have HI := hide hin
  have HT := hide hl
  have HB : Hid ((s.adds (upTo (cut20 low))).total - s.total = s.news (upTo (cut20 low))) := hide rfl
  have TOL : Hid (∀ k, told low (l.take k) = upTo (cut20 low) ++ l.take k) := hide fun _ => rfl
  clear h hAt hsep hin hl hst he hbnd
  go_enter Try.func13, Try.ntmps13
  go_wp2_with fail
  refine hr.mono ?_
  rintro e w1 ⟨rfl, D1⟩
  have ST := hide (⟨0, m, rfl, Nat.zero_le _, by rw [unhide HB]; rw [unhide TOL, List.take_zero, List.append_nil], by rw [unhide TOL, List.take_zero, List.append_nil]; exact D1⟩ : ∃ (k : Nat) (m' : Option Nat), (Value.int .i64 0) = .int .i64 (k : Int) ∧ k ≤ l.length ∧ (Value.int .i64 ((s.adds (upTo (cut20 low))).total - s.total)) = .int .i64 (s.news (told low (l.take k))) ∧ ADid w w1 B m (s.adds (told low (l.take k))) m')
  clear D1 hr
  go_wp2_with fail
  go_loopw [7, 18] (fun f i wr => ∃ (k : Nat) (m' : Option Nat), i = .int .i64 (k : Int) ∧ k ≤ l.length ∧ f = .int .i64 (s.news (told low (l.take k))) ∧ ADid w wr B m (s.adds (told low (l.take k))) m') (fun _ i _ => l.length - (RowKit.intOf i).toNat)
  case atStart => exact unhide ST
  case round =>
    obtain ⟨k, m', rfl, hk, rfl, D⟩ := hrel
    clear ST
    by_cases hlt : k < l.length
    · have g0 : (0 : Int) ≤ (k : Int) := by omega
      have g1 : (k : Int) < (l.length : Int) := by omega
      obtain ⟨x, hx⟩ : ∃ x, l[k]? = some x := ⟨_, List.getElem?_eq_getElem hlt⟩
      have hxi : i64 x := unhide HI x (List.mem_iff_getElem?.2 ⟨k, hx⟩)
      have At2 := (unhide HA).keep D.moved (unhide HS)
      obtain ⟨g, o, rfl, hg, hrg⟩ := At2.cell intK_law hx
      have z0 := hrg 0 (.int .i64 x) rfl
      simp only [IntK, Nat.mul_one, Nat.add_zero] at z0
      have hT := unhide HT
      have hle := total_adds_le s (told low (l.take k))
      have hlen : ((told low (l.take k)).length : Int) ≤ 1048576 + l.length := by
        rw [unhide TOL, List.length_append, length_upTo, List.length_take]
        unfold cut20; omega
      have hadd := add_any D.is_ hxi (by have := set_total D.is_.2; omega)
      have hsn : told low (l.take (k + 1)) = told low (l.take k) ++ [x] := by
        rw [unhide TOL, unhide TOL, List.append_assoc]
        congr 1
        rw [List.take_add_one, hx]; rfl
      have hnx : s.news (told low (l.take (k + 1))) = s.news (told low (l.take k)) + one ((s.adds (told low (l.take k))).fresh x) := by rw [hsn, news_snoc]
      have han : s.adds (told low (l.take (k + 1))) = (s.adds (told low (l.take k))).add x := by rw [hsn, adds_snoc]
      have hn0 := news_le s (told low (l.take k))
      generalize told low (l.take k) = T at *
      have hwk : IntKind.i64.wrap ((k : Int) + 1) = (k : Int) + 1 := Go.IntWalk.i64_in _ (by omega)
      have hwn : IntKind.i64.wrap (s.news T + 1) = s.news T + 1 := Go.IntWalk.i64_in _ (by omega)
      have HD := hide D
      have HNX := hide hnx
      have HAN := hide han
      clear D At2 hg hrg hT hle hlen hsn hnx han hn0
      cases hf : (s.adds T).fresh x with
      | true =>
        rw [hf] at hadd HNX
        clear hf
        go_wp2_with fail
        refine hadd.mono ?_
        rintro e w2 ⟨rfl, m2, D2⟩
        have REL := hide (⟨k + 1, m2, rfl, by omega, by rw [unhide HNX]; rfl, by rw [unhide HAN]; exact (unhide HD).trans D2⟩ : ∃ (k' : Nat) (m'' : Option Nat), (Value.int .i64 ((k + 1 : Nat) : Int)) = .int .i64 (k' : Int) ∧ k' ≤ l.length ∧ (Value.int .i64 (s.news T + 1)) = .int .i64 (s.news (told low (l.take k'))) ∧ ADid w w2 B m (s.adds (told low (l.take k'))) m'')
        clear hadd D2
        go_wp2_with fail
        exact ⟨unhide REL, by simp [RowKit.intOf]; omega⟩
      | false =>
        rw [hf] at hadd HNX
        clear hf
        go_wp2_with fail
        refine hadd.mono ?_
        rintro e w2 ⟨rfl, m2, D2⟩
        have REL := hide (⟨k + 1, m2, rfl, by omega, by rw [unhide HNX]; simp [one], by rw [unhide HAN]; exact (unhide HD).trans D2⟩ : ∃ (k' : Nat) (m'' : Option Nat), (Value.int .i64 ((k + 1 : Nat) : Int)) = .int .i64 (k' : Int) ∧ k' ≤ l.length ∧ (Value.int .i64 (s.news T)) = .int .i64 (s.news (told low (l.take k'))) ∧ ADid w w2 B m (s.adds (told low (l.take k'))) m'')
        clear hadd D2
        go_wp2_with fail
        exact ⟨unhide REL, by simp [RowKit.intOf]; omega⟩
    · have hke : k = l.length := by omega
      subst hke
      rw [List.take_length] at D
      have FIN := hide D
      clear D
      rw [List.take_length]
      go_wp2_with fail
      go_ret
      exact ⟨rfl, m', unhide FIN⟩
set_option maxRecDepth 100000 in
set_option maxHeartbeats 2000000 in
theorem missing_any {w : World} {B : Nat} {m : Option Nat} {s : AckV} (h : AcIs w B m s) {upto : Int} (hu : min upto 1048576 - s.low ≤ 100000) :
    Calls Try.prog 14 #[.pointer (some ⟨B, 0, none⟩), .int .i64 upto] w fun e w' => ∃ a c, e = .returned (.slice a (s.miss (min upto 1048576)).length c) ∧ IntK.Row w' w.heap.size a c (s.miss (min upto 1048576)) ∧ Below w.heap.size w w' := by
  have c0 := h.1.c0
  have hlo := h.2.lo
  have hhi := h.2.hi
  have hw1 : IntKind.i64.wrap (s.low + 1) = s.low + 1 := Go.IntWalk.i64_in _ (by omega)
  obtain ⟨A, hA⟩ : ∃ A, A = w.heap.size := ⟨_, rfl⟩
  have ST := hide (⟨s.low + 1, none, 0, rfl, by omega, .inl rfl, by rw [show s.low + 1 - 1 = s.low by omega, miss_low s (Int.le_refl _)]; rfl, by rw [show s.low + 1 - 1 = s.low by omega, miss_low s (Int.le_refl _)]; exact row_none _ _, by rw [hA]; exact Below.refl _ _⟩ : ∃ (n : Int) (a : Option Addr) (c : Nat), (Value.int .i64 (s.low + 1)) = .int .i64 n ∧ s.low + 1 ≤ n ∧ (n = s.low + 1 ∨ n ≤ min upto 1048576 + 1) ∧ (Value.slice none 0 0) = .slice a (s.miss (n - 1)).length c ∧ IntK.Row w A a c (s.miss (n - 1)) ∧ Below A w w)
  have H := hide h
  have HA := hide hA
  rw [← hA]
  clear h hA
  go_enter Try.func14, Try.ntmps14
  go_wp2_with fail
  clear c0
  go_loopw [5, 6] (fun ms i wr => ∃ (n : Int) (a : Option Addr) (c : Nat), i = .int .i64 n ∧ s.low + 1 ≤ n ∧ (n = s.low + 1 ∨ n ≤ min upto 1048576 + 1) ∧ ms = .slice a (s.miss (n - 1)).length c ∧ IntK.Row wr A a c (s.miss (n - 1)) ∧ Below A w wr) (fun _ i _ => (min upto 1048576 + 1 - RowKit.intOf i).toNat)
  case atStart => exact unhide ST
  case round =>
    obtain ⟨n, a, c, rfl, hn1, hn2, rfl, hrow, hbl⟩ := hrel
    clear ST
    by_cases hlt : n ≤ min upto 1048576
    · have hwn : IntKind.i64.wrap (n + 1) = n + 1 := Go.IntWalk.i64_in _ (by omega)
      have hhas := has_any ((unhide H).1.below (by rw [← unhide HA]; exact hbl)) (unhide H).2.pre (n := n) (by unfold i64; omega)
      have hml := miss_length s hlo (n - 1) (by omega)
      have hbz : A ≤ wr.heap.size := by rw [unhide HA]; exact hbl.size
      have e1 : n + 1 - 1 = n := by omega
      cases hf : s.has n with
      | true =>
        have hf' : AckV.has ⟨s.low, s.set⟩ n = true := hf
        rw [hf'] at hhas
        have hms := miss_had s (by omega) hf
        clear hf hf'
        have HR := hide (⟨hrow, hbl⟩ : IntK.Row wr A a c (s.miss (n - 1)) ∧ Below A w wr)
        clear hrow hbl
        go_wp2_with fail
        refine hhas.mono ?_
        rintro e w2 ⟨rfl, hb⟩
        have REL := hide (⟨n + 1, a, c, rfl, by omega, .inr (by omega), by rw [e1, hms], by rw [e1, hms]; exact row_keep (unhide HR).1 (Moved.of_below (F := fun _ => False) hb) fun _ f => f.elim, (unhide HR).2.trans (hb.mono hbz)⟩ : ∃ (n' : Int) (a' : Option Addr) (c' : Nat), (Value.int .i64 (n + 1)) = .int .i64 n' ∧ s.low + 1 ≤ n' ∧ (n' = s.low + 1 ∨ n' ≤ min upto 1048576 + 1) ∧ (Value.slice a (s.miss (n - 1)).length c) = .slice a' (s.miss (n' - 1)).length c' ∧ IntK.Row w2 A a' c' (s.miss (n' - 1)) ∧ Below A w w2)
        clear hhas hb hms
        go_wp2_with fail
        exact ⟨unhide REL, by simp [RowKit.intOf]; omega⟩
      | false =>
        have hf' : AckV.has ⟨s.low, s.set⟩ n = false := hf
        rw [hf'] at hhas
        have hms := miss_next s (by omega) hf
        have e2 : (s.miss n).length = (s.miss (n - 1)).length + 1 := by rw [hms, List.length_append]; rfl
        clear hf hf'
        have HR := hide (⟨hrow, hbl⟩ : IntK.Row wr A a c (s.miss (n - 1)) ∧ Below A w wr)
        clear hrow hbl
        go_wp2_with fail
        refine hhas.mono ?_
        rintro e w2 ⟨rfl, hb⟩
        have row2 := row_keep (unhide HR).1 (Moved.of_below (F := fun _ => False) hb) fun _ f => f.elim
        obtain ⟨a', c', w9, happ, row9, bel9, _, _⟩ := grow_one intK_law row2 n 3 (by omega) (Nat.le_trans hbz hb.size)
        rw [← hms] at row9
        have REL := hide (⟨n + 1, a', c', rfl, by omega, .inr (by omega), by rw [e1, e2], by rw [e1]; exact row9, ((unhide HR).2.trans (hb.mono hbz)).trans bel9⟩ : ∃ (n' : Int) (a'' : Option Addr) (c'' : Nat), (Value.int .i64 (n + 1)) = .int .i64 n' ∧ s.low + 1 ≤ n' ∧ (n' = s.low + 1 ∨ n' ≤ min upto 1048576 + 1) ∧ (Value.slice a' ((s.miss (n - 1)).length + 1) c') = .slice a'' (s.miss (n' - 1)).length c'' ∧ IntK.Row w9 A a'' c'' (s.miss (n' - 1)) ∧ Below A w w9)
        have HAP : Hid ((Builtin.append_ #[27, 27] 27 #[.slice a (s.miss (n - 1)).length c, .slice (some ⟨w2.heap.size, 0, none⟩) 1 1]).run Try.prog (w2.alloc (.cells #[.int .i64 n] 3)) = .ok (.slice a' ((s.miss (n - 1)).length + 1) c') w9) := hide happ
        clear hhas hb hms row2 happ row9 bel9 e2
        go_wp2_with (at_builtin; refine wpList_app rfl _ _ 27 27 27 rfl rfl rfl rfl (unhide HAP) ?_)
        exact ⟨unhide REL, by simp [RowKit.intOf]; omega⟩
    · have hend : s.miss (n - 1) = s.miss (min upto 1048576) := by
        rcases hn2 with e | e
        · rw [show n - 1 = s.low by omega, miss_low s (Int.le_refl _), miss_low s (by omega)]
        · rw [show n - 1 = min upto 1048576 by omega]
      rw [hend] at hrow
      have FIN := hide (⟨hrow, hbl⟩ : IntK.Row wr A a c (s.miss (min upto 1048576)) ∧ Below A w wr)
      rw [hend]
      clear hrow hbl hend
      go_wp2_with fail
      go_ret
      exact ⟨a, c, rfl, (unhide FIN).1, (unhide FIN).2⟩
end Go.Proofs.Ytdmjkbcjljnleaa

/- The low mark is raised. Conditions: the new one is at most 2^20; less than 10^12 stand behind the elder one. -/
import Derived.Test.YtdmjkbcjljnleaaAdded
namespace Go.Proofs.Ytdmjkbcjljnleaa
open Go.RowKit

def from_ (n : Int) (S : List Int) : List Int := S.filter (fun x => decide (n ≤ x))
theorem from_all {n : Int} {S : List Int} (h : ∀ x ∈ S, n ≤ x) : from_ n S = S := List.filter_eq_self.2 fun a ha => decide_eq_true (h a ha)
theorem from_next {n : Int} {S : List Int} : (from_ n S).filter (fun a => !decide (a = n)) = from_ (n + 1) S := by
  unfold from_
  rw [List.filter_filter]
  refine List.filter_congr fun a _ => ?_
  by_cases h : a = n
  · subst h; simp; omega
  · by_cases h' : n ≤ a
    · rw [decide_eq_true h', decide_eq_true (show n + 1 ≤ a by omega), decide_eq_false h]; rfl
    · rw [decide_eq_false h', decide_eq_false (show ¬ n + 1 ≤ a by omega)]; simp
theorem from_end {n low : Int} {S : List Int} (h1 : n ≤ low + 1) (h2 : low < n ∨ from_ n S = []) : from_ n S = S.filter (fun x => decide (low < x)) := by
  unfold from_ at *
  rcases h2 with h2 | h2
  · refine List.filter_congr fun a _ => ?_
    have : n = low + 1 := by omega
    subst this
    by_cases h : low < a
    · rw [decide_eq_true h, decide_eq_true (show low + 1 ≤ a by omega)]
    · rw [decide_eq_false h, decide_eq_false (show ¬ low + 1 ≤ a by omega)]
  · rw [h2]
    refine (List.filter_eq_nil_iff.2 fun a ha => ?_).symm
    have := List.filter_eq_nil_iff.1 h2 a ha
    simp at this ⊢
    omega
theorem from_length (n : Int) (S : List Int) : (from_ n S).length ≤ S.length := List.length_filter_le _ _
set_option maxRecDepth 100000 in
set_option maxHeartbeats 2000000 in
theorem rise_any {w : World} {B : Nat} {m : Option Nat} {s : AckV} (h : AcIs w B m s) {low : Int} (hh : low ≤ 1048576) (hl : s.set.length < 1000000000000) :
    Calls Try.prog 29 #[.pointer (some ⟨B, 0, none⟩), .int .i64 low] w fun e w' => e = .returned (.int .i64 ((s.rise low).total - s.total)) ∧ ADid w w' B m (s.rise low) m := by
  have c0 := h.1.c0
  have c1 := h.1.c1
  have hp := h.2.lo
  by_cases hlo : low ≤ s.low
  · have e : Hid ((s.rise low).total - s.total = 0) := hide (by unfold AckV.rise; rw [if_pos hlo]; omega)
    have FIN := hide (show ADid w w B m (s.rise low) m by unfold AckV.rise; rw [if_pos hlo]; exact .same h (Below.refl _ _))
    clear h
    go_enter Try.func29, Try.ntmps29
    go_wp2_with fail
    go_ret
    exact ⟨by rw [unhide e]; rfl, unhide FIN⟩
  · have hw1 : IntKind.i64.wrap (s.low + 1) = s.low + 1 := Go.IntWalk.i64_in _ (by omega)
    have len0 := h.1.mo.len 3
    have ST := hide (⟨s.low + 1, rfl, by omega, by omega, by rw [from_all fun x hx => by have := h.2.beh x hx; omega]; exact h.1, Moved.refl _ _⟩ : ∃ n : Int, (Value.int .i64 (s.low + 1)) = .int .i64 n ∧ s.low + 1 ≤ n ∧ n ≤ low + 1 ∧ AcAt w B m s.low (from_ n s.set) ∧ Moved (SFoot B m) w w)
    have HF := hide h.2
    have HLO : Hid (s.low < low) := hide (Int.not_le.1 hlo)
    have HLT := hide h.1.lt
    clear h
    go_enter Try.func29, Try.ntmps29
    go_wp2_with fail
    clear len0 c0 c1
    go_loopw [6] (fun i wr => ∃ n : Int, i = .int .i64 n ∧ s.low + 1 ≤ n ∧ n ≤ low + 1 ∧ AcAt wr B m s.low (from_ n s.set) ∧ Moved (SFoot B m) w wr) (fun i _ => (low + 1 - RowKit.intOf i).toNat)
    case atStart => exact unhide ST
    case round =>
      obtain ⟨n, rfl, hn1, hn2, h, hm⟩ := hrel
      clear ST
      have c1 := h.c1
      have len1 := h.mo.len 3
      have hL := from_length n s.set
      by_cases hgo : n ≤ low ∧ from_ n s.set ≠ []
      · obtain ⟨g1, g2⟩ := hgo
        obtain ⟨b, rfl⟩ : ∃ b, m = some b := by
          rcases h.mo with ⟨_, h0⟩ | ⟨b, h0, _⟩
          · exact absurd h0 g2
          · exact ⟨b, h0⟩
        obtain ⟨w2, hd, h2, m2⟩ := h.drop (q := n) (by unfold i64; omega)
        rw [from_next] at h2
        have hpos : 0 < (from_ n s.set).length := List.length_pos_iff.2 g2
        have hw2 : IntKind.i64.wrap (n + 1) = n + 1 := Go.IntWalk.i64_in _ (by omega)
        have REL := hide (⟨n + 1, rfl, by omega, by omega, h2, hm.trans m2 fun i f => .inl f⟩ : ∃ n' : Int, (Value.int .i64 (n + 1)) = .int .i64 n' ∧ s.low + 1 ≤ n' ∧ n' ≤ low + 1 ∧ AcAt w2 B (some b) s.low (from_ n' s.set) ∧ Moved (SFoot B (some b)) w w2)
        generalize from_ n s.set = X at *
        have hpos' : (0 : Int) < (X.length : Int) := by omega
        clear h hm h2 m2 hL hpos g2
        go_wp2_with fail
        exact ⟨unhide REL, by simp [RowKit.intOf]; omega⟩
      · have hend : low < n ∨ from_ n s.set = [] := by
          by_cases h1 : n ≤ low
          · exact .inr (Classical.not_not.1 fun h2 => hgo ⟨h1, h2⟩)
          · exact .inl (by omega)
        have hset := from_end hn2 hend
        obtain ⟨V, hV⟩ : ∃ V, V = wr.drew := ⟨_, rfl⟩
        have mV : Moved (SFoot B m) w V := by rw [hV]; exact hm.drew
        have aV : AcAt V B m s.low (from_ n s.set) := by rw [hV]; exact h.keep (Moved.refl (fun _ => False) wr).drew id fun _ _ => id
        obtain ⟨h3, m3⟩ := aV.setLow low
        have hf := follow_any h3 (by rw [hset]; exact pre_rise (unhide HF) (Int.not_le.2 (unhide HLO)) hh)
        have c0 := aV.c0
        have f0 := aV.f0
        have TOT : Hid ((s.rise low).total - s.total = low - s.low - ((s.set.length : Int) - ((from_ n s.set).length : Int))) := hide (by
          unfold AckV.rise; rw [if_neg (Int.not_le.2 (unhide HLO)), norm_total, hset]; unfold AckV.total; omega)
        have RI : Hid (norm low (from_ n s.set) = s.rise low) := hide (by rw [hset]; unfold AckV.rise; rw [if_neg (Int.not_le.2 (unhide HLO))])
        have MV := hide (mV.trans m3 fun i f => .inl f)
        have FR : Hid (Fine (s.rise low)) := hide (by rw [rise_adds (unhide HF) hh]; exact (unhide HF).adds _)
        obtain ⟨CL, hCL⟩ : ∃ CL : World → Prop, CL = fun v => v = V := ⟨_, rfl⟩
        have base : CL wr.drew := by rw [hCL, hV]
        have un : ∀ v, CL v → v = V := fun v k => by rw [hCL] at k; exact k
        have ne : Nonempty (SX CL) := ⟨⟨_, base⟩⟩
        have x0 : ∀ q : SX CL, q.w.cell? ⟨B, 0, none⟩ = some (.int .i64 s.low) := fun q => by rw [un _ q.ok]; exact aV.c0
        have x1 : ∀ q : SX CL, q.w.cell? ⟨B, 1, none⟩ = some (.map m) := fun q => by rw [un _ q.ok]; exact aV.c1
        have xl : ∀ q : SX CL, (Builtin.len_ #[47] 3 #[.map m]).run Try.prog q.w = .ok (.int .i64 (from_ n s.set).length) q.w := fun q => by rw [un _ q.ok]; exact aV.mo.len 3
        have BS := hide base
        have UN := hide un
        have hne : ¬ n ≤ low ∨ (from_ n s.set).length = 0 := by
          rcases hend with e | e
          · exact .inl (by omega)
          · exact .inr (by rw [e]; rfl)
        clear h hm h3 m3 hset hgo hCL base un hV mV aV hend
        generalize hXe : from_ n s.set = X at *
        have hws1 : IntKind.i64.wrap (low - s.low) = low - s.low := Go.IntWalk.i64_in _ (by omega)
        have hws2 : IntKind.i64.wrap ((s.set.length : Int) - (X.length : Int)) = (s.set.length : Int) - (X.length : Int) := Go.IntWalk.i64_in _ (by omega)
        have hws3 : IntKind.i64.wrap (low - s.low - ((s.set.length : Int) - (X.length : Int))) = low - s.low - ((s.set.length : Int) - (X.length : Int)) := Go.IntWalk.i64_in _ (by omega)
        clear hXe
        by_cases h1 : n ≤ low
        · have h2 : X.length = 0 := by
            rcases hne with e | e
            · exact absurd h1 e
            · exact e
          have h3 : X = [] := List.length_eq_zero_iff.1 h2
          subst h3
          clear hne h2
          simp only [List.length_nil] at len1 xl hws2 hws3 hL
          go_upto_region 8 with fail
          refine wp_region_sx (St := CL) (by kernel_rfl) (by kernel_rfl) (unhide BS) ?_
          repeat (go_big_quiet_step (fail))
          refine wpQuiet_nil ?_
          first | (rintro v4 ⟨⟨v4', OK4⟩, e4x⟩; subst e4x) | rintro ⟨v4, OK4⟩
          try dsimp only
          obtain rfl := unhide UN _ OK4
          clear OK4 x0 x1 xl BS UN ne len1 c1
          go_wp2_with fail
          refine hf.mono ?_
          rintro e w3 ⟨rfl, a3, m4⟩
          rw [unhide RI] at a3
          have FIN := hide (⟨⟨a3, unhide FR⟩, (unhide MV).trans m4 fun i f => .inl f, fun _ e => .inl e⟩ : ADid w w3 B m (s.rise low) m)
          clear hf a3 m4
          go_wp2_with fail
          go_ret
          exact ⟨by rw [unhide TOT]; rfl, unhide FIN⟩
        · clear hne
          go_upto_region 8 with fail
          refine wp_region_sx (St := CL) (by kernel_rfl) (by kernel_rfl) (unhide BS) ?_
          repeat (go_big_quiet_step (fail))
          refine wpQuiet_nil ?_
          first | (rintro v4 ⟨⟨v4', OK4⟩, e4x⟩; subst e4x) | rintro ⟨v4, OK4⟩
          try dsimp only
          obtain rfl := unhide UN _ OK4
          clear OK4 x0 x1 xl BS UN ne len1 c1
          go_wp2_with fail
          refine hf.mono ?_
          rintro e w3 ⟨rfl, a3, m4⟩
          rw [unhide RI] at a3
          have FIN := hide (⟨⟨a3, unhide FR⟩, (unhide MV).trans m4 fun i f => .inl f, fun _ e => .inl e⟩ : ADid w w3 B m (s.rise low) m)
          clear hf a3 m4
          go_wp2_with fail
          go_ret
          exact ⟨by rw [unhide TOT]; rfl, unhide FIN⟩
end Go.Proofs.Ytdmjkbcjljnleaa

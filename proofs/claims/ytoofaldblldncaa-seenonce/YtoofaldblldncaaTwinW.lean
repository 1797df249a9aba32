/- SeenTwin's walk. No conditions. -/
import Derived.Test.YtoofaldblldncaaSames
namespace Go.Proofs.Ytoofaldblldncaa
open Go.RowKit
theorem HR.front {w0 v : World} {r : Held} {S : List Held} (L : List Held) (h : HR w0 v (L ++ r :: S)) : HR w0 v (r :: (L ++ S)) := h.perm List.perm_middle
theorem HR.retab {w0 v : World} {p : Nat} {F : Nat → Prop} {T U : Tab} {R : List Held} (h : HR w0 v (hTab p F T :: R)) (e : ∀ i, i < 4 → T i = U i) : HR w0 v (hTab p F U :: R) :=
  h.turn (r := hTab p F T) (r' := hTab p F U) (Moved.refl _ _) ((h.tab List.mem_cons_self).congr e) (fun _ hk => .inl hk)
/-- A row's entries of the source 0. -/
def zeros (l : List Ent) : List Ent := l.filter fun x => decide (x.src = 0)
theorem zeros_ents (k : Nat) (l : Codes) : zeros (ents k l) = if k = 0 then ents k l else [] := by
  unfold zeros
  split
  · rename_i h
    exact List.filter_eq_self.2 fun x hx => by rw [(mem_ents.1 hx).1, h]; rfl
  · rename_i h
    exact List.filter_eq_nil_iff.2 fun x hx => by rw [(mem_ents.1 hx).1]; simp [h]
theorem zeros_all (T : Tab) : zeros (all T) = ents 0 (T 0).codes := by
  have h : ∀ n, zeros (allTo T (n + 1)) = ents 0 (T 0).codes := fun n => by
    induction n with
    | zero => show zeros ([] ++ ents 0 (T 0).codes) = _; rw [List.nil_append, zeros_ents, if_pos rfl]
    | succ n ih =>
      have e : zeros (allTo T (n + 2)) = zeros (allTo T (n + 1)) ++ zeros (ents (n + 1) (T (n + 1)).codes) := List.filter_append ..
      rw [e, ih, zeros_ents, if_neg (by omega), List.append_nil]
  exact h 3
theorem zeros_snoc_yes {l : List Ent} {k : Nat} {x : Ent} (h : l[k]? = some x) (h0 : x.src = 0) : zeros (l.take (k + 1)) = zeros (l.take k) ++ [x] := by
  unfold zeros; rw [take_snoc h, List.filter_append]; simp [h0]
theorem zeros_snoc_no {l : List Ent} {k : Nat} {x : Ent} (h : l[k]? = some x) (h0 : ¬ x.src = 0) : zeros (l.take (k + 1)) = zeros (l.take k) := by
  unfold zeros; rw [take_snoc h, List.filter_append]; simp [h0]
theorem zeros_len (l : List Ent) (k : Nat) : (zeros (l.take k)).length ≤ l.length := by
  unfold zeros
  have h1 := List.length_filter_le (fun x : Ent => decide (x.src = 0)) (l.take k)
  have h2 : (l.take k).length ≤ l.length := by rw [List.length_take]; omega
  omega
set_option maxRecDepth 100000 in
set_option maxHeartbeats 8000000 in
theorem twinw_small (a1 : Option Addr) (cap1 : Nat) (z1 : List ActV) (a2 : Option Addr) (cap2 : Nat) (z2 : List ActV) (w : World) (hA1 : ActK.At w a1 z1) (hA2 : ActK.At w a2 z2) (hn1 : z1.length ≤ 300) (hn2 : z2.length ≤ 300) :
    Calls Try.prog 6 #[.slice a1 z1.length cap1, .slice a2 z2.length cap2] w fun e w' => e = .returned (.bool true) ∧ Below w.heap.size w w' := by
  have H0 := hide (HR.start w)
  have gz1 : ¬ (300 : Int) < (z1.length : Int) := by omega
  have gz2 : ¬ (300 : Int) < (z2.length : Int) := by omega
  have HA1 := hide hA1
  have HA2 := hide hA2
  have HN1 : Hid (z1.length ≤ 1000) := hide (by omega)
  have HN2 : Hid (z2.length ≤ 1000) := hide (by omega)
  clear hA1 hA2
  go_enter Try.func6, Try.ntmps6
  go_wp2_with fail
  refine (HR.new (unhide H0)).mono ?_
  rintro e w1 ⟨s, F1, rfl, h⟩
  have H1 := hide h
  clear h H0
  go_wp2_with fail
  refine (plays_any (unhide H1) new_ok (unhide HA1) (unhide HN1) (-1)).mono ?_
  rintro e w2 ⟨rfl, Fs, h⟩
  obtain ⟨S, hS⟩ : ∃ S, S = plays new_ z1 (-1) := ⟨_, rfl⟩
  rw [← hS] at h
  have OS : Hid S.Ok := hide (by rw [hS]; exact plays_ok new_ok _ _)
  have H2 := hide h
  clear h hS H1
  obtain ⟨B, hB⟩ : ∃ B, B = plays S z2 (-1) := ⟨_, rfl⟩
  obtain ⟨V, hV⟩ : ∃ V, V = plays S z2 0 := ⟨_, rfl⟩
  have HBB := hide hB
  have HVV := hide hV
  have OB : Hid B.Ok := hide (by rw [hB]; exact plays_ok (unhide OS) _ _)
  have OV : Hid V.Ok := hide (by rw [hV]; exact plays_ok (unhide OS) _ _)
  have ZE : Hid (zeros (all B) = zeros (all V)) := hide (by rw [zeros_all, zeros_all, hB, hV, plays_zero (T := S) (U := S) rfl])
  clear hB hV
  go_wp2_with fail
  refine ((unhide H2).twin List.mem_cons_self).mono ?_
  rintro e w3 ⟨t, F3, rfl, h⟩
  have H3 := hide h
  clear h H2
  go_wp2_with fail
  refine ((unhide H3).lows (List.mem_cons_of_mem _ List.mem_cons_self)).mono ?_
  rintro e w4 ⟨al, cl, rfl, h⟩
  have H4 := hide h
  clear h H3
  go_wp2_with fail
  refine ((unhide H4).all (List.mem_cons_of_mem _ (List.mem_cons_of_mem _ List.mem_cons_self)) (unhide OS)).mono ?_
  rintro e w5 ⟨aa, ca, rfl, h⟩
  have H5 := hide h
  clear h H4
  have C5 := hide ((unhide H5).of (c := cl) (d := ca) ((unhide H5).row (List.mem_cons_of_mem _ List.mem_cons_self) : IntK.At w5 al (lows S)) ((unhide H5).row List.mem_cons_self : EntK.At w5 aa (all S)) (by have := all_length (unhide OS); omega))
  have LL : Hid (Calls Try.prog 10 #[.slice al 4 cl, .slice aa (all S).length ca] w5 fun e v' => ∃ q F, e = .returned (.tuple #[.pointer (some ⟨q, 0, none⟩), .int .i64 0]) ∧ HR w v' (hTab q F S :: hRow EntK aa ca (all S) :: hRow IntK al cl (lows S) :: hTab t F3 S :: hTab s Fs S :: [])) := hide ((unhide C5).mono fun e v' h => by
    rcases h with ⟨_, q, F, e1, e2⟩ | ⟨hb, _⟩
    · exact ⟨q, F, e1, e2.retab fun i hi => keeps_all (unhide OS) hi⟩
    · rw [good_all (unhide OS)] at hb; cases hb)
  clear C5 H5
  go_wp2_with fail
  refine (unhide LL).mono ?_
  rintro e w6 ⟨u, F6, rfl, h⟩
  have H6 := hide (h.front (r := hTab t F3 S) [hTab u F6 S, hRow EntK aa ca (all S), hRow IntK al cl (lows S)])
  clear h LL
  go_wp2_with fail
  refine (plays_any (unhide H6) (unhide OS) (unhide HA2) (unhide HN2) (-1)).mono ?_
  rintro e w7 ⟨rfl, Ft, h⟩
  rw [← unhide HBB] at h
  have H7 : Hid (HR w w7 (hTab t Ft B :: hTab u F6 S :: hRow EntK aa ca (all S) :: hRow IntK al cl (lows S) :: hTab s Fs S :: [])) := hide h
  clear h H6
  go_wp2_with fail
  refine ((unhide H7).all (List.mem_cons_of_mem _ (List.mem_cons_of_mem _ (List.mem_cons_of_mem _ (List.mem_cons_of_mem _ List.mem_cons_self)))) (unhide OS)).mono ?_
  rintro e w8 ⟨a8, c8, rfl, h⟩
  have H8 := hide h
  clear h H7
  go_wp2_with fail
  refine (same_any ((unhide H8).row List.mem_cons_self) ((unhide H8).row (List.mem_cons_of_mem _ (List.mem_cons_of_mem _ (List.mem_cons_of_mem _ List.mem_cons_self)))) (by have := all_length (unhide OS); omega)).mono ?_
  rintro e w9 ⟨rfl, hb⟩
  rw [sameL_iff.2 rfl]
  have H9 := hide (HR.front (r := hTab u F6 S) [hTab t Ft B] ((unhide H8).drop1.below hb))
  clear hb H8
  go_wp2_with fail
  refine (plays_any (unhide H9) (unhide OS) (unhide HA2) (unhide HN2) (-1)).mono ?_
  rintro e w10 ⟨rfl, Fu, h⟩
  rw [← unhide HBB] at h
  have H10 : Hid (HR w w10 (hTab u Fu B :: hTab t Ft B :: hRow EntK aa ca (all S) :: hRow IntK al cl (lows S) :: hTab s Fs S :: [])) := hide h
  clear h H9
  go_wp2_with fail
  refine ((unhide H10).twin (List.mem_cons_of_mem _ (List.mem_cons_of_mem _ (List.mem_cons_of_mem _ (List.mem_cons_of_mem _ List.mem_cons_self))))).mono ?_
  rintro e w11 ⟨v, F11, rfl, h⟩
  have H11 := hide h
  clear h H10
  go_wp2_with fail
  refine (plays_any (unhide H11) (unhide OS) (unhide HA2) (unhide HN2) 0).mono ?_
  rintro e w12 ⟨rfl, Fv, h⟩
  rw [← unhide HVV] at h
  have H12 : Hid (HR w w12 (hTab v Fv V :: hTab u Fu B :: hTab t Ft B :: hRow EntK aa ca (all S) :: hRow IntK al cl (lows S) :: hTab s Fs S :: [])) := hide h
  clear h H11 HA1 HA2 HN1 HN2 HBB HVV
  go_wp2_with fail
  go_loopw [12, 13] (fun lv i wr => ∃ (k : Nat) (a : Option Addr) (c : Nat), i = .int .i64 (k : Int) ∧ k ≤ (all B).length ∧ lv = .slice a (zeros ((all B).take k)).length c ∧ HR w wr (hRow EntK a c (zeros ((all B).take k)) :: hTab v Fv V :: hTab u Fu B :: hTab t Ft B :: hRow EntK aa ca (all S) :: hRow IntK al cl (lows S) :: hTab s Fs S :: [])) (fun _ i _ => (all B).length - (intOf i).toNat)
  case atStart => exact ⟨0, none, 0, rfl, Nat.zero_le _, by rw [List.take_zero]; rfl, by rw [List.take_zero]; exact (unhide H12).none EntK⟩
  case round =>
    obtain ⟨k, a, c, rfl, hk, rfl, hr⟩ := hrel
    clear H12
    have HH := hide hr
    have HZL := hide (zeros_len (all B) k)
    have HAL := hide (all_length (unhide OB))
    clear hr
    have g0 : (0 : Int) ≤ (k : Int) := by omega
    have hwk : IntKind.i64.wrap ((k : Int) + 1) = (k : Int) + 1 := Go.IntWalk.i64_in _ (by have := unhide HAL; omega)
    generalize hn0 : (zeros ((all B).take k)).length = n0
    have HN0 := hide hn0
    clear hn0
    go_wp2_with fail
    refine ((unhide HH).all (List.mem_cons_of_mem _ (List.mem_cons_of_mem _ (List.mem_cons_of_mem _ List.mem_cons_self))) (unhide OB)).mono ?_
    rintro e x1 ⟨b1, d1, rfl, h⟩
    have HX := hide h.drop1
    clear h HH
    by_cases hlt : k < (all B).length
    · have g1 : (k : Int) < ((all B).length : Int) := by omega
      obtain ⟨x, hx⟩ : ∃ x, (all B)[k]? = some x := ⟨_, List.getElem?_eq_getElem hlt⟩
      go_wp2_with fail
      refine ((unhide HX).all (List.mem_cons_of_mem _ (List.mem_cons_of_mem _ (List.mem_cons_of_mem _ List.mem_cons_self))) (unhide OB)).mono ?_
      rintro e x2 ⟨b2, d2, rfl, h⟩
      obtain ⟨g, o, rfl, hg, hrg⟩ := (h.row List.mem_cons_self : EntK.At x2 b2 (all B)).cell entK_law hx
      have hc0 := hrg 0 (.int .i64 x.src) rfl
      simp only [EntK, Nat.add_zero] at hc0
      have HY := hide h.drop1
      clear h HX hg hrg
      by_cases h0 : x.src = 0
      · have HZ := hide (zeros_snoc_yes hx h0)
        go_wp2_with fail
        refine ((unhide HY).all (List.mem_cons_of_mem _ (List.mem_cons_of_mem _ (List.mem_cons_of_mem _ List.mem_cons_self))) (unhide OB)).mono ?_
        rintro e x3 ⟨b3, d3, rfl, h⟩
        clear h0
        obtain ⟨g', o', rfl, hg', hrg'⟩ := (h.row List.mem_cons_self : EntK.At x3 b3 (all B)).cell entK_law hx
        obtain ⟨a', c', w9, happ, h9⟩ := HR.grow entK_law h.drop1 x 53 (by have := unhide HZL; have := unhide HAL; omega)
        rw [unhide HN0] at happ
        rw [← unhide HZ] at h9
        have RG : Hid (x3.rangeAt g' (o' + k * 3) (entV x)) := hide hrg'
        have H9 := hide h9
        have HLZ : Hid ((zeros ((all B).take (k + 1))).length = n0 + 1) := hide (by rw [unhide HZ, List.length_append, unhide HN0]; rfl)
        obtain ⟨xs, xq, xc⟩ := x
        have HAP : Hid ((Builtin.append_ #[30, 30] 30 #[.slice a n0 c, .slice (some ⟨x3.heap.size, 0, none⟩) 1 1]).run Try.prog (x3.alloc (.cells #[.int .i64 xs, .int .i64 xq, .int .i64 xc] 53)) = .ok (.slice a' (n0 + 1) c') w9) := hide happ
        clear h HY hg' hrg' h9 happ hx hc0
        go_wp2_with (first | (refine wpList_load_on rfl 53 (.tmp 81) rfl g' (o' + k * 3) rfl [.int .i64 xs, .int .i64 xq, .int .i64 xc] _ (unhide RG) Try.underlying53 rfl (by kernel_rfl) ?_) | (at_builtin; refine wpList_app rfl _ _ 30 30 30 rfl rfl rfl rfl (unhide HAP) ?_))
        exact ⟨⟨k + 1, a', c', rfl, by omega, by rw [unhide HLZ], unhide H9⟩, by simp [intOf]; omega⟩
      · have HZ := hide (zeros_snoc_no hx h0)
        have HR9 : Hid (HR w x2 (hRow EntK a c (zeros ((all B).take (k + 1))) :: hTab v Fv V :: hTab u Fu B :: hTab t Ft B :: hRow EntK aa ca (all S) :: hRow IntK al cl (lows S) :: hTab s Fs S :: [])) := hide (by rw [unhide HZ]; exact unhide HY)
        have HLZ : Hid ((zeros ((all B).take (k + 1))).length = n0) := hide (by rw [unhide HZ, unhide HN0])
        clear HY hx
        go_wp2_with fail
        exact ⟨⟨k + 1, a, c, rfl, by omega, by rw [unhide HLZ], unhide HR9⟩, by simp [intOf]; omega⟩
    · have hke : k = (all B).length := by omega
      have HR9 : Hid (HR w x1 (hRow EntK a c (zeros (all B)) :: hTab v Fv V :: hTab u Fu B :: hTab t Ft B :: hRow EntK aa ca (all S) :: hRow IntK al cl (lows S) :: hTab s Fs S :: [])) := hide (by have := unhide HX; rw [hke, List.take_length] at this; exact this)
      have HLZ : Hid (n0 = (zeros (all B)).length) := hide (by rw [← unhide HN0, hke, List.take_length])
      have gk : ¬ (k : Int) < ((all B).length : Int) := by omega
      have gkd : decide (k < (all B).length) = false := decide_eq_false (by omega)
      rw [unhide HLZ]
      clear HX HZL hke HN0 HLZ g0 hwk hlt
      go_wp2_with fail
      go_loopw [14, 15] (fun lv i wr => ∃ (k : Nat) (a_ : Option Addr) (c_ : Nat), i = .int .i64 (k : Int) ∧ k ≤ (all V).length ∧ lv = .slice a_ (zeros ((all V).take k)).length c_ ∧ HR w wr (hRow EntK a_ c_ (zeros ((all V).take k)) :: hRow EntK a c (zeros (all B)) :: hTab v Fv V :: hTab u Fu B :: hTab t Ft B :: hRow EntK aa ca (all S) :: hRow IntK al cl (lows S) :: hTab s Fs S :: [])) (fun _ i _ => (all V).length - (intOf i).toNat)
      case atStart => exact ⟨0, none, 0, rfl, Nat.zero_le _, by rw [List.take_zero]; rfl, by rw [List.take_zero]; exact (unhide HR9).none EntK⟩
      case round =>
        obtain ⟨k2, a2', c2', rfl, hk2, rfl, hr⟩ := hrel
        clear HR9
        have HH := hide hr
        have HZL := hide (zeros_len (all V) k2)
        have HAL := hide (all_length (unhide OV))
        clear hr
        have g0 : (0 : Int) ≤ (k2 : Int) := by omega
        have hwk : IntKind.i64.wrap ((k2 : Int) + 1) = (k2 : Int) + 1 := Go.IntWalk.i64_in _ (by have := unhide HAL; omega)
        generalize hn1 : (zeros ((all V).take k2)).length = n1
        have HN1 := hide hn1
        clear hn1
        go_wp2_with fail
        refine ((unhide HH).all (List.mem_cons_of_mem _ (List.mem_cons_of_mem _ List.mem_cons_self)) (unhide OV)).mono ?_
        rintro e x1 ⟨b1, d1, rfl, h⟩
        have HX := hide h.drop1
        clear h HH
        by_cases hlt : k2 < (all V).length
        · have g1 : (k2 : Int) < ((all V).length : Int) := by omega
          obtain ⟨x, hx⟩ : ∃ x, (all V)[k2]? = some x := ⟨_, List.getElem?_eq_getElem hlt⟩
          go_wp2_with fail
          refine ((unhide HX).all (List.mem_cons_of_mem _ (List.mem_cons_of_mem _ List.mem_cons_self)) (unhide OV)).mono ?_
          rintro e x2 ⟨b2, d2, rfl, h⟩
          obtain ⟨g, o, rfl, hg, hrg⟩ := (h.row List.mem_cons_self : EntK.At x2 b2 (all V)).cell entK_law hx
          have hc0 := hrg 0 (.int .i64 x.src) rfl
          simp only [EntK, Nat.add_zero] at hc0
          have HY := hide h.drop1
          clear h HX hg hrg
          by_cases h0 : x.src = 0
          · have HZ := hide (zeros_snoc_yes hx h0)
            go_wp2_with fail
            refine ((unhide HY).all (List.mem_cons_of_mem _ (List.mem_cons_of_mem _ List.mem_cons_self)) (unhide OV)).mono ?_
            rintro e x3 ⟨b3, d3, rfl, h⟩
            clear h0
            obtain ⟨g', o', rfl, hg', hrg'⟩ := (h.row List.mem_cons_self : EntK.At x3 b3 (all V)).cell entK_law hx
            obtain ⟨a', c', w9, happ, h9⟩ := HR.grow entK_law h.drop1 x 53 (by have := unhide HZL; have := unhide HAL; omega)
            rw [unhide HN1] at happ
            rw [← unhide HZ] at h9
            have RG : Hid (x3.rangeAt g' (o' + k2 * 3) (entV x)) := hide hrg'
            have H9 := hide h9
            have HLZ : Hid ((zeros ((all V).take (k2 + 1))).length = n1 + 1) := hide (by rw [unhide HZ, List.length_append, unhide HN1]; rfl)
            obtain ⟨xs, xq, xc⟩ := x
            have HAP : Hid ((Builtin.append_ #[30, 30] 30 #[.slice a2' n1 c2', .slice (some ⟨x3.heap.size, 0, none⟩) 1 1]).run Try.prog (x3.alloc (.cells #[.int .i64 xs, .int .i64 xq, .int .i64 xc] 53)) = .ok (.slice a' (n1 + 1) c') w9) := hide happ
            clear h HY hg' hrg' h9 happ hx hc0
            go_wp2_with (first | (refine wpList_load_on rfl 53 (.tmp 103) rfl g' (o' + k2 * 3) rfl [.int .i64 xs, .int .i64 xq, .int .i64 xc] _ (unhide RG) Try.underlying53 rfl (by kernel_rfl) ?_) | (at_builtin; refine wpList_app rfl _ _ 30 30 30 rfl rfl rfl rfl (unhide HAP) ?_))
            exact ⟨⟨k2 + 1, a', c', rfl, by omega, by rw [unhide HLZ], unhide H9⟩, by simp [intOf]; omega⟩
          · have HZ := hide (zeros_snoc_no hx h0)
            have HS9 : Hid (HR w x2 (hRow EntK a2' c2' (zeros ((all V).take (k2 + 1))) :: hRow EntK a c (zeros (all B)) :: hTab v Fv V :: hTab u Fu B :: hTab t Ft B :: hRow EntK aa ca (all S) :: hRow IntK al cl (lows S) :: hTab s Fs S :: [])) := hide (by rw [unhide HZ]; exact unhide HY)
            have HLZ : Hid ((zeros ((all V).take (k2 + 1))).length = n1) := hide (by rw [unhide HZ, unhide HN1])
            clear HY hx
            go_wp2_with fail
            exact ⟨⟨k2 + 1, a2', c2', rfl, by omega, by rw [unhide HLZ], unhide HS9⟩, by simp [intOf]; omega⟩
        · have hke : k2 = (all V).length := by omega
          have HS9 : Hid (HR w x1 (hRow EntK a2' c2' (zeros (all V)) :: hRow EntK a c (zeros (all B)) :: hTab v Fv V :: hTab u Fu B :: hTab t Ft B :: hRow EntK aa ca (all S) :: hRow IntK al cl (lows S) :: hTab s Fs S :: [])) := hide (by have := unhide HX; rw [hke, List.take_length] at this; exact this)
          have HLZ : Hid (n1 = (zeros (all V)).length) := hide (by rw [← unhide HN1, hke, List.take_length])
          have gk : ¬ (k2 : Int) < ((all V).length : Int) := by omega
          have gkd : decide (k2 < (all V).length) = false := decide_eq_false (by omega)
          rw [unhide HLZ]
          clear HX HZL hke HN1 HLZ g0 hwk hlt
          go_wp2_with fail
          refine ((unhide HS9).all (List.mem_cons_of_mem _ (List.mem_cons_of_mem _ (List.mem_cons_of_mem _ (List.mem_cons_of_mem _ List.mem_cons_self)))) (unhide OB)).mono ?_
          rintro e y1 ⟨b1', d1', rfl, h⟩
          have Y1 := hide h
          clear h HS9
          go_wp2_with fail
          refine ((unhide Y1).all (List.mem_cons_of_mem _ (List.mem_cons_of_mem _ (List.mem_cons_of_mem _ (List.mem_cons_of_mem _ List.mem_cons_self)))) (unhide OB)).mono ?_
          rintro e y2 ⟨b2', d2', rfl, h⟩
          have Y2 := hide h
          clear h Y1
          go_wp2_with fail
          refine (same_any ((unhide Y2).row (List.mem_cons_of_mem _ List.mem_cons_self)) ((unhide Y2).row List.mem_cons_self) (by have := all_length (unhide OB); omega)).mono ?_
          rintro e y3 ⟨rfl, hb⟩
          rw [sameL_iff.2 rfl]
          have Y3 := hide ((unhide Y2).below hb)
          clear hb Y2
          go_wp2_with fail
          refine (same_any ((unhide Y3).row (List.mem_cons_of_mem _ (List.mem_cons_of_mem _ (List.mem_cons_of_mem _ List.mem_cons_self)))) ((unhide Y3).row (List.mem_cons_of_mem _ (List.mem_cons_of_mem _ List.mem_cons_self))) (by have := zeros_len (all B) (all B).length; rw [List.take_length] at this; have := all_length (unhide OB); omega)).mono ?_
          rintro e y4 ⟨rfl, hb⟩
          rw [sameL_iff.2 (unhide ZE)]
          have Y4 := hide ((unhide Y3).below hb)
          clear hb Y3
          go_wp2_with fail
          refine (wakes_any y4).mono ?_
          rintro e w' ⟨rfl, hb⟩
          have HB := hide ((unhide Y4).below hb).bel
          clear hb
          go_wp2_with fail
          go_ret
          exact ⟨rfl, unhide HB⟩
set_option maxRecDepth 100000 in
theorem twinw_any (a1 : Option Addr) (cap1 : Nat) (z1 : List ActV) (a2 : Option Addr) (cap2 : Nat) (z2 : List ActV) (w : World) (_h1 : z1.length ≤ maxLen) (hA1 : ActK.At w a1 z1) (_i1 : ∀ b ∈ z1, b.In) (_h2 : z2.length ≤ maxLen) (hA2 : ActK.At w a2 z2) (_i2 : ∀ b ∈ z2, b.In) :
    Calls Try.prog 6 #[.slice a1 z1.length cap1, .slice a2 z2.length cap2] w fun e w' => e = .returned (.bool true) ∧ Below w.heap.size w w' := by
  by_cases hn1 : z1.length ≤ 300
  · by_cases hn2 : z2.length ≤ 300
    · exact twinw_small a1 cap1 z1 a2 cap2 z2 w hA1 hA2 hn1 hn2
    · have g1 : ¬ (300 : Int) < (z1.length : Int) := by omega
      have g2 : (300 : Int) < (z2.length : Int) := by omega
      clear hA1 hA2
      go_enter Try.func6, Try.ntmps6
      go_wp2_with fail
      refine (wakes_any w).mono ?_
      rintro e w' ⟨rfl, hb⟩
      have HB := hide hb
      clear hb
      go_wp2_with fail
      go_ret
      exact ⟨rfl, unhide HB⟩
  · have g1 : (300 : Int) < (z1.length : Int) := by omega
    clear hA1 hA2
    go_enter Try.func6, Try.ntmps6
    go_wp2_with fail
    refine (wakes_any w).mono ?_
    rintro e w' ⟨rfl, hb⟩
    have HB := hide hb
    clear hb
    go_wp2_with fail
    go_ret
    exact ⟨rfl, unhide HB⟩
end Go.Proofs.Ytoofaldblldncaa

/- The chapter's examples: MsgKnown's walk. No conditions. -/
import Derived.Test.YtkbmbcmcnpeabaaAwake
import Derived.Test.YtkbmbcmcnpeabaaRowMem
namespace Go.Proofs.Ytkbmbcmcnpeabaa
open Pk Go.RowKit

def m12 : MsgV := { MsgV.zero with kind := 12, move := 1, part := 2 }
theorem fit_m12 : Fit m12 := ⟨by decide, zero_i64, zero_i64, zero_i64, Nat.zero_le _, Nat.zero_le _, Nat.zero_le _, Nat.zero_le _⟩
theorem right_m12 : Right m12 := (right_iff fit_m12 (by decide)).2 ⟨⟨⟨by decide, by decide⟩, ⟨by decide, by decide⟩⟩, rfl⟩
theorem bytes_m12 : msgBytes m12 = [12, 1, 2] := by
  have e : msgBytes m12 = 12 :: (numBytes 1 ++ numBytes 2) := rfl
  rw [e, num_small 1 (by decide), num_small 2 (by decide)]
  rfl
theorem read_a : readMsg (⟨#[12, 1, 2]⟩ : ByteArray).data.toList = (m12, 0) := by
  have h := msg_back right_m12
  rw [bytes_m12] at h
  exact h
theorem read_b : readMsg (⟨#[12, 1]⟩ : ByteArray).data.toList = (MsgV.zero, 7) := by
  have h := msg_cut right_m12 2 (by rw [bytes_m12]; decide)
  rw [bytes_m12] at h
  exact h
theorem read_c : readMsg (⟨#[12, 1, 2, 0]⟩ : ByteArray).data.toList = (MsgV.zero, 8) := by
  have h := msg_more right_m12 0
  rw [bytes_m12] at h
  exact h
theorem read_d : readMsg (⟨#[15, 1, 2]⟩ : ByteArray).data.toList = (MsgV.zero, 10) := by
  show readMsg [15, 1, 2] = _
  unfold readMsg
  simp only []
  rw [if_pos (by decide)]
theorem read_e : readMsg (⟨#[]⟩ : ByteArray).data.toList = (MsgV.zero, 7) := rfl
def mN : MsgV := { MsgV.zero with kind := 12, n := 1 }
def mM : MsgV := { MsgV.zero with kind := 12, move := -1 }
def mL (k : List UInt8) : MsgV := { MsgV.zero with kind := 1, item := { ItemV.zero with key := k } }
theorem fit_N : Fit mN := ⟨by decide, zero_i64, zero_i64, zero_i64, Nat.zero_le _, Nat.zero_le _, Nat.zero_le _, Nat.zero_le _⟩
theorem fit_M : Fit mM := ⟨by decide, zero_i64, zero_i64, zero_i64, Nat.zero_le _, Nat.zero_le _, Nat.zero_le _, Nat.zero_le _⟩
theorem fit_Z : Fit MsgV.zero := ⟨by decide, zero_i64, zero_i64, zero_i64, Nat.zero_le _, Nat.zero_le _, Nat.zero_le _, Nat.zero_le _⟩
theorem fit_L (k : List UInt8) (h : k.length = 256) : Fit (mL k) := ⟨by show 0 < 2 ^ 64; decide, zero_i64, zero_i64, zero_i64, by show k.length ≤ maxLen; unfold maxLen; omega, Nat.zero_le _, Nat.zero_le _, Nat.zero_le _⟩
theorem not_N : ¬ Right mN := fun h => by have := congrArg MsgV.n h.only; exact absurd this (by decide)
theorem not_M : ¬ Right mM := fun h => absurd h.ok.move.1 (by decide)
theorem not_Z : ¬ Right MsgV.zero := fun h => absurd h.kind.1 (by decide)
theorem not_L (k : List UInt8) (hk : k.length = 256) : ¬ Right (mL k) := fun h => by have := h.ok.item.key; have e : k.length ≤ 255 := this; omega
/-- What is wrong is told. -/
theorem wrong_any (m : MsgV) (E : Int) (hf : Fit m) (hn : ¬ Right m) (he : errOf m = E) (w : World) (h1 : m.owner = []) (h2 : m.set = []) :
    Calls Try.prog 10 #[.agg (msgCells m none 0 none 0).toArray] w fun e w' => e = .returned (.int .i64 E) ∧ Moved (fun _ => False) w w' := by
  refine (right_any m none none 0 0 w hf (by rw [h1]; exact ints_nil _ _) (by rw [h2]; exact ints_nil _ _)).mono ?_
  rintro e w' ⟨hm, ⟨hr, _⟩ | ⟨_, rfl⟩⟩
  · exact absurd hr hn
  · exact ⟨by rw [he], hm⟩
set_option maxHeartbeats 8000000 in
set_option maxRecDepth 100000 in
/-- The chapter's examples. -/
theorem known_any (w : World) : Calls Try.prog 3 #[] w fun e w' => e = .returned (.bool true) ∧ Moved (fun _ => False) w w' := by
  have hb := bytes_any m12 none none 0 0 w fit_m12 (ints_nil _ _) (ints_nil _ _)
  have HB := hide hb
  clear hb
  go_enter Try.func3, Try.ntmps3
  go_wp2_with fail
  change Calls Try.prog 6 #[.agg (msgCells m12 none 0 none 0).toArray] _ _
  refine (unhide HB).mono ?_
  rintro e w1 ⟨hm, hh⟩
  have M := hide hm
  clear hm HB
  rcases hh with ⟨_, rfl⟩ | ⟨hr, _⟩
  rotate_left
  · exact absurd right_m12 hr
  rw [bytes_m12]
  have hrd := read_any ⟨#[12, 1, 2]⟩ (by decide) w1
  rw [read_a] at hrd
  have HRa := hide hrd
  clear hrd
  go_wp2_with fail
  refine (unhide HRa).mono ?_
  rintro e va ⟨hm, aa, ca, ba, da, rfl, hi1a, hi2a⟩
  have Ma := hide ((unhide M).trans hm fun _ f => f.elim)
  have Nax := hide hm
  have Ia := hide (And.intro hi1a hi2a)
  obtain ⟨ua, hu, hrow, hmf, hth⟩ := keep_at va m12 aa ba ca da
  have Ua := hide hu
  have Ra := hide hrow
  have Ta := hide hth
  have Oa := hide (cells_one m12 aa ba ca da)
  have Na := hide hmf
  replace Ma := hide ((unhide Ma).trans hmf fun _ f => f.elim)
  clear hm hi1a hi2a hu hrow hmf hth HRa
  go_wp2_with (refine wpList_store_mid rfl 32 (.tmp 3) (.tmp 21) rfl va.heap.size 0 (msgCells m12 aa ca ba da).toArray rfl rfl (unhide Ta) (by kernel_rfl) (unhide Oa) ?_; change wpList _ _ _ _ _ (World.setCells _ va.heap.size 0 (msgCells m12 aa ca ba da)); rw [unhide Ua]; clear Ta Oa Ua)
  have hrd := read_any ⟨#[12, 1]⟩ (by decide) ua
  rw [read_b] at hrd
  have HRb := hide hrd
  clear hrd
  go_wp2_with fail
  refine (unhide HRb).mono ?_
  rintro e vb ⟨hm, ab, cb, bb, db, rfl, hi1b, hi2b⟩
  have Mb := hide ((unhide Ma).trans hm fun _ f => f.elim)
  have Nbx := hide hm
  have Ib := hide (And.intro hi1b hi2b)
  obtain ⟨ub, hu, hrow, hmf, hth⟩ := keep_at vb MsgV.zero ab bb cb db
  have Ub := hide hu
  have Rb := hide hrow
  have Tb := hide hth
  have Ob := hide (cells_one MsgV.zero ab bb cb db)
  have Nb := hide hmf
  replace Mb := hide ((unhide Mb).trans hmf fun _ f => f.elim)
  clear hm hi1b hi2b hu hrow hmf hth HRb
  go_wp2_with (refine wpList_store_mid rfl 32 (.tmp 5) (.tmp 25) rfl vb.heap.size 0 (msgCells MsgV.zero ab cb bb db).toArray rfl rfl (unhide Tb) (by kernel_rfl) (unhide Ob) ?_; change wpList _ _ _ _ _ (World.setCells _ vb.heap.size 0 (msgCells MsgV.zero ab cb bb db)); rw [unhide Ub]; clear Tb Ob Ub)
  have hrd := read_any ⟨#[12, 1, 2, 0]⟩ (by decide) ub
  rw [read_c] at hrd
  have HRc := hide hrd
  clear hrd
  go_wp2_with fail
  refine (unhide HRc).mono ?_
  rintro e vc ⟨hm, ac, cc, bc, dc, rfl, hi1c, hi2c⟩
  have Mc := hide ((unhide Mb).trans hm fun _ f => f.elim)
  have Ncx := hide hm
  have Ic := hide (And.intro hi1c hi2c)
  obtain ⟨uc, hu, hrow, hmf, hth⟩ := keep_at vc MsgV.zero ac bc cc dc
  have Uc := hide hu
  have Rc := hide hrow
  have Tc := hide hth
  have Oc := hide (cells_one MsgV.zero ac bc cc dc)
  have Nc := hide hmf
  replace Mc := hide ((unhide Mc).trans hmf fun _ f => f.elim)
  clear hm hi1c hi2c hu hrow hmf hth HRc
  go_wp2_with (refine wpList_store_mid rfl 32 (.tmp 7) (.tmp 29) rfl vc.heap.size 0 (msgCells MsgV.zero ac cc bc dc).toArray rfl rfl (unhide Tc) (by kernel_rfl) (unhide Oc) ?_; change wpList _ _ _ _ _ (World.setCells _ vc.heap.size 0 (msgCells MsgV.zero ac cc bc dc)); rw [unhide Uc]; clear Tc Oc Uc)
  have hrd := read_any ⟨#[15, 1, 2]⟩ (by decide) uc
  rw [read_d] at hrd
  have HRd := hide hrd
  clear hrd
  go_wp2_with fail
  refine (unhide HRd).mono ?_
  rintro e vd ⟨hm, ad, cd, bd, dd, rfl, hi1d, hi2d⟩
  have Md := hide ((unhide Mc).trans hm fun _ f => f.elim)
  have Ndx := hide hm
  have Id := hide (And.intro hi1d hi2d)
  obtain ⟨ud, hu, hrow, hmf, hth⟩ := keep_at vd MsgV.zero ad bd cd dd
  have Ud := hide hu
  have Rd := hide hrow
  have Td := hide hth
  have Od := hide (cells_one MsgV.zero ad bd cd dd)
  have Nd := hide hmf
  replace Md := hide ((unhide Md).trans hmf fun _ f => f.elim)
  clear hm hi1d hi2d hu hrow hmf hth HRd
  go_wp2_with (refine wpList_store_mid rfl 32 (.tmp 9) (.tmp 33) rfl vd.heap.size 0 (msgCells MsgV.zero ad cd bd dd).toArray rfl rfl (unhide Td) (by kernel_rfl) (unhide Od) ?_; change wpList _ _ _ _ _ (World.setCells _ vd.heap.size 0 (msgCells MsgV.zero ad cd bd dd)); rw [unhide Ud]; clear Td Od Ud)
  have hrd := read_any ⟨#[]⟩ (by decide) ud
  rw [read_e] at hrd
  have HRe := hide hrd
  clear hrd
  go_wp2_with fail
  refine (unhide HRe).mono ?_
  rintro e ve ⟨hm, ae, ce, be, de, rfl, hi1e, hi2e⟩
  have Me := hide ((unhide Md).trans hm fun _ f => f.elim)
  have Nex := hide hm
  have Ie := hide (And.intro hi1e hi2e)
  obtain ⟨ue, hu, hrow, hmf, hth⟩ := keep_at ve MsgV.zero ae be ce de
  have Ue := hide hu
  have Re := hide hrow
  have Te := hide hth
  have Oe := hide (cells_one MsgV.zero ae be ce de)
  have Ne := hide hmf
  replace Me := hide ((unhide Me).trans hmf fun _ f => f.elim)
  clear hm hi1e hi2e hu hrow hmf hth HRe
  obtain ⟨w7, hmk, hbel, hris, -⟩ := make_in ue 256 (by decide)
  obtain ⟨K, hK⟩ : ∃ K : List UInt8, K = List.replicate 256 0 := ⟨_, rfl⟩
  have hKl : K.length = 256 := by rw [hK]; decide
  rw [← hK] at hris
  have hcv := conv_out hris 256 256 hKl
  replace hmk : Sem.run Try.prog (Instr.makeSlice 35 (.int .i64 256) (.int .i64 256)) ue = .ok (.slice (some ⟨ue.heap.size, 0, none⟩) 256 256) w7 := hmk
  have M7 := hide ((unhide Me).trans (Moved.of_below (F := fun _ => False) hbel) fun _ f => f.elim)
  have Q7 := hide (Moved.of_below (F := fun _ => False) hbel)
  have HK := hide hKl
  clear hris hbel hK hKl
  obtain ⟨w9, hu, hrow, hmf, hth⟩ := keep_row w7 27 [.int .i64 0, .int .i64 0, .int .i64 0, .int .u8 0, .string ⟨#[]⟩, .int .i64 0, .int .i64 0, .int .i64 0] [.int .i64 0, .int .i64 0, .int .i64 0, .int .u8 0, .string ⟨K.toArray⟩, .int .i64 0, .int .i64 0, .int .i64 0] rfl
  have U9 := hide hu
  have R9 := hide hrow
  have T9 := hide hth
  have N9 := hide hmf
  have M9 := hide ((unhide M7).trans hmf fun _ f => f.elim)
  clear hu hrow hmf hth

  go_wp2_with (first | (refine wpList_store_mid rfl 32 (.tmp 11) (.tmp 37) rfl ve.heap.size 0 (msgCells MsgV.zero ae ce be de).toArray rfl rfl (unhide Te) (by kernel_rfl) (unhide Oe) ?_; change wpList _ _ _ _ _ (World.setCells _ ve.heap.size 0 (msgCells MsgV.zero ae ce be de)); rw [unhide Ue]; clear Te Oe Ue) | (refine wpList_store_mid rfl 27 (.tmp 13) (.tmp 41) rfl w7.heap.size 0 #[.int .i64 0, .int .i64 0, .int .i64 0, .int .u8 0, .string ⟨K.toArray⟩, .int .i64 0, .int .i64 0, .int .i64 0] rfl rfl (unhide T9) (by kernel_rfl) (by simp [Value.oneCell']) ?_; change wpList _ _ _ _ _ (World.setCells _ w7.heap.size 0 [.int .i64 0, .int .i64 0, .int .i64 0, .int .u8 0, .string ⟨K.toArray⟩, .int .i64 0, .int .i64 0, .int .i64 0]); rw [unhide U9]; clear hcv hmk))
  refine (awake_any w9).mono ?_
  rintro e w10 ⟨rfl, hm⟩
  have M10 := hide ((unhide M9).trans hm fun _ f => f.elim)
  have tail : Moved (fun _ => False) ua w10 := ((((((((unhide Nbx).trans (unhide Nb) fun _ f => f.elim).trans (unhide Ncx) fun _ f => f.elim).trans (unhide Nc) fun _ f => f.elim).trans (unhide Ndx) fun _ f => f.elim).trans (unhide Nd) fun _ f => f.elim).trans (unhide Nex) fun _ f => f.elim).trans (unhide Ne) fun _ f => f.elim).trans ((unhide Q7).trans ((unhide N9).trans hm fun _ f => f.elim) fun _ f => f.elim) fun _ f => f.elim
  have L32 := hide ((unhide Ra).keep tail id).range
  have hj := And.intro ((((unhide Ia).1.keep (unhide Na) fun _ _ => id)).keep tail fun _ _ => id) ((((unhide Ia).2.keep (unhide Na) fun _ _ => id)).keep tail fun _ _ => id)
  have HJ := hide hj
  have R10 := hide ((unhide R9).keep hm id)
  clear hm tail hj
  go_wp2_with (refine wpList_load_on rfl 32 (.tmp 3) rfl va.heap.size 0 rfl (msgCells m12 aa ca ba da) _ (unhide L32) Try.underlying32 rfl (by kernel_rfl) ?_)
  refine (same_any m12 m12 aa ba none none ca da 0 0 w10 (unhide HJ).1 (unhide HJ).2 (ints_nil _ _) (ints_nil _ _) (Nat.zero_le _) (Nat.zero_le _)).mono ?_
  rintro e w11 ⟨rfl, hm⟩
  rw [(sameMsg_iff m12 m12).2 rfl]
  have M11 := hide ((unhide M10).trans hm fun _ f => f.elim)
  have R11 := hide ((unhide R10).keep hm id)
  clear hm L32
  go_wp2_with fail
  refine (wrong_any mN 1 fit_N not_N rfl w11 rfl rfl).mono ?_
  rintro e w12 ⟨rfl, hm⟩
  have M12 := hide ((unhide M11).trans hm fun _ f => f.elim)
  have R12 := hide ((unhide R11).keep hm id)
  clear hm
  go_wp2_with fail
  refine (wrong_any mM 1 fit_M not_M rfl w12 rfl rfl).mono ?_
  rintro e w13 ⟨rfl, hm⟩
  have M13 := hide ((unhide M12).trans hm fun _ f => f.elim)
  have R13 := hide ((unhide R12).keep hm id)
  clear hm
  go_wp2_with fail
  refine (wrong_any MsgV.zero 10 fit_Z not_Z rfl w13 rfl rfl).mono ?_
  rintro e w14 ⟨rfl, hm⟩
  have M14 := hide ((unhide M13).trans hm fun _ f => f.elim)
  have L27 := hide ((unhide R13).keep hm id).range
  clear hm
  go_wp2_with (refine wpList_load_on rfl 27 (.tmp 13) rfl w7.heap.size 0 rfl [.int .i64 0, .int .i64 0, .int .i64 0, .int .u8 0, .string ⟨K.toArray⟩, .int .i64 0, .int .i64 0, .int .i64 0] _ (unhide L27) Try.underlying27 rfl (by kernel_rfl) ?_)
  refine (wrong_any (mL K) 1 (fit_L K (unhide HK)) (not_L K (unhide HK)) rfl w14 rfl rfl).mono ?_
  rintro e w15 ⟨rfl, hm⟩
  have M15 := hide ((unhide M14).trans hm fun _ f => f.elim)
  clear hm L27
  go_wp2_with fail
  go_ret
  exact ⟨rfl, unhide M15⟩
theorem known_said (w : World) : Calls Try.prog 3 #[] w fun e w' => e = .returned (.bool true) ∧ Below w.heap.size w w' := (known_any w).mono fun _ _ ⟨he, hm⟩ => ⟨he, hm.below (fun _ f => f.elim) (Nat.le_refl _)⟩
end Go.Proofs.Ytkbmbcmcnpeabaa

/- What all rows of this seat share: the listed table's cells, out of the row's own list; a world for the witness in which the table lies as its initialiser lays it. No conditions. -/
import Derived.Test.YtkbmbcmcnpeabaaDoorCards
import Derived.Test.YtkbmbcmcnpeabaaDoorTie
import Derived.Test.YtkbmbcmcnpeabaaDoorFMore
import Derived.WalkKit
import Derived.ProofKit
import Derived.OpenShut
import Derived.Deep.DeepHandedRow
import Derived.Lib.LaidTab
import Derived.Test.YtkbmbcmcnpeabaaDoorRBytA
import Derived.Test.YtkbmbcmcnpeabaaDoorRBytB
import Derived.Test.YtkbmbcmcnpeabaaDoorByt
import Derived.Test.YtkbmbcmcnpeabaaDoorRddB
import Derived.Test.YtkbmbcmcnpeabaaDoorRowMem
import Derived.Test.YtkbmbcmcnpeabaaDoorMsgMath
import Derived.Test.YtkbmbcmcnpeabaaDoorFCalls
import Derived.Test.YtkbmbcmcnpeabaaDoorSameB
import Derived.Test.YtkbmbcmcnpeabaaDoorFieldsW
import Derived.ChangeSlices
import Derived.Test.YtkbmbcmcnpeabaaDoorRefOnly
import Derived.Test.YtkbmbcmcnpeabaaDoorRefSameC
import Derived.Test.YtkbmbcmcnpeabaaDoorRefChk
import Derived.BigQuiet
import Derived.ChangeOld
import Derived.Below
namespace Go.Proofs.YtkbmbcmcnpeabaaDoor.Fm
open Go.ChangeShapes Go.WideShapes Go.ChangeAt Go.RowKit

theorem own : ownKnob Tryd.prog.godebug = none := by kernel_rfl
def vname : String := Rows.msgWritesRow.named.headD ""
theorem gTab : Tryd.prog.globalNamed vname = some 0 := by kernel_rfl
theorem gTabType : (Tryd.prog.globals[0]?).map (·.type) = some 129 := by kernel_rfl
theorem cells35 : Tryd.prog.cellsOf 129 = 16 := by kernel_rfl
theorem cells23 : Tryd.prog.cellsOf 70 = 1 := by kernel_rfl
theorem tab_of_laid {W : World} (h : laidMetH Tryd.prog Rows.msgWritesRow.laid W) : Tab W := by
  have t : Lib.TabIs Tryd.prog W vname .u32 Crc.tab := Lib.tabIs_of_head (rest := []) gTab gTabType Tryd.underlying129 Tryd.underlying70 cells23 cells35 h
  intro i hi
  exact t.cell gTab i hi

/-- The table's block as its initialiser lays it. -/
def layTab (W : World) : World :=
  { W with heap := W.heap.modify 0 fun
      | .cells _ t frozen => .cells (Crc.tab.map fun z => Value.int .u32 z).toArray t frozen
      | o => o }
/-- A uint32 that came in, as a bit vector. -/
theorem u32_bv (n : Int) (h : (Lit.int .u32 n).wf = true) : ∃ c : BitVec 32, n = ((c.toNat : Nat) : Int) := by
  have hb := bounds_u32 h
  exact ⟨BitVec.ofNat 32 n.toNat, by rw [BitVec.toNat_ofNat]; omega⟩
end Go.Proofs.YtkbmbcmcnpeabaaDoor.Fm

namespace Go.Proofs.YtkbmbcmcnpeabaaDoor.Rw
open Pk Go.RowKit

set_option maxHeartbeats 4000000 in
set_option maxRecDepth 100000 in
theorem refbytes_with (m : MsgV) (a1 a2 : Option Addr) (c1 c2 : Nat) (w : World) (hI1 : Ints w a1 m.owner) (hI2 : Ints w a2 m.set) (rr : ∀ v : World, Ints v a1 m.owner → Ints v a2 m.set → Calls Tryd.prog 25 #[.agg (msgCells m a1 c1 a2 c2).toArray] v fun e v' => Moved (fun _ => False) v v' ∧ ((Right m ∧ e = .returned (.int .i64 0)) ∨ (¬ Right m ∧ e = .returned (.int .i64 (errOf m))))) :
    Calls Tryd.prog 9 #[.agg (msgCells m a1 c1 a2 c2).toArray] w fun e w' => Moved (fun _ => False) w w' ∧ ((Right m ∧ e = .returned (.tuple #[.string ⟨(msgBytes m).toArray⟩, .int .i64 0])) ∨ (¬ Right m ∧ e = .returned (.tuple #[.string ⟨#[]⟩, .int .i64 (errOf m)]))) := by
  by_cases hr : Right m
  · have hR : ∀ v : World, Ints v a1 m.owner → Ints v a2 m.set → Calls Tryd.prog 25 #[.agg (msgCells m a1 c1 a2 c2).toArray] v fun e v' => Moved (fun _ => False) v v' ∧ e = .returned (.int .i64 0) := fun v h1 h2 =>
      (rr v h1 h2).mono fun e v' ⟨hm, h⟩ => ⟨hm, h.elim (fun x => x.2) (fun x => absurd hr x.1)⟩
    have hk := hr.kind
    have hk2 : m.kind.toNat = 1 ∨ m.kind.toNat = 2 ∨ m.kind.toNat = 3 ∨ m.kind.toNat = 4 ∨ m.kind.toNat = 5 ∨ m.kind.toNat = 6 ∨ m.kind.toNat = 7 ∨ m.kind.toNat = 8 ∨ m.kind.toNat = 9 ∨ m.kind.toNat = 10 ∨ m.kind.toNat = 11 ∨ m.kind.toNat = 12 ∨ m.kind.toNat = 13 ∨ m.kind.toNat = 14 := by omega
    rcases hk2 with h | h | h | h | h | h | h | h | h | h | h | h | h | h
    · exact (refbytes_1 m a1 a2 c1 c2 w hI1 hI2 hr h hR).mono fun e w' ⟨hm, he⟩ => ⟨hm, .inl ⟨hr, he⟩⟩
    · exact (refbytes_2 m a1 a2 c1 c2 w hI1 hI2 hr h hR).mono fun e w' ⟨hm, he⟩ => ⟨hm, .inl ⟨hr, he⟩⟩
    · exact (refbytes_3 m a1 a2 c1 c2 w hI1 hI2 hr h hR).mono fun e w' ⟨hm, he⟩ => ⟨hm, .inl ⟨hr, he⟩⟩
    · exact (refbytes_4 m a1 a2 c1 c2 w hI1 hI2 hr h hR).mono fun e w' ⟨hm, he⟩ => ⟨hm, .inl ⟨hr, he⟩⟩
    · exact (refbytes_5 m a1 a2 c1 c2 w hI1 hI2 hr h hR).mono fun e w' ⟨hm, he⟩ => ⟨hm, .inl ⟨hr, he⟩⟩
    · exact (refbytes_6 m a1 a2 c1 c2 w hI1 hI2 hr h hR).mono fun e w' ⟨hm, he⟩ => ⟨hm, .inl ⟨hr, he⟩⟩
    · exact (refbytes_7 m a1 a2 c1 c2 w hI1 hI2 hr h hR).mono fun e w' ⟨hm, he⟩ => ⟨hm, .inl ⟨hr, he⟩⟩
    · exact (refbytes_8 m a1 a2 c1 c2 w hI1 hI2 hr h hR).mono fun e w' ⟨hm, he⟩ => ⟨hm, .inl ⟨hr, he⟩⟩
    · exact (refbytes_9 m a1 a2 c1 c2 w hI1 hI2 hr h hR).mono fun e w' ⟨hm, he⟩ => ⟨hm, .inl ⟨hr, he⟩⟩
    · exact (refbytes_10 m a1 a2 c1 c2 w hI1 hI2 hr h hR).mono fun e w' ⟨hm, he⟩ => ⟨hm, .inl ⟨hr, he⟩⟩
    · exact (refbytes_11 m a1 a2 c1 c2 w hI1 hI2 hr h hR).mono fun e w' ⟨hm, he⟩ => ⟨hm, .inl ⟨hr, he⟩⟩
    · exact (refbytes_12 m a1 a2 c1 c2 w hI1 hI2 hr h hR).mono fun e w' ⟨hm, he⟩ => ⟨hm, .inl ⟨hr, he⟩⟩
    · exact (refbytes_13 m a1 a2 c1 c2 w hI1 hI2 hr h hR).mono fun e w' ⟨hm, he⟩ => ⟨hm, .inl ⟨hr, he⟩⟩
    · exact (refbytes_14 m a1 a2 c1 c2 w hI1 hI2 hr h hR).mono fun e w' ⟨hm, he⟩ => ⟨hm, .inl ⟨hr, he⟩⟩
  · obtain ⟨A, hA⟩ : ∃ A, A = w.heap.size := ⟨_, rfl⟩
    obtain ⟨W, hW⟩ : ∃ W, W = w.alloc (.cells (msgCells m a1 c1 a2 c2).toArray 29) := ⟨_, rfl⟩
    have mW : Moved (fun _ => False) w W := by rw [hW]; exact (Moved.refl _ _).alloc _
    have RA : RowAt W A (msgCells m a1 c1 a2 c2) := by rw [hW, hA]; exact row_new _ _ _
    have hRW := (rr W (hI1.keep mW fun _ _ => id) (hI2.keep mW fun _ _ => id)).mono (R' := fun e v' => Moved (fun _ => False) W v' ∧ e = .returned (.int .i64 (errOf m))) fun e v' ⟨hm, h⟩ => ⟨hm, h.elim (fun x => absurd x.1 hr) (fun x => x.2)⟩
    have hne : errOf m ≠ 0 := by unfold errOf; split <;> decide
    obtain ⟨E, hE⟩ : ∃ E, errOf m = E := ⟨_, rfl⟩
    rw [hE] at hne hRW
    have HE := hide hE
    have RG := hide RA.range
    have HR := hide hRW
    have HW := hide hW
    have HA := hide hA
    have HM := hide mW
    have HN := hide hr
    clear hE hRW RA mW hW hA hr hI1 hI2 rr
    go_enter Tryd.func9, Tryd.ntmps9
    go_upto_region 1 with fail
    rw [← unhide HA]
    try change Code.wp _ _ _ _ (w.alloc (.cells (msgCells m a1 c1 a2 c2).toArray 29))
    rw [← unhide HW]
    go_step
    refine wpList_load_mid rfl 29 (.tmp 1) rfl A 0 rfl (msgCells m a1 c1 a2 c2) _ (unhide RG) Tryd.underlying29 rfl (by kernel_rfl) ?_
    go_wp2_with fail
    refine (unhide HR).mono ?_
    rintro e w1 ⟨hm, rfl⟩
    have MV := hide ((unhide HM).trans hm fun _ f => f.elim)
    clear hm
    go_wp2_with fail
    go_ret2
    exact ⟨unhide MV, .inr ⟨unhide HN, by rw [unhide HE]; rfl⟩⟩
end Go.Proofs.YtkbmbcmcnpeabaaDoor.Rw

namespace Go.Proofs.YtkbmbcmcnpeabaaDoor
open Pk Go.RowKit

theorem kept_of {w w' : World} {p B : Nat} (m : Moved (fun i => i = p ∨ i = B) (w.alloc (.cells #[.int .i64 0] 32)) w') (hp : p < w.heap.size) (hB : B < w.heap.size) : Kept w w' := by
  have hs : w.heap.size < (w.alloc (.cells #[.int .i64 0] 32)).heap.size := by simp
  have hF : ¬ (w.heap.size = p ∨ w.heap.size = B) := by omega
  refine ⟨(m.cell (p := ⟨w.heap.size, 0, none⟩) hs hF).trans (by simp), (m.frozen (p := ⟨w.heap.size, 0, none⟩) hs hF).trans (by simp), Nat.lt_of_lt_of_le hs m.size⟩
theorem IntsF.of {w : World} {p B : Nat} {a : Option Addr} {xs : List Int} (h : Ints w a xs) (w' : World) (m : Moved (fun _ => False) w w') (hp : w.heap.size ≤ p) (hB : w.heap.size ≤ B) : IntsF w' p B a xs := by
  refine ⟨h.keep m fun _ _ => id, fun x hx h0 => ?_⟩
  obtain ⟨y, hy, hc⟩ := h 0 h0
  have := World.block_lt_of_cell? _ _ hc
  have hb : (y.add 0).block = y.block := by unfold Addr.add; split <;> rfl
  rw [hx] at hy
  cases hy
  rw [hb] at this
  omega
set_option maxHeartbeats 4000000 in
set_option maxRecDepth 100000 in
theorem bytes_any (m : MsgV) (a1 a2 : Option Addr) (c1 c2 : Nat) (w : World) (hf : Fit m) (hI1 : Ints w a1 m.owner) (hI2 : Ints w a2 m.set) :
    Calls Tryd.prog 8 #[.agg (msgCells m a1 c1 a2 c2).toArray] w fun e w' => Moved (fun _ => False) w w' ∧ ((Right m ∧ e = .returned (.tuple #[.string ⟨(msgBytes m).toArray⟩, .int .i64 0])) ∨ (¬ Right m ∧ e = .returned (.tuple #[.string ⟨#[]⟩, .int .i64 (errOf m)]))) := by
  obtain ⟨W, hW⟩ : ∃ W, W = (w.alloc (.cells (msgCells m a1 c1 a2 c2).toArray 29)).alloc (.cells #[.slice none 0 0] 52) := ⟨_, rfl⟩
  have hsz : W.heap.size = w.heap.size + 2 := by rw [hW]; simp
  have mW : Moved (fun _ => False) w W := by rw [hW]; exact ((Moved.refl _ _).alloc _).alloc _
  obtain ⟨V, hV⟩ : ∃ V, V = W.alloc (.cells #[.int .i64 0] 32) := ⟨_, rfl⟩
  have mV : Moved (fun _ => False) W V := by rw [hV]; exact (Moved.refl _ _).alloc _
  have hrow : RowAt V w.heap.size (msgCells m a1 c1 a2 c2) := (row_old (row_new w (msgCells m a1 c1 a2 c2) 29) (.cells #[.slice none 0 0] 52)).keep (by rw [← hW]; exact mV) id
  have hout : OutAt V (w.heap.size + 1) none 0 [] := by
    have h1 : OutAt W (w.heap.size + 1) none 0 [] := by
      have := row_new2 w [.slice none 0 0] (msgCells m a1 c1 a2 c2) 52 29
      rw [← hW] at this
      exact ⟨this.cell 0 (by decide), this.free 0 (by decide), ⟨rfl, .inl ⟨rfl, rfl⟩⟩, fun _ h => by cases h⟩
    exact h1.keep mV fun _ f => f.elim
  have hst : WSt V V (w.heap.size + 1) w.heap.size (msgCells m a1 c1 a2 c2) [] := ⟨Moved.refl _ _, hrow, ⟨none, 0, hout, fun _ h => by cases h⟩, by omega⟩
  have mWV := mW.trans mV fun _ f => f.elim
  have hcl := bytes1_any m a1 a2 c1 c2 hf hst (IntsF.of hI1 V mWV (by omega) (by omega)) (IntsF.of hI2 V mWV (by omega) (by omega))
  rw [hV] at hcl
  have hat := attempt_16 (w := W) (c := errOf m) (Q := fun w' => Right m ∧ (∃ a c, OutAt w' (w.heap.size + 1) a c (msgBytes m) ∧ ∀ x, a = some x → W.heap.size + 1 ≤ x.block) ∧ Moved (fun i => i = w.heap.size + 1 ∨ i = w.heap.size) W w') (R := fun w' => ¬ Right m ∧ Moved (fun i => i = w.heap.size + 1 ∨ i = w.heap.size) W w') (hcl.mono (by
    rintro e w' ⟨hm, hh⟩
    have hm' : Moved (fun i => i = w.heap.size + 1 ∨ i = w.heap.size) W w' := ((Moved.refl _ W).alloc _).trans hm fun _ h => .inl h
    refine ⟨kept_of hm (by omega) (by omega), ?_⟩
    rcases hh with ⟨rfl, hr, a, c, ho, hab⟩ | ⟨rfl, hr⟩
    · exact .inl ⟨rfl, hr, ⟨a, c, ho, fun x hx => by have := hab x hx; simp at this; exact this⟩, hm'⟩
    · exact .inr ⟨rfl, hr, hm'⟩))
  have hne : errOf m ≠ 0 := by unfold errOf; split <;> decide
  have HAT := hide hat
  have HW := hide hW
  have HN := hide hne
  have HS := hide hsz
  have HMW := hide mW
  clear hat hW hne hsz mW hcl hst hout hrow mWV mV hV hI1 hI2 hf
  generalize errOf m = E at *
  go_enter Tryd.func8, Tryd.ntmps8
  go_wp2_with fail
  rw [← unhide HW]
  refine (unhide HAT).mono ?_
  rintro e w' ⟨w1, hm, hh⟩
  have HM := hide hm
  clear hm
  rcases hh with ⟨rfl, hr, ⟨a, c, ho, hab⟩, hmv⟩ | ⟨rfl, hr, hmv⟩
  · have ho' : OutAt w' (w.heap.size + 1) a c (msgBytes m) := ho.keep (unhide HM) fun k hk => by
      subst hk
      rintro (e | ⟨x, hx, e⟩)
      · have := unhide HS; omega
      · have := hab x hx; omega
    have HO := hide ho'
    have HR := hide hr
    have HV := hide hmv
    clear ho ho' hab hr hmv
    go_wp2_with fail
    refine (string_any (unhide HO)).mono ?_
    rintro e w2 ⟨rfl, rfl⟩
    go_wp2_with fail
    go_ret2
    have hS := unhide HS
    refine ⟨((unhide HMW).trans (unhide HV) fun i hi => .inr (by omega)).trans (unhide HM) fun i hi => .inr (by omega), .inl ⟨unhide HR, rfl⟩⟩
  · have HR := hide hr
    have HV := hide hmv
    have hE := unhide HN
    clear hr hmv
    go_wp2_with fail
    go_ret2
    have hS := unhide HS
    refine ⟨((unhide HMW).trans (unhide HV) fun i hi => .inr (by omega)).trans (unhide HM) fun i hi => .inr (by omega), .inr ⟨unhide HR, rfl⟩⟩
/-- Right: no error just if a message is. -/
theorem right_any (m : MsgV) (a1 a2 : Option Addr) (c1 c2 : Nat) (w : World) (hf : Fit m) (hI1 : Ints w a1 m.owner) (hI2 : Ints w a2 m.set) :
    Calls Tryd.prog 12 #[.agg (msgCells m a1 c1 a2 c2).toArray] w fun e w' => Moved (fun _ => False) w w' ∧ ((Right m ∧ e = .returned (.int .i64 0)) ∨ (¬ Right m ∧ e = .returned (.int .i64 (errOf m)))) := by
  obtain ⟨W, hW⟩ : ∃ W, W = w.alloc (.cells (msgCells m a1 c1 a2 c2).toArray 29) := ⟨_, rfl⟩
  have mW : Moved (fun _ => False) w W := by rw [hW]; exact (Moved.refl _ _).alloc _
  have hcon := bytes_any m a1 a2 c1 c2 W hf (hI1.keep mW fun _ _ => id) (hI2.keep mW fun _ _ => id)
  have hrg : W.rangeAt w.heap.size 0 (msgCells m a1 c1 a2 c2) := by rw [hW]; exact (row_new w (msgCells m a1 c1 a2 c2) 29).range
  have HC := hide hcon
  have HW := hide hW
  have HMW := hide mW
  have HG := hide hrg
  clear hcon hW mW hI1 hI2 hf hrg
  go_enter Tryd.func12, Tryd.ntmps12
  go_upto_region 1 with fail
  rw [← unhide HW]
  go_step
  refine wpList_load_mid rfl 29 (.tmp 1) rfl w.heap.size 0 rfl (msgCells m a1 c1 a2 c2) _ (unhide HG) Tryd.underlying29 rfl (by kernel_rfl) ?_
  go_wp2_with fail
  refine (unhide HC).mono ?_
  rintro e w' ⟨hm, hh⟩
  have HM := hide hm
  clear hm
  rcases hh with ⟨hr, rfl⟩ | ⟨hr, rfl⟩
  · have HR := hide hr
    clear hr
    go_wp2_with fail
    go_ret
    exact ⟨(unhide HMW).trans (unhide HM) fun _ f => f.elim, .inl ⟨unhide HR, rfl⟩⟩
  · have HR := hide hr
    clear hr
    obtain ⟨E, hE⟩ : ∃ E, errOf m = E := ⟨_, rfl⟩
    rw [hE]
    go_wp2_with fail
    go_ret
    exact ⟨(unhide HMW).trans (unhide HM) fun _ f => f.elim, .inr ⟨unhide HR, by rw [hE]; rfl⟩⟩
end Go.Proofs.YtkbmbcmcnpeabaaDoor

namespace Go.Proofs.YtkbmbcmcnpeabaaDoor
open Pk Go.RowKit

def m8 : MsgV := { MsgV.zero with kind := 8, move := 1, part := 2, n := 300 }
theorem fit_m8 : Fit m8 := ⟨by decide, zero_i64, zero_i64, zero_i64, Nat.zero_le _, Nat.zero_le _, Nat.zero_le _, Nat.zero_le _⟩
theorem right_m8 : Right m8 := (right_iff fit_m8 (by decide)).2 ⟨⟨⟨by decide, by decide⟩, ⟨by decide, by decide⟩, ⟨by decide, by decide⟩⟩, rfl⟩
theorem num_small (n : Nat) (h : n < 128) : numBytes n = [UInt8.ofNat n] := by rw [numBytes, if_pos h]
theorem bytes_m8 : msgBytes m8 = [8, 1, 2, 172, 2] := by
  have e : msgBytes m8 = 8 :: (numBytes 1 ++ (numBytes 2 ++ numBytes 300)) := rfl
  have h : numBytes 300 = [172, 2] := by rw [numBytes, if_neg (by decide), num_small _ (by decide)]; rfl
  rw [e, h, num_small 1 (by decide), num_small 2 (by decide)]
  rfl
theorem read_m8 : readMsg (⟨#[8, 1, 2, 172, 2]⟩ : ByteArray).data.toList = (m8, 0) := by
  have h := msg_back right_m8
  rw [bytes_m8] at h
  exact h
set_option maxHeartbeats 4000000 in
set_option maxRecDepth 100000 in
theorem awake_any (w : World) : Calls Tryd.prog 6 #[] w fun e w' => e = .returned (.bool true) ∧ Moved (fun _ => False) w w' := by
  have hb := bytes_any m8 none none 0 0 w fit_m8 (ints_nil _ _) (ints_nil _ _)
  have HB := hide hb
  clear hb
  go_enter Tryd.func6, Tryd.ntmps6
  go_wp2_with fail
  change Calls Tryd.prog 8 #[.agg (msgCells m8 none 0 none 0).toArray] _ _
  refine (unhide HB).mono ?_
  rintro e w1 ⟨hm, hh⟩
  have HM := hide hm
  clear hm
  rcases hh with ⟨_, rfl⟩ | ⟨hr, _⟩
  rotate_left
  · exact absurd right_m8 hr
  rw [bytes_m8]
  have hrd := read_any ⟨#[8, 1, 2, 172, 2]⟩ (by decide) w1
  rw [read_m8] at hrd
  have HR := hide hrd
  clear hrd
  go_wp2_with fail
  refine (unhide HR).mono ?_
  rintro e w2 ⟨hm2, a, c, a2, c2, rfl, -, -, -⟩
  have HM2 := hide hm2
  clear hm2
  obtain ⟨wf, hwf, hrow, hmf, hth⟩ := keep_at w2 m8 a a2 c c2
  have HWF := hide hwf
  have HTH := hide hth
  have HMF := hide hmf
  have k0 : wf.cell? ⟨w2.heap.size, 0, none⟩ = some (.int .u8 8) := hrow.cell 0 (show 0 < 22 by decide)
  have k1 : wf.cell? ⟨w2.heap.size, 1, none⟩ = some (.int .i64 1) := hrow.cell 1 (show 1 < 22 by decide)
  have k2 : wf.cell? ⟨w2.heap.size, 2, none⟩ = some (.int .i64 2) := hrow.cell 2 (show 2 < 22 by decide)
  have k4 : wf.cell? ⟨w2.heap.size, 4, none⟩ = some (.int .i64 300) := hrow.cell 4 (show 4 < 22 by decide)
  have hone := cells_one m8 a a2 c c2
  have HONE := hide hone
  clear hwf hth hmf hrow hone
  go_wp2_with (refine wpList_store_mid rfl 29 (.tmp 3) (.tmp 13) rfl w2.heap.size 0 (msgCells m8 a c a2 c2).toArray rfl rfl (unhide HTH) (by kernel_rfl) (unhide HONE) ?_; change wpList _ _ _ _ _ (World.setCells _ w2.heap.size 0 (msgCells m8 a c a2 c2)); rw [unhide HWF])
  go_ret
  exact ⟨rfl, ((unhide HM).trans (unhide HM2) fun _ f => f.elim).trans (unhide HMF) fun _ f => f.elim⟩
end Go.Proofs.YtkbmbcmcnpeabaaDoor

namespace Go.Proofs.YtkbmbcmcnpeabaaDoor.Pk

theorem P_len {x : Int} (h : In x) : (P.enc x).length ≤ 10 := by
  show (numBytes x.toNat).length ≤ 10
  exact numBytes_length _ (by have := h.2; unfold m31 at this; omega)
theorem int_len {x : Int} (h : I64 x) : (intC.enc x).length ≤ 10 := numBytes_length _ (zig_lt x h)
theorem num_len {x : Nat} (h : x < 2 ^ 64) : (numC.enc x).length ≤ 10 := numBytes_length _ h
theorem text_len_le (m : Nat) (l : List UInt8) (h : l.length ≤ m) (hm : m ≤ 1024) : ((textC m).enc l).length ≤ 10 + m := by
  show (numBytes l.length ++ l).length ≤ 10 + m
  have := numBytes_length l.length (by omega)
  rw [List.length_append]; omega
theorem encN_len (l : List Int) (h : ∀ x ∈ l, In x) : (encN P l).length ≤ 10 * l.length := by
  induction l with
  | nil => simp [encN]
  | cons a r ih =>
    have h1 := P_len (h a (by simp))
    have h2 := ih (fun x hx => h x (by simp [hx]))
    simp only [encN, List.length_append, List.length_cons]
    omega
theorem list_len_le (m : Nat) (l : List Int) (h : l.length ≤ m ∧ ∀ x ∈ l, In x) (hm : m ≤ 1024) : ((listC P m).enc l).length ≤ 10 + 10 * m := by
  show (numBytes l.length ++ encN P l).length ≤ 10 + 10 * m
  have h1 := numBytes_length l.length (by omega)
  have h2 := encN_len l h.2
  rw [List.length_append]; omega
theorem item_len {x : ItemV} (h : x.Ok) : (itemC.enc x).length ≤ 400 := by
  have h0 := P_len h.src
  have h1 := P_len h.seq
  have h2 := P_len h.low
  have h3 := text_len_le 255 x.key h.key (by decide)
  have h4 := P_len h.part
  have h5 := int_len h.at_
  have h6 := int_len h.n
  show (P.enc x.src ++ (P.enc x.seq ++ (P.enc x.low ++ ([x.kind] ++ (keyC.enc x.key ++ (P.enc x.part ++ (intC.enc x.at_ ++ intC.enc x.n))))))).length ≤ 400
  unfold keyC
  simp only [List.length_append, List.length_cons, List.length_nil]
  omega
theorem msg_len {m : MsgV} (h : Right m) : (msgBytes m).length ≤ 16384 := by
  obtain ⟨hk, _, ok⟩ := h
  have b0 := P_len ok.move
  have b1 := P_len ok.part
  have b2 := P_len ok.to_
  have b3 := P_len ok.n
  have b4 := P_len ok.count
  have b5 := P_len ok.code
  have b6 := num_len ok.digest
  have b7 := int_len ok.at_
  have b8 := item_len ok.item
  have b9 := P_len ok.epoch
  have b10 := P_len ok.nodes
  have b11 : (ownersC.enc m.owner).length ≤ 650 := list_len_le 64 m.owner ok.owner (by decide)
  have b12 : (setC.enc m.set).length ≤ 10250 := list_len_le 1024 m.set ok.set (by decide)
  have b13 : (dataC.enc m.data).length ≤ 1034 := text_len_le 1024 m.data ok.data (by decide)
  have b14 := P_len ok.item.src
  have b15 := P_len ok.item.seq
  unfold msgBytes
  rw [List.length_cons]
  have : m.kind.toNat = 1 ∨ m.kind.toNat = 2 ∨ m.kind.toNat = 3 ∨ m.kind.toNat = 4 ∨ m.kind.toNat = 5 ∨ m.kind.toNat = 6 ∨ m.kind.toNat = 7 ∨ m.kind.toNat = 8 ∨ m.kind.toNat = 9 ∨ m.kind.toNat = 10 ∨ m.kind.toNat = 11 ∨ m.kind.toNat = 12 ∨ m.kind.toNat = 13 ∨ m.kind.toNat = 14 := by omega
  rcases this with e | e | e | e | e | e | e | e | e | e | e | e | e | e <;> rw [e]
  · show (itemC.enc m.item).length + 1 ≤ 16384
    omega
  · show (P.enc m.item.src ++ (P.enc m.item.seq ++ P.enc m.code)).length + 1 ≤ 16384
    simp only [List.length_append]; omega
  · show (P.enc m.item.src ++ (P.enc m.item.seq ++ (P.enc m.epoch ++ (P.enc m.nodes ++ ownersC.enc m.owner)))).length + 1 ≤ 16384
    simp only [List.length_append]; omega
  · show (P.enc m.move ++ (P.enc m.part ++ P.enc m.to_)).length + 1 ≤ 16384
    simp only [List.length_append]; omega
  · show (P.enc m.move ++ (P.enc m.part ++ (P.enc m.n ++ (P.enc m.count ++ dataC.enc m.data)))).length + 1 ≤ 16384
    simp only [List.length_append]; omega
  · show (P.enc m.move ++ (P.enc m.part ++ (P.enc m.n ++ setC.enc m.set))).length + 1 ≤ 16384
    simp only [List.length_append]; omega
  · show (P.enc m.move ++ (P.enc m.part ++ (P.enc m.n ++ itemC.enc m.item))).length + 1 ≤ 16384
    simp only [List.length_append]; omega
  · show (P.enc m.move ++ (P.enc m.part ++ P.enc m.n)).length + 1 ≤ 16384
    simp only [List.length_append]; omega
  · show (P.enc m.move ++ (P.enc m.part ++ (P.enc m.n ++ (intC.enc m.at_ ++ numC.enc m.digest)))).length + 1 ≤ 16384
    simp only [List.length_append]; omega
  · show (P.enc m.move ++ (P.enc m.part ++ P.enc m.code)).length + 1 ≤ 16384
    simp only [List.length_append]; omega
  · show (P.enc m.move ++ (P.enc m.part ++ (P.enc m.epoch ++ (P.enc m.nodes ++ ownersC.enc m.owner)))).length + 1 ≤ 16384
    simp only [List.length_append]; omega
  · show (P.enc m.move ++ P.enc m.part).length + 1 ≤ 16384
    simp only [List.length_append]; omega
  · show (P.enc m.move ++ P.enc m.part).length + 1 ≤ 16384
    simp only [List.length_append]; omega
  · show (P.enc m.epoch ++ (P.enc m.nodes ++ ownersC.enc m.owner)).length + 1 ≤ 16384
    simp only [List.length_append]; omega
end Go.Proofs.YtkbmbcmcnpeabaaDoor.Pk

namespace Go.Proofs.YtkbmbcmcnpeabaaDoor
open Pk Go.RowKit

theorem tab_moved {w w' : World} (h : Fm.Tab w) (m : Moved (fun _ => False) w w') : Fm.Tab w' := h.below (m.below (fun _ f => f.elim) (Nat.le_refl _))
/-- What a frame's bytes are read as. -/
def ofMsg (l : List UInt8) : MsgV × Nat := if (Fm.Crc.wholeOf l).2 ≠ 0 then (MsgV.zero, (Fm.Crc.wholeOf l).2) else readMsg (Fm.Crc.wholeOf l).1
set_option maxHeartbeats 4000000 in
set_option maxRecDepth 100000 in
theorem data_any (m : MsgV) (a1 a2 : Option Addr) (c1 c2 : Nat) (w : World) (hf : Fit m) (hI1 : Ints w a1 m.owner) (hI2 : Ints w a2 m.set) (hT : Fm.Tab w) :
    Calls Tryd.prog 10 #[.agg (msgCells m a1 c1 a2 c2).toArray] w fun e w' => Moved (fun _ => False) w w' ∧ ((Right m ∧ e = .returned (.tuple #[.string ⟨(Fm.Crc.frameOf (msgBytes m)).toArray⟩, .int .i64 0])) ∨ (¬ Right m ∧ e = .returned (.tuple #[.string ⟨#[]⟩, .int .i64 (errOf m)]))) := by
  obtain ⟨W, hW⟩ : ∃ W, W = w.alloc (.cells (msgCells m a1 c1 a2 c2).toArray 29) := ⟨_, rfl⟩
  have mW : Moved (fun _ => False) w W := by rw [hW]; exact (Moved.refl _ _).alloc _
  have hcon := bytes_any m a1 a2 c1 c2 W hf (hI1.keep mW fun _ _ => id) (hI2.keep mW fun _ _ => id)
  have hrg : W.rangeAt w.heap.size 0 (msgCells m a1 c1 a2 c2) := by rw [hW]; exact (row_new w (msgCells m a1 c1 a2 c2) 29).range
  have hne : errOf m ≠ 0 := by unfold errOf; split <;> decide
  have HC := hide hcon
  have HW := hide hW
  have HMW := hide mW
  have HG := hide hrg
  have HT := hide (tab_moved hT mW)
  have HN := hide hne
  clear hcon hW mW hI1 hI2 hf hrg hT hne
  go_enter Tryd.func10, Tryd.ntmps10
  go_upto_region 1 with fail
  rw [← unhide HW]
  go_step
  refine wpList_load_mid rfl 29 (.tmp 1) rfl w.heap.size 0 rfl (msgCells m a1 c1 a2 c2) _ (unhide HG) Tryd.underlying29 rfl (by kernel_rfl) ?_
  go_wp2_with fail
  refine (unhide HC).mono ?_
  rintro e w' ⟨hm, hh⟩
  have HM := hide hm
  have HT' := hide (tab_moved (unhide HT) hm)
  clear hm
  rcases hh with ⟨hr, rfl⟩ | ⟨hr, rfl⟩
  · have hl := msg_len hr
    have hp := Fm.put_any ⟨(msgBytes m).toArray⟩ w' (by show (msgBytes m).toArray.size ≤ maxLen; unfold maxLen; simp only [List.size_toArray]; omega) (unhide HT')
    have e1 : Fm.putOf (⟨(msgBytes m).toArray⟩ : ByteArray).data.toList = (Fm.Crc.frameOf (msgBytes m), 0) := if_neg (Nat.not_lt.2 hl)
    rw [e1] at hp
    have HP := hide hp
    have HR := hide hr
    clear hp hr hl e1
    go_wp2_with fail
    refine (unhide HP).mono ?_
    rintro e w2 ⟨rfl, hb⟩
    have HB := hide hb
    clear hb
    go_wp2_with fail
    go_ret2
    exact ⟨((unhide HMW).trans (unhide HM) fun _ f => f.elim).trans (Moved.of_below (F := fun _ => False) (unhide HB)) fun _ f => f.elim, .inl ⟨unhide HR, rfl⟩⟩
  · have HR := hide hr
    clear hr
    obtain ⟨E, hE⟩ : ∃ E, errOf m = E := ⟨_, rfl⟩
    have hE0 : E ≠ 0 := by rw [← hE]; exact unhide HN
    have HE := hide hE
    rw [hE]
    clear hE
    go_wp2_with fail
    go_ret2
    exact ⟨(unhide HMW).trans (unhide HM) fun _ f => f.elim, .inr ⟨unhide HR, by rw [unhide HE]; rfl⟩⟩
set_option maxHeartbeats 4000000 in
set_option maxRecDepth 100000 in
theorem ofMsg_any (s : ByteArray) (hs : s.size ≤ 1099511627776) (w : World) (hT : Fm.Tab w) :
    Calls Tryd.prog 16 #[.string s] w fun e w' => Moved (fun _ => False) w w' ∧ ∃ a c a2 c2, e = .returned (.tuple #[.agg (msgCells (ofMsg s.data.toList).1 a c a2 c2).toArray, .int .i64 (((ofMsg s.data.toList).2 : Nat) : Int)]) ∧ Ints w' a (ofMsg s.data.toList).1.owner ∧ Ints w' a2 (ofMsg s.data.toList).1.set := by
  obtain ⟨A, hA⟩ : ∃ A, A = w.heap.size := ⟨_, rfl⟩
  obtain ⟨U, hU⟩ : ∃ U, U = w.alloc (.cells (msgCells MsgV.zero none 0 none 0).toArray 29) := ⟨_, rfl⟩
  have mU : Moved (fun _ => False) w U := by rw [hU]; exact (Moved.refl _ _).alloc _
  have rA : RowAt U A (msgCells MsgV.zero none 0 none 0) := by rw [hU, hA]; exact row_new _ _ _
  have hwh := Fm.whole_any s U (by unfold maxLen; omega) (tab_moved hT mU)
  have hle : (Fm.Crc.wholeOf s.data.toList).1.length ≤ s.size := by
    unfold Fm.Crc.wholeOf
    split
    · exact Nat.zero_le _
    · split
      · exact Nat.zero_le _
      · unfold Fm.Crc.nextOf
        repeat' split
        all_goals first | exact Nat.zero_le _ | (simp only [List.length_take, List.length_drop]; have : s.data.toList.length = s.size := rfl; omega)
  have HU := hide hU
  have HMU := hide mU
  have HRA := hide rA
  have HWH := hide hwh
  have HA := hide hA
  have HL := hide hle
  clear hU mU rA hwh hA hT hle
  go_enter Tryd.func16, Tryd.ntmps16
  go_upto_region 1 with fail
  rw [← unhide HA]
  change Code.wp _ _ _ _ (w.alloc (.cells (msgCells MsgV.zero none 0 none 0).toArray 29))
  rw [← unhide HU]
  go_wp2_with fail
  refine (unhide HWH).mono ?_
  rintro e w1 ⟨rfl, hb⟩
  have hm := Moved.of_below (F := fun _ => False) hb
  have rA1 := (unhide HRA).keep hm id
  have HM := hide ((unhide HMU).trans hm fun _ f => f.elim)
  have HR1 := hide rA1
  clear hb hm rA1
  by_cases h0 : (Fm.Crc.wholeOf s.data.toList).2 = 0
  · have e1 : ofMsg s.data.toList = readMsg (Fm.Crc.wholeOf s.data.toList).1 := if_neg (fun h => h h0)
    have HE := hide e1
    rw [h0]
    clear e1
    generalize (Fm.Crc.wholeOf s.data.toList).1 = bd at *
    have hrd := read_any ⟨bd.toArray⟩ (by show bd.toArray.size ≤ _; simp only [List.size_toArray]; have := unhide HL; omega) w1
    have e2 : (⟨bd.toArray⟩ : ByteArray).data.toList = bd := rfl
    rw [e2] at hrd
    have HRD := hide hrd
    clear hrd e2 h0
    go_wp2_with fail
    refine (unhide HRD).mono ?_
    rintro e w2 ⟨hm2, a, c, a2, c2, rfl, hi1, hi2, hfr⟩
    obtain ⟨m, em⟩ : ∃ m, (readMsg bd).1 = m := ⟨_, rfl⟩
    obtain ⟨E, eE⟩ : ∃ E, (readMsg bd).2 = E := ⟨_, rfl⟩
    have HEM := hide (And.intro em eE)
    rw [em] at hi1 hi2 ⊢
    rw [eE]
    have rA2 := (unhide HR1).keep hm2 id
    have hAlt := (unhide HR1).lt
    have hA' := unhide HA
    have mset := setCells_moved w2 A 0 (msgCells m a c a2 c2)
    have hj1 := ints_beside hi1 mset fun y hy f => by have := hfr y (.inl hy); omega
    have hj2 := ints_beside hi2 mset fun y hy f => by have := hfr y (.inr hy); omega
    have mall : Moved (fun _ => False) w (w2.setCells A 0 (msgCells m a c a2 c2)) := ((unhide HM).trans hm2 fun _ f => f.elim).trans mset fun i hi => .inr (by omega)
    have RF := (rA2.put (msgCells m a c a2 c2) rfl).range
    have HJ := hide (And.intro hj1 hj2)
    have HMA := hide mall
    have HRF := hide RF
    have HTH := hide rA2.there
    have HO := hide (cells_one m a a2 c c2)
    clear em eE rA2 hAlt hA' mset hj1 hj2 mall RF hi1 hi2 hfr hm2
    go_wp2_with (refine wpList_store_mid rfl 29 (.tmp 2) (.tmp 17) rfl A 0 (msgCells m a c a2 c2).toArray rfl rfl (unhide HTH) (by kernel_rfl) (unhide HO) ?_; change wpList _ _ _ _ _ (w2.setCells A 0 (msgCells m a c a2 c2)); generalize w2.setCells A 0 (msgCells m a c a2 c2) = wf at *; clear HTH HO)
    refine bodyPost_ret (v := .tuple #[.agg (msgCells m a c a2 c2).toArray, .int .i64 (E : Int)]) ?_ rfl ?_
    · exact results_cell_tmp Tryd.results16 _ wf A _ _ rfl (unhide HRF) Tryd.underlying29 rfl (by kernel_rfl)
    · rw [unhide HE, (unhide HEM).1, (unhide HEM).2]
      exact ⟨unhide HMA, a, c, a2, c2, rfl, (unhide HJ).1, (unhide HJ).2⟩
  · have e1 : ofMsg s.data.toList = (MsgV.zero, (Fm.Crc.wholeOf s.data.toList).2) := if_pos h0
    have HE := hide e1
    obtain ⟨E, eE⟩ : ∃ E, (Fm.Crc.wholeOf s.data.toList).2 = E := ⟨_, rfl⟩
    have HEE := hide eE
    rw [eE] at h0 ⊢
    have h0' : ¬ ((E : Int) = 0) := by omega
    have hA' := unhide HA
    have mset := setCells_moved w1 A 0 (msgCells MsgV.zero none 0 none 0)
    have mall : Moved (fun _ => False) w (w1.setCells A 0 (msgCells MsgV.zero none 0 none 0)) := (unhide HM).trans mset fun i hi => .inr (by omega)
    have RF := ((unhide HR1).put (msgCells MsgV.zero none 0 none 0) rfl).range
    have HMA := hide mall
    have HRF := hide RF
    have HTH := hide (unhide HR1).there
    clear e1 eE hA' mset mall RF h0
    go_wp2_with (refine wpList_store_mid rfl 29 (.tmp 2) (.tmp 13) rfl A 0 #[.int .u8 0, .int .i64 0, .int .i64 0, .int .i64 0, .int .i64 0, .int .i64 0, .int .i64 0, .int .u64 0, .int .i64 0, .int .i64 0, .int .i64 0, .int .i64 0, .int .u8 0, .string ⟨#[]⟩, .int .i64 0, .int .i64 0, .int .i64 0, .int .i64 0, .int .i64 0, .slice none 0 0, .slice none 0 0, .string ⟨#[]⟩] rfl rfl (unhide HTH) (by kernel_rfl) (by simp [Value.oneCell']) ?_; change wpList _ _ _ _ _ (w1.setCells A 0 (msgCells MsgV.zero none 0 none 0)); generalize w1.setCells A 0 (msgCells MsgV.zero none 0 none 0) = wf at *; clear HTH)
    refine bodyPost_ret (v := .tuple #[.agg (msgCells MsgV.zero none 0 none 0).toArray, .int .i64 (E : Int)]) ?_ rfl ?_
    · exact results_cell_tmp Tryd.results16 _ wf A _ _ rfl (unhide HRF) Tryd.underlying29 rfl (by kernel_rfl)
    · rw [unhide HE]
      simp only [unhide HEE]
      exact ⟨unhide HMA, none, 0, none, 0, rfl, ints_nil _ _, ints_nil _ _⟩
end Go.Proofs.YtkbmbcmcnpeabaaDoor

namespace Go.Proofs.YtkbmbcmcnpeabaaDoor
open Pk Go.RowKit

/-- A message that is too great for the statements. -/
def great (m : MsgV) : Bool := decide (3000 < m.set.length ∨ 3000 < m.owner.length ∨ 5000 < m.data.length ∨ 5000 < m.item.key.length)
theorem size_of (l : List UInt8) : (⟨l.toArray⟩ : ByteArray).size = l.length := by simp [ByteArray.size]
set_option maxHeartbeats 1000000 in
theorem great_any (m : MsgV) (a1 a2 : Option Addr) (c1 c2 : Nat) (w : World) :
    Calls Tryd.prog 7 #[.agg (msgCells m a1 c1 a2 c2).toArray] w fun e w' => e = .returned (.bool (great m)) ∧ Moved (fun _ => False) w w' := by
  have hrow := row_new w (msgCells m a1 c1 a2 c2) 29
  have mW : Moved (fun _ => False) w (w.alloc (.cells (msgCells m a1 c1 a2 c2).toArray 29)) := (Moved.refl _ _).alloc _
  obtain ⟨W, hW⟩ : ∃ W, W = w.alloc (.cells (msgCells m a1 c1 a2 c2).toArray 29) := ⟨_, rfl⟩
  rw [← hW] at hrow mW
  have k0 : W.cell? ⟨w.heap.size, 20, none⟩ = some (.slice a2 m.set.length c2) := hrow.cell 20 (show 20 < 22 by decide)
  have k1 : W.cell? ⟨w.heap.size, 19, none⟩ = some (.slice a1 m.owner.length c1) := hrow.cell 19 (show 19 < 22 by decide)
  have k2 : W.cell? ⟨w.heap.size, 21, none⟩ = some (.string ⟨m.data.toArray⟩) := hrow.cell 21 (show 21 < 22 by decide)
  have k3 : W.cell? ⟨w.heap.size, 13, none⟩ = some (.string ⟨m.item.key.toArray⟩) := hrow.cell 13 (show 13 < 22 by decide)
  have s2 := size_of m.data
  have s3 := size_of m.item.key
  have hg : great m = decide (3000 < m.set.length ∨ 3000 < m.owner.length ∨ 5000 < (⟨m.data.toArray⟩ : ByteArray).size ∨ 5000 < (⟨m.item.key.toArray⟩ : ByteArray).size) := by rw [s2, s3]; rfl
  have HW := hide hW
  have HM := hide mW
  have HG := hide hg
  clear hrow mW hW hg s2 s3
  generalize (⟨m.data.toArray⟩ : ByteArray) = sd at *
  generalize (⟨m.item.key.toArray⟩ : ByteArray) = sk at *
  generalize m.set.length = n1 at *
  generalize m.owner.length = n2 at *
  go_enter Tryd.func7, Tryd.ntmps7
  go_upto_region 1 with fail
  rw [← unhide HW]
  by_cases h1 : (3000 : Int) < (n1 : Int)
  · go_wp2_with fail
    go_ret
    exact ⟨by rw [unhide HG, decide_eq_true (by omega)]; rfl, unhide HM⟩
  · by_cases h2 : (3000 : Int) < (n2 : Int)
    · go_wp2_with fail
      go_ret
      exact ⟨by rw [unhide HG, decide_eq_true (by omega)]; rfl, unhide HM⟩
    · by_cases h3 : (5000 : Int) < (sd.size : Int)
      · go_wp2_with fail
        go_ret
        exact ⟨by rw [unhide HG, decide_eq_true (by omega)]; rfl, unhide HM⟩
      · by_cases h4 : (5000 : Int) < (sk.size : Int)
        · go_wp2_with fail
          go_ret
          exact ⟨by rw [unhide HG, decide_eq_true (by omega)]; rfl, unhide HM⟩
        · go_wp2_with fail
          go_ret
          exact ⟨by rw [unhide HG, decide_eq_false (by omega)]; rfl, unhide HM⟩
end Go.Proofs.YtkbmbcmcnpeabaaDoor

namespace Go.Proofs.YtkbmbcmcnpeabaaDoor.Fm
open Crc Go.RowKit

theorem ref_put_any (s : ByteArray) (w : World) (hs : s.size ≤ maxLen) :
    Calls Tryd.prog 11 #[.string s] w fun e w' => e = .returned (.tuple #[.string ⟨(putOf s.data.toList).1.toArray⟩, .int .i64 (((putOf s.data.toList).2 : Nat) : Int)]) ∧ Below w.heap.size w w' := by
  by_cases hl : (16384 : Int) < (s.size : Int)
  · have e1 : putOf s.data.toList = ([], 3) := if_pos (by rw [text_len]; omega)
    rw [e1]
    go_enter Tryd.func11, Tryd.ntmps11
    go_wp2_with fail
    go_ret2
    exact ⟨rfl, Below.refl _ _⟩
  · have e1 : putOf s.data.toList = (frameOf s.data.toList, 0) := if_neg (by rw [text_len]; omega)
    have E1 := hide e1
    clear e1
    have hm : (s.size : Int) % 4294967296 = (s.size : Int) := by omega
    go_enter Tryd.func11, Tryd.ntmps11
    go_wp2_with fail
    refine (ref_four_nat s.size (by omega) _).mono ?_
    rintro e w1 ⟨rfl, m⟩
    have B := hide m
    clear m
    obtain ⟨h, hh⟩ : ∃ h : ByteArray, h = ⟨(headOf s.size).toArray⟩ := ⟨_, rfl⟩
    have hs4 : h.size = 4 := by rw [hh]; rfl
    rw [← hh]
    have H := hide hh
    clear hh
    go_wp2_with fail
    refine (ref_crc_any _ _ (by unfold maxLen; omega)).mono ?_
    rintro e w2 ⟨rfl, rfl⟩
    go_wp2_with fail
    refine (ref_four_any _ _).mono ?_
    rintro e w2 ⟨rfl, m⟩
    replace B := hide ((unhide B).trans (m.mono (unhide B).size))
    clear m
    obtain ⟨h2, hh⟩ : ∃ h2 : ByteArray, h2 = ⟨(four (crc h.data.toList)).toArray⟩ := ⟨_, rfl⟩
    have hs5 : h2.size = 4 := by rw [hh]; rfl
    rw [← hh]
    have H2 := hide hh
    clear hh
    go_wp2_with fail
    refine (ref_crc_any _ _ hs).mono ?_
    rintro e w3 ⟨rfl, rfl⟩
    go_wp2_with fail
    refine (ref_four_any _ _).mono ?_
    rintro e w3 ⟨rfl, m⟩
    replace B := hide ((unhide B).trans (m.mono (unhide B).size))
    clear m
    obtain ⟨h3, hh⟩ : ∃ h3 : ByteArray, h3 = ⟨(four (crc s.data.toList)).toArray⟩ := ⟨_, rfl⟩
    have hs6 : h3.size = 4 := by rw [hh]; rfl
    rw [← hh]
    have H3 := hide hh
    clear hh
    go_wp2_with fail
    go_ret2
    rw [unhide E1, frame_text (unhide H) (unhide H2) (unhide H3)]
    exact ⟨rfl, unhide B⟩

theorem ref_next_out (s : ByteArray) (at_ : Int) (w : World) (ho : at_ < 0 ∨ (s.size : Int) < at_) :
    Calls Tryd.prog 17 #[.string s, .int .i64 at_] w fun e w' => e = .returned (.tuple #[.string ⟨#[]⟩, .int .i64 0, .int .i64 1]) ∧ Below w.heap.size w w' := by
  by_cases h0 : at_ < 0
  · have d0 : decide (at_ < 0) = true := decide_eq_true h0
    go_enter Tryd.func17, Tryd.ntmps17
    go_wp2_with fail
    go_ret3
    exact ⟨rfl, Below.refl _ _⟩
  · have h1 : (s.size : Int) < at_ := by omega
    have d0 : decide (at_ < 0) = false := decide_eq_false h0
    have d1 : decide ((s.size : Int) < at_) = true := decide_eq_true h1
    go_enter Tryd.func17, Tryd.ntmps17
    go_wp2_with fail
    go_ret3
    exact ⟨rfl, Below.refl _ _⟩

theorem same_ne {a : List UInt8} {b : ByteArray} (h : (!a == b.toList) = true) : a ≠ b.data.toList := by
  rw [ByteArray.toList_eq] at h
  simpa using h
theorem same_eq {a : List UInt8} {b : ByteArray} (h : (!a == b.toList) = false) : a = b.data.toList := by
  rw [ByteArray.toList_eq] at h
  simpa using h

theorem wraps4 (a b c d : UInt8) : wrap64 (wrap64 (wrap64 (wrap64 (a.toNat : Int) + wrap64 (256 * wrap64 (b.toNat : Int))) + wrap64 (65536 * wrap64 (c.toNat : Int))) + wrap64 (16777216 * wrap64 (d.toNat : Int)))
    = ((a.toNat + 256 * b.toNat + 65536 * c.toNat + 16777216 * d.toNat : Nat) : Int) := by
  have ha := a.toNat_lt
  have hb := b.toNat_lt
  have hc := c.toNat_lt
  have hd := d.toNat_lt
  have key : ∀ x : Int, 0 ≤ x → x < 9223372036854775808 → wrap64 x = x := fun x h0 h1 => by unfold wrap64; omega
  rw [key (a.toNat : Int) (by omega) (by omega), key (b.toNat : Int) (by omega) (by omega), key (c.toNat : Int) (by omega) (by omega), key (d.toNat : Int) (by omega) (by omega),
    key (256 * (b.toNat : Int)) (by omega) (by omega), key (65536 * (c.toNat : Int)) (by omega) (by omega), key (16777216 * (d.toNat : Int)) (by omega) (by omega),
    key ((a.toNat : Int) + 256 * (b.toNat : Int)) (by omega) (by omega), key ((a.toNat : Int) + 256 * (b.toNat : Int) + 65536 * (c.toNat : Int)) (by omega) (by omega), key _ (by omega) (by omega)]
  omega

set_option maxHeartbeats 1000000 in
theorem ref_next_any (s : ByteArray) (k : Nat) (w : World) (hs : s.size ≤ maxLen) (hk : k ≤ s.size) :
    Calls Tryd.prog 17 #[.string s, .int .i64 (k : Int)] w fun e w' => e = .returned (.tuple #[.string ⟨(nextAt s.data.toList k).1.toArray⟩, .int .i64 (((nextAt s.data.toList k).2.1 : Nat) : Int), .int .i64 (((nextAt s.data.toList k).2.2 : Nat) : Int)]) ∧ Below w.heap.size w w' := by
  have HS := hide hs
  unfold maxLen at hs
  have h0 : ¬ (k : Int) < 0 := by omega
  have h1 : ¬ (s.size : Int) < (k : Int) := by omega
  have h1' : (k : Int) ≤ (s.size : Int) := by omega
  have d0 : decide ((k : Int) < 0) = false := decide_eq_false h0
  have d1 : decide ((s.size : Int) < (k : Int)) = false := decide_eq_false h1
  obtain ⟨t, ht⟩ : ∃ t : ByteArray, s.extract k s.size = t := ⟨_, rfl⟩
  have hrest : t.data.toList = s.data.toList.drop k := by rw [← ht]; exact rest_list s k
  have htl : t.size = s.size - k := by rw [← text_len, hrest, List.length_drop, text_len]
  have e1 : nextAt s.data.toList k = ((nextOf t.data.toList).1, if (nextOf t.data.toList).2.2 = 0 then k + (nextOf t.data.toList).2.1 else 0, (nextOf t.data.toList).2.2) := by rw [hrest]; rfl
  have E1 := hide e1
  have Htl := hide htl
  clear e1 hrest htl
  by_cases h8 : (t.size : Int) < 8
  · go_enter Tryd.func17, Tryd.ntmps17
    go_wp2_with fail
    go_ret3
    have e : nextOf t.data.toList = ([], 0, 7) := if_pos (by rw [text_len]; omega)
    rw [unhide E1, e]
    exact ⟨rfl, Below.refl _ _⟩
  · have l4' : (4 : Int) ≤ (t.size : Int) := by omega
    have l8' : (8 : Int) ≤ (t.size : Int) := by omega
    have hts : t.size ≤ maxLen := by have := unhide Htl; unfold maxLen; omega
    obtain ⟨St, hst⟩ : ∃ St : World → Prop, St = fun w' => Below w.heap.size w w' := ⟨_, rfl⟩
    have st : St w.drew := by rw [hst]; exact (Below.refl _ _).drew
    have sC := hide (show ∀ (u : ByteArray), u.size ≤ maxLen → ∀ p : SW St, Calls Tryd.prog 34 #[.string u] p.w fun e w'' => e = .returned (.int .u32 (((crc u.data.toList).toNat : Nat) : Int)) ∧ ∃ q : SW St, w'' = q.w from fun u hu ⟨w', h⟩ =>
      (ref_crc_any u w' hu).mono fun e w'' ⟨he, hw⟩ => ⟨he, ⟨w', h⟩, hw⟩)
    have sF := hide (show ∀ (c : BitVec 32) (p : SW St), Calls Tryd.prog 33 #[.int .u32 (c.toNat : Int)] p.w fun e w'' => e = .returned (.string ⟨(four c).toArray⟩) ∧ ∃ q : SW St, w'' = q.w from fun c ⟨w', h⟩ => by
      have h' : Below w.heap.size w w' := by rw [hst] at h; exact h
      exact (ref_four_any c w').mono fun e w'' ⟨he, m⟩ => ⟨he, ⟨w'', by rw [hst]; exact h'.trans (m.mono h'.size)⟩, rfl⟩)
    have Hst := hide hst
    clear hst
    have HT := hide hts
    clear hts
    go_enter Tryd.func17, Tryd.ntmps17
    go_wp2_with fail
    have ne : Nonempty (SW St) := ⟨⟨_, st⟩⟩
    refine wp_region_sw (St := St) (by kernel_rfl) (by kernel_rfl) st ?_
    repeat (go_big_quiet_step (first | (go_at_call 34; exact unhide sC _ (cut_max _ _ _ (unhide HT)) _) | (go_at_call 33; exact unhide sF _ _)))
    refine wpQuiet_nil ?_
    rintro w9 ⟨⟨_, st9⟩, rfl⟩
    have B := hide (show Below w.heap.size w w9 by rw [unhide Hst] at st9; exact st9)
    clear st9
    have q0 : 0 < t.size := by omega
    have q1 : (1 : Int) < (t.size : Int) := by omega
    have q2 : (2 : Int) < (t.size : Int) := by omega
    have q3 : (3 : Int) < (t.size : Int) := by omega
    go_wp2_with fail
    · go_ret3
      have hx := same_ne ‹(!four (crc (List.take 4 t.data.toList)) == (t.extract 4 8).toList) = true›
      have e : nextOf t.data.toList = ([], 0, 9) := by
        rw [cut_list] at hx
        unfold nextOf
        rw [if_neg (by rw [text_len]; omega), if_pos hx]
      rw [unhide E1, e]
      exact ⟨rfl, unhide B⟩
    · have hx := hide (same_eq ‹(!four (crc (List.take 4 t.data.toList)) == (t.extract 4 8).toList) = false›)
      go_quiet (fail)
      rw [wraps4, ← le4_at t (by omega)]
      have hb4 := le4_lt (t.data.toList.take 4)
      generalize hn : le4 (t.data.toList.take 4) = n at *
      have Hn := hide hn
      clear hn
      replace B := hide (below_drewN (unhide B) nq)
      by_cases hbig : (16384 : Int) < (n : Int)
      · go_wp2_with fail
        go_ret3
        have e : nextOf t.data.toList = ([], 0, 3) := by
          have hx' := unhide hx
          rw [cut_list] at hx'
          unfold nextOf
          rw [if_neg (by rw [text_len]; omega), if_neg (fun h => h hx'), unhide Hn, if_pos (by omega)]
        rw [unhide E1, e]
        exact ⟨rfl, unhide B⟩
      · by_cases hsh : (t.size : Int) < (n : Int) + 12
        · go_wp2_with fail
          go_ret3
          have e : nextOf t.data.toList = ([], 0, 7) := by
            have hx' := unhide hx
            rw [cut_list] at hx'
            unfold nextOf
            rw [if_neg (by rw [text_len]; omega), if_neg (fun h => h hx'), unhide Hn, if_neg (by omega), text_len, if_pos (by omega)]
          rw [unhide E1, e]
          exact ⟨rfl, unhide B⟩
        · have t8 : ((8 : Int) + (n : Int)).toNat = 8 + n := by omega
          have t12 : ((12 : Int) + (n : Int)).toNat = 12 + n := by omega
          have u8 : (8 : Int) + (n : Int) ≤ (t.size : Int) := by omega
          have u12 : (12 : Int) + (n : Int) ≤ (t.size : Int) := by omega
          have v8 : (8 : Int) ≤ (8 : Int) + (n : Int) := by omega
          have v12 : (8 : Int) + (n : Int) ≤ (12 : Int) + (n : Int) := by omega
          go_wp2_with fail
          have st2 : St (w9.drewN nq).drew := by rw [unhide Hst]; exact (unhide B).drew
          refine wp_region_sw (St := St) (by kernel_rfl) (by kernel_rfl) st2 ?_
          repeat (go_big_quiet_step (first | (go_at_call 34; exact unhide sC _ (cut_max _ _ _ (unhide HT)) _) | (go_at_call 33; exact unhide sF _ _)))
          refine wpQuiet_nil ?_
          rintro w8 ⟨⟨_, st8⟩, rfl⟩
          replace B := hide (show Below w.heap.size w w8 by rw [unhide Hst] at st8; exact st8)
          clear st8
          have hsz := unhide Htl
          have sum1 : wrap64 (wrap64 ((k : Int) + 12) + (n : Int)) = ((k + (n + 12) : Nat) : Int) := by unfold wrap64; omega
          have S1 := hide sum1
          clear sum1
          have Hsz := hide hsz
          clear hsz
          go_wp2_with fail
          · go_ret3
            have hy := same_ne ‹(!four (crc (List.take n (List.drop 8 t.data.toList))) == (t.extract (8 + n) (12 + n)).toList) = true›
            have e : nextOf t.data.toList = ([], 0, 9) := by
              have hx' := unhide hx
              rw [cut_list] at hx' hy
              rw [show 12 + n - (8 + n) = 4 by omega] at hy
              unfold nextOf
              rw [if_neg (by rw [text_len]; omega), if_neg (fun h => h hx'), unhide Hn, if_neg (by omega), text_len, if_neg (by omega), if_pos hy]
            rw [unhide E1, e]
            exact ⟨rfl, unhide B⟩
          · go_ret3
            have hy := same_eq ‹(!four (crc (List.take n (List.drop 8 t.data.toList))) == (t.extract (8 + n) (12 + n)).toList) = false›
            have e : nextOf t.data.toList = ((t.data.toList.drop 8).take n, n + 12, 0) := by
              have hx' := unhide hx
              rw [cut_list] at hx' hy
              rw [show 12 + n - (8 + n) = 4 by omega] at hy
              unfold nextOf
              rw [if_neg (by rw [text_len]; omega), if_neg (fun h => h hx'), unhide Hn, if_neg (by omega), text_len, if_neg (by omega), if_neg (fun h => h hy)]
            have eb : (⟨((t.data.toList.drop 8).take n).toArray⟩ : ByteArray) = t.extract 8 (8 + n) := bytes_ext (by rw [cut_list, show 8 + n - 8 = n by omega])
            rw [unhide E1, e]
            simp only [if_true]
            rw [eb, ← unhide S1]
            exact ⟨rfl, unhide B⟩
end Go.Proofs.YtkbmbcmcnpeabaaDoor.Fm

namespace Go.Proofs.YtkbmbcmcnpeabaaDoor
open Pk Go.RowKit Go.ChangeShapes Go.WideShapes

theorem mcells3 : Tryd.prog.cellsOf 3 = 1 := by kernel_rfl
theorem mcells2 : Tryd.prog.cellsOf 2 = 1 := by kernel_rfl
theorem mcells22 : Tryd.prog.cellsOf 22 = 1 := by kernel_rfl
theorem mcells5 : Tryd.prog.cellsOf 5 = 1 := by kernel_rfl
theorem mcells9 : Tryd.prog.cellsOf 9 = 1 := by kernel_rfl
theorem mcells25 : Tryd.prog.cellsOf 25 = 1 := by kernel_rfl
theorem mcells24 : Tryd.prog.cellsOf 24 = 8 := by kernel_rfl
theorem mcells27 : Tryd.prog.cellsOf 27 = 3 := by kernel_rfl
theorem mcells29 : Tryd.prog.cellsOf 29 = 22 := by kernel_rfl
theorem ints_in {H : Type} {enc : TypeId × Value → H} {w : World} {base : Nat} {spare : Nat → Bool} {held : Bool} {fuel : Nat} {cs : List Value} {x : DataW H × List MemPlace} (h : DataW.trod enc Tryd.prog w base spare held fuel 25 cs = some x) : ∃ (a : Option Addr) (c : Nat) (xs : List Int), cs = [.slice a xs.length c] ∧ xs.length ≤ maxLen ∧ Ints w a xs := by
  rcases Go.ChangeShapes.open_ints Tryd.underlying25 Tryd.underlying3 mcells3 h with ⟨rfl, _⟩ | ⟨a, len, cap, zs, rfl, _, hl, hm, hz, _, hc, _⟩
  · exact ⟨none, 0, [], rfl, Nat.zero_le _, fun i hi => by simp at hi⟩
  · have hle : len ≤ zs.length := by rw [hz]; split <;> omega
    have hlen : (zs.take len).length = len := by rw [List.length_take]; omega
    refine ⟨some a, cap, zs.take len, by rw [hlen], by omega, fun i hi => ⟨a, rfl, ?_⟩⟩
    rw [hc i (by omega)]
    simp only [List.getD_eq_getElem?_getD, List.getElem?_take_of_lt (show i < len by omega)]
set_option maxRecDepth 100000 in
theorem item_in {H : Type} {enc : TypeId × Value → H} {w : World} {base : Nat} {spare : Nat → Bool} {held : Bool} {fuel : Nat} {cs : List Value} {x : DataW H × List MemPlace} (h : DataW.trod enc Tryd.prog w base spare held fuel 24 cs = some x) : ∃ y : ItemV, I64 y.at_ ∧ I64 y.n ∧ y.key.length ≤ maxLen ∧ cs = [.int .i64 y.src, .int .i64 y.seq, .int .i64 y.low, .int .u8 (y.kind.toNat : Int), .string ⟨y.key.toArray⟩, .int .i64 y.part, .int .i64 y.at_, .int .i64 y.n] := by
  obtain ⟨xs, n, rfl, rfl, hl, hxl, hf⟩ := DataW.trod_struct Tryd.underlying24 h
  rw [mcells24] at hl
  match cs, hl, xs, hxl with
  | [v0, v1, v2, v3, v4, v5, v6, v7], _, [y0, y1, y2, y3, y4, y5, y6, y7], _ =>
    have g0 : DataW.trod enc Tryd.prog w base spare held n 3 (List.take (Tryd.prog.cellsOf 3) (List.drop 0 [v0, v1, v2, v3, v4, v5, v6, v7])) = some y0 := hf 0 _ rfl
    rw [mcells3] at g0
    have k0 : DataW.trod enc Tryd.prog w base spare held n 3 [v0] = some y0 := g0
    have g1 : DataW.trod enc Tryd.prog w base spare held n 3 (List.take (Tryd.prog.cellsOf 3) (List.drop 1 [v0, v1, v2, v3, v4, v5, v6, v7])) = some y1 := hf 1 _ rfl
    rw [mcells3] at g1
    have k1 : DataW.trod enc Tryd.prog w base spare held n 3 [v1] = some y1 := g1
    have g2 : DataW.trod enc Tryd.prog w base spare held n 3 (List.take (Tryd.prog.cellsOf 3) (List.drop 2 [v0, v1, v2, v3, v4, v5, v6, v7])) = some y2 := hf 2 _ rfl
    rw [mcells3] at g2
    have k2 : DataW.trod enc Tryd.prog w base spare held n 3 [v2] = some y2 := g2
    have g3 : DataW.trod enc Tryd.prog w base spare held n 5 (List.take (Tryd.prog.cellsOf 5) (List.drop 3 [v0, v1, v2, v3, v4, v5, v6, v7])) = some y3 := hf 3 _ rfl
    rw [mcells5] at g3
    have k3 : DataW.trod enc Tryd.prog w base spare held n 5 [v3] = some y3 := g3
    have g4 : DataW.trod enc Tryd.prog w base spare held n 9 (List.take (Tryd.prog.cellsOf 9) (List.drop 4 [v0, v1, v2, v3, v4, v5, v6, v7])) = some y4 := hf 4 _ rfl
    rw [mcells9] at g4
    have k4 : DataW.trod enc Tryd.prog w base spare held n 9 [v4] = some y4 := g4
    have g5 : DataW.trod enc Tryd.prog w base spare held n 3 (List.take (Tryd.prog.cellsOf 3) (List.drop 5 [v0, v1, v2, v3, v4, v5, v6, v7])) = some y5 := hf 5 _ rfl
    rw [mcells3] at g5
    have k5 : DataW.trod enc Tryd.prog w base spare held n 3 [v5] = some y5 := g5
    have g6 : DataW.trod enc Tryd.prog w base spare held n 2 (List.take (Tryd.prog.cellsOf 2) (List.drop 6 [v0, v1, v2, v3, v4, v5, v6, v7])) = some y6 := hf 6 _ rfl
    rw [mcells2] at g6
    have k6 : DataW.trod enc Tryd.prog w base spare held n 2 [v6] = some y6 := g6
    have g7 : DataW.trod enc Tryd.prog w base spare held n 2 (List.take (Tryd.prog.cellsOf 2) (List.drop 7 [v0, v1, v2, v3, v4, v5, v6, v7])) = some y7 := hf 7 _ rfl
    rw [mcells2] at g7
    have k7 : DataW.trod enc Tryd.prog w base spare held n 2 [v7] = some y7 := g7
    obtain ⟨x0, e0, _, w0⟩ := DataW.trod_int Tryd.underlying3 k0
    obtain ⟨x1, e1, _, w1⟩ := DataW.trod_int Tryd.underlying3 k1
    obtain ⟨x2, e2, _, w2⟩ := DataW.trod_int Tryd.underlying3 k2
    obtain ⟨x5, e5, _, w5⟩ := DataW.trod_int Tryd.underlying3 k5
    obtain ⟨x6, e6, _, w6⟩ := DataW.trod_int Tryd.underlying2 k6
    obtain ⟨x7, e7, _, w7⟩ := DataW.trod_int Tryd.underlying2 k7
    obtain ⟨x3, e3, _, w3⟩ := DataW.trod_int Tryd.underlying5 k3
    obtain ⟨x4, e4, _, w4⟩ := DataW.trod_string Tryd.underlying9 k4
    simp only [List.cons.injEq, and_true] at e0 e1 e2 e3 e4 e5 e6 e7
    have b3 := bounds_u8 w3
    have c3 : (((UInt8.ofNat x3.toNat).toNat : Nat) : Int) = x3 := by rw [toNat_ofNat_lt (by omega)]; omega
    refine ⟨⟨x0, x1, x2, UInt8.ofNat x3.toNat, x4.data.toList, x5, x6, x7⟩, bounds_i64 w6, bounds_i64 w7, w4, ?_⟩
    rw [e0, e1, e2, e3, e4, e5, e6, e7]
    simp only [c3, Array.toArray_toList]
set_option maxRecDepth 100000 in
theorem table_in {H : Type} {enc : TypeId × Value → H} {w : World} {base : Nat} {spare : Nat → Bool} {held : Bool} {fuel : Nat} {cs : List Value} {x : DataW H × List MemPlace} (h : DataW.trod enc Tryd.prog w base spare held fuel 27 cs = some x) : ∃ (ep nd : Int) (a : Option Addr) (c : Nat) (xs : List Int), cs = [.int .i64 ep, .int .i64 nd, .slice a xs.length c] ∧ xs.length ≤ maxLen ∧ Ints w a xs := by
  obtain ⟨xs, n, rfl, rfl, hl, hxl, hf⟩ := DataW.trod_struct Tryd.underlying27 h
  rw [mcells27] at hl
  match cs, hl, xs, hxl with
  | [v0, v1, v2], _, [y0, y1, y2], _ =>
    have g0 : DataW.trod enc Tryd.prog w base spare held n 3 (List.take (Tryd.prog.cellsOf 3) (List.drop 0 [v0, v1, v2])) = some y0 := hf 0 _ rfl
    rw [mcells3] at g0
    have k0 : DataW.trod enc Tryd.prog w base spare held n 3 [v0] = some y0 := g0
    have g1 : DataW.trod enc Tryd.prog w base spare held n 3 (List.take (Tryd.prog.cellsOf 3) (List.drop 1 [v0, v1, v2])) = some y1 := hf 1 _ rfl
    rw [mcells3] at g1
    have k1 : DataW.trod enc Tryd.prog w base spare held n 3 [v1] = some y1 := g1
    have g2 : DataW.trod enc Tryd.prog w base spare held n 25 (List.take (Tryd.prog.cellsOf 25) (List.drop 2 [v0, v1, v2])) = some y2 := hf 2 _ rfl
    rw [mcells25] at g2
    have k2 : DataW.trod enc Tryd.prog w base spare held n 25 [v2] = some y2 := g2
    obtain ⟨x0, e0, _, w0⟩ := DataW.trod_int Tryd.underlying3 k0
    obtain ⟨x1, e1, _, w1⟩ := DataW.trod_int Tryd.underlying3 k1
    obtain ⟨a, c, zs, e2, hz, hI⟩ := ints_in k2
    simp only [List.cons.injEq, and_true] at e0 e1 e2
    exact ⟨x0, x1, a, c, zs, by rw [e0, e1, e2], hz, hI⟩
set_option maxRecDepth 100000 in
set_option maxHeartbeats 1000000 in
theorem msg_in {H : Type} {enc : TypeId × Value → H} {w : World} {base : Nat} {spare : Nat → Bool} {held : Bool} {fuel : Nat} {cs : List Value} {x : DataW H × List MemPlace} (h : DataW.trod enc Tryd.prog w base spare held fuel 29 cs = some x) : ∃ (m : MsgV) (a1 a2 : Option Addr) (c1 c2 : Nat), Fit m ∧ cs = msgCells m a1 c1 a2 c2 ∧ Ints w a1 m.owner ∧ Ints w a2 m.set := by
  obtain ⟨xs, n, rfl, rfl, hl, hxl, hf⟩ := DataW.trod_struct Tryd.underlying29 h
  rw [mcells29] at hl
  match cs, hl, xs, hxl with
  | [v0, v1, v2, v3, v4, v5, v6, v7, v8, v9, v10, v11, v12, v13, v14, v15, v16, v17, v18, v19, v20, v21], _, [y0, y1, y2, y3, y4, y5, y6, y7, y8, y9, y10, y11, y12], _ =>
    have g0 : DataW.trod enc Tryd.prog w base spare held n 5 (List.take (Tryd.prog.cellsOf 5) (List.drop 0 [v0, v1, v2, v3, v4, v5, v6, v7, v8, v9, v10, v11, v12, v13, v14, v15, v16, v17, v18, v19, v20, v21])) = some y0 := hf 0 _ rfl
    rw [mcells5] at g0
    have k0 : DataW.trod enc Tryd.prog w base spare held n 5 [v0] = some y0 := g0
    have g1 : DataW.trod enc Tryd.prog w base spare held n 3 (List.take (Tryd.prog.cellsOf 3) (List.drop 1 [v0, v1, v2, v3, v4, v5, v6, v7, v8, v9, v10, v11, v12, v13, v14, v15, v16, v17, v18, v19, v20, v21])) = some y1 := hf 1 _ rfl
    rw [mcells3] at g1
    have k1 : DataW.trod enc Tryd.prog w base spare held n 3 [v1] = some y1 := g1
    have g2 : DataW.trod enc Tryd.prog w base spare held n 3 (List.take (Tryd.prog.cellsOf 3) (List.drop 2 [v0, v1, v2, v3, v4, v5, v6, v7, v8, v9, v10, v11, v12, v13, v14, v15, v16, v17, v18, v19, v20, v21])) = some y2 := hf 2 _ rfl
    rw [mcells3] at g2
    have k2 : DataW.trod enc Tryd.prog w base spare held n 3 [v2] = some y2 := g2
    have g3 : DataW.trod enc Tryd.prog w base spare held n 3 (List.take (Tryd.prog.cellsOf 3) (List.drop 3 [v0, v1, v2, v3, v4, v5, v6, v7, v8, v9, v10, v11, v12, v13, v14, v15, v16, v17, v18, v19, v20, v21])) = some y3 := hf 3 _ rfl
    rw [mcells3] at g3
    have k3 : DataW.trod enc Tryd.prog w base spare held n 3 [v3] = some y3 := g3
    have g4 : DataW.trod enc Tryd.prog w base spare held n 3 (List.take (Tryd.prog.cellsOf 3) (List.drop 4 [v0, v1, v2, v3, v4, v5, v6, v7, v8, v9, v10, v11, v12, v13, v14, v15, v16, v17, v18, v19, v20, v21])) = some y4 := hf 4 _ rfl
    rw [mcells3] at g4
    have k4 : DataW.trod enc Tryd.prog w base spare held n 3 [v4] = some y4 := g4
    have g5 : DataW.trod enc Tryd.prog w base spare held n 3 (List.take (Tryd.prog.cellsOf 3) (List.drop 5 [v0, v1, v2, v3, v4, v5, v6, v7, v8, v9, v10, v11, v12, v13, v14, v15, v16, v17, v18, v19, v20, v21])) = some y5 := hf 5 _ rfl
    rw [mcells3] at g5
    have k5 : DataW.trod enc Tryd.prog w base spare held n 3 [v5] = some y5 := g5
    have g6 : DataW.trod enc Tryd.prog w base spare held n 3 (List.take (Tryd.prog.cellsOf 3) (List.drop 6 [v0, v1, v2, v3, v4, v5, v6, v7, v8, v9, v10, v11, v12, v13, v14, v15, v16, v17, v18, v19, v20, v21])) = some y6 := hf 6 _ rfl
    rw [mcells3] at g6
    have k6 : DataW.trod enc Tryd.prog w base spare held n 3 [v6] = some y6 := g6
    have g7 : DataW.trod enc Tryd.prog w base spare held n 22 (List.take (Tryd.prog.cellsOf 22) (List.drop 7 [v0, v1, v2, v3, v4, v5, v6, v7, v8, v9, v10, v11, v12, v13, v14, v15, v16, v17, v18, v19, v20, v21])) = some y7 := hf 7 _ rfl
    rw [mcells22] at g7
    have k7 : DataW.trod enc Tryd.prog w base spare held n 22 [v7] = some y7 := g7
    have g8 : DataW.trod enc Tryd.prog w base spare held n 2 (List.take (Tryd.prog.cellsOf 2) (List.drop 8 [v0, v1, v2, v3, v4, v5, v6, v7, v8, v9, v10, v11, v12, v13, v14, v15, v16, v17, v18, v19, v20, v21])) = some y8 := hf 8 _ rfl
    rw [mcells2] at g8
    have k8 : DataW.trod enc Tryd.prog w base spare held n 2 [v8] = some y8 := g8
    have g9 : DataW.trod enc Tryd.prog w base spare held n 24 (List.take (Tryd.prog.cellsOf 24) (List.drop 9 [v0, v1, v2, v3, v4, v5, v6, v7, v8, v9, v10, v11, v12, v13, v14, v15, v16, v17, v18, v19, v20, v21])) = some y9 := hf 9 _ rfl
    rw [mcells24] at g9
    have k9 : DataW.trod enc Tryd.prog w base spare held n 24 [v9, v10, v11, v12, v13, v14, v15, v16] = some y9 := g9
    have g10 : DataW.trod enc Tryd.prog w base spare held n 27 (List.take (Tryd.prog.cellsOf 27) (List.drop 17 [v0, v1, v2, v3, v4, v5, v6, v7, v8, v9, v10, v11, v12, v13, v14, v15, v16, v17, v18, v19, v20, v21])) = some y10 := hf 10 _ rfl
    rw [mcells27] at g10
    have k10 : DataW.trod enc Tryd.prog w base spare held n 27 [v17, v18, v19] = some y10 := g10
    have g11 : DataW.trod enc Tryd.prog w base spare held n 25 (List.take (Tryd.prog.cellsOf 25) (List.drop 20 [v0, v1, v2, v3, v4, v5, v6, v7, v8, v9, v10, v11, v12, v13, v14, v15, v16, v17, v18, v19, v20, v21])) = some y11 := hf 11 _ rfl
    rw [mcells25] at g11
    have k11 : DataW.trod enc Tryd.prog w base spare held n 25 [v20] = some y11 := g11
    have g12 : DataW.trod enc Tryd.prog w base spare held n 9 (List.take (Tryd.prog.cellsOf 9) (List.drop 21 [v0, v1, v2, v3, v4, v5, v6, v7, v8, v9, v10, v11, v12, v13, v14, v15, v16, v17, v18, v19, v20, v21])) = some y12 := hf 12 _ rfl
    rw [mcells9] at g12
    have k12 : DataW.trod enc Tryd.prog w base spare held n 9 [v21] = some y12 := g12
    obtain ⟨x0, e0, _, w0⟩ := DataW.trod_int Tryd.underlying5 k0
    obtain ⟨x1, e1, _, w1⟩ := DataW.trod_int Tryd.underlying3 k1
    obtain ⟨x2, e2, _, w2⟩ := DataW.trod_int Tryd.underlying3 k2
    obtain ⟨x3, e3, _, w3⟩ := DataW.trod_int Tryd.underlying3 k3
    obtain ⟨x4, e4, _, w4⟩ := DataW.trod_int Tryd.underlying3 k4
    obtain ⟨x5, e5, _, w5⟩ := DataW.trod_int Tryd.underlying3 k5
    obtain ⟨x6, e6, _, w6⟩ := DataW.trod_int Tryd.underlying3 k6
    obtain ⟨x7, e7, _, w7⟩ := DataW.trod_int Tryd.underlying22 k7
    obtain ⟨x8, e8, _, w8⟩ := DataW.trod_int Tryd.underlying2 k8
    obtain ⟨y, hy1, hy2, hy3, e9⟩ := item_in k9
    obtain ⟨ep, nd, a1, c1, ow, e10, ho, hI1⟩ := table_in k10
    obtain ⟨a2, c2, st, e11, hs, hI2⟩ := ints_in k11
    obtain ⟨x12, e12, _, w12⟩ := DataW.trod_string Tryd.underlying9 k12
    simp only [List.cons.injEq, and_true] at e0 e1 e2 e3 e4 e5 e6 e7 e8 e9 e10 e11 e12
    obtain ⟨p0, p1, p2, p3, p4, p5, p6, p7⟩ := e9
    obtain ⟨q0, q1, q2⟩ := e10
    have b0 := bounds_u8 w0
    have b7 := bounds_u64 w7
    have c0 : (((UInt8.ofNat x0.toNat).toNat : Nat) : Int) = x0 := by rw [toNat_ofNat_lt (by omega)]; omega
    have c7 : ((x7.toNat : Nat) : Int) = x7 := by omega
    refine ⟨⟨UInt8.ofNat x0.toNat, x1, x2, x3, x4, x5, x6, x7.toNat, x8, y, ep, nd, ow, st, x12.data.toList⟩, a1, a2, c1, c2, ⟨by show x7.toNat < 2 ^ 64; omega, bounds_i64 w8, hy1, hy2, hy3, ho, hs, w12⟩, ?_, hI1, hI2⟩
    rw [e0, e1, e2, e3, e4, e5, e6, e7, e8, p0, p1, p2, p3, p4, p5, p6, p7, q0, q1, q2, e11, e12]
    simp only [msgCells, c0, c7, Array.toArray_toList]
set_option maxRecDepth 100000 in
/-- A message that is handed in. -/
theorem msg_arg {H : Type} {enc : TypeId × Value → H} {w : World} {base : Nat} {spare : Nat → Bool} {held : Bool} {r : Reach} {b0 : Nat} {v : Value} {d : DataW H} {pl : List MemPlace} (hv : Value.okWide Tryd.prog w r b0 29 v) (h : DataW.Trod enc Tryd.prog w base spare held 29 v d pl) :
    ∃ (m : MsgV) (a1 a2 : Option Addr) (c1 c2 : Nat), Fit m ∧ v = .agg (msgCells m a1 c1 a2 c2).toArray ∧ Ints w a1 m.owner ∧ Ints w a2 m.set := by
  obtain ⟨cs, rfl, _⟩ := okWide_struct Tryd.underlying29 hv
  obtain ⟨fuel, hf⟩ := h
  obtain ⟨m, a1, a2, c1, c2, hF, hcs, h1, h2⟩ := msg_in hf
  refine ⟨m, a1, a2, c1, c2, hF, ?_, h1, h2⟩
  have : cs.toList = msgCells m a1 c1 a2 c2 := hcs
  rw [← this, Array.toArray_toList]
end Go.Proofs.YtkbmbcmcnpeabaaDoor

namespace Go.Proofs.YtkbmbcmcnpeabaaDoor.Rw
open Pk Go.RowKit

section
variable (m : MsgV) (a1 a2 : Option Addr) (c1 c2 : Nat) (w : World) (hf : Fit m) (ia1 : Ints w a1 m.owner) (ia2 : Ints w a2 m.set) (hT : Fm.Tab w) (rr : ∀ v : World, Ints v a1 m.owner → Ints v a2 m.set → Calls Tryd.prog 25 #[.agg (msgCells m a1 c1 a2 c2).toArray] v fun e v' => Moved (fun _ => False) v v' ∧ ((Right m ∧ e = .returned (.int .i64 0)) ∨ (¬ Right m ∧ e = .returned (.int .i64 (errOf m)))))
include hf ia1 ia2 hT rr
set_option maxHeartbeats 16000000 in
set_option maxRecDepth 100000 in
theorem writes_yes (hr : Right m) : Calls Tryd.prog 3 #[.agg (msgCells m a1 c1 a2 c2).toArray] w fun e w' => e = .returned (.bool true) ∧ Below w.heap.size w w' := by
  obtain ⟨A, hA⟩ : ∃ A, A = w.heap.size := ⟨_, rfl⟩
  obtain ⟨W, hW⟩ : ∃ W, W = w.alloc (.cells (msgCells m a1 c1 a2 c2).toArray 29) := ⟨_, rfl⟩
  have mW : Moved (fun _ => False) w W := by rw [hW]; exact (Moved.refl _ _).alloc _
  have RA : Hid (RowAt W A (msgCells m a1 c1 a2 c2)) := hide (by rw [hW, hA]; exact row_new _ _ _)
  have JA := hide (And.intro (ia1.keep mW fun _ _ => id) (ia2.keep mW fun _ _ => id))
  have HT := hide (tab_moved hT mW)
  have HW := hide hW
  have HA := hide hA
  have fin : ∀ w', Moved (fun _ => False) W w' → Below w.heap.size w w' := fun w' h => (mW.trans h fun _ f => f.elim).below (fun _ f => f.elim) (Nat.le_refl _)
  have FIN := hide fin
  have GR := hide (fun (v : World) (_ : Moved (fun _ => False) W v) => great_any m a1 a2 c1 c2 v)
  obtain ⟨sx, hsx⟩ : ∃ x, (⟨(msgBytes m).toArray⟩ : ByteArray) = x := ⟨_, rfl⟩
  obtain ⟨fx, hfx⟩ : ∃ x, (⟨(Fm.Crc.frameOf (msgBytes m)).toArray⟩ : ByteArray) = x := ⟨_, rfl⟩
  have B8 := hide (fun (v : World) (mv : Moved (fun _ => False) W v) => (by rw [← hsx]; exact (bytes_any m a1 a2 c1 c2 v hf ((unhide JA).1.keep mv fun _ _ => id) ((unhide JA).2.keep mv fun _ _ => id)).mono fun e v' ⟨hm, h⟩ => ⟨h.elim (fun x => x.2) (fun x => absurd hr x.1), hm⟩ : Calls Tryd.prog 8 #[.agg (msgCells m a1 c1 a2 c2).toArray] v fun e v' => e = .returned (.tuple #[.string sx, .int .i64 0]) ∧ Moved (fun _ => False) v v'))
  have B9 := hide (fun (v : World) (mv : Moved (fun _ => False) W v) => (by rw [← hsx]; exact (refbytes_with m a1 a2 c1 c2 v ((unhide JA).1.keep mv fun _ _ => id) ((unhide JA).2.keep mv fun _ _ => id) rr).mono fun e v' ⟨hm, h⟩ => ⟨h.elim (fun x => x.2) (fun x => absurd hr x.1), hm⟩ : Calls Tryd.prog 9 #[.agg (msgCells m a1 c1 a2 c2).toArray] v fun e v' => e = .returned (.tuple #[.string sx, .int .i64 0]) ∧ Moved (fun _ => False) v v'))
  have B10 := hide (fun (v : World) (mv : Moved (fun _ => False) W v) => (by rw [← hfx]; exact (data_any m a1 a2 c1 c2 v hf ((unhide JA).1.keep mv fun _ _ => id) ((unhide JA).2.keep mv fun _ _ => id) (tab_moved (unhide HT) mv)).mono fun e v' ⟨hm, h⟩ => ⟨h.elim (fun x => x.2) (fun x => absurd hr x.1), hm⟩ : Calls Tryd.prog 10 #[.agg (msgCells m a1 c1 a2 c2).toArray] v fun e v' => e = .returned (.tuple #[.string fx, .int .i64 0]) ∧ Moved (fun _ => False) v v'))
  have B12 := hide (fun (v : World) (mv : Moved (fun _ => False) W v) => ((right_any m a1 a2 c1 c2 v hf ((unhide JA).1.keep mv fun _ _ => id) ((unhide JA).2.keep mv fun _ _ => id)).mono fun e v' ⟨hm, h⟩ => ⟨h.elim (fun x => x.2) (fun x => absurd hr x.1), hm⟩ : Calls Tryd.prog 12 #[.agg (msgCells m a1 c1 a2 c2).toArray] v fun e v' => e = .returned (.int .i64 0) ∧ Moved (fun _ => False) v v'))
  have hl := msg_len hr
  have B11 := hide (fun (v : World) => (by
    have hp := Fm.ref_put_any ⟨(msgBytes m).toArray⟩ v (by show (msgBytes m).toArray.size ≤ maxLen; unfold maxLen; simp only [List.size_toArray]; omega)
    have e1 : Fm.putOf (⟨(msgBytes m).toArray⟩ : ByteArray).data.toList = (Fm.Crc.frameOf (msgBytes m), 0) := if_neg (Nat.not_lt.2 hl)
    rw [e1] at hp
    rw [← hsx, ← hfx]
    exact hp.mono fun e v' ⟨he, hb⟩ => ⟨he, Moved.of_below (F := fun _ => False) hb⟩ : Calls Tryd.prog 11 #[.string sx] v fun e v' => e = .returned (.tuple #[.string fx, .int .i64 0]) ∧ Moved (fun _ => False) v v'))
  clear hsx hfx hl mW hW hA ia1 ia2 hf hT rr fin hr
  go_enter Tryd.func3, Tryd.ntmps3
  go_upto_region 1 with fail
  rw [← unhide HA]
  try change Code.wp _ _ _ _ (w.alloc (.cells (msgCells m a1 c1 a2 c2).toArray 29))
  rw [← unhide HW]
  go_wp2_with fail
  refine (awake_any W).mono ?_
  rintro e w1 ⟨rfl, hm⟩
  have MV := hide hm
  clear hm
  go_wp2_with (refine wpList_load_on rfl 29 (.tmp 1) rfl A 0 rfl (msgCells m a1 c1 a2 c2) _ ((unhide RA).keep (unhide MV) id).range Tryd.underlying29 rfl (by kernel_rfl) ?_)
  refine (unhide GR _ (unhide MV)).mono ?_
  rintro e w2 ⟨rfl, hm⟩
  replace MV := hide ((unhide MV).trans hm fun _ f => f.elim)
  clear hm
  cases hga : great m
  rotate_left
  · go_wp2_with fail
    go_ret
    exact ⟨rfl, unhide FIN _ (unhide MV)⟩
  clear hga
  go_wp2_with (refine wpList_load_on rfl 29 (.tmp 1) rfl A 0 rfl (msgCells m a1 c1 a2 c2) _ ((unhide RA).keep (unhide MV) id).range Tryd.underlying29 rfl (by kernel_rfl) ?_)
  refine (unhide B8 _ (unhide MV)).mono ?_
  rintro e w3 ⟨rfl, hm⟩
  replace MV := hide ((unhide MV).trans hm fun _ f => f.elim)
  clear hm
  go_wp2_with (refine wpList_load_on rfl 29 (.tmp 1) rfl A 0 rfl (msgCells m a1 c1 a2 c2) _ ((unhide RA).keep (unhide MV) id).range Tryd.underlying29 rfl (by kernel_rfl) ?_)
  refine (unhide B9 _ (unhide MV)).mono ?_
  rintro e w4 ⟨rfl, hm⟩
  replace MV := hide ((unhide MV).trans hm fun _ f => f.elim)
  clear hm
  go_wp2_with (refine wpList_load_on rfl 29 (.tmp 1) rfl A 0 rfl (msgCells m a1 c1 a2 c2) _ ((unhide RA).keep (unhide MV) id).range Tryd.underlying29 rfl (by kernel_rfl) ?_)
  refine (unhide B10 _ (unhide MV)).mono ?_
  rintro e w5 ⟨rfl, hm⟩
  replace MV := hide ((unhide MV).trans hm fun _ f => f.elim)
  clear hm
  go_wp2_with fail
  refine (unhide B11 _).mono ?_
  rintro e w6 ⟨rfl, hm⟩
  replace MV := hide ((unhide MV).trans hm fun _ f => f.elim)
  clear hm
  go_wp2_with (refine wpList_load_on rfl 29 (.tmp 1) rfl A 0 rfl (msgCells m a1 c1 a2 c2) _ ((unhide RA).keep (unhide MV) id).range Tryd.underlying29 rfl (by kernel_rfl) ?_)
  refine (unhide B12 _ (unhide MV)).mono ?_
  rintro e w7 ⟨rfl, hm⟩
  replace MV := hide ((unhide MV).trans hm fun _ f => f.elim)
  clear hm
  go_wp2_with fail
  go_ret
  exact ⟨rfl, unhide FIN _ (unhide MV)⟩
set_option maxHeartbeats 16000000 in
set_option maxRecDepth 100000 in
theorem writes_no (hr : ¬ Right m) : Calls Tryd.prog 3 #[.agg (msgCells m a1 c1 a2 c2).toArray] w fun e w' => e = .returned (.bool true) ∧ Below w.heap.size w w' := by
  obtain ⟨A, hA⟩ : ∃ A, A = w.heap.size := ⟨_, rfl⟩
  obtain ⟨W, hW⟩ : ∃ W, W = w.alloc (.cells (msgCells m a1 c1 a2 c2).toArray 29) := ⟨_, rfl⟩
  have mW : Moved (fun _ => False) w W := by rw [hW]; exact (Moved.refl _ _).alloc _
  have RA : Hid (RowAt W A (msgCells m a1 c1 a2 c2)) := hide (by rw [hW, hA]; exact row_new _ _ _)
  have JA := hide (And.intro (ia1.keep mW fun _ _ => id) (ia2.keep mW fun _ _ => id))
  have HT := hide (tab_moved hT mW)
  have HW := hide hW
  have HA := hide hA
  have fin : ∀ w', Moved (fun _ => False) W w' → Below w.heap.size w w' := fun w' h => (mW.trans h fun _ f => f.elim).below (fun _ f => f.elim) (Nat.le_refl _)
  have FIN := hide fin
  have GR := hide (fun (v : World) (_ : Moved (fun _ => False) W v) => great_any m a1 a2 c1 c2 v)
  have hne : errOf m ≠ 0 := by unfold errOf; split <;> decide
  have B8 := hide (fun (v : World) (mv : Moved (fun _ => False) W v) => ((bytes_any m a1 a2 c1 c2 v hf ((unhide JA).1.keep mv fun _ _ => id) ((unhide JA).2.keep mv fun _ _ => id)).mono fun e v' ⟨hm, h⟩ => ⟨h.elim (fun x => absurd x.1 hr) (fun x => x.2), hm⟩ : Calls Tryd.prog 8 #[.agg (msgCells m a1 c1 a2 c2).toArray] v fun e v' => e = .returned (.tuple #[.string ⟨#[]⟩, .int .i64 (errOf m)]) ∧ Moved (fun _ => False) v v'))
  have B9 := hide (fun (v : World) (mv : Moved (fun _ => False) W v) => ((refbytes_with m a1 a2 c1 c2 v ((unhide JA).1.keep mv fun _ _ => id) ((unhide JA).2.keep mv fun _ _ => id) rr).mono fun e v' ⟨hm, h⟩ => ⟨h.elim (fun x => absurd x.1 hr) (fun x => x.2), hm⟩ : Calls Tryd.prog 9 #[.agg (msgCells m a1 c1 a2 c2).toArray] v fun e v' => e = .returned (.tuple #[.string ⟨#[]⟩, .int .i64 (errOf m)]) ∧ Moved (fun _ => False) v v'))
  have B10 := hide (fun (v : World) (mv : Moved (fun _ => False) W v) => ((data_any m a1 a2 c1 c2 v hf ((unhide JA).1.keep mv fun _ _ => id) ((unhide JA).2.keep mv fun _ _ => id) (tab_moved (unhide HT) mv)).mono fun e v' ⟨hm, h⟩ => ⟨h.elim (fun x => absurd x.1 hr) (fun x => x.2), hm⟩ : Calls Tryd.prog 10 #[.agg (msgCells m a1 c1 a2 c2).toArray] v fun e v' => e = .returned (.tuple #[.string ⟨#[]⟩, .int .i64 (errOf m)]) ∧ Moved (fun _ => False) v v'))
  have B12 := hide (fun (v : World) (mv : Moved (fun _ => False) W v) => ((right_any m a1 a2 c1 c2 v hf ((unhide JA).1.keep mv fun _ _ => id) ((unhide JA).2.keep mv fun _ _ => id)).mono fun e v' ⟨hm, h⟩ => ⟨h.elim (fun x => absurd x.1 hr) (fun x => x.2), hm⟩ : Calls Tryd.prog 12 #[.agg (msgCells m a1 c1 a2 c2).toArray] v fun e v' => e = .returned (.int .i64 (errOf m)) ∧ Moved (fun _ => False) v v'))
  clear mW hW hA ia1 ia2 hf hT rr fin hr
  generalize errOf m = E at *
  go_enter Tryd.func3, Tryd.ntmps3
  go_upto_region 1 with fail
  rw [← unhide HA]
  try change Code.wp _ _ _ _ (w.alloc (.cells (msgCells m a1 c1 a2 c2).toArray 29))
  rw [← unhide HW]
  go_wp2_with fail
  refine (awake_any W).mono ?_
  rintro e w1 ⟨rfl, hm⟩
  have MV := hide hm
  clear hm
  go_wp2_with (refine wpList_load_on rfl 29 (.tmp 1) rfl A 0 rfl (msgCells m a1 c1 a2 c2) _ ((unhide RA).keep (unhide MV) id).range Tryd.underlying29 rfl (by kernel_rfl) ?_)
  refine (unhide GR _ (unhide MV)).mono ?_
  rintro e w2 ⟨rfl, hm⟩
  replace MV := hide ((unhide MV).trans hm fun _ f => f.elim)
  clear hm
  cases hga : great m
  rotate_left
  · go_wp2_with fail
    go_ret
    exact ⟨rfl, unhide FIN _ (unhide MV)⟩
  clear hga
  go_wp2_with (refine wpList_load_on rfl 29 (.tmp 1) rfl A 0 rfl (msgCells m a1 c1 a2 c2) _ ((unhide RA).keep (unhide MV) id).range Tryd.underlying29 rfl (by kernel_rfl) ?_)
  refine (unhide B8 _ (unhide MV)).mono ?_
  rintro e w3 ⟨rfl, hm⟩
  replace MV := hide ((unhide MV).trans hm fun _ f => f.elim)
  clear hm
  go_wp2_with (refine wpList_load_on rfl 29 (.tmp 1) rfl A 0 rfl (msgCells m a1 c1 a2 c2) _ ((unhide RA).keep (unhide MV) id).range Tryd.underlying29 rfl (by kernel_rfl) ?_)
  refine (unhide B9 _ (unhide MV)).mono ?_
  rintro e w4 ⟨rfl, hm⟩
  replace MV := hide ((unhide MV).trans hm fun _ f => f.elim)
  clear hm
  go_wp2_with (refine wpList_load_on rfl 29 (.tmp 1) rfl A 0 rfl (msgCells m a1 c1 a2 c2) _ ((unhide RA).keep (unhide MV) id).range Tryd.underlying29 rfl (by kernel_rfl) ?_)
  refine (unhide B10 _ (unhide MV)).mono ?_
  rintro e w5 ⟨rfl, hm⟩
  replace MV := hide ((unhide MV).trans hm fun _ f => f.elim)
  clear hm
  go_wp2_with (refine wpList_load_on rfl 29 (.tmp 1) rfl A 0 rfl (msgCells m a1 c1 a2 c2) _ ((unhide RA).keep (unhide MV) id).range Tryd.underlying29 rfl (by kernel_rfl) ?_)
  refine (unhide B12 _ (unhide MV)).mono ?_
  rintro e w7 ⟨rfl, hm⟩
  replace MV := hide ((unhide MV).trans hm fun _ f => f.elim)
  clear hm
  go_wp2_with fail
  go_ret
  exact ⟨rfl, unhide FIN _ (unhide MV)⟩
end
end Go.Proofs.YtkbmbcmcnpeabaaDoor.Rw

namespace Go.Proofs.YtkbmbcmcnpeabaaDoor
open Pk Go.RowKit

/-- Where the lists of what Only tells lie. -/
def owA (m : MsgV) (a : Option Addr) : Option Addr := if m.kind.toNat = 3 ∨ m.kind.toNat = 11 ∨ m.kind.toNat = 14 then a else none
def owC (m : MsgV) (c : Nat) : Nat := if m.kind.toNat = 3 ∨ m.kind.toNat = 11 ∨ m.kind.toNat = 14 then c else 0
def seA (m : MsgV) (a : Option Addr) : Option Addr := if m.kind.toNat = 6 then a else none
def seC (m : MsgV) (c : Nat) : Nat := if m.kind.toNat = 6 then c else 0
theorem refonly_det (m : MsgV) (a1 a2 : Option Addr) (c1 c2 : Nat) (w : World) (hk : 1 ≤ m.kind.toNat ∧ m.kind.toNat ≤ 14) :
    Calls Tryd.prog 54 #[.agg (msgCells m a1 c1 a2 c2).toArray] w fun e w' => e = .returned (.agg (msgCells (only m) (owA m a1) (owC m c1) (seA m a2) (seC m c2)).toArray) ∧ Moved (fun _ => False) w w' := by
  unfold owA owC seA seC
  rcases kind_cases hk with h1 | h1 | h1 | h1 | h1 | h1 | h1 | h1 | h1 | h1 | h1 | h1 | h1 | h1
  · rw [h1]
    exact refonly_1 m a1 a2 c1 c2 w (UInt8.toNat_inj.1 h1)
  · rw [h1]
    exact refonly_2 m a1 a2 c1 c2 w (UInt8.toNat_inj.1 h1)
  · rw [h1]
    exact refonly_3 m a1 a2 c1 c2 w (UInt8.toNat_inj.1 h1)
  · rw [h1]
    exact refonly_4 m a1 a2 c1 c2 w (UInt8.toNat_inj.1 h1)
  · rw [h1]
    exact refonly_5 m a1 a2 c1 c2 w (UInt8.toNat_inj.1 h1)
  · rw [h1]
    exact refonly_6 m a1 a2 c1 c2 w (UInt8.toNat_inj.1 h1)
  · rw [h1]
    exact refonly_7 m a1 a2 c1 c2 w (UInt8.toNat_inj.1 h1)
  · rw [h1]
    exact refonly_8 m a1 a2 c1 c2 w (UInt8.toNat_inj.1 h1)
  · rw [h1]
    exact refonly_9 m a1 a2 c1 c2 w (UInt8.toNat_inj.1 h1)
  · rw [h1]
    exact refonly_10 m a1 a2 c1 c2 w (UInt8.toNat_inj.1 h1)
  · rw [h1]
    exact refonly_11 m a1 a2 c1 c2 w (UInt8.toNat_inj.1 h1)
  · rw [h1]
    exact refonly_12 m a1 a2 c1 c2 w (UInt8.toNat_inj.1 h1)
  · rw [h1]
    exact refonly_13 m a1 a2 c1 c2 w (UInt8.toNat_inj.1 h1)
  · rw [h1]
    exact refonly_14 m a1 a2 c1 c2 w (UInt8.toNat_inj.1 h1)
theorem det_ints (m : MsgV) {a1 a2 : Option Addr} {w : World} (hk : 1 ≤ m.kind.toNat ∧ m.kind.toNat ≤ 14) (hI1 : Ints w a1 m.owner) (hI2 : Ints w a2 m.set) : Ints w (owA m a1) (only m).owner ∧ Ints w (seA m a2) (only m).set := by
  unfold owA seA only
  rcases kind_cases hk with h1 | h1 | h1 | h1 | h1 | h1 | h1 | h1 | h1 | h1 | h1 | h1 | h1 | h1 <;> rw [h1] <;> exact ⟨by first | exact hI1 | exact ints_nil _ _, by first | exact hI2 | exact ints_nil _ _⟩
end Go.Proofs.YtkbmbcmcnpeabaaDoor

namespace Go.Proofs.YtkbmbcmcnpeabaaDoor
open Pk Go.RowKit

/-- A world of which St holds. -/
structure SW (St : World → Prop) where
  w : World
  ok : St w
/-- A region that draws its order, whose operations yield one value each in every world of which St holds, and whose calls leave such a world. -/
theorem wp_region_sw {P : Program} {St : World → Prop} {id : Nat} {Q : Exit → Act → World → Prop} {a : Act} {w : World} {l : List Oper} (hm : P.follows .mixedOrders = true) (hB : Region.lexB .any l.toArray = true) (hS : St w.drew)
    (h : wpQuiet P l.toArray (fun w' => ∃ p : SW St, w' = p.w) (fun a' => ∀ w', (∃ p : SW St, w' = p.w) → Q .normal a' w') l a) : (Code.region id l.toArray true).wp P Q a w :=
  wp_region_quiet (C := fun w' => ∃ p : SW St, w' = p.w) hm hB ⟨⟨_, hS⟩, rfl⟩ (by simpa using h)
/-- A load of a whole struct in such a region. -/
theorem wpQuiet_load_on {P : Program} {ops : Array Oper} {C : World → Prop} {Q : Act → Prop} {rest : List Oper} {op : Oper} {a : Act} (hw : Region.wanted op (yielded ops a.tmps) = true) (ty : TypeId) (x : Operand) (ho : op.op = .load ty x)
    (b o : Nat) (hx : a.eval x = .pointer (some ⟨b, o, none⟩)) (cs : List Value) (d : TypeDesc) (hc : ∀ w, C w → w.rangeAt b o cs)
    (hu : P.underlying ty = some d) (hd : d.isRow = true) (hi : (P.info? ty).map (·.size) = some cs.length)
    (h : wpQuiet P ops C Q rest (a.put op.dst (.agg cs.toArray))) : wpQuiet P ops C Q (op :: rest) a := by
  unfold wpQuiet
  rw [if_pos hw]
  refine ⟨_, fun w hw' => ?_, h⟩
  unfold Oper.quietAt execOp
  simp only [ho, hx, Instr.loadAt, Instr.sureAddr, Sem.run_bind, Sem.run_pure, Result.andThen_ok, run_loadVar_mid w b o ty cs d (hc w hw') hu hd hi]
  exact ⟨rfl, rfl⟩
theorem only_len {m : MsgV} (hf : Fit m) : (only m).owner.length ≤ maxLen ∧ (only m).set.length ≤ maxLen := by
  have z : ([] : List Int).length ≤ maxLen := Nat.zero_le _
  unfold only
  split
  all_goals exact ⟨by first | exact hf.owner | exact z, by first | exact hf.set | exact z⟩
theorem in_iff (x : Int) : (decide (0 ≤ x ∧ x ≤ 2147483647) = true) ↔ In x := by
  rw [decide_eq_true_eq]; rfl
set_option maxHeartbeats 16000000 in
set_option maxRecDepth 100000 in
theorem refright_any (m : MsgV) (a1 a2 : Option Addr) (c1 c2 : Nat) (w : World) (hf : Fit m) (hI1 : Ints w a1 m.owner) (hI2 : Ints w a2 m.set) :
    Calls Tryd.prog 25 #[.agg (msgCells m a1 c1 a2 c2).toArray] w fun e w' => Moved (fun _ => False) w w' ∧ ((Right m ∧ e = .returned (.int .i64 0)) ∨ (¬ Right m ∧ e = .returned (.int .i64 (errOf m)))) := by
  obtain ⟨A, hA⟩ : ∃ A, A = w.heap.size := ⟨_, rfl⟩
  obtain ⟨W, hW⟩ : ∃ W, W = w.alloc (.cells (msgCells m a1 c1 a2 c2).toArray 29) := ⟨_, rfl⟩
  have mW : Moved (fun _ => False) w W := by rw [hW]; exact (Moved.refl _ _).alloc _
  have RA : Hid (RowAt W A (msgCells m a1 c1 a2 c2)) := hide (by rw [hW, hA]; exact row_new _ _ _)
  have JA := hide (And.intro (hI1.keep mW fun _ _ => id) (hI2.keep mW fun _ _ => id))
  have HW := hide hW
  have HA := hide hA
  have HM := hide mW
  have HF := hide hf
  have k0 : W.cell? ⟨A, 0, none⟩ = some (.int .u8 (m.kind.toNat : Int)) := (unhide RA).cell 0 (show 0 < 22 by decide)
  clear hW hA mW hI1 hI2 hf
  by_cases hk : 1 ≤ m.kind.toNat ∧ m.kind.toNat ≤ 14
  rotate_left
  · have he : errOf m = 10 := if_neg hk
    have hn : ¬ Right m := fun h => hk h.kind
    rw [he]
    have HN := hide hn
    clear hn he
    by_cases h1 : (m.kind.toNat : Int) < 1
    · go_enter Tryd.func25, Tryd.ntmps25
      go_upto_region 1 with fail
      rw [← unhide HA, ← unhide HW]
      go_wp2_with fail
      go_ret
      exact ⟨unhide HM, .inr ⟨unhide HN, rfl⟩⟩
    · have h2 : (14 : Int) < (m.kind.toNat : Int) := by omega
      go_enter Tryd.func25, Tryd.ntmps25
      go_upto_region 1 with fail
      rw [← unhide HA, ← unhide HW]
      go_wp2_with fail
      go_ret
      exact ⟨unhide HM, .inr ⟨unhide HN, rfl⟩⟩
  have he : errOf m = 1 := if_pos hk
  have g1 : ¬ (m.kind.toNat : Int) < 1 := by omega
  have g2 : ¬ (14 : Int) < (m.kind.toNat : Int) := by omega
  have HK := hide hk
  rw [he]
  clear he hk
  obtain ⟨St, hst⟩ : ∃ St : World → Prop, St = fun w' => Moved (fun _ => False) W w' := ⟨_, rfl⟩
  have st : St W.drew := by rw [hst]; exact (Moved.refl _ _).drew
  have un : ∀ v, St v → Moved (fun _ => False) W v := fun v h => by rw [hst] at h; exact h
  have re : ∀ v v', St v → Moved (fun _ => False) v v' → St v' := fun v v' h h' => by rw [hst] at h ⊢; exact h.trans h' fun _ f => f.elim
  have QR : Hid (∀ w', (∃ p : SW St, w' = p.w) → w'.rangeAt A 0 (msgCells m a1 c1 a2 c2)) := hide (by rintro w' ⟨⟨v, h⟩, rfl⟩; exact ((unhide RA).keep (un _ h) id).range)
  have QJ : Hid (∀ w', (∃ p : SW St, w' = p.w) → w'.rangeAt A 9 (itemCells m.item)) := hide (by rintro w' ⟨⟨v, h⟩, rfl⟩; exact range8 ((unhide RA).keep (un _ h) id))
  have sO := hide (show ∀ p : SW St, Calls Tryd.prog 54 #[.agg (msgCells m a1 c1 a2 c2).toArray] p.w fun e w'' => e = .returned (.agg (msgCells (only m) (owA m a1) (owC m c1) (seA m a2) (seC m c2)).toArray) ∧ ∃ r : SW St, w'' = r.w from fun ⟨v, h⟩ =>
    (refonly_det m a1 a2 c1 c2 v (unhide HK)).mono fun e w'' ⟨he, hm⟩ => ⟨he, ⟨w'', re v w'' h hm⟩, rfl⟩)
  obtain ⟨q, hq⟩ : ∃ q, sameMsg m (only m) = q := ⟨_, rfl⟩
  have sS := hide (show ∀ p : SW St, Calls Tryd.prog 15 #[.agg (msgCells m a1 c1 a2 c2).toArray, .agg (msgCells (only m) (owA m a1) (owC m c1) (seA m a2) (seC m c2)).toArray] p.w fun e w'' => e = .returned (.bool q) ∧ ∃ r : SW St, w'' = r.w from fun ⟨v, h⟩ => by
    have jj := det_ints m (unhide HK) ((unhide JA).1.keep (un v h) fun _ _ => id) ((unhide JA).2.keep (un v h) fun _ _ => id)
    have := refsame_any m (only m) a1 a2 (owA m a1) (seA m a2) c1 c2 (owC m c1) (seC m c2) v ((unhide JA).1.keep (un v h) fun _ _ => id) ((unhide JA).2.keep (un v h) fun _ _ => id) jj.1 jj.2 (unhide HF).owner (unhide HF).set (only_len (unhide HF)).1 (only_len (unhide HF)).2
    rw [hq] at this
    exact this.mono fun e w'' ⟨he, hm⟩ => ⟨he, ⟨w'', re v w'' h hm⟩, rfl⟩)
  have HQ := hide hq
  clear hq
  have sI := hide (show ∀ (n : Int) (p : SW St), Calls Tryd.prog 55 #[.int .i64 n, .int .i64 2147483647] p.w fun e w'' => e = .returned (.bool (decide (0 ≤ n ∧ n ≤ 2147483647))) ∧ ∃ r : SW St, w'' = r.w from fun n ⟨v, h⟩ =>
    (refin_in n 2147483647 v).mono fun e w'' ⟨he, hm⟩ => ⟨he, ⟨v, h⟩, hm⟩)
  have k1 : ∀ p : SW St, p.w.cell? ⟨A, 1, none⟩ = some (.int .i64 m.move) := fun ⟨v, h⟩ => ((unhide RA).keep (un v h) id).cell 1 (show 1 < 22 by decide)
  have k2 : ∀ p : SW St, p.w.cell? ⟨A, 2, none⟩ = some (.int .i64 m.part) := fun ⟨v, h⟩ => ((unhide RA).keep (un v h) id).cell 2 (show 2 < 22 by decide)
  have k3 : ∀ p : SW St, p.w.cell? ⟨A, 3, none⟩ = some (.int .i64 m.to_) := fun ⟨v, h⟩ => ((unhide RA).keep (un v h) id).cell 3 (show 3 < 22 by decide)
  have k4 : ∀ p : SW St, p.w.cell? ⟨A, 4, none⟩ = some (.int .i64 m.n) := fun ⟨v, h⟩ => ((unhide RA).keep (un v h) id).cell 4 (show 4 < 22 by decide)
  have k5 : ∀ p : SW St, p.w.cell? ⟨A, 5, none⟩ = some (.int .i64 m.count) := fun ⟨v, h⟩ => ((unhide RA).keep (un v h) id).cell 5 (show 5 < 22 by decide)
  have k6 : ∀ p : SW St, p.w.cell? ⟨A, 6, none⟩ = some (.int .i64 m.code) := fun ⟨v, h⟩ => ((unhide RA).keep (un v h) id).cell 6 (show 6 < 22 by decide)
  have k17 : ∀ p : SW St, p.w.cell? ⟨A, 17, none⟩ = some (.int .i64 m.epoch) := fun ⟨v, h⟩ => ((unhide RA).keep (un v h) id).cell 17 (show 17 < 22 by decide)
  have k18 : ∀ p : SW St, p.w.cell? ⟨A, 18, none⟩ = some (.int .i64 m.nodes) := fun ⟨v, h⟩ => ((unhide RA).keep (un v h) id).cell 18 (show 18 < 22 by decide)
  have k19 : ∀ p : SW St, p.w.cell? ⟨A, 19, none⟩ = some (.slice a1 m.owner.length c1) := fun ⟨v, h⟩ => ((unhide RA).keep (un v h) id).cell 19 (show 19 < 22 by decide)
  have k20 : ∀ p : SW St, p.w.cell? ⟨A, 20, none⟩ = some (.slice a2 m.set.length c2) := fun ⟨v, h⟩ => ((unhide RA).keep (un v h) id).cell 20 (show 20 < 22 by decide)
  have k21 : ∀ p : SW St, p.w.cell? ⟨A, 21, none⟩ = some (.string ⟨m.data.toArray⟩) := fun ⟨v, h⟩ => ((unhide RA).keep (un v h) id).cell 21 (show 21 < 22 by decide)
  have hsz : (⟨m.data.toArray⟩ : ByteArray).size = m.data.length := by simp [ByteArray.size]
  have tell : ∀ {p : Prop} {e : Ending} (b : Bool), (b = true ↔ p) → Tells p e → e = .returned (.bool b) := fun {p e} b hb ⟨b', he, hb'⟩ => by
    rw [he]; congr 2
    cases b <;> cases b' <;> simp_all
  obtain ⟨q7, h7⟩ : ∃ q : Bool, q = true ↔ (In m.item.src ∧ In m.item.seq ∧ In m.item.low ∧ In m.item.part ∧ m.item.key.length ≤ 255) := by
    by_cases h : (In m.item.src ∧ In m.item.seq ∧ In m.item.low ∧ In m.item.part ∧ m.item.key.length ≤ 255)
    · exact ⟨true, ⟨fun _ => h, fun _ => rfl⟩⟩
    · exact ⟨false, ⟨(fun e => by cases e), fun e => absurd e h⟩⟩
  obtain ⟨q10, h10⟩ : ∃ q : Bool, q = true ↔ ((∀ i, i < m.owner.length → In (m.owner.getD i 0)) ∧ m.owner.length ≤ 64) := by
    by_cases h : ((∀ i, i < m.owner.length → In (m.owner.getD i 0)) ∧ m.owner.length ≤ 64)
    · exact ⟨true, ⟨fun _ => h, fun _ => rfl⟩⟩
    · exact ⟨false, ⟨(fun e => by cases e), fun e => absurd e h⟩⟩
  obtain ⟨q11, h11⟩ : ∃ q : Bool, q = true ↔ ((∀ i, i < m.set.length → In (m.set.getD i 0)) ∧ m.set.length ≤ 1024) := by
    by_cases h : ((∀ i, i < m.set.length → In (m.set.getD i 0)) ∧ m.set.length ≤ 1024)
    · exact ⟨true, ⟨fun _ => h, fun _ => rfl⟩⟩
    · exact ⟨false, ⟨(fun e => by cases e), fun e => absurd e h⟩⟩
  have sT := hide (show ∀ p : SW St, Calls Tryd.prog 56 #[.agg (itemCells m.item).toArray] p.w fun e w'' => e = .returned (.bool q7) ∧ ∃ r : SW St, w'' = r.w from fun ⟨v, h⟩ =>
    (items_any m.item (unhide HF).key v).mono fun e w'' ⟨he, hm⟩ => ⟨tell q7 h7 he, ⟨w'', re v w'' h (Moved.of_below (F := fun _ => False) hm)⟩, rfl⟩)
  have sL1 := hide (show ∀ p : SW St, Calls Tryd.prog 57 #[.slice a1 m.owner.length c1, .int .i64 64] p.w fun e w'' => e = .returned (.bool q10) ∧ ∃ r : SW St, w'' = r.w from fun ⟨v, h⟩ =>
    (lists_any a1 m.owner c1 64 v ((unhide JA).1.keep (un v h) fun _ _ => id) (unhide HF).owner).mono fun e w'' ⟨he, hm⟩ => ⟨tell q10 h10 he, ⟨v, h⟩, hm⟩)
  have sL2 := hide (show ∀ p : SW St, Calls Tryd.prog 57 #[.slice a2 m.set.length c2, .int .i64 1024] p.w fun e w'' => e = .returned (.bool q11) ∧ ∃ r : SW St, w'' = r.w from fun ⟨v, h⟩ =>
    (lists_any a2 m.set c2 1024 v ((unhide JA).2.keep (un v h) fun _ _ => id) (unhide HF).set).mono fun e w'' ⟨he, hm⟩ => ⟨tell q11 h11 he, ⟨v, h⟩, hm⟩)
  have H7 := hide (And.intro h7 (And.intro h10 h11))
  have Hst := hide hst
  have hdl : Hid ((⟨m.data.toArray⟩ : ByteArray).size = m.data.length) := hide hsz
  obtain ⟨q12, h12⟩ : ∃ q : Bool, decide (((⟨m.data.toArray⟩ : ByteArray).size : Int) ≤ 1024) = q := ⟨_, rfl⟩
  have H12 := hide h12
  clear hst un re h7 h10 h11 tell hsz
  generalize (⟨m.data.toArray⟩ : ByteArray) = sd at *
  go_enter Tryd.func25, Tryd.ntmps25
  go_upto_region 1 with fail
  rw [← unhide HA, ← unhide HW]
  go_upto_region 3 with fail
  have ne : Nonempty (SW St) := ⟨⟨_, st⟩⟩
  refine wp_region_sw (St := St) (by kernel_rfl) (by kernel_rfl) st ?_
  refine wpQuiet_load_on rfl 29 (.tmp 1) rfl A 0 rfl (msgCells m a1 c1 a2 c2) _ (unhide QR) Tryd.underlying29 rfl (by kernel_rfl) ?_
  refine wpQuiet_load_on rfl 29 (.tmp 1) rfl A 0 rfl (msgCells m a1 c1 a2 c2) _ (unhide QR) Tryd.underlying29 rfl (by kernel_rfl) ?_
  go_simp
  go_big_quiet_step (first | (go_at_call 54; exact unhide sO _))
  go_big_quiet_step (first | (go_at_call 15; exact unhide sS _))
  clear k0 g1 g2
  cases q
  · have HN := hide (show ¬ Right m from fun h => by have := unhide HQ; rw [h.only, (sameMsg_iff m m).2 rfl] at this; cases this)
    repeat (go_big_quiet_step (fail))
    refine wpQuiet_nil ?_
    rintro ⟨w9, st9⟩
    dsimp only
    have MF := hide (show Moved (fun _ => False) W w9 by rw [unhide Hst] at st9; exact st9)
    clear st9
    go_wp2_with fail
    go_ret
    exact ⟨(unhide HM).trans (unhide MF) fun _ f => f.elim, .inr ⟨unhide HN, rfl⟩⟩
  have P0 := hide ((sameMsg_iff m (only m)).1 (unhide HQ)).symm
  go_big_quiet_step (fail)
  go_big_quiet_step (fail)
  go_big_quiet_step (fail)
  go_big_quiet_step (first | (go_at_call 55; exact unhide sI _ _))
  cases hd : decide (0 ≤ m.move ∧ m.move ≤ 2147483647)
  · have HN := hide (show ¬ Right m from fun h => by rw [(in_iff m.move).2 h.ok.move] at hd; cases hd)
    clear hd
    repeat (go_big_quiet_step (fail))
    refine wpQuiet_nil ?_
    rintro ⟨w9, st9⟩
    dsimp only
    have MF := hide (show Moved (fun _ => False) W w9 by rw [unhide Hst] at st9; exact st9)
    clear st9
    go_wp2_with fail
    go_ret
    exact ⟨(unhide HM).trans (unhide MF) fun _ f => f.elim, .inr ⟨unhide HN, rfl⟩⟩
  have P1 := hide ((in_iff m.move).1 hd)
  clear hd
  go_big_quiet_step (fail)
  go_big_quiet_step (fail)
  go_big_quiet_step (fail)
  go_big_quiet_step (fail)
  go_big_quiet_step (first | (go_at_call 55; exact unhide sI _ _))
  cases hd : decide (0 ≤ m.part ∧ m.part ≤ 2147483647)
  · have HN := hide (show ¬ Right m from fun h => by rw [(in_iff m.part).2 h.ok.part] at hd; cases hd)
    clear hd
    repeat (go_big_quiet_step (fail))
    refine wpQuiet_nil ?_
    rintro ⟨w9, st9⟩
    dsimp only
    have MF := hide (show Moved (fun _ => False) W w9 by rw [unhide Hst] at st9; exact st9)
    clear st9
    go_wp2_with fail
    go_ret
    exact ⟨(unhide HM).trans (unhide MF) fun _ f => f.elim, .inr ⟨unhide HN, rfl⟩⟩
  have P2 := hide ((in_iff m.part).1 hd)
  clear hd
  go_big_quiet_step (fail)
  go_big_quiet_step (fail)
  go_big_quiet_step (fail)
  go_big_quiet_step (fail)
  go_big_quiet_step (first | (go_at_call 55; exact unhide sI _ _))
  cases hd : decide (0 ≤ m.to_ ∧ m.to_ ≤ 2147483647)
  · have HN := hide (show ¬ Right m from fun h => by rw [(in_iff m.to_).2 h.ok.to_] at hd; cases hd)
    clear hd
    repeat (go_big_quiet_step (fail))
    refine wpQuiet_nil ?_
    rintro ⟨w9, st9⟩
    dsimp only
    have MF := hide (show Moved (fun _ => False) W w9 by rw [unhide Hst] at st9; exact st9)
    clear st9
    go_wp2_with fail
    go_ret
    exact ⟨(unhide HM).trans (unhide MF) fun _ f => f.elim, .inr ⟨unhide HN, rfl⟩⟩
  have P3 := hide ((in_iff m.to_).1 hd)
  clear hd
  go_big_quiet_step (fail)
  go_big_quiet_step (fail)
  go_big_quiet_step (fail)
  go_big_quiet_step (fail)
  go_big_quiet_step (first | (go_at_call 55; exact unhide sI _ _))
  cases hd : decide (0 ≤ m.n ∧ m.n ≤ 2147483647)
  · have HN := hide (show ¬ Right m from fun h => by rw [(in_iff m.n).2 h.ok.n] at hd; cases hd)
    clear hd
    repeat (go_big_quiet_step (fail))
    refine wpQuiet_nil ?_
    rintro ⟨w9, st9⟩
    dsimp only
    have MF := hide (show Moved (fun _ => False) W w9 by rw [unhide Hst] at st9; exact st9)
    clear st9
    go_wp2_with fail
    go_ret
    exact ⟨(unhide HM).trans (unhide MF) fun _ f => f.elim, .inr ⟨unhide HN, rfl⟩⟩
  have P4 := hide ((in_iff m.n).1 hd)
  clear hd
  go_big_quiet_step (fail)
  go_big_quiet_step (fail)
  go_big_quiet_step (fail)
  go_big_quiet_step (fail)
  go_big_quiet_step (first | (go_at_call 55; exact unhide sI _ _))
  cases hd : decide (0 ≤ m.count ∧ m.count ≤ 2147483647)
  · have HN := hide (show ¬ Right m from fun h => by rw [(in_iff m.count).2 h.ok.count] at hd; cases hd)
    clear hd
    repeat (go_big_quiet_step (fail))
    refine wpQuiet_nil ?_
    rintro ⟨w9, st9⟩
    dsimp only
    have MF := hide (show Moved (fun _ => False) W w9 by rw [unhide Hst] at st9; exact st9)
    clear st9
    go_wp2_with fail
    go_ret
    exact ⟨(unhide HM).trans (unhide MF) fun _ f => f.elim, .inr ⟨unhide HN, rfl⟩⟩
  have P5 := hide ((in_iff m.count).1 hd)
  clear hd
  go_big_quiet_step (fail)
  go_big_quiet_step (fail)
  go_big_quiet_step (fail)
  go_big_quiet_step (fail)
  go_big_quiet_step (first | (go_at_call 55; exact unhide sI _ _))
  cases hd : decide (0 ≤ m.code ∧ m.code ≤ 2147483647)
  · have HN := hide (show ¬ Right m from fun h => by rw [(in_iff m.code).2 h.ok.code] at hd; cases hd)
    clear hd
    repeat (go_big_quiet_step (fail))
    refine wpQuiet_nil ?_
    rintro ⟨w9, st9⟩
    dsimp only
    have MF := hide (show Moved (fun _ => False) W w9 by rw [unhide Hst] at st9; exact st9)
    clear st9
    go_wp2_with fail
    go_ret
    exact ⟨(unhide HM).trans (unhide MF) fun _ f => f.elim, .inr ⟨unhide HN, rfl⟩⟩
  have P6 := hide ((in_iff m.code).1 hd)
  clear hd
  go_big_quiet_step (fail)
  go_big_quiet_step (fail)
  go_big_quiet_step (fail)
  refine wpQuiet_load_on rfl 24 (.tmp 47) rfl A 9 rfl (itemCells m.item) _ (unhide QJ) Tryd.underlying24 rfl (by kernel_rfl) ?_
  go_simp
  go_big_quiet_step (first | (go_at_call 56; exact unhide sT _))
  cases q7
  · have HN := hide (show ¬ Right m from fun h => by have := (unhide H7).1.2 ⟨h.ok.item.src, h.ok.item.seq, h.ok.item.low, h.ok.item.part, h.ok.item.key⟩; cases this)
    repeat (go_big_quiet_step (fail))
    refine wpQuiet_nil ?_
    rintro ⟨w9, st9⟩
    dsimp only
    have MF := hide (show Moved (fun _ => False) W w9 by rw [unhide Hst] at st9; exact st9)
    clear st9
    go_wp2_with fail
    go_ret
    exact ⟨(unhide HM).trans (unhide MF) fun _ f => f.elim, .inr ⟨unhide HN, rfl⟩⟩
  have P7 := hide ((unhide H7).1.1 rfl)
  go_big_quiet_step (fail)
  go_big_quiet_step (fail)
  go_big_quiet_step (fail)
  go_big_quiet_step (fail)
  go_big_quiet_step (fail)
  go_big_quiet_step (first | (go_at_call 55; exact unhide sI _ _))
  cases hd : decide (0 ≤ m.epoch ∧ m.epoch ≤ 2147483647)
  · have HN := hide (show ¬ Right m from fun h => by rw [(in_iff m.epoch).2 h.ok.epoch] at hd; cases hd)
    clear hd
    repeat (go_big_quiet_step (fail))
    refine wpQuiet_nil ?_
    rintro ⟨w9, st9⟩
    dsimp only
    have MF := hide (show Moved (fun _ => False) W w9 by rw [unhide Hst] at st9; exact st9)
    clear st9
    go_wp2_with fail
    go_ret
    exact ⟨(unhide HM).trans (unhide MF) fun _ f => f.elim, .inr ⟨unhide HN, rfl⟩⟩
  have P8 := hide ((in_iff m.epoch).1 hd)
  clear hd
  go_big_quiet_step (fail)
  go_big_quiet_step (fail)
  go_big_quiet_step (fail)
  go_big_quiet_step (fail)
  go_big_quiet_step (fail)
  go_big_quiet_step (first | (go_at_call 55; exact unhide sI _ _))
  cases hd : decide (0 ≤ m.nodes ∧ m.nodes ≤ 2147483647)
  · have HN := hide (show ¬ Right m from fun h => by rw [(in_iff m.nodes).2 h.ok.nodes] at hd; cases hd)
    clear hd
    repeat (go_big_quiet_step (fail))
    refine wpQuiet_nil ?_
    rintro ⟨w9, st9⟩
    dsimp only
    have MF := hide (show Moved (fun _ => False) W w9 by rw [unhide Hst] at st9; exact st9)
    clear st9
    go_wp2_with fail
    go_ret
    exact ⟨(unhide HM).trans (unhide MF) fun _ f => f.elim, .inr ⟨unhide HN, rfl⟩⟩
  have P9 := hide ((in_iff m.nodes).1 hd)
  clear hd
  go_big_quiet_step (fail)
  go_big_quiet_step (fail)
  go_big_quiet_step (fail)
  go_big_quiet_step (fail)
  go_big_quiet_step (fail)
  go_big_quiet_step (first | (go_at_call 57; exact unhide sL1 _))
  cases q10
  · have HN := hide (show ¬ Right m from fun h => by have := (unhide H7).2.1.2 ⟨fun i hi => h.ok.owner.2 _ (by rw [List.getD_eq_getElem?_getD, List.getElem?_eq_getElem hi]; exact List.getElem_mem hi), h.ok.owner.1⟩; cases this)
    repeat (go_big_quiet_step (fail))
    refine wpQuiet_nil ?_
    rintro ⟨w9, st9⟩
    dsimp only
    have MF := hide (show Moved (fun _ => False) W w9 by rw [unhide Hst] at st9; exact st9)
    clear st9
    go_wp2_with fail
    go_ret
    exact ⟨(unhide HM).trans (unhide MF) fun _ f => f.elim, .inr ⟨unhide HN, rfl⟩⟩
  have P10 := hide ((unhide H7).2.1.1 rfl)
  go_big_quiet_step (fail)
  go_big_quiet_step (fail)
  go_big_quiet_step (fail)
  go_big_quiet_step (fail)
  go_big_quiet_step (first | (go_at_call 57; exact unhide sL2 _))
  cases q11
  · have HN := hide (show ¬ Right m from fun h => by have := (unhide H7).2.2.2 ⟨fun i hi => h.ok.set.2 _ (by rw [List.getD_eq_getElem?_getD, List.getElem?_eq_getElem hi]; exact List.getElem_mem hi), h.ok.set.1⟩; cases this)
    repeat (go_big_quiet_step (fail))
    refine wpQuiet_nil ?_
    rintro ⟨w9, st9⟩
    dsimp only
    have MF := hide (show Moved (fun _ => False) W w9 by rw [unhide Hst] at st9; exact st9)
    clear st9
    go_wp2_with fail
    go_ret
    exact ⟨(unhide HM).trans (unhide MF) fun _ f => f.elim, .inr ⟨unhide HN, rfl⟩⟩
  have P11 := hide ((unhide H7).2.2.1 rfl)
  go_big_quiet_step (fail)
  cases q12
  · have HN := hide (show ¬ Right m from fun h => by have := h.ok.data; have h1 := unhide hdl; have h2 := unhide H12; rw [decide_eq_false_iff_not] at h2; omega)
    repeat (go_big_quiet_step (fail))
    refine wpQuiet_nil ?_
    rintro ⟨w9, st9⟩
    dsimp only
    have MF := hide (show Moved (fun _ => False) W w9 by rw [unhide Hst] at st9; exact st9)
    clear st9
    go_wp2_with fail
    go_ret
    exact ⟨(unhide HM).trans (unhide MF) fun _ f => f.elim, .inr ⟨unhide HN, rfl⟩⟩
  have hd : m.data.length ≤ 1024 := by have h1 := unhide hdl; have h2 := unhide H12; rw [decide_eq_true_eq] at h2; omega
  have hmem : ∀ (l : List Int), (∀ i, i < l.length → In (l.getD i 0)) → ∀ x ∈ l, In x := fun l h x hx => by
    obtain ⟨i, hi, rfl⟩ := List.getElem_of_mem hx
    have := h i hi
    rwa [List.getD_eq_getElem?_getD, List.getElem?_eq_getElem hi] at this
  have HR := hide (show Right m from ⟨unhide HK, unhide P0, ⟨unhide P1, unhide P2, unhide P3, unhide P4, unhide P5, unhide P6, (unhide HF).digest, (unhide HF).at_, ⟨(unhide P7).1, (unhide P7).2.1, (unhide P7).2.2.1, (unhide P7).2.2.2.1, (unhide P7).2.2.2.2, (unhide HF).iat, (unhide HF).iN⟩, unhide P8, unhide P9, ⟨(unhide P10).2, hmem _ (unhide P10).1⟩, ⟨(unhide P11).2, hmem _ (unhide P11).1⟩, hd⟩⟩)
  clear hd hmem
  repeat (go_big_quiet_step (fail))
  refine wpQuiet_nil ?_
  rintro ⟨w9, st9⟩
  dsimp only
  have MF := hide (show Moved (fun _ => False) W w9 by rw [unhide Hst] at st9; exact st9)
  clear st9
  go_wp2_with fail
  go_ret
  exact ⟨(unhide HM).trans (unhide MF) fun _ f => f.elim, .inl ⟨unhide HR, rfl⟩⟩
end Go.Proofs.YtkbmbcmcnpeabaaDoor

namespace Go.Proofs.YtkbmbcmcnpeabaaDoor
open Pk Go.RowKit

theorem writes_said (m : MsgV) (a1 a2 : Option Addr) (c1 c2 : Nat) (w : World) (hf : Fit m) (ia1 : Ints w a1 m.owner) (ia2 : Ints w a2 m.set) (hT : Fm.Tab w) :
    Calls Tryd.prog 3 #[.agg (msgCells m a1 c1 a2 c2).toArray] w fun e w' => e = .returned (.bool true) ∧ Below w.heap.size w w' := by
  by_cases hr : Right m
  · exact Rw.writes_yes m a1 a2 c1 c2 w hf ia1 ia2 hT (fun v h1 h2 => refright_any m a1 a2 c1 c2 v hf h1 h2) hr
  · exact Rw.writes_no m a1 a2 c1 c2 w hf ia1 ia2 hT (fun v h1 h2 => refright_any m a1 a2 c1 c2 v hf h1 h2) hr
end Go.Proofs.YtkbmbcmcnpeabaaDoor

namespace Go.Proofs.YtkbmbcmcnpeabaaDoor.msgWrites
open Go.ChangeShapes Go.WideShapes Go.ChangeAt Go.RowKit
open Go.ChangeMaps (open_string shut_string)
open Fm

theorem laidOut : laidOutB Tryd.prog = true := by kernel_rfl

set_option maxRecDepth 100000 in
theorem contract (H : Type) (enc : TypeId × Value → H) (W : World) (base : Nat) (args : Array Value) (ds gs : List (DataW H)) (before : List MemPlace)
    (hval : ∀ (j : Nat) t v, Tryd.f3.params[j]? = some t → args[j]? = some v → Value.okWide Tryd.prog W .any base t v)
    (hW : DataW.Whole enc Tryd.prog Tryd.f3.params.toList Rows.msgWritesSpec.vars false W args.toList ds gs before) (hL : laidMetH Tryd.prog Rows.msgWritesRow.laid W) :
    Calls Tryd.prog 3 args W fun e W' => ∃ v, e = .returned v ∧ Rows.msgWritesSpec.post enc Tryd.prog Tryd.f3 false true false false W args v W' := by
  have hW' := hW
  obtain ⟨p, q, hA0, hV, rfl, hfz, hnd⟩ := hW
  have hA : DataW.TrodAll enc Tryd.prog W 0 (fun _ => true) true Tryd.f3.params.toList args.toList ds p := hA0
  rw [Tryd.params3] at hA hval
  obtain ⟨v0, vs0, d0, ds0, p0, q0, hargs, rfl, rfl, h0, r0⟩ := trodAll_cons hA
  obtain ⟨rfl, rfl, rfl⟩ := trodAll_nil r0
  obtain rfl : args = #[v0] := by cases args; simp_all
  obtain ⟨rfl, rfl⟩ := trodVars_none hV
  have k0 := h0
  have lt0 : ∀ x ∈ p0, x.block < W.heap.size := by obtain ⟨m, hm⟩ := k0; exact DataW.trod_lt m _ _ _ hm
  obtain ⟨m0, x0, y0, c0, e0, F0, rfl, I0, J0⟩ := msg_arg (hval 0 29 v0 rfl rfl) h0
  clear hA0
  refine (writes_said m0 x0 y0 c0 e0 W F0 I0 J0 (tab_of_laid hL)).mono fun e W' ⟨he, bel⟩ => ?_
  subst he
  exact ⟨_, rfl, _, _, _, [], _, [], hW', trodAll_mk1 (shut_bool Tryd.underlying4 _), (trodAll_cons_mk (Below.trod laidOut (by kernel_rfl) (of_decide_eq_true (by kernel_rfl)) k0 bel lt0) trodAll_mk0), rfl, bel.frame _, fun h => by cases h⟩

theorem laid_met (os : Os) : laidMet Tryd.prog Rows.msgWritesRow.laid ((layTab (World.holding Tryd.prog os ⟨#[], #[], []⟩)).forCall (fun _ _ => 0) ⟨#[], #[.agg #[.int .u8 0, .int .i64 0, .int .i64 0, .int .i64 0, .int .i64 0, .int .i64 0, .int .i64 0, .int .u64 0, .int .i64 0, .int .i64 0, .int .i64 0, .int .i64 0, .int .u8 0, .string ⟨#[]⟩, .int .i64 0, .int .i64 0, .int .i64 0, .int .i64 0, .int .i64 0, .slice none 0 0, .slice none 0 0, .string ⟨#[]⟩]], []⟩).memory :=
  laidMet_of_run' 8 (by kernel_rfl) (by kernel_rfl)
theorem reads (os : Os) {H : Type} (enc : TypeId × Value → H) : ∃ places, DataW.whole enc Tryd.prog ((layTab (World.holding Tryd.prog os ⟨#[], #[], []⟩)).forCall (fun _ _ => 0) ⟨#[], #[.agg #[.int .u8 0, .int .i64 0, .int .i64 0, .int .i64 0, .int .i64 0, .int .i64 0, .int .i64 0, .int .u64 0, .int .i64 0, .int .i64 0, .int .i64 0, .int .i64 0, .int .u8 0, .string ⟨#[]⟩, .int .i64 0, .int .i64 0, .int .i64 0, .int .i64 0, .int .i64 0, .slice none 0 0, .slice none 0 0, .string ⟨#[]⟩]], []⟩).memory Tryd.f3.params.toList Rows.msgWritesSpec.vars false (#[.agg #[.int .u8 0, .int .i64 0, .int .i64 0, .int .i64 0, .int .i64 0, .int .i64 0, .int .i64 0, .int .u64 0, .int .i64 0, .int .i64 0, .int .i64 0, .int .i64 0, .int .u8 0, .string ⟨#[]⟩, .int .i64 0, .int .i64 0, .int .i64 0, .int .i64 0, .int .i64 0, .slice none 0 0, .slice none 0 0, .string ⟨#[]⟩]] : Array Value).toList 8 = some ([.agg [.lit (.int .u8 0), .lit (.int .i64 0), .lit (.int .i64 0), .lit (.int .i64 0), .lit (.int .i64 0), .lit (.int .i64 0), .lit (.int .i64 0), .lit (.int .u64 0), .lit (.int .i64 0), .agg [.lit (.int .i64 0), .lit (.int .i64 0), .lit (.int .i64 0), .lit (.int .u8 0), .lit (.string []), .lit (.int .i64 0), .lit (.int .i64 0), .lit (.int .i64 0)], .agg [.lit (.int .i64 0), .lit (.int .i64 0), .nil], .nil, .lit (.string [])]], [], places) :=
  ⟨[], by kernel_rfl⟩

set_option maxRecDepth 100000 in
theorem lifted (os : Os) (started : os.Started) (H : Type) (enc : TypeId × Value → H) (F : Stop.Interp) :
    ReturnsInHanded {} Tryd.checked os 3 .any ((OpenSpec.ofChange Rows.msgWritesSpec).preRow enc Tryd.prog Tryd.f3 Rows.msgWritesRow.domain false Rows.msgWritesRow.laid) (((OpenSpec.ofChange Rows.msgWritesSpec).at F).post enc Tryd.prog Tryd.f3 false true false false) := by
  obtain ⟨places, hx⟩ := reads os enc
  refine returnsInHanded_of_row (C := Tryd.checked) (s := OpenSpec.ofChange Rows.msgWritesSpec) own started (by kernel_rfl) Tryd.func3
    (witness_row_at (enc := enc) (C := Tryd.checked) false (layTab (World.holding Tryd.prog os ⟨#[], #[], []⟩)) #[.agg #[.int .u8 0, .int .i64 0, .int .i64 0, .int .i64 0, .int .i64 0, .int .i64 0, .int .i64 0, .int .u64 0, .int .i64 0, .int .i64 0, .int .i64 0, .int .i64 0, .int .u8 0, .string ⟨#[]⟩, .int .i64 0, .int .i64 0, .int .i64 0, .int .i64 0, .int .i64 0, .slice none 0 0, .slice none 0 0, .string ⟨#[]⟩]] rfl (by kernel_rfl) (by kernel_rfl) (by kernel_rfl)
      (OpenSpec.preRow_of_cond 8 hx (by kernel_rfl) (fun k hk => by cases hk) (by kernel_rfl) (laid_met os))) ?_
  intro W base args ds gs before hval hW _ _ _ hL _ _
  exact contract H enc W base args ds gs before hval hW hL

theorem said : Rows.MsgWritesSaid :=
  OpenClaim.holds_of_cond 3 Tryd.f3 rfl rfl rfl rfl rfl rfl rfl ⟨rfl, rfl, rfl, rfl, rfl⟩ rfl rfl rfl rfl rfl (by kernel_rfl) Tryd.func3 (by kernel_rfl)
    (of_decide_eq_true (by kernel_rfl)) (by unfold Func.isWrapper; first | (rw [if_pos (by decide +kernel)]; kernel_rfl) | (rw [if_neg (by decide +kernel)]; exact ⟨rfl, rfl⟩))
    (fun os started H enc _ F => by rw [OpenClaim.pre_eq_preRow]; exact lifted os started H enc F)

theorem plain (f : FuncId) (fn : Func) (hf : Tryd.pinned.checked.prog.funcNamed Rows.msgWritesRow.func = some f) (hfn : Tryd.pinned.checked.prog.funcs[f]? = some fn) :
    true = Tryd.pinned.checked.prog.looks [] ∧ ∀ (j : Nat) t, fn.params[j]? = some t → Tryd.pinned.checked.prog.wantsStandIn t = false := by
  obtain rfl : f = 3 := Option.some.inj ((show Tryd.prog.funcNamed Rows.msgWritesRow.func = some 3 by kernel_rfl).symm.trans hf) |>.symm
  obtain rfl : fn = Tryd.f3 := (Option.some.inj (Tryd.func3.symm.trans hfn)).symm
  refine ⟨by kernel_rfl, fun j t ht => ?_⟩
  rw [Tryd.params3] at ht
  have hm := Array.mem_of_getElem? ht
  simp only [List.mem_toArray, List.mem_cons, List.not_mem_nil, or_false] at hm
  subst hm
  exact (show Tryd.prog.wantsStandIn 29 = false by kernel_rfl)

theorem card : Rows.MsgWritesCardSaid :=
  Claim7.holds_tied_plain_at .later [] _ _ _ _ said (fun _ h => by cases h) (by kernel_rfl) (fun _ h => by cases h) msgWrites_row_tie rfl ⟨rfl, rfl⟩ (by kernel_rfl) rfl plain (by kernel_rfl)
end Go.Proofs.YtkbmbcmcnpeabaaDoor.msgWrites
namespace Go.Proofs.YtkbmbcmcnpeabaaDoor
theorem msgWrites_card : Rows.MsgWritesCardSaid := msgWrites.card
end Go.Proofs.YtkbmbcmcnpeabaaDoor

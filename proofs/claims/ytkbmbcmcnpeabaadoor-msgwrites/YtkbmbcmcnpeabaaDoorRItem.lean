/- What the document's own Num, Zig and Text answer. No conditions. -/
import Derived.Test.YtkbmbcmcnpeabaaDoorMsgMath
import Derived.Test.YtkbmbcmcnpeabaaDoorInB
import Derived.WalkKit
import Derived.WalkSpells
import Derived.Outline
import Derived.Below
import Derived.BigQuiet
import Derived.Deep.RegionWith
import Derived.Deep.CutRange
import Derived.RegionTactic
import Derived.Deep.QuietTactic
import Derived.WalkSmall
import Derived.Laws.IdiomStrings
import Derived.LoopTactic
import Derived.Deep.Quiet
import Derived.Test.YtkbmbcmcnpeabaaDoorRefChk
import Derived.Test.YtkbmbcmcnpeabaaDoorRefMem
import Derived.Test.YtkbmbcmcnpeabaaDoorFieldsW
namespace Go.Proofs.YtkbmbcmcnpeabaaDoor.Rf
open Pk Go.RowKit

/-- One byte as a text. -/
theorem conv_one (B : Nat) (b : UInt8) (W : World) (h : W.cell? ⟨B, 0, none⟩ = some (.int .u8 (b.toNat : Int))) : Sem.run Tryd.prog (convert 48 9 (.slice (some ⟨B, 0, none⟩) 1 1)) W = .ok (.string ⟨#[b]⟩) W := by
  refine run_convert_bytes_back W 48 9 5 ⟨B, 0, none⟩ 1 [b] Tryd.underlying48 Tryd.underlying5 Tryd.underlying9 fun j hj => ?_
  have : j = 0 := by simp at hj; omega
  subst this
  exact h

/-- .. in a later world. -/
theorem conv_after {w w' : World} {b : UInt8} (h : Below (w.alloc (.cells #[.int .u8 (b.toNat : Int)] 5)).drew.heap.size (w.alloc (.cells #[.int .u8 (b.toNat : Int)] 5)).drew w') :
    Sem.run Tryd.prog (convert 48 9 (.slice (some ⟨w.heap.size, 0, none⟩) 1 1)) w' = .ok (.string ⟨#[b]⟩) w' :=
  conv_one _ b _ ((h.cell (p := ⟨w.heap.size, 0, none⟩) (by simp)).trans (by simp))
theorem zig_any (i : Int) (hi : I64 i) (w : World) :
    Calls Tryd.prog 31 #[.int .i64 i] w fun e w' => e = .returned (.int .u64 ((zig i : Nat) : Int)) ∧ w' = w := by
  unfold I64 at hi
  have hz : ((zig i : Nat) : Int) = if i < 0 then -(i + 1) * 2 + 1 else i * 2 := by unfold zig; split <;> omega
  generalize ((zig i : Nat) : Int) = z at *
  by_cases h : i < 0
  · rw [if_pos h] at hz
    subst hz
    go_enter Tryd.func31, Tryd.ntmps31
    go_wp2
    go_ret
    refine ⟨ret_u64 ?_, rfl⟩
    first | omega | (simp [wrap64]; omega)
  · rw [if_neg h] at hz
    subst hz
    go_enter Tryd.func31, Tryd.ntmps31
    go_wp2
    go_ret
    refine ⟨ret_u64 ?_, rfl⟩
    first | omega | (simp [wrap64]; omega)

set_option maxHeartbeats 1000000 in
set_option maxRecDepth 100000 in
theorem refnum_any (n : Nat) : ∀ (w : World), n < 2 ^ 64 →
    Calls Tryd.prog 30 #[.int .u64 (n : Int)] w fun e w' => e = .returned (.string ⟨(numBytes n).toArray⟩) ∧ Below w.heap.size w w' := by
  induction n using Nat.strongRecOn with
  | ind n ih =>
    intro w hn
    by_cases hs : n < 128
    · obtain ⟨b, hb⟩ : ∃ b : UInt8, b.toNat = n := ⟨UInt8.ofNat n, toNat_ofNat_lt (by omega)⟩
      subst hb
      have hnb : numBytes b.toNat = [b] := by rw [numBytes, if_pos hs]; simp
      rw [hnb]
      have hcv := conv_one w.heap.size b (w.alloc (.cells #[.int .u8 (b.toNat : Int)] 5)) (by simp)
      clear ih hnb
      go_enter Tryd.func30, Tryd.ntmps30
      go_wp2_with fail
      go_ret
      exact ⟨rfl, (Below.refl _ _).alloc (Nat.le_refl _) _⟩
    · have hnb : numBytes n = UInt8.ofNat (n % 128 + 128) :: numBytes (n / 128) := by rw [numBytes, if_neg hs]
      have hv : IntKind.u8.wrap (IntKind.u8.wrap ((n : Int).tmod 128) + 128) = (((UInt8.ofNat (n % 128 + 128)).toNat : Nat) : Int) := by
        rw [toNat_ofNat_lt (by omega), IntKind.wrap_u8', IntKind.wrap_u8', Int.tmod_eq_emod_of_nonneg (by omega)]; omega
      have hq : IntKind.u64.wrap ((n : Int) / 128) = ((n / 128 : Nat) : Int) := by rw [wrap_u64]; omega
      have Hnb := hide hnb
      have IH := hide (fun w => ih (n / 128) (by omega) w (by omega))
      have hlen := numBytes_length (n / 128) (by omega)
      have hsum : ¬ (9223372036854775807 < 1 + (numBytes (n / 128)).length) := by omega
      clear hnb ih
      generalize UInt8.ofNat (n % 128 + 128) = b at *
      generalize n / 128 = q at *
      have v1 : ∀ W : World, Sem.run Tryd.prog (convert 48 9 (.slice (some ⟨W.heap.size, 0, none⟩) 1 1)) (W.alloc (.cells #[.int .u8 (b.toNat : Int)] 5)).drew = .ok (.string ⟨#[b]⟩) (W.alloc (.cells #[.int .u8 (b.toNat : Int)] 5)).drew := fun W => conv_one _ b _ (by simp)
      have v2 : ∀ W : World, Sem.run Tryd.prog (convert 48 9 (.slice (some ⟨W.heap.size, 0, none⟩) 1 1)) (W.alloc (.cells #[.int .u8 (b.toNat : Int)] 5)) = .ok (.string ⟨#[b]⟩) (W.alloc (.cells #[.int .u8 (b.toNat : Int)] 5)) := fun W => conv_one _ b _ (by simp)
      go_enter Tryd.func30, Tryd.ntmps30
      go_wp2_with fail
      go_region_with (go_at_call 30; refine (unhide IH _).mono ?_; rintro e w' ⟨rfl, hbel⟩; first | have v3 := conv_after hbel | skip)
      all_goals
        have Hbel := hide hbel
        clear hbel
        go_wp2_with fail
        go_ret
        refine ⟨?_, ?_⟩
        · rw [unhide Hnb]; exact congrArg (fun x => Ending.returned (.string x)) (bytes_ext (by simp [ByteArray.data_append]))
        · have hb := unhide Hbel
          first
            | exact ((Below.refl _ _).alloc (Nat.le_refl _) _).drew.trans (hb.mono (by simp))
            | exact (((Below.refl _ w).drew.trans hb).alloc hb.size _)
            | trace_state
end Go.Proofs.YtkbmbcmcnpeabaaDoor.Rf

namespace Go.Proofs.YtkbmbcmcnpeabaaDoor.Rw
open Pk Go.RowKit

theorem refnum_int (n : Int) (h0 : 0 ≤ n) (h1 : n ≤ 9223372036854775807) (w : World) : Calls Tryd.prog 26 #[.int .i64 n] w fun e w' => e = .returned (.string ⟨(numBytes n.toNat).toArray⟩) ∧ Below w.heap.size w w' := by
  obtain ⟨k, rfl⟩ : ∃ k : Nat, n = (k : Int) := ⟨n.toNat, by omega⟩
  rw [Int.toNat_natCast]
  have hw : (k : Int) % 18446744073709551616 = (k : Int) := by omega
  go_enter Tryd.func26, Tryd.ntmps26
  go_wp2_with fail
  refine (Rf.refnum_any k _ (by omega)).mono ?_
  rintro e w1 ⟨rfl, b⟩
  have B := hide b
  clear b
  go_wp2_with fail
  go_ret
  exact ⟨rfl, unhide B⟩
theorem reftext_any (s : ByteArray) (hs : s.size ≤ 1099511627776) (w : World) : Calls Tryd.prog 29 #[.string s] w fun e w' => e = .returned (.string ⟨(textBytes s.data.toList).toArray⟩) ∧ Below w.heap.size w w' := by
  have hw : (s.size : Int) % 18446744073709551616 = (s.size : Int) := by omega
  have hl := numBytes_length s.size (by omega)
  go_enter Tryd.func29, Tryd.ntmps29
  go_wp2_with fail
  refine (Rf.refnum_any s.size _ (by omega)).mono ?_
  rintro e w1 ⟨rfl, b⟩
  have B := hide b
  clear b
  obtain ⟨x, hx⟩ : ∃ x : ByteArray, x = ⟨(numBytes s.size).toArray⟩ := ⟨_, rfl⟩
  have hxs : x.size = (numBytes s.size).length := by rw [hx]; rfl
  have hxl : x.size ≤ 10 := by omega
  rw [← hx]
  have HX := hide hx
  clear hx hxs
  go_wp2_with fail
  go_ret
  refine ⟨?_, unhide B⟩
  have e : (⟨(textBytes s.data.toList).toArray⟩ : ByteArray) = x ++ s := bytes_ext (by rw [unhide HX, ByteArray.data_append, Array.toList_append]; simp [textBytes])
  rw [e]
  rfl

def nB (x : Int) : ByteArray := ⟨(numBytes x.toNat).toArray⟩
def uB (n : Nat) : ByteArray := ⟨(numBytes n).toArray⟩
def tB (l : List UInt8) : ByteArray := ⟨(textBytes l).toArray⟩
def lB (l : List Int) : ByteArray := ⟨(numBytes l.length ++ encN P l).toArray⟩
def iB (x : ItemV) : ByteArray := ⟨(itemC.enc x).toArray⟩
theorem rnum_any (n : Int) (h0 : 0 ≤ n) (h1 : n ≤ 9223372036854775807) (w : World) : Calls Tryd.prog 26 #[.int .i64 n] w fun e w' => e = .returned (.string (nB n)) ∧ Below w.heap.size w w' := refnum_int n h0 h1 w
theorem size_of (l : List UInt8) : (⟨l.toArray⟩ : ByteArray).size = l.length := by simp [ByteArray.size]
theorem in_le {x : Int} (h : In x) : 0 ≤ x ∧ x ≤ 2147483647 := h
theorem nB_size {x : Int} (h : In x) : (nB x).size ≤ 10 := by
  have := in_le h
  unfold nB; rw [size_of]; exact numBytes_length _ (by omega)
theorem uB_size {n : Nat} (h : n < 2 ^ 64) : (uB n).size ≤ 10 := by unfold uB; rw [size_of]; exact numBytes_length _ h
theorem tB_size {l : List UInt8} (h : l.length ≤ 100000) : (tB l).size ≤ 10 + l.length := by
  have := numBytes_length l.length (by omega)
  unfold tB; rw [size_of]; unfold textBytes; rw [List.length_append]; omega
theorem encN_len : ∀ l : List Int, (∀ x ∈ l, In x) → (encN P l).length ≤ 10 * l.length
  | [], _ => by simp [encN]
  | x :: l, h => by
    have h1 := encN_len l (fun y hy => h y (List.mem_cons_of_mem _ hy))
    have h2 := nB_size (h x List.mem_cons_self)
    unfold nB at h2; rw [size_of] at h2
    have e : encN P (x :: l) = numBytes x.toNat ++ encN P l := rfl
    rw [e, List.length_append, List.length_cons]
    omega
theorem lB_size {l : List Int} (h : ∀ x ∈ l, In x) (hl : l.length ≤ 100000) : (lB l).size ≤ 10 + 10 * l.length := by
  have h1 := encN_len l h
  have h2 := numBytes_length l.length (by omega)
  unfold lB; rw [size_of, List.length_append]; omega
theorem encN_snoc : ∀ (l : List Int) (x : Int), encN P (l ++ [x]) = encN P l ++ numBytes x.toNat
  | [], x => by simp [encN]; rfl
  | y :: l, x => by
    have e : ∀ r, encN P (y :: r) = P.enc y ++ encN P r := fun _ => rfl
    rw [List.cons_append, e, e, encN_snoc l x, List.append_assoc]
theorem ba_app (a b : List UInt8) : (⟨(a ++ b).toArray⟩ : ByteArray) = ⟨a.toArray⟩ ++ ⟨b.toArray⟩ := by
  apply ByteArray.ext
  simp [ByteArray.data_append]
def pB (l : List Int) (j : Nat) : ByteArray := ⟨(numBytes l.length ++ encN P (l.take j)).toArray⟩
theorem pB_zero (l : List Int) : pB l 0 = nB (l.length : Int) := by unfold pB nB; simp [encN]
theorem pB_all (l : List Int) : pB l l.length = lB l := by unfold pB lB; rw [List.take_length]
theorem pB_succ {l : List Int} {j : Nat} (h : j < l.length) : pB l (j + 1) = pB l j ++ nB (l.getD j 0) := by
  unfold pB nB
  rw [List.take_succ_eq_append_getElem h, encN_snoc, ← List.append_assoc, ba_app, List.getD_eq_getElem?_getD, List.getElem?_eq_getElem h]
  rfl
theorem pB_size {l : List Int} (h : ∀ x ∈ l, In x) (hl : l.length ≤ 1024) (j : Nat) : (pB l j).size ≤ 20000 := by
  have h1 := encN_len (l.take j) (fun x hx => h x (List.mem_of_mem_take hx))
  have h2 := numBytes_length l.length (by omega)
  have h3 : (l.take j).length ≤ l.length := by rw [List.length_take]; omega
  unfold pB; rw [size_of, List.length_append]; omega

set_option maxRecDepth 100000 in
set_option maxHeartbeats 2000000 in
theorem reflist_any (a : Option Addr) (l : List Int) (c : Nat) (w : World) (hI : ∀ i, i < l.length → ∃ x, a = some x ∧ w.cell? (x.add i) = some (.int .i64 (l.getD i 0))) (hl : l.length ≤ 1024) (hin : ∀ x ∈ l, In x) :
    Calls Tryd.prog 27 #[.slice a l.length c] w fun e w' => e = .returned (.string (lB l)) ∧ Below w.heap.size w w' := by
  obtain ⟨n, hn⟩ : ∃ n, n = l.length := ⟨_, rfl⟩
  have HI := hide hI
  have HIN := hide hin
  have HN := hide hn
  have HL := hide hl
  rw [← hn] at hl ⊢
  have N1 := hide (fun v : World => rnum_any (n : Int) (by omega) (by omega) v)
  clear hI hin hn
  go_enter Tryd.func27, Tryd.ntmps27
  go_wp2_with fail
  refine (unhide N1 _).mono ?_
  rintro e w1 ⟨rfl, hb⟩
  have HB := hide hb
  clear hb N1
  go_wp2_with fail
  go_loopw [3, 4] (fun s i wr => ∃ j : Nat, j ≤ n ∧ i = .int .i64 (j : Int) ∧ s = .string (pB l j) ∧ Below w.heap.size w wr) (fun _ i _ => n - (intOf i).toNat)
  case atStart => exact ⟨0, by omega, rfl, by rw [pB_zero, ← unhide HN], unhide HB⟩
  case round =>
    obtain ⟨j, hj, rfl, rfl, hb⟩ := hrel
    have HBr := hide hb
    clear hb HB
    by_cases hlt : j < n
    · have hlt' : j < l.length := by rw [← unhide HN]; exact hlt
      obtain ⟨x, hax, hc⟩ := unhide HI j hlt'
      subst hax
      have hbk := World.block_lt_of_cell? _ _ hc
      have c1 : wr.cell? (x.add j) = some (.int .i64 (l.getD j 0)) := ((unhide HBr).cell hbk).trans hc
      have hv : In (l.getD j 0) := by
        rw [List.getD_eq_getElem?_getD, List.getElem?_eq_getElem hlt']; exact unhide HIN _ (List.getElem_mem hlt')
      have P1 := hide (pB_succ hlt')
      have s1 := pB_size (unhide HIN) (unhide HL) j
      have s2 := nB_size hv
      have hv' := in_le hv
      have N2 := hide (fun v : World => rnum_any (l.getD j 0) hv'.1 (by omega) v)
      have hsum : ¬ (9223372036854775807 < (pB l j).size + (nB (l.getD j 0)).size) := by omega
      have hlt2 : (j : Int) < (n : Int) := by omega
      have hj0 : (0 : Int) ≤ (j : Int) := by omega
      have hw : IntKind.i64.wrap ((j : Int) + 1) = (j : Int) + 1 := Go.IntWalk.i64_in _ (by omega)
      clear hc hbk hv hv' s1 s2 hlt'
      generalize l.getD j 0 = v at *
      go_wp2_with fail
      refine (unhide N2 _).mono ?_
      rintro e w2 ⟨rfl, hb2⟩
      have HB2 := hide ((unhide HBr).trans (hb2.mono (unhide HBr).size))
      clear hb2 N2
      go_wp2_with fail
      go_roundw
      case rel => exact ⟨j + 1, by omega, rfl, by rw [unhide P1], unhide HB2⟩
      case measure => simp [intOf]; omega
    · have hlt2 : ¬ (j : Int) < (n : Int) := by omega
      have HJ := hide (show j = l.length by rw [← unhide HN]; omega)
      clear hj
      go_wp2_with fail
      go_ret
      exact ⟨by rw [unhide HJ, pB_all]; rfl, unhide HBr⟩
end Go.Proofs.YtkbmbcmcnpeabaaDoor.Rw

namespace Go.Proofs.YtkbmbcmcnpeabaaDoor

section
variable {P : Program} {ops : Array Oper} {md : Region.Mode} {C : World → Prop} {D : Nat → World → Prop} {V : Nat → Value} {i0 : Nat} {o0 : Oper}

/-- The one operation, in a world of the class: a value and a world that a number tells. -/
def Late (P : Program) (ops : Array Oper) (C : World → Prop) (D : Nat → World → Prop) (V : Nat → Value) (o : Oper) (a : Act) : Prop :=
  Region.wanted o (yielded ops a.tmps) = true ∧ ∀ w, C w → ∃ B w', ((execOp a.eval o).run P w = .ok (.value (V B)) w' ∨ ((execOp a.eval o).run P w = .ok .skip w' ∧ V B = undef)) ∧ D B w'
/-- Whatever order is picked from here on, the one operation not yet carried out. -/
def wpLate (P : Program) (md : Region.Mode) (ops : Array Oper) (C : World → Prop) (D : Nat → World → Prop) (V : Nat → Value) (i0 : Nat) (o0 : Oper) (Q : Nat → Act → Prop) : Nat → Array Bool → Act → Prop
  | 0, _, _ => False
  | fuel + 1, listed, a => Region.ready md ops listed ≠ [] ∧ ∀ i ∈ Region.ready md ops listed,
      (i = i0 → Late P ops C D V o0 a ∧ ∀ B, wpAnyQ P md ops (D B) (Q B) fuel (listed.setIfInBounds i0 true) (a.put o0.dst (V B))) ∧
      (i ≠ i0 → qOp P ops C i (wpLate P md ops C D V i0 o0 Q fuel (listed.setIfInBounds i true)) a)

theorem wpAny_of_late {Q : Nat → Act → Prop} {Q' : Exit → Act → World → Prop} (h0 : ops[i0]? = some o0) (hQ : ∀ B a w, D B w → Q B a → Q' .normal a w) : ∀ (fuel : Nat) (listed : Array Bool) (a : Act) (w : World), C w →
    wpLate P md ops C D V i0 o0 Q fuel listed a → wpAny P md ops Q' fuel listed a w
  | 0, _, _, _, _, h => h.elim
  | fuel + 1, listed, a, w, hw, h => by
    refine ⟨fun he => absurd he h.1, fun i hi => ?_⟩
    by_cases e : i = i0
    · subst e
      obtain ⟨⟨hwant, hl⟩, hc⟩ := (h.2 i hi).1 rfl
      obtain ⟨B, w', hr, hD⟩ := hl w hw
      unfold wpOp
      simp only [h0, hwant, if_true]
      left
      unfold Oper.wp
      have hq := wpAny_of_quiet (hQ B) fuel _ _ _ hD (hc B)
      rcases hr with hr | ⟨hr, hv⟩
      · rw [hr]
        simp only [Oper.upon]
        exact hq
      · rw [hr]
        simp only [Oper.upon]
        rw [hv] at hq
        exact hq
    · exact wpOp_of_qOp hw (fun a' w' hw' => wpAny_of_late h0 hQ fuel _ a' w' hw') ((h.2 i hi).2 e)

/-- An operation that yields its value in every world of the class, and of the classes behind the one operation, may be taken first. -/
theorem wpLate_first {Q : Nat → Act → Prop} {i : Nat} {oi : Oper} {v : Value} (h0 : ops[i0]? = some o0) (hi : ops[i]? = some oi) (hne : i ≠ i0) (hsel : ∀ (j : Nat) (o : Oper) cs b, ops[j]? = some o → o.op ≠ .select cs b) :
    ∀ (fuel : Nat) (listed : Array Bool) (a : Act),
      (∀ j oj, ops[j]? = some oj → j ≠ i → listed.getD j true = false → (∀ e ∈ oj.after, Region.binds md e = true → e.on ≠ i) → oi.apart ops oj = true) →
      i ∈ Region.ready md ops listed → YieldsIn P ops C oi v a → (∀ B, YieldsIn P ops (D B) oi v a) →
      wpLate P md ops C D V i0 o0 Q fuel (listed.setIfInBounds i true) (a.put oi.dst v) → wpLate P md ops C D V i0 o0 Q (fuel + 1) listed a := by
  intro fuel
  induction fuel with
  | zero => intro listed a _ _ _ _ H; exact H.elim
  | succ fuel ih =>
    intro listed a hfree hr hy hyD H
    refine ⟨fun h => (by rw [h] at hr; cases hr), fun j hj => ⟨fun e => ?_, fun e => ?_⟩⟩
    · -- the one operation comes up ahead of it
      have hji : j ≠ i := fun h => hne (h.symm.trans e)
      subst e
      obtain ⟨hjun, oj, hoj, hall⟩ := mem_ready.1 hj
      obtain rfl : oj = o0 := Option.some.inj (hoj.symm.trans h0)
      have hnot : ∀ e ∈ oj.after, Region.binds md e = true → e.on ≠ i := fun e he hb heq => by
        have h1 := hall e he hb
        have h2 := (mem_ready.1 hr).1
        rw [heq] at h1
        rcases Nat.lt_or_ge i listed.size with h' | h'
        · simp [h'] at h1 h2; rw [h2] at h1; cases h1
        · simp [Array.getElem?_eq_none h'] at h1
      have hap := hfree j oj hoj hji hjun hnot
      obtain ⟨a1, a2, a3⟩ := Oper.apart_spec hap
      obtain ⟨⟨hwant, hl⟩, hc⟩ := (H.2 j (ready_mono hj hji)).1 rfl
      rw [wanted_put oj a oi.dst v a1] at hwant
      refine ⟨⟨hwant, fun w hw => ?_⟩, fun B => ?_⟩
      · have := hl w hw
        rwa [execOp_put oj (fun cs b => hsel j oj cs b hoj) a oi.dst v a1] at this
      · have hyB : YieldsIn P ops (D B) oi v (a.put oj.dst (V B)) := (hyD B).of_same (execOp_put oi (fun cs b => hsel i oi cs b hi) a oj.dst (V B) a3) (wanted_put oi a oj.dst (V B) a3)
        refine wpAnyQ_first hi hsel fuel (listed.setIfInBounds j true) (a.put oj.dst (V B)) (fun k ok hk hki hun hno => ?_) (ready_mono hr (Ne.symm hji)) hyB ?_
        · refine hfree k ok hk hki ?_ hno
          by_cases hjk : j = k
          · subst hjk; exact hjun
          · rw [getD_set_ne true hjk] at hun; exact hun
        · have := hc B
          rw [Array.setIfInBounds_comm _ _ hji, ← Act.put_comm a v (V B) a2]
          exact this
    · by_cases hji : j = i
      · subst hji
        exact hy.qOp hi (by simpa using H)
      · have h1 := (H.2 j (ready_mono hj hji)).2 e
        obtain ⟨hjun, oj, hoj, hall⟩ := mem_ready.1 hj
        have hnot : ∀ e ∈ oj.after, Region.binds md e = true → e.on ≠ i := fun e he hb heq => by
          have h1 := hall e he hb
          have h2 := (mem_ready.1 hr).1
          rw [heq] at h1
          rcases Nat.lt_or_ge i listed.size with h' | h'
          · simp [h'] at h1 h2; rw [h2] at h1; cases h1
          · simp [Array.getElem?_eq_none h'] at h1
        have hap := hfree j oj hoj hji hjun hnot
        obtain ⟨a1, a2, a3⟩ := Oper.apart_spec hap
        have hfree' : ∀ k ok, ops[k]? = some ok → k ≠ i → (listed.setIfInBounds j true).getD k true = false → (∀ e ∈ ok.after, Region.binds md e = true → e.on ≠ i) → oi.apart ops ok = true := fun k ok hk hki hun hno => by
          refine hfree k ok hk hki ?_ hno
          by_cases hjk : j = k
          · subst hjk; exact hjun
          · rw [getD_set_ne true hjk] at hun; exact hun
        have keep : ∀ (E : World → Prop) (u : Value), YieldsIn P ops E oi v a → YieldsIn P ops E oi v (a.put oj.dst u) := fun E u h =>
          h.of_same (execOp_put oi (fun cs b => hsel i oi cs b hi) a oj.dst u a3) (wanted_put oi a oj.dst u a3)
        have step : ∀ u : Value, wpLate P md ops C D V i0 o0 Q fuel ((listed.setIfInBounds i true).setIfInBounds j true) ((a.put oi.dst v).put oj.dst u) → wpLate P md ops C D V i0 o0 Q (fuel + 1) (listed.setIfInBounds j true) (a.put oj.dst u) := fun u hn => by
          refine ih (listed.setIfInBounds j true) (a.put oj.dst u) hfree' (ready_mono hr (Ne.symm hji)) (keep C u hy) (fun B => keep (D B) u (hyD B)) ?_
          rw [Array.setIfInBounds_comm _ _ hji, ← Act.put_comm a v u a2]
          exact hn
        unfold qOp at h1 ⊢
        simp only [hoj] at h1 ⊢
        rw [wanted_put oj a oi.dst v a1] at h1
        split
        · rename_i hw
          simp only [hw, if_true] at h1
          obtain ⟨u, hu, hn⟩ := h1
          refine ⟨u, fun w hw' => ?_, step u hn⟩
          have := hu w hw'
          unfold Oper.quietAt at *
          rwa [execOp_put oj (fun cs b => hsel j oj cs b hoj) a oi.dst v a1] at this
        · rename_i hw
          simp only [hw] at h1
          exact step undef h1
/-- The beginning: a region that draws, its first world of the class. -/
theorem wp_region_late {Q : Nat → Act → Prop} {Q' : Exit → Act → World → Prop} {id : Nat} {a : Act} {w : World} (hm : P.follows .mixedOrders = true) (h0 : ops[i0]? = some o0) (hC : C { w with drawn := w.drawn + 1 }) (hQ : ∀ B a w, D B w → Q B a → Q' .normal a w)
    (h : wpLate P .any ops C D V i0 o0 Q ops.size (Array.replicate ops.size false) a) : (Code.region id ops true).wp P Q' a w :=
  wp_region_any hm (wpAny_of_late h0 hQ _ _ _ _ hC h)
/-- The one operation, where nothing else may come up. -/
theorem wpLate_now {Q : Nat → Act → Prop} {fuel : Nat} {listed : Array Bool} {a : Act} (hr : Region.ready md ops listed = [i0]) (hl : Late P ops C D V o0 a)
    (h : ∀ B, wpAnyQ P md ops (D B) (Q B) fuel (listed.setIfInBounds i0 true) (a.put o0.dst (V B))) : wpLate P md ops C D V i0 o0 Q (fuel + 1) listed a := by
  refine ⟨by rw [hr]; simp, fun i hi => ?_⟩
  rw [hr] at hi
  have : i = i0 := by simpa using hi
  exact ⟨fun _ => ⟨hl, h⟩, fun h' => absurd this h'⟩
/-- May operation i be taken first? -/
def freeB (md : Region.Mode) (ops : Array Oper) (listed : Array Bool) (i : Nat) (oi : Oper) : Bool :=
  (List.range ops.size).all fun j => j == i || listed.getD j true || (match ops[j]? with
    | some oj => oj.after.any (fun e => Region.binds md e && e.on == i) || oi.apart ops oj
    | none => true)
theorem free_of {listed : Array Bool} {i : Nat} {oi : Oper} (h : freeB md ops listed i oi = true) :
    ∀ j oj, ops[j]? = some oj → j ≠ i → listed.getD j true = false → (∀ e ∈ oj.after, Region.binds md e = true → e.on ≠ i) → oi.apart ops oj = true := by
  intro j oj hj hne hun hno
  have hlt : j < ops.size := (Array.getElem?_eq_some_iff.1 hj).1
  have hb := List.all_eq_true.1 h j (List.mem_range.2 hlt)
  rw [hj, hun] at hb
  simp only [Bool.or_eq_true, beq_iff_eq, Bool.or_false] at hb
  rcases hb with (hb | hb)
  · exact absurd hb hne
  · rcases hb with hb | hb
    · obtain ⟨k, hk, he⟩ := Array.any_eq_true.1 hb
      simp only [Bool.and_eq_true, beq_iff_eq] at he
      exact absurd he.2 (hno _ (Array.getElem_mem hk) he.1)
    · exact hb
end
end Go.Proofs.YtkbmbcmcnpeabaaDoor

namespace Go.Proofs.YtkbmbcmcnpeabaaDoor

section
variable {P : Program} {ops : Array Oper} {md : Region.Mode} {Cl : Option Nat → World → Prop} {V : Nat → Value} {i0 : Nat} {o0 : Oper}

/-- A world of which St holds. -/
structure SX (St : World → Prop) where
  w : World
  ok : St w
/-- One value each, in every class. -/
def wpAllQ (P : Program) (ops : Array Oper) (Cl : Option Nat → World → Prop) (Q : Act → Prop) : List Oper → Act → Prop
  | [], a => Q a
  | o :: l, a => ∃ v, (∀ c, YieldsIn P ops (Cl c) o v a) ∧ wpAllQ P ops Cl Q l (a.put o.dst v)
theorem quiet_keeps {C : World → Prop} {A : Act} {t : Nat} : ∀ (l : List Oper) (a : Act), (∀ o ∈ l, o.dst ≠ some t) → wpQuiet P ops C (fun a' => a' = A) l a → A.tmps[t]? = a.tmps[t]?
  | [], a, _, h => by rw [show a = A from h]
  | o :: l, a, hd, h => by
    have hput : ∀ v, (a.put o.dst v).tmps[t]? = a.tmps[t]? := fun v => by
      have := hd o List.mem_cons_self
      unfold Act.put
      split
      · next k hk => rw [hk] at this; simp [show ¬ k = t from fun e => this (by rw [e])]
      · rfl
    unfold wpQuiet at h
    split at h
    · obtain ⟨v, _, hn⟩ := h
      exact (quiet_keeps l _ (fun o ho => hd o (List.mem_cons_of_mem _ ho)) hn).trans (hput v)
    · exact (quiet_keeps l _ (fun o ho => hd o (List.mem_cons_of_mem _ ho)) h).trans (hput undef)
/-- The temporaries are told apart. -/
def apartB : List Oper → Nat → Bool
  | [], _ => true
  | o :: l, n => (match o.dst with
    | some t => decide (t < n) && l.all (fun o' => o'.dst != some t)
    | none => false) && apartB l n
theorem put_size (a : Act) (d : Option Tmp) (v : Value) : (a.put d v).tmps.size = a.tmps.size := by unfold Act.put; split <;> simp
theorem allQ_of {A : Act} : ∀ (l : List Oper) (a : Act), apartB l a.tmps.size = true → (∀ c, wpQuiet P ops (Cl c) (fun a' => a' = A) l a) → wpAllQ P ops Cl (fun a' => a' = A) l a
  | [], a, _, h => h none
  | o :: l, a, hB, h => by
    simp only [apartB, Bool.and_eq_true] at hB
    obtain ⟨h1, h2⟩ := hB
    cases hd : o.dst with
    | none => rw [hd] at h1; cases h1
    | some t =>
      rw [hd] at h1
      simp only [Bool.and_eq_true, decide_eq_true_eq, List.all_eq_true, bne_iff_ne, ne_eq] at h1
      by_cases hw : Region.wanted o (yielded ops a.tmps) = true
      · have hv : ∀ c, ∃ v, (∀ w, Cl c w → o.quietAt P a (Cl c) w v) ∧ wpQuiet P ops (Cl c) (fun a' => a' = A) l (a.put o.dst v) := fun c => by
          have := h c
          unfold wpQuiet at this
          rw [if_pos hw] at this
          exact this
        have hval : ∀ c v, wpQuiet P ops (Cl c) (fun a' => a' = A) l (a.put o.dst v) → v = A.tmps.getD t undef := fun c v hq => by
          have := quiet_keeps l _ (fun o' ho => h1.2 o' ho) hq
          rw [Array.getD_eq_getD_getElem?, this, hd]
          unfold Act.put
          simp [h1.1]
        refine ⟨A.tmps.getD t undef, fun c => ?_, allQ_of l _ (by rw [put_size]; exact h2) fun c => ?_⟩
        · obtain ⟨v, hq, hn⟩ := hv c
          rw [← hval c v hn]
          exact .inl ⟨hw, hq⟩
        · obtain ⟨v, hq, hn⟩ := hv c
          rw [← hval c v hn]
          exact hn
      · have hw' : Region.wanted o (yielded ops a.tmps) = false := by simpa using hw
        refine ⟨undef, fun c => .inr ⟨hw', rfl⟩, allQ_of l _ (by rw [put_size]; exact h2) fun c => ?_⟩
        have := h c
        unfold wpQuiet at this
        rw [if_neg hw] at this
        exact this
/-- Those operations of a list that a mask names. -/
def pickM : List Bool → List Oper → List Oper
  | true :: m, o :: l => o :: pickM m l
  | false :: m, _ :: l => pickM m l
  | _, _ => []
/-- .. with their numbers. -/
def pickZ : List Bool → List Oper → Nat → List (Nat × Oper)
  | true :: m, o :: l, k => (k, o) :: pickZ m l (k + 1)
  | false :: m, _ :: l, k => pickZ m l (k + 1)
  | _, _, _ => []
theorem pickZ_snd : ∀ (m : List Bool) (l : List Oper) (k : Nat), (pickZ m l k).map Prod.snd = pickM m l
  | true :: m, o :: l, k => by simp [pickZ, pickM, pickZ_snd m l (k + 1)]
  | false :: m, _ :: l, k => by simp [pickZ, pickM, pickZ_snd m l (k + 1)]
  | [], _, _ => by simp [pickZ, pickM]
  | true :: _, [], _ => by simp [pickZ, pickM]
  | false :: _, [], _ => by simp [pickZ, pickM]
theorem pickZ_mem : ∀ (m : List Bool) (l : List Oper) (k : Nat), ∀ z ∈ pickZ m l k, k ≤ z.1 ∧ l[z.1 - k]? = some z.2
  | true :: m, o :: l, k, z, hz => by
    rcases List.mem_cons.1 (by simpa [pickZ] using hz) with rfl | hz
    · simp
    · obtain ⟨h1, h2⟩ := pickZ_mem m l (k + 1) z hz
      refine ⟨by omega, ?_⟩
      rw [show z.1 - k = (z.1 - (k + 1)) + 1 by omega, List.getElem?_cons_succ]; exact h2
  | false :: m, _ :: l, k, z, hz => by
    obtain ⟨h1, h2⟩ := pickZ_mem m l (k + 1) z (by simpa [pickZ] using hz)
    refine ⟨by omega, ?_⟩
    rw [show z.1 - k = (z.1 - (k + 1)) + 1 by omega, List.getElem?_cons_succ]; exact h2
  | [], _, _, z, hz => by simp [pickZ] at hz
  | true :: _, [], _, z, hz => by simp [pickZ] at hz
  | false :: _, [], _, z, hz => by simp [pickZ] at hz
def lexZ (md : Region.Mode) (ops : Array Oper) : List (Nat × Oper) → Array Bool → Bool
  | [], listed => Region.ready md ops listed == []
  | z :: Z, listed => (Region.ready md ops listed).contains z.1 && freeB md ops listed z.1 z.2 && lexZ md ops Z (listed.setIfInBounds z.1 true)
def lateZ (md : Region.Mode) (ops : Array Oper) (i0 : Nat) (Z2 : List (Nat × Oper)) : List (Nat × Oper) → Array Bool → Bool
  | [], listed => (Region.ready md ops listed == [i0]) && lexZ md ops Z2 (listed.setIfInBounds i0 true)
  | z :: Z, listed => (Region.ready md ops listed).contains z.1 && freeB md ops listed z.1 z.2 && (z.1 != i0) && lateZ md ops i0 Z2 Z (listed.setIfInBounds z.1 true)
theorem wpAnyQ_lexZ {C : World → Prop} {Q : Act → Prop} (hs : Region.noSelect ops = true) : ∀ (Z : List (Nat × Oper)) (listed : Array Bool) (a : Act), (∀ z ∈ Z, ops[z.1]? = some z.2) →
    lexZ md ops Z listed = true → wpQuiet P ops C Q (Z.map Prod.snd) a → wpAnyQ P md ops C Q Z.length listed a
  | [], _, _, _, hB, h => ⟨by simpa [lexZ] using hB, h⟩
  | z :: Z, listed, a, hz, hB, h => by
    have h0 := hz z List.mem_cons_self
    simp only [lexZ, Bool.and_eq_true] at hB
    obtain ⟨⟨hr, hf⟩, hB'⟩ := hB
    have hst : qOp P ops C z.1 (wpQuiet P ops C Q (Z.map Prod.snd)) a := by unfold qOp; simp only [h0]; exact h
    obtain ⟨v, hy, hK⟩ := yieldsIn_of_qOp h0 hst
    exact wpAnyQ_first h0 (Region.noSelect_spec hs) Z.length listed a (free_of hf) (by simpa using hr) hy
      (wpAnyQ_lexZ hs Z _ _ (fun y hy => hz y (List.mem_cons_of_mem _ hy)) hB' hK)
theorem wpLate_lexZ {Q : Act → Prop} {R : Nat → Act → Prop} {Z2 : List (Nat × Oper)} (h0 : ops[i0]? = some o0) (hs : Region.noSelect ops = true) (hz2 : ∀ z ∈ Z2, ops[z.1]? = some z.2)
    (hQ : ∀ a, Q a → Late P ops (Cl none) (fun B => Cl (some B)) V o0 a ∧ ∀ B, wpQuiet P ops (Cl (some B)) (R B) (Z2.map Prod.snd) (a.put o0.dst (V B))) :
    ∀ (Z : List (Nat × Oper)) (listed : Array Bool) (a : Act), (∀ z ∈ Z, ops[z.1]? = some z.2) → lateZ md ops i0 Z2 Z listed = true → wpAllQ P ops Cl Q (Z.map Prod.snd) a →
    wpLate P md ops (Cl none) (fun B => Cl (some B)) V i0 o0 R (Z.length + (Z2.length + 1)) listed a
  | [], listed, a, _, hB, h => by
    simp only [lateZ, Bool.and_eq_true, beq_iff_eq] at hB
    obtain ⟨hl, hR⟩ := hQ a h
    rw [List.length_nil, Nat.zero_add]
    exact wpLate_now hB.1 hl (fun B => wpAnyQ_lexZ hs Z2 _ _ hz2 hB.2 (hR B))
  | z :: Z, listed, a, hz, hB, h => by
    have hi := hz z List.mem_cons_self
    simp only [lateZ, Bool.and_eq_true, bne_iff_ne, ne_eq] at hB
    obtain ⟨⟨⟨hr, hf⟩, hne⟩, hB'⟩ := hB
    obtain ⟨v, hy, hK⟩ := h
    have e : (z :: Z).length + (Z2.length + 1) = (Z.length + (Z2.length + 1)) + 1 := by rw [List.length_cons]; omega
    rw [e]
    exact wpLate_first h0 hi hne (Region.noSelect_spec hs) _ listed a (free_of hf) (by simpa using hr) (hy none) (fun B => hy (some B))
      (wpLate_lexZ h0 hs hz2 hQ Z _ _ (fun y hy => hz y (List.mem_cons_of_mem _ hy)) hB' hK)
/-- May it be walked so? -/
def midB (os : List Oper) (i0 : Nat) (m1 m2 : List Bool) : Bool :=
  Region.noSelect os.toArray && decide ((pickZ m1 os 0).length + ((pickZ m2 os 0).length + 1) = os.length) && lateZ .any os.toArray i0 (pickZ m2 os 0) (pickZ m1 os 0) (Array.replicate os.length false)
/-- What is asked of the one operation, and of those that wait for it. -/
structure MidPost (P : Program) (os : List Oper) (St : Option Nat → World → Prop) (V : Nat → Value) (i0 : Nat) (m2 : List Bool) (Q : Exit → Act → World → Prop) (A : Act) : Prop where
  makes : ∀ o0, os[i0]? = some o0 → Region.wanted o0 (yielded os.toArray A.tmps) = true ∧ ∀ w, St none w → ∃ B w', (execOp A.eval o0).run P w = .ok (.value (V B)) w' ∧ St (some B) w'
  rest : ∀ o0, os[i0]? = some o0 → ∀ B, wpQuiet P os.toArray (fun w' => ∃ p : SX (St (some B)), w' = p.w) (fun a' => ∀ w', (∃ p : SX (St (some B)), w' = p.w) → Q .normal a' w') (pickM m2 os) (A.put o0.dst (V B))
theorem wp_region_mid {St : Option Nat → World → Prop} {os : List Oper} {id : Nat} {Q : Exit → Act → World → Prop} {a : Act} {w : World} (i0 : Nat) (m1 m2 : List Bool) (V : Nat → Value) (hm : P.follows .mixedOrders = true) (hi : (os[i0]?).isSome = true) (hB : midB os i0 m1 m2 = true) (hA : apartB (pickM m1 os) a.tmps.size = true) (hC : St none w.drew)
    (h : ∃ A, (∀ c, wpQuiet P os.toArray (fun w' => ∃ p : SX (St c), w' = p.w) (fun a' => a' = A) (pickM m1 os) a) ∧ MidPost P os St V i0 m2 Q A) : (Code.region id os.toArray true).wp P Q a w := by
  obtain ⟨A, hq, hp⟩ := h
  obtain ⟨o0, h0⟩ := Option.isSome_iff_exists.1 hi
  have h0' : os.toArray[i0]? = some o0 := by rw [List.getElem?_toArray]; exact h0
  simp only [midB, Bool.and_eq_true, decide_eq_true_eq] at hB
  obtain ⟨⟨hs, hlen⟩, hZ⟩ := hB
  have hz : ∀ m, ∀ z ∈ pickZ m os 0, os.toArray[z.1]? = some z.2 := fun m z hz => by
    rw [List.getElem?_toArray]; simpa using (pickZ_mem m os 0 z hz).2
  refine wp_region_late (C := fun w' => ∃ p : SX (St none), w' = p.w) (D := fun B w' => ∃ p : SX (St (some B)), w' = p.w) (V := V) (i0 := i0) (o0 := o0) (Q := fun B a' => ∀ w', (∃ p : SX (St (some B)), w' = p.w) → Q .normal a' w') hm h0' ⟨⟨_, hC⟩, rfl⟩ (fun B a' w' hw hq => hq w' hw) ?_
  have key := wpLate_lexZ (Cl := fun c w' => ∃ p : SX (St c), w' = p.w) (V := V) (md := .any) (Q := fun a' => a' = A) (R := fun B a' => ∀ w', (∃ p : SX (St (some B)), w' = p.w) → Q .normal a' w') (Z2 := pickZ m2 os 0) h0' hs (hz m2) (fun a' ha => by
    rw [show a' = A from ha]
    refine ⟨⟨(hp.makes o0 h0).1, ?_⟩, fun B => ?_⟩
    · rintro w' ⟨⟨_, ok⟩, rfl⟩
      obtain ⟨B, w2, hr, hst⟩ := (hp.makes o0 h0).2 _ ok
      exact ⟨B, w2, .inl hr, ⟨_, hst⟩, rfl⟩
    · rw [pickZ_snd]; exact hp.rest o0 h0 B) (pickZ m1 os 0) (Array.replicate os.length false) a (hz m1) hZ (by rw [pickZ_snd]; exact allQ_of _ _ hA hq)
  rw [hlen] at key
  simpa using key
end
end Go.Proofs.YtkbmbcmcnpeabaaDoor

namespace Go.Proofs.YtkbmbcmcnpeabaaDoor.Rw
open Pk Go.RowKit

theorem iB_is (x : ItemV) : iB x = nB x.src ++ nB x.seq ++ nB x.low ++ (⟨#[x.kind]⟩ : ByteArray) ++ tB x.key ++ nB x.part ++ uB (zig x.at_) ++ uB (zig x.n) := by
  apply ByteArray.ext
  unfold iB nB uB tB
  simp only [ByteArray.data_append]
  simp [itemC, itemT, Cod.map, Cod.seq, P, posC, mostC, byteC, keyC, textC, Cod.behind, bytesC, intC, numC, textBytes]

theorem zl {x : Int} (h : I64 x) : zig x < 2 ^ 64 := Pk.zig_lt x h
/-- What lies in memory while an item is written: before its kind's block is made, and behind. -/
def ItC (W : World) (k : UInt8) : Option Nat → World → Prop
  | none, v => Below W.heap.size W v
  | some B, v => Below W.heap.size W v ∧ v.cell? ⟨W.heap.size + B, 0, none⟩ = some (.int .u8 (k.toNat : Int))
theorem ItC.below {W v : World} {k : UInt8} : ∀ {c : Option Nat}, ItC W k c v → Below W.heap.size W v
  | none, h => h
  | some _, h => h.1
theorem ItC.call {W v v' : World} {k : UInt8} (hb : Below v.heap.size v v') : ∀ {c : Option Nat}, ItC W k c v → ItC W k c v'
  | none, h => Below.trans h (hb.mono (Below.size h))
  | some B, h => ⟨h.1.trans (hb.mono h.1.size), (hb.cell (p := ⟨W.heap.size + B, 0, none⟩) (World.block_lt_of_cell? _ _ h.2)).trans h.2⟩
theorem far (W : World) : ∀ n, ∃ v, Below W.heap.size W v ∧ v.heap.size = W.heap.size + n
  | 0 => ⟨W, Below.refl _ _, rfl⟩
  | n + 1 => by
    obtain ⟨v, h1, h2⟩ := far W n
    exact ⟨v.alloc (.cells #[] 5), h1.alloc h1.size _, by rw [World.size_alloc, h2]; rfl⟩
theorem ItC.ne (W : World) (k : UInt8) : ∀ c, Nonempty (SX (ItC W k c))
  | none => ⟨⟨W, Below.refl _ _⟩⟩
  | some B => by
    obtain ⟨v, h1, h2⟩ := far W B
    refine ⟨⟨v.alloc (.cells #[.int .u8 (k.toNat : Int)] 5), h1.alloc h1.size _, ?_⟩⟩
    rw [← h2]; simp

set_option maxRecDepth 100000 in
set_option maxHeartbeats 4000000 in
theorem refitem_any (x : ItemV) (hx : x.Ok) (w : World) : Calls Tryd.prog 28 #[.agg (itemCells x).toArray] w fun e w' => e = .returned (.string (iB x)) ∧ Below w.heap.size w w' := by
  obtain ⟨W, hW⟩ : ∃ W, W = w.alloc (.cells (itemCells x).toArray 24) := ⟨_, rfl⟩
  obtain ⟨A, hA⟩ : ∃ A, A = w.heap.size := ⟨_, rfl⟩
  have mW : Below w.heap.size w W := by rw [hW]; exact (Below.refl _ _).alloc (Nat.le_refl _) _
  have cA : ∀ i v, (itemCells x)[i]? = some v → W.cell? ⟨A, i, none⟩ = some v := fun i v hv => by rw [hW, hA, World.cell?_alloc_new]; simpa using hv
  have hAW : A < W.heap.size := by rw [hW, hA]; simp
  have kc : ∀ c (p : SX (ItC W x.kind c)) i v, (itemCells x)[i]? = some v → p.w.cell? ⟨A, i, none⟩ = some v := fun c p i v hv => (p.ok.below.cell (p := ⟨A, i, none⟩) hAW).trans (cA i v hv)
  have k0 : ∀ c (p : SX (ItC W x.kind c)), p.w.cell? ⟨A, 0, none⟩ = some (.int .i64 x.src) := fun c p => kc c p 0 _ rfl
  have k1 : ∀ c (p : SX (ItC W x.kind c)), p.w.cell? ⟨A, 1, none⟩ = some (.int .i64 x.seq) := fun c p => kc c p 1 _ rfl
  have k2 : ∀ c (p : SX (ItC W x.kind c)), p.w.cell? ⟨A, 2, none⟩ = some (.int .i64 x.low) := fun c p => kc c p 2 _ rfl
  have k3 : ∀ c (p : SX (ItC W x.kind c)), p.w.cell? ⟨A, 3, none⟩ = some (.int .u8 (x.kind.toNat : Int)) := fun c p => kc c p 3 _ rfl
  have k4 : ∀ c (p : SX (ItC W x.kind c)), p.w.cell? ⟨A, 4, none⟩ = some (.string ⟨x.key.toArray⟩) := fun c p => kc c p 4 _ rfl
  have k5 : ∀ c (p : SX (ItC W x.kind c)), p.w.cell? ⟨A, 5, none⟩ = some (.int .i64 x.part) := fun c p => kc c p 5 _ rfl
  have k6 : ∀ c (p : SX (ItC W x.kind c)), p.w.cell? ⟨A, 6, none⟩ = some (.int .i64 x.at_) := fun c p => kc c p 6 _ rfl
  have k7 : ∀ c (p : SX (ItC W x.kind c)), p.w.cell? ⟨A, 7, none⟩ = some (.int .i64 x.n) := fun c p => kc c p 7 _ rfl
  have num : ∀ (n : Int), In n → ∀ c (p : SX (ItC W x.kind c)), Calls Tryd.prog 26 #[.int .i64 n] p.w fun e w'' => e = .returned (.string (nB n)) ∧ ∃ q : SX (ItC W x.kind c), w'' = q.w := fun n hn c p =>
    (rnum_any n (in_le hn).1 (by have := in_le hn; omega) p.w).mono fun e w'' ⟨he, hb⟩ => ⟨he, ⟨w'', p.ok.call hb⟩, rfl⟩
  have zg : ∀ (n : Int), I64 n → ∀ c (p : SX (ItC W x.kind c)), Calls Tryd.prog 31 #[.int .i64 n] p.w fun e w'' => e = .returned (.int .u64 ((zig n : Nat) : Int)) ∧ ∃ q : SX (ItC W x.kind c), w'' = q.w := fun n hn c p =>
    (Rf.zig_any n hn p.w).mono fun e w'' ⟨he, hw⟩ => ⟨he, p, hw⟩
  have un : ∀ (n : Nat), n < 2 ^ 64 → ∀ c (p : SX (ItC W x.kind c)), Calls Tryd.prog 30 #[.int .u64 (n : Int)] p.w fun e w'' => e = .returned (.string (uB n)) ∧ ∃ q : SX (ItC W x.kind c), w'' = q.w := fun n hn c p =>
    (Rf.refnum_any n p.w hn).mono fun e w'' ⟨he, hb⟩ => ⟨he, ⟨w'', p.ok.call hb⟩, rfl⟩
  have tx : ∀ c (p : SX (ItC W x.kind c)), Calls Tryd.prog 29 #[.string ⟨x.key.toArray⟩] p.w fun e w'' => e = .returned (.string (tB x.key)) ∧ ∃ q : SX (ItC W x.kind c), w'' = q.w := fun c p =>
    (reftext_any ⟨x.key.toArray⟩ (by rw [size_of]; have := hx.key; omega) p.w).mono fun e w'' ⟨he, hb⟩ => ⟨he, ⟨w'', p.ok.call hb⟩, rfl⟩
  have c26 := hide num
  have c31 := hide zg
  have c30 := hide un
  have c29 := hide tx
  have i0 := hx.src
  have i1 := hx.seq
  have i2 := hx.low
  have i5 := hx.part
  have i6 := hx.at_
  have i7 := hx.n
  have j6 := zl hx.at_
  have j7 := zl hx.n
  have z0 := nB_size hx.src
  have z1 := nB_size hx.seq
  have z2 := nB_size hx.low
  have z4 := tB_size (l := x.key) (by have := hx.key; omega)
  have zk := hx.key
  have z5 := nB_size hx.part
  have z6 := uB_size (zl hx.at_)
  have z7 := uB_size (zl hx.n)
  have st : ItC W x.kind none W.drew := (Below.refl _ _).drew
  have IS := iB_is x
  rw [IS]
  clear IS
  have HW := hide hW
  have HA := hide hA
  have MW := hide mW
  obtain ⟨ks, hks⟩ : ∃ k : ByteArray, k = (⟨#[x.kind]⟩ : ByteArray) := ⟨_, rfl⟩
  have zs : ks.size = 1 := by rw [hks]; rfl
  rw [← hks]
  have CV := hide (fun B (p : SX (ItC W x.kind (some B))) => (by rw [hks]; exact Rf.conv_one (W.heap.size + B) x.kind p.w p.ok.2 : Sem.run Tryd.prog (convert 48 9 (.slice (some ⟨W.heap.size + B, 0, none⟩) 1 1)) p.w = .ok (.string ks) p.w))
  clear hW hA mW cA hAW kc num zg un tx hx hks
  have q1 : ¬ (9223372036854775807 < (nB x.src).size + (nB x.seq).size) := by omega
  have q2 : ¬ (9223372036854775807 < (nB x.src).size + (nB x.seq).size + (nB x.low).size) := by omega
  have q3 : ¬ (9223372036854775807 < (nB x.src).size + (nB x.seq).size + (nB x.low).size + ks.size) := by omega
  have q4 : ¬ (9223372036854775807 < (nB x.src).size + (nB x.seq).size + (nB x.low).size + ks.size + (tB x.key).size) := by omega
  have q5 : ¬ (9223372036854775807 < (nB x.src).size + (nB x.seq).size + (nB x.low).size + ks.size + (tB x.key).size + (nB x.part).size) := by omega
  have q6 : ¬ (9223372036854775807 < (nB x.src).size + (nB x.seq).size + (nB x.low).size + ks.size + (tB x.key).size + (nB x.part).size + (uB (zig x.at_)).size) := by omega
  have q7 : ¬ (9223372036854775807 < (nB x.src).size + (nB x.seq).size + (nB x.low).size + ks.size + (tB x.key).size + (nB x.part).size + (uB (zig x.at_)).size + (uB (zig x.n)).size) := by omega
  clear z0 z1 z2 z4 zk z5 z6 z7 zs
  go_enter Tryd.func28, Tryd.ntmps28
  go_upto_region 1 with fail
  rw [← unhide HA]
  try change Code.wp _ _ _ _ (w.alloc (.cells (itemCells x).toArray 24))
  rw [← unhide HW]
  refine wp_region_mid (St := ItC W x.kind) 13 [true, true, true, true, true, true, true, true, true, true, true, true, true, false, false, false, true, true, true, false, true, true, true, false, true, true, true, true, false, true, true, true, true, false, false]
    [false, false, false, false, false, false, false, false, false, false, false, false, false, false, true, true, false, false, false, true, false, false, false, true, false, false, false, false, true, false, false, false, false, true, true] (fun B => .slice (some ⟨W.heap.size + B, 0, none⟩) 1 1) (by kernel_rfl) rfl (by kernel_rfl) (by kernel_rfl) st ?_
  clear st
  apply Exists.intro
  apply And.intro
  · intro c
    have n0 : Nonempty (SX (ItC W x.kind c)) := ItC.ne _ _ _
    simp only [pickM]
    repeat (go_big_quiet_step (first | (go_at_call 26; exact unhide c26 _ (by assumption) _ _) | (go_at_call 29; exact unhide c29 _ _) | (go_at_call 31; exact unhide c31 _ (by assumption) _ _) | (go_at_call 30; exact unhide c30 _ (by assumption) _ _)))
    exact wpQuiet_nil rfl
  · constructor
    · intro o0 h0
      simp only [List.getElem?_cons_succ, List.getElem?_cons_zero, Option.some.injEq] at h0
      subst h0
      refine ⟨rfl, fun w' hw' => ⟨w'.heap.size - W.heap.size, w'.alloc (.cells #[.int .u8 (x.kind.toNat : Int)] 5), ?_, ?_⟩⟩
      · have hs := Below.size hw'
        have e : W.heap.size + (w'.heap.size - W.heap.size) = w'.heap.size := by omega
        rw [e]
        simp [execOp, go_sem]
      · have hs := Below.size hw'
        have e : W.heap.size + (w'.heap.size - W.heap.size) = w'.heap.size := by omega
        exact ⟨Below.alloc hw' hs _, by rw [e]; simp⟩
    · intro o0 h0 B
      simp only [List.getElem?_cons_succ, List.getElem?_cons_zero, Option.some.injEq] at h0
      subst h0
      have n0 : Nonempty (SX (ItC W x.kind (some B))) := ItC.ne _ _ _
      have cv := unhide CV B
      simp only [pickM]
      go_simp
      repeat (go_big_quiet_step (fail))
      refine wpQuiet_nil ?_
      rintro ⟨w9, ok⟩
      dsimp only
      go_wp2_with fail
      go_ret
      exact ⟨rfl, (unhide MW).trans (ok.1.mono (unhide MW).size)⟩
end Go.Proofs.YtkbmbcmcnpeabaaDoor.Rw

namespace Go.Proofs.YtkbmbcmcnpeabaaDoor.Rw
open Pk Go.RowKit

theorem wp_region_sx {P : Program} {St : World → Prop} {id : Nat} {Q : Exit → Act → World → Prop} {a : Act} {w : World} {l : List Oper} (hm : P.follows .mixedOrders = true) (hB : Region.lexB .any l.toArray = true) (hS : St w.drew)
    (h : wpQuiet P l.toArray (fun w' => ∃ p : SX St, w' = p.w) (fun a' => ∀ w', (∃ p : SX St, w' = p.w) → Q .normal a' w') l a) : (Code.region id l.toArray true).wp P Q a w :=
  wp_region_quiet (C := fun w' => ∃ p : SX St, w' = p.w) hm hB ⟨⟨_, hS⟩, rfl⟩ (by simpa using h)
/-- A load of a whole struct in such a region. -/
theorem wpQuiet_load_onx {P : Program} {ops : Array Oper} {C : World → Prop} {Q : Act → Prop} {rest : List Oper} {op : Oper} {a : Act} (hw : Region.wanted op (yielded ops a.tmps) = true) (ty : TypeId) (x : Operand) (ho : op.op = .load ty x)
    (b o : Nat) (hx : a.eval x = .pointer (some ⟨b, o, none⟩)) (cs : List Value) (d : TypeDesc) (hc : ∀ w, C w → w.rangeAt b o cs)
    (hu : P.underlying ty = some d) (hd : d.isRow = true) (hi : (P.info? ty).map (·.size) = some cs.length)
    (h : wpQuiet P ops C Q rest (a.put op.dst (.agg cs.toArray))) : wpQuiet P ops C Q (op :: rest) a := by
  unfold wpQuiet
  rw [if_pos hw]
  refine ⟨_, fun w hw' => ?_, h⟩
  unfold Oper.quietAt execOp
  simp only [ho, hx, Instr.loadAt, Instr.sureAddr, Sem.run_bind, Sem.run_pure, Result.andThen_ok, run_loadVar_mid w b o ty cs d (hc w hw') hu hd hi]
  exact ⟨rfl, rfl⟩
theorem iB_size {x : ItemV} (hx : x.Ok) : (iB x).size ≤ 400 := by
  rw [iB_is]
  have z0 := nB_size hx.src
  have z1 := nB_size hx.seq
  have z2 := nB_size hx.low
  have z4 := tB_size (l := x.key) (by have := hx.key; omega)
  have zk := hx.key
  have z5 := nB_size hx.part
  have z6 := uB_size (zl hx.at_)
  have z7 := uB_size (zl hx.n)
  have zs : (⟨#[x.kind]⟩ : ByteArray).size = 1 := rfl
  simp only [ByteArray.size_append]
  omega
theorem kind_eq {m : MsgV} {k : Nat} (h : m.kind.toNat = k) : msgBytes m = m.kind :: (bodyC k).enc m := by unfold msgBytes; rw [h]
theorem bytes_1 {m : MsgV} (_ : Right m) (hk : m.kind.toNat = 1) : (⟨(msgBytes m).toArray⟩ : ByteArray) = ⟨#[m.kind]⟩ ++ iB m.item := by
  rw [kind_eq hk, show (bodyC 1).enc m = itemC.enc m.item from rfl]
  apply ByteArray.ext
  simp [iB]
theorem bytes_2 {m : MsgV} (_ : Right m) (hk : m.kind.toNat = 2) : (⟨(msgBytes m).toArray⟩ : ByteArray) = ⟨#[m.kind]⟩ ++ (nB m.item.src ++ nB m.item.seq) ++ nB m.code := by
  rw [kind_eq hk, show (bodyC 2).enc m = numBytes m.item.src.toNat ++ (numBytes m.item.seq.toNat ++ (numBytes m.code.toNat)) from rfl]
  apply ByteArray.ext
  simp [nB]
theorem bytes_3 {m : MsgV} (_ : Right m) (hk : m.kind.toNat = 3) : (⟨(msgBytes m).toArray⟩ : ByteArray) = ⟨#[m.kind]⟩ ++ (nB m.item.src ++ nB m.item.seq) ++ (nB m.epoch ++ nB m.nodes ++ lB m.owner) := by
  rw [kind_eq hk, show (bodyC 3).enc m = numBytes m.item.src.toNat ++ (numBytes m.item.seq.toNat ++ (numBytes m.epoch.toNat ++ (numBytes m.nodes.toNat ++ (numBytes m.owner.length ++ encN P m.owner)))) from rfl]
  apply ByteArray.ext
  simp [nB, lB]
theorem bytes_4 {m : MsgV} (_ : Right m) (hk : m.kind.toNat = 4) : (⟨(msgBytes m).toArray⟩ : ByteArray) = ⟨#[m.kind]⟩ ++ nB m.move ++ nB m.part ++ nB m.to_ := by
  rw [kind_eq hk, show (bodyC 4).enc m = numBytes m.move.toNat ++ (numBytes m.part.toNat ++ (numBytes m.to_.toNat)) from rfl]
  apply ByteArray.ext
  simp [nB]
theorem bytes_5 {m : MsgV} (_ : Right m) (hk : m.kind.toNat = 5) : (⟨(msgBytes m).toArray⟩ : ByteArray) = ⟨#[m.kind]⟩ ++ nB m.move ++ nB m.part ++ nB m.n ++ nB m.count ++ tB m.data := by
  rw [kind_eq hk, show (bodyC 5).enc m = numBytes m.move.toNat ++ (numBytes m.part.toNat ++ (numBytes m.n.toNat ++ (numBytes m.count.toNat ++ (numBytes m.data.length ++ m.data)))) from rfl]
  apply ByteArray.ext
  simp [nB, tB, textBytes]
theorem bytes_6 {m : MsgV} (_ : Right m) (hk : m.kind.toNat = 6) : (⟨(msgBytes m).toArray⟩ : ByteArray) = ⟨#[m.kind]⟩ ++ nB m.move ++ nB m.part ++ nB m.n ++ lB m.set := by
  rw [kind_eq hk, show (bodyC 6).enc m = numBytes m.move.toNat ++ (numBytes m.part.toNat ++ (numBytes m.n.toNat ++ (numBytes m.set.length ++ encN P m.set))) from rfl]
  apply ByteArray.ext
  simp [nB, lB]
theorem bytes_7 {m : MsgV} (_ : Right m) (hk : m.kind.toNat = 7) : (⟨(msgBytes m).toArray⟩ : ByteArray) = ⟨#[m.kind]⟩ ++ nB m.move ++ nB m.part ++ nB m.n ++ iB m.item := by
  rw [kind_eq hk, show (bodyC 7).enc m = numBytes m.move.toNat ++ (numBytes m.part.toNat ++ (numBytes m.n.toNat ++ (itemC.enc m.item))) from rfl]
  apply ByteArray.ext
  simp [nB, iB]
theorem bytes_8 {m : MsgV} (_ : Right m) (hk : m.kind.toNat = 8) : (⟨(msgBytes m).toArray⟩ : ByteArray) = ⟨#[m.kind]⟩ ++ nB m.move ++ nB m.part ++ nB m.n := by
  rw [kind_eq hk, show (bodyC 8).enc m = numBytes m.move.toNat ++ (numBytes m.part.toNat ++ (numBytes m.n.toNat)) from rfl]
  apply ByteArray.ext
  simp [nB]
theorem bytes_9 {m : MsgV} (_ : Right m) (hk : m.kind.toNat = 9) : (⟨(msgBytes m).toArray⟩ : ByteArray) = ⟨#[m.kind]⟩ ++ nB m.move ++ nB m.part ++ nB m.n ++ uB (zig m.at_) ++ uB m.digest := by
  rw [kind_eq hk, show (bodyC 9).enc m = numBytes m.move.toNat ++ (numBytes m.part.toNat ++ (numBytes m.n.toNat ++ (numBytes (zig m.at_) ++ (numBytes m.digest)))) from rfl]
  apply ByteArray.ext
  simp [nB, uB]
theorem bytes_10 {m : MsgV} (_ : Right m) (hk : m.kind.toNat = 10) : (⟨(msgBytes m).toArray⟩ : ByteArray) = ⟨#[m.kind]⟩ ++ nB m.move ++ nB m.part ++ nB m.code := by
  rw [kind_eq hk, show (bodyC 10).enc m = numBytes m.move.toNat ++ (numBytes m.part.toNat ++ (numBytes m.code.toNat)) from rfl]
  apply ByteArray.ext
  simp [nB]
theorem bytes_11 {m : MsgV} (_ : Right m) (hk : m.kind.toNat = 11) : (⟨(msgBytes m).toArray⟩ : ByteArray) = ⟨#[m.kind]⟩ ++ nB m.move ++ nB m.part ++ (nB m.epoch ++ nB m.nodes ++ lB m.owner) := by
  rw [kind_eq hk, show (bodyC 11).enc m = numBytes m.move.toNat ++ (numBytes m.part.toNat ++ (numBytes m.epoch.toNat ++ (numBytes m.nodes.toNat ++ (numBytes m.owner.length ++ encN P m.owner)))) from rfl]
  apply ByteArray.ext
  simp [nB, lB]
theorem bytes_12 {m : MsgV} (_ : Right m) (hk : m.kind.toNat = 12) : (⟨(msgBytes m).toArray⟩ : ByteArray) = ⟨#[m.kind]⟩ ++ nB m.move ++ nB m.part := by
  rw [kind_eq hk, show (bodyC 12).enc m = numBytes m.move.toNat ++ (numBytes m.part.toNat) from rfl]
  apply ByteArray.ext
  simp [nB]
theorem bytes_13 {m : MsgV} (_ : Right m) (hk : m.kind.toNat = 13) : (⟨(msgBytes m).toArray⟩ : ByteArray) = ⟨#[m.kind]⟩ ++ nB m.move ++ nB m.part := by
  rw [kind_eq hk, show (bodyC 13).enc m = numBytes m.move.toNat ++ (numBytes m.part.toNat) from rfl]
  apply ByteArray.ext
  simp [nB]
theorem bytes_14 {m : MsgV} (_ : Right m) (hk : m.kind.toNat = 14) : (⟨(msgBytes m).toArray⟩ : ByteArray) = ⟨#[m.kind]⟩ ++ (nB m.epoch ++ nB m.nodes ++ lB m.owner) := by
  rw [kind_eq hk, show (bodyC 14).enc m = numBytes m.epoch.toNat ++ (numBytes m.nodes.toNat ++ (numBytes m.owner.length ++ encN P m.owner)) from rfl]
  apply ByteArray.ext
  simp [nB, lB]
end Go.Proofs.YtkbmbcmcnpeabaaDoor.Rw

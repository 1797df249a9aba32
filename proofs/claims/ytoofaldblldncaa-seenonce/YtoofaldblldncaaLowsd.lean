/- What a table's Lows does. No conditions. -/
import Derived.Test.YtoofaldblldncaaKinds
import Derived.OwnWalk
namespace Go.Proofs.Ytoofaldblldncaa
open Go.RowKit

theorem wpList_load_on {P : Program} {ops : Array Oper} {rest : List Oper} {op : Oper} {a : Go.Act} {w : World} {Q : Exit → Go.Act → World → Prop} (hw : Region.wanted op (yielded ops a.tmps) = true) (ty : TypeId) (x : Operand) (ho : op.op = .load ty x)
    (b o : Nat) (hx : a.eval x = .pointer (some ⟨b, o, none⟩)) (cs : List Value) (d : TypeDesc) (hc : w.rangeAt b o cs)
    (hu : P.underlying ty = some d) (hd : d.isRow = true) (hi : (P.info? ty).map (·.size) = some cs.length)
    (h : wpList P ops Q rest (a.put op.dst (.agg cs.toArray)) w) : wpList P ops Q (op :: rest) a w := by
  unfold wpList
  rw [if_pos hw]
  exact .inl (wp_load_mid ty x ho b o hx cs d hc hu hd hi h)
/-- A table's cells. -/
def cells8 (M : Nat → Option Nat) (T : Tab) : List Value := [.int .i64 ((T 0).low - 1), .map (M 0), .int .i64 ((T 1).low - 1), .map (M 1), .int .i64 ((T 2).low - 1), .map (M 2), .int .i64 ((T 3).low - 1), .map (M 3)]
theorem TabAt.range {w : World} {p : Nat} {M : Nat → Option Nat} {T : Tab} (h : TabAt w p M T) : w.rangeAt p 0 (cells8 M T) := fun j v hv => by
  rw [Nat.zero_add]
  have s0 := h.src 0 (by decide)
  have s1 := h.src 1 (by decide)
  have s2 := h.src 2 (by decide)
  have s3 := h.src 3 (by decide)
  match j, hv with
  | 0, hv => cases hv; exact s0.c0
  | 1, hv => cases hv; exact s0.c1
  | 2, hv => cases hv; exact s1.c0
  | 3, hv => cases hv; exact s1.c1
  | 4, hv => cases hv; exact s2.c0
  | 5, hv => cases hv; exact s2.c1
  | 6, hv => cases hv; exact s3.c0
  | 7, hv => cases hv; exact s3.c1
  | n + 8, hv => cases hv
theorem idx61 (M : Nat → Option Nat) (T : Tab) {k : Nat} (hk : k < 4) (w : World) : (Instr.index 61 (.agg (cells8 M T).toArray) (.int .i64 (k : Int))).run Try.prog w = .ok (.agg #[.int .i64 ((T k).low - 1), .map (M k)]) w := by
  have u2 := Try.underlying60
  have g2 := Try.isAgg60
  have z2 := Try.sizeOf60
  match k, hk with
  | 0, _ => simp [Instr.index, run_underlying Try.underlying61, asIntOf, go_sem, part, g2, z2, cells8]
  | 1, _ => simp [Instr.index, run_underlying Try.underlying61, asIntOf, go_sem, part, g2, z2, cells8]
  | 2, _ => simp [Instr.index, run_underlying Try.underlying61, asIntOf, go_sem, part, g2, z2, cells8]
  | 3, _ => simp [Instr.index, run_underlying Try.underlying61, asIntOf, go_sem, part, g2, z2, cells8]
def lowsTo (T : Tab) (n : Nat) : List Int := (List.range n).map fun i => (T i).low
theorem lowsTo_succ (T : Tab) (n : Nat) : lowsTo T (n + 1) = lowsTo T n ++ [(T n).low] := by unfold lowsTo; rw [List.range_succ, List.map_append]; rfl
theorem lowsTo_len (T : Tab) (n : Nat) : (lowsTo T n).length = n := by simp [lowsTo]
theorem lowsTo_four (T : Tab) : lowsTo T 4 = lows T := rfl
theorem lows_nil (w : World) : Calls Try.prog 19 #[.pointer none] w fun e w' => e = .returned (.slice none 0 0) ∧ w' = w := by
  go_enter Try.func19, Try.ntmps19
  go_wp2
  go_ret
  exact ⟨rfl, rfl⟩
set_option maxRecDepth 100000 in
set_option maxHeartbeats 2000000 in
theorem lows_any {w : World} {p : Nat} {F : Nat → Prop} {T : Tab} (h : TIs w p F T) :
    Calls Try.prog 19 #[.pointer (some ⟨p, 0, none⟩)] w fun e w' => ∃ a c, e = .returned (.slice a 4 c) ∧ IntK.Row w' w.heap.size a c (lows T) ∧ Below w.heap.size w w' := by
  obtain ⟨M, hA, _⟩ := h
  have HR := hide hA.range
  have HF := hide (fun k hk => (hA.src k hk).fine)
  obtain ⟨B, hB⟩ : ∃ B, B = w.heap.size := ⟨_, rfl⟩
  have HB := hide hB
  clear hA
  go_enter Try.func19, Try.ntmps19
  go_wp2_with (refine wpList_load_on rfl 61 (.tmp 10) rfl p 0 rfl (cells8 M T) _ (unhide HR) Try.underlying61 rfl (by kernel_rfl) ?_)
  go_loopw [3, 12] (fun lv i wr => ∃ (k : Nat) (a : Option Addr) (c : Nat), i = .int .i64 (k : Int) ∧ k ≤ 4 ∧ lv = .slice a (lowsTo T k).length c ∧ IntK.Row wr B a c (lowsTo T k) ∧ Below B w wr) (fun _ i _ => 4 - (intOf i).toNat)
  case atStart => exact ⟨0, none, 0, rfl, by decide, rfl, row_none _ _, by rw [unhide HB]; exact Below.refl _ _⟩
  case round =>
    obtain ⟨k, a, c, rfl, hk, rfl, hrow, hbl⟩ := hrel
    by_cases hlt : k < 4
    · have g0 : (0 : Int) ≤ (k : Int) := by omega
      have g1 : (k : Int) < 4 := by omega
      have hwk : IntKind.i64.wrap ((k : Int) + 1) = (k : Int) + 1 := Go.IntWalk.i64_in _ (by omega)
      have ix := fun W => idx61 M T hlt W
      have ll := lowsTo_len T k
      have hbz : B ≤ wr.heap.size := by rw [unhide HB]; exact hbl.size
      obtain ⟨W1, hW1⟩ : ∃ W1, W1 = wr.alloc (.cells #[.int .i64 ((T k).low - 1), .map (M k)] 60) := ⟨_, rfl⟩
      have b1 : Below B wr W1 := by rw [hW1]; exact (Below.refl _ _).alloc hbz _
      have r1 : IntK.Row W1 B a c (lowsTo T k) := by rw [hW1]; exact hrow.alloc _
      have lw : Calls Try.prog 33 #[.pointer (some ⟨wr.heap.size, 0, none⟩)] W1 fun e w' => e = .returned (.int .i64 (T k).low) ∧ w' = W1 := by
        have F := unhide HF k hlt
        have h1 := F.lo
        have h2 := F.hi
        have c0 : W1.cell? ⟨wr.heap.size, 0, none⟩ = some (.int .i64 ((T k).low - 1)) := by rw [hW1, World.cell?_alloc_new]; rfl
        have := low_any c0 (Go.IntWalk.i64_in _ (by omega))
        rw [show (T k).low - 1 + 1 = (T k).low by omega] at this
        exact this
      have hB1 : B ≤ W1.heap.size := by have := b1.size; have := hbz; omega
      obtain ⟨a', c', w9, happ, row9, bel9, _, _⟩ := grow_one intK_law r1 (T k).low 3 (by rw [ll]; omega) hB1
      rw [← lowsTo_succ] at row9
      rw [ll] at happ
      have REL := hide (⟨row9, hbl.trans (b1.trans bel9)⟩ : IntK.Row w9 B a' c' (lowsTo T (k + 1)) ∧ Below B w w9)
      have HW1 := hide hW1
      have HAP : Hid ((Builtin.append_ #[22, 22] 22 #[.slice a (k : Nat) c, .slice (some ⟨W1.heap.size, 0, none⟩) 1 1]).run Try.prog (W1.alloc (.cells #[.int .i64 (T k).low] 3)) = .ok (.slice a' ((k + 1 : Nat)) c') w9) := hide happ
      have HLL := hide (lowsTo_len T (k + 1))
      rw [ll]
      clear hrow hbl r1 b1 hB1 happ row9 bel9 ll hW1
      go_upto_region 7 with fail
      rw [← unhide HW1]
      go_wp2_with fail
      refine lw.mono ?_
      rintro e w' ⟨rfl, hw'⟩
      rw [hw']
      clear lw
      go_wp2_with (at_builtin; refine wpList_app rfl _ _ 22 22 22 rfl rfl rfl rfl (unhide HAP) ?_)
      exact ⟨⟨k + 1, a', c', rfl, by omega, by rw [unhide HLL], (unhide REL).1, (unhide REL).2⟩, by simp [intOf]; omega⟩
    · have hk4 : k = 4 := by omega
      subst hk4
      have ll := lowsTo_len T 4
      have REL := hide (⟨hrow, hbl⟩ : IntK.Row wr B a c (lowsTo T 4) ∧ Below B w wr)
      rw [ll]
      clear hrow hbl ll
      go_wp2_with fail
      go_ret
      exact ⟨a, c, rfl, by rw [← unhide HB]; exact (unhide REL).1, by rw [← unhide HB]; exact (unhide REL).2⟩
end Go.Proofs.Ytoofaldblldncaa

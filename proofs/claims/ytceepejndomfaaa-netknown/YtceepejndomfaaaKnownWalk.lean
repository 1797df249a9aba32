/- The chapter's examples of nets, walked. No conditions. -/
import Derived.Test.YtceepejndomfaaaOwn
namespace Go.Proofs.Ytceepejndomfaaa
open Go.RowKit

/-- A packet that lies in a block. -/
structure PkAt (w : World) (b : Nat) (q : Pkt) : Prop where
  c0 : w.cell? ⟨b, 0, none⟩ = some (.int .i64 q.f)
  c1 : w.cell? ⟨b, 1, none⟩ = some (.int .i64 q.t)
  c2 : w.cell? ⟨b, 2, none⟩ = some (.string q.d)
theorem PkAt.new (w : World) (f t : Int) (d : ByteArray) : PkAt (w.alloc (.cells #[.int .i64 f, .int .i64 t, .string d] 25)) w.heap.size ⟨f, t, d⟩ := ⟨by simp, by simp, by simp⟩
theorem PkAt.keep {X : Nat → Prop} {w w' : World} {b : Nat} {q : Pkt} (h : PkAt w b q) (k : Keeps X w w') (hb : X b) : PkAt w' b q := ⟨(k.cell hb).trans h.c0, (k.cell hb).trans h.c1, (k.cell hb).trans h.c2⟩
theorem PkAt.lt {w : World} {b : Nat} {q : Pkt} (h : PkAt w b q) : b < w.heap.size := World.block_lt_of_cell? _ _ h.c0
theorem PkAt.alloc {w : World} {b : Nat} {q : Pkt} (h : PkAt w b q) (o : Obj) : PkAt (w.alloc o) b q :=
  ⟨(World.cell?_alloc_lt _ _ ⟨b, 0, none⟩ h.lt).trans h.c0, (World.cell?_alloc_lt _ _ ⟨b, 1, none⟩ h.lt).trans h.c1, (World.cell?_alloc_lt _ _ ⟨b, 2, none⟩ h.lt).trans h.c2⟩
theorem Own.held {w0 w : World} {L : List Nat} {p : Nat} {l : List Pkt} (h : Own w0 w (· ∈ L) p l) (o : Obj) : Own w0 (w.alloc o) (· ∈ w.heap.size :: L) p l :=
  (h.alloc o).mono fun _ hk => (List.mem_cons.1 hk).elim .inr .inl

def qb : Pkt := ⟨8, 0, ⟨#[98]⟩⟩
def q9 : Pkt := ⟨9, 0, ⟨#[]⟩⟩
def qm : Pkt := ⟨0, -1, ⟨#[]⟩⟩
def q3 : Pkt := ⟨3, 3, ⟨#[]⟩⟩
def q01 : Pkt := ⟨0, 1, ⟨#[]⟩⟩
def q10 : Pkt := ⟨1, 0, ⟨#[]⟩⟩
theorem full_posts : ∀ k : Fin 64, postE (List.replicate k.val q01) q01 = 0 ∧ postL (List.replicate k.val q01) q01 = List.replicate (k.val + 1) q01 := by decide +kernel

set_option maxHeartbeats 4000000 in
theorem known_any (w : World) : Calls Try.prog 3 #[] w fun e w' => e = .returned (.bool true) ∧ Below w.heap.size w w' := by
  have E1 : Hid (postE [] qa = 0 ∧ postL [] qa = [qa]) := by show postE [] qa = 0 ∧ postL [] qa = [qa]; decide +kernel
  have E2 : Hid (postE [qa] qb = 0 ∧ postL [qa] qb = [qa, qb]) := by show postE [qa] qb = 0 ∧ postL [qa] qb = [qa, qb]; decide +kernel
  have E3 : Hid (dupE [qa, qb] 0 = 0 ∧ dupL [qa, qb] 0 = [qa, qb, qa]) := by show dupE [qa, qb] 0 = 0 ∧ dupL [qa, qb] 0 = [qa, qb, qa]; decide +kernel
  have E4 : Hid (takeP [qa, qb, qa] 0 = qa ∧ takeE [qa, qb, qa] 0 = 0 ∧ takeL [qa, qb, qa] 0 = [qb, qa]) := by show takeP [qa, qb, qa] 0 = qa ∧ takeE [qa, qb, qa] 0 = 0 ∧ takeL [qa, qb, qa] 0 = [qb, qa]; decide +kernel
  have E5 : Hid (takeE [qb, qa] 0 = 0 ∧ takeL [qb, qa] 0 = [qa]) := by show takeE [qb, qa] 0 = 0 ∧ takeL [qb, qa] 0 = [qa]; decide +kernel
  have E6 : Hid (takeP [qa] 0 = qa ∧ takeE [qa] 0 = 0 ∧ takeL [qa] 0 = []) := by show takeP [qa] 0 = qa ∧ takeE [qa] 0 = 0 ∧ takeL [qa] 0 = []; decide +kernel
  have E7 : Hid (takeP [] 0 = Pkt.zero ∧ takeE [] 0 = 4 ∧ takeL [] 0 = []) := by show takeP [] 0 = Pkt.zero ∧ takeE [] 0 = 4 ∧ takeL [] 0 = []; decide +kernel
  have E8 : Hid (postE [] q9 = 1 ∧ postL [] q9 = []) := by show postE [] q9 = 1 ∧ postL [] q9 = []; decide +kernel
  have E9 : Hid (postE [] qm = 1 ∧ postL [] qm = []) := by show postE [] qm = 1 ∧ postL [] qm = []; decide +kernel
  have E10 : Hid (postE [] q3 = 0 ∧ postL [] q3 = [q3]) := by show postE [] q3 = 0 ∧ postL [] q3 = [q3]; decide +kernel
  have E11 : Hid (postE (List.replicate 64 q01) q01 = 6 ∧ postL (List.replicate 64 q01) q01 = List.replicate 64 q01) := by show postE (List.replicate 64 q01) q01 = 6 ∧ postL (List.replicate 64 q01) q01 = List.replicate 64 q01; decide +kernel
  have E12 : Hid (dupE (List.replicate 64 q01) 0 = 6 ∧ dupL (List.replicate 64 q01) 0 = List.replicate 64 q01) := by show dupE (List.replicate 64 q01) 0 = 6 ∧ dupL (List.replicate 64 q01) 0 = List.replicate 64 q01; decide +kernel
  have E13 : Hid (postE (List.replicate 64 q01) q10 = 0 ∧ postL (List.replicate 64 q01) q10 = List.replicate 64 q01 ++ [q10]) := by show postE (List.replicate 64 q01) q10 = 0 ∧ postL (List.replicate 64 q01) q10 = List.replicate 64 q01 ++ [q10]; decide +kernel
  have E14 : Hid (takeE (List.replicate 64 q01 ++ [q10]) 3 = 0 ∧ takeL (List.replicate 64 q01 ++ [q10]) 3 = List.replicate 63 q01 ++ [q10]) := by show takeE (List.replicate 64 q01 ++ [q10]) 3 = 0 ∧ takeL (List.replicate 64 q01 ++ [q10]) 3 = List.replicate 63 q01 ++ [q10]; decide +kernel
  have E15 : Hid (dupE (List.replicate 63 q01 ++ [q10]) 0 = 0) := by show dupE (List.replicate 63 q01 ++ [q10]) 0 = 0; decide +kernel
  go_enter Try.func3, Try.ntmps3
  go_wp2_with fail
  refine (new_own (w0 := w) (Moved.refl _ _) (· ∈ []) (fun _ f => by simp at f)).mono ?_
  rintro e w1 ⟨p, rfl, o1, _⟩
  have O := hide (o1.held (.cells #[.int .i64 0, .int .i64 8, .string ⟨#[97]⟩] 25))
  have HA := hide (PkAt.new w1 0 8 ⟨#[97]⟩)
  clear o1
  go_wp2_with fail
  refine (post_own (unhide O) qa).mono ?_
  rw [(unhide E1).1, (unhide E1).2]
  rintro e w2 ⟨rfl, o2, k2⟩
  replace HA := hide ((unhide HA).keep k2 (by simp))
  replace O := hide o2
  clear o2 k2
  go_wp2_with fail
  refine (post_own (unhide O) qb).mono ?_
  rw [(unhide E2).1, (unhide E2).2]
  rintro e w3 ⟨rfl, o2, k2⟩
  replace HA := hide ((unhide HA).keep k2 (by simp))
  replace O := hide o2
  clear o2 k2
  go_wp2_with fail
  refine (dup_own (unhide O) 0).mono ?_
  rw [(unhide E3).1, (unhide E3).2]
  rintro e w4 ⟨rfl, o2, k2⟩
  replace HA := hide ((unhide HA).keep k2 (by simp))
  replace O := hide o2
  clear o2 k2
  go_wp2_with fail
  refine (take_own (unhide O) 0).mono ?_
  rw [(unhide E4).1, (unhide E4).2.1, (unhide E4).2.2]
  rintro e w5 ⟨rfl, o2, k2⟩
  replace HA := hide ((unhide HA).keep k2 (by simp))
  replace O := hide (o2.held (.cells #[.int .i64 0, .int .i64 8, .string ⟨#[97]⟩] 25))
  replace HA := hide ((unhide HA).alloc (.cells #[.int .i64 0, .int .i64 8, .string ⟨#[97]⟩] 25))
  have HB := hide (PkAt.new w5 0 8 ⟨#[97]⟩)
  clear o2 k2
  try unfold qa
  try unfold Pkt.val
  try unfold Pkt.zero
  try dsimp only
  go_wp2_with fail
  refine (len_own (unhide O)).mono ?_
  rintro e w6 ⟨rfl, rfl⟩
  go_wp2_with fail
  refine (lose_own (unhide O) 0).mono ?_
  rw [(unhide E5).1, (unhide E5).2]
  rintro e w7 ⟨rfl, o2, k2⟩
  replace HA := hide ((unhide HA).keep k2 (by simp))
  replace HB := hide ((unhide HB).keep k2 (by simp))
  replace O := hide o2
  clear o2 k2
  go_wp2_with fail
  refine (take_own (unhide O) 0).mono ?_
  rw [(unhide E6).1, (unhide E6).2.1, (unhide E6).2.2]
  rintro e w8 ⟨rfl, o2, k2⟩
  replace HA := hide ((unhide HA).keep k2 (by simp))
  replace HB := hide ((unhide HB).keep k2 (by simp))
  replace O := hide (o2.held (.cells #[.int .i64 0, .int .i64 8, .string ⟨#[97]⟩] 25))
  replace HA := hide ((unhide HA).alloc (.cells #[.int .i64 0, .int .i64 8, .string ⟨#[97]⟩] 25))
  replace HB := hide ((unhide HB).alloc (.cells #[.int .i64 0, .int .i64 8, .string ⟨#[97]⟩] 25))
  have HC := hide (PkAt.new w8 0 8 ⟨#[97]⟩)
  clear o2 k2
  try unfold qa
  try unfold Pkt.val
  try unfold Pkt.zero
  try dsimp only
  go_wp2_with fail
  refine (take_own (unhide O) 0).mono ?_
  rw [(unhide E7).1, (unhide E7).2.1, (unhide E7).2.2]
  rintro e w9 ⟨rfl, o2, k2⟩
  replace HA := hide ((unhide HA).keep k2 (by simp))
  replace HB := hide ((unhide HB).keep k2 (by simp))
  replace HC := hide ((unhide HC).keep k2 (by simp))
  have O9 := hide (o2.held (.cells #[.int .i64 0, .int .i64 0, .string ⟨#[]⟩] 25))
  obtain ⟨a0, a1, a2⟩ := unhide HA
  obtain ⟨b0, b1, b2⟩ := unhide HB
  obtain ⟨c0, c1, c2⟩ := unhide HC
  have la := (unhide HA).lt
  have lb := (unhide HB).lt
  have lc := (unhide HC).lt
  clear o2 k2
  unfold Pkt.val Pkt.zero
  dsimp only at a0 a1 a2 b0 b1 b2 c0 c1 c2 ⊢
  have same := samePk_self 0 8 ⟨#[97]⟩
  go_wp2_with fail
  clear a0 a1 a2 b0 b1 b2 c0 c1 c2 la lb lc HA HB HC same
  refine (post_own (unhide O9) q9).mono ?_
  rw [(unhide E8).1, (unhide E8).2]
  rintro e w10 ⟨rfl, o2, _⟩
  replace O := hide o2
  clear o2 O9
  go_wp2_with fail
  refine (post_own (unhide O) qm).mono ?_
  rw [(unhide E9).1, (unhide E9).2]
  rintro e w11 ⟨rfl, o2, _⟩
  replace O := hide o2
  clear o2
  go_wp2_with fail
  refine (post_own (unhide O) q3).mono ?_
  rw [(unhide E10).1, (unhide E10).2]
  rintro e w12 ⟨rfl, o2, _⟩
  have M := hide o2.base
  clear o2 O
  go_wp2_with fail
  refine (new_own (unhide M) (· ∈ []) (fun _ f => by simp at f)).mono ?_
  rintro e w13 ⟨y, rfl, o2, _⟩
  have O := hide o2
  clear o2
  go_wp2_with fail
  go_loopw [15] (fun t wr => ∃ k : Nat, k ≤ 64 ∧ t = .int .i64 (k : Int) ∧ Own w wr (· ∈ []) y (List.replicate k q01)) (fun t _ => 64 - (intOf t).toNat)
  case atStart => exact ⟨0, by omega, rfl, unhide O⟩
  case round =>
    obtain ⟨k, hk, rfl, o2⟩ := hrel
    have O2 := hide o2
    clear o2 O
    by_cases hlt : k < 64
    · obtain ⟨f1, f2⟩ := full_posts ⟨k, hlt⟩
      dsimp only at f1 f2
      have F1 := hide f1
      have F2 := hide f2
      clear f1 f2
      go_wp2_with fail
      refine (post_own (unhide O2) q01).mono ?_
      rw [unhide F1, unhide F2]
      rintro e w14 ⟨rfl, o3, _⟩
      have O3 := hide o3
      clear o3
      go_wp2_with fail
      go_roundw
      case rel => exact ⟨k + 1, by omega, by go_num, unhide O3⟩
      case measure => simp [intOf]; omega
    · have hk64 : k = 64 := by omega
      subst hk64
      go_wp2_with fail
      refine (awake_any _).mono ?_
      rintro e w15 ⟨rfl, hb⟩
      have O3 := hide ((unhide O2).below hb).1
      clear hb
      go_wp2_with fail
      refine (post_own (unhide O3) q01).mono ?_
      rw [(unhide E11).1, (unhide E11).2]
      rintro e w16 ⟨rfl, o4, _⟩
      have O4 := hide o4
      clear o4
      go_wp2_with fail
      refine (dup_own (unhide O4) 0).mono ?_
      rw [(unhide E12).1, (unhide E12).2]
      rintro e w17 ⟨rfl, o5, _⟩
      have O5 := hide o5
      clear o5
      go_wp2_with fail
      refine (post_own (unhide O5) q10).mono ?_
      rw [(unhide E13).1, (unhide E13).2]
      rintro e w18 ⟨rfl, o6, _⟩
      have O6 := hide o6
      clear o6
      go_wp2_with fail
      refine (lose_own (unhide O6) 3).mono ?_
      rw [(unhide E14).1, (unhide E14).2]
      rintro e w19 ⟨rfl, o7, _⟩
      have O7 := hide o7
      clear o7
      go_wp2_with fail
      refine (dup_own (unhide O7) 0).mono ?_
      rw [unhide E15]
      rintro e w20 ⟨rfl, o8, _⟩
      have O8 := hide o8
      clear o8
      go_wp2_with fail
      go_ret
      exact ⟨rfl, (unhide O8).base.below (fun _ f => f.elim) (Nat.le_refl _)⟩

end Go.Proofs.Ytceepejndomfaaa

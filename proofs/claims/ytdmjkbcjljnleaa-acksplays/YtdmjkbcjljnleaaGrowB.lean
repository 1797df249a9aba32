/- In which block a row lies behind an append to it: its own, or a new one. No conditions but what a kind of rows says of its types. -/
import Derived.Test.YtdmjkbcjljnleaaRowG
namespace Go.Proofs.Ytdmjkbcjljnleaa
open Go.RowKit
variable {β : Type} {K : RowK β} {P : Program}
theorem append_block (hK : K.Law P) {w : World} {base : Nat} {a : Option Addr} {c : Nat} {l : List β} (h : K.Row w base a c l) (x : Addr) (cb : Nat) (m : List β) (hm : K.Lies w (some x) m) (hb : l.length + m.length ≤ 1000000000000) (ty : TypeId) {v' : Value} {w' : World}
    (hr : (Builtin.append_ #[K.t, K.t] ty #[.slice a l.length c, .slice (some x) m.length cb]).run P w = .ok v' w') : v'.ownBlock = (Value.slice a l.length c).ownBlock ∨ v'.ownBlock = some w.heap.size := by
  obtain ⟨i0, hi, hz0, hz1, hz2⟩ := hK.info
  have h1 : K.by_ * (l.length + m.length) ≤ 128 * 1000000000000 := Nat.mul_le_mul hK.small hb
  have hcl : (K.cells m).length = m.length * i0.size := by rw [hz1]; exact cells_length hK m
  have hbb : (l.length + m.length) * i0.bytes ≤ 140737488355328 := by rw [hz2, Nat.mul_comm]; omega
  rcases h.2 with ⟨hv, h0⟩ | ⟨g, cap, cur, hv, hbg, hg, hnc, hcm, hcs, htake⟩
  · have hl : l = [] := List.length_eq_zero_iff.1 h0
    subst hl
    simp only [Value.slice.injEq] at hv
    obtain ⟨rfl, _, rfl⟩ := hv
    by_cases hm0 : m.length = 0
    · have hml : m = [] := List.length_eq_zero_iff.1 hm0
      subst hml
      have hs' : Src P i0.size K.t (.slice (some x) ([] : List β).length cb) 0 [] w := Src.ofSlice w hK.und x 0 cb [] (by simp) (fun j u hu => by simp at hu) (fun u hu => by cases hu)
      have e := run_append_nothing (P := P) w K.t K.t ty K.e i0 hK.und hi none 0 0 (Nat.le_refl _) _ hs'
      rw [show ([] : List β).length = 0 from rfl] at hr e
      rw [e] at hr
      cases hr
      exact .inl rfl
    · have e := run_append_nil (P := P) w K.t ty K.e i0 K.z hK.und hi hz0 x m.length cb (K.cells m) hcl (hm.2 x rfl) (by omega) (by omega) (by simp at hbb; omega)
      rw [show ([] : List β).length = 0 from rfl] at hr
      rw [e] at hr
      cases hr
      exact .inr rfl
  · simp only [Value.slice.injEq] at hv
    obtain ⟨rfl, _, rfl⟩ := hv
    by_cases hroom : l.length + m.length ≤ c
    · have e := run_append_room (P := P) w K.t ty K.e i0 hK.und hi g l.length c cur hg x m.length cb (K.cells m) hcl (hm.2 x rfl) (cells_one hK m) hroom (by rw [hcl, hz1, hcs, ← Nat.add_mul]; exact Nat.mul_le_mul_right _ hroom)
      rw [e] at hr
      cases hr
      exact .inl rfl
    · have hlc : (K.cells l).length = l.length * i0.size := by rw [hz1]; exact cells_length hK l
      have holds : ∀ j u, (K.cells l)[j]? = some u → w.cell? ((⟨g, 0, none⟩ : Addr).add j) = some u := h.cells (g := g) rfl
      have e := run_append_grow (P := P) w K.t ty K.e i0 K.z hK.und hi hz0 ⟨g, 0, none⟩ l.length c (K.cells l) hlc holds x m.length cb (K.cells m) hcl (hm.2 x rfl) (by omega) (by omega) (growslice_fits (by omega) hbb)
      rw [e] at hr
      cases hr
      exact .inr rfl
/-- What an append comes to, and in which block the row lies then. -/
theorem grow_at (hK : K.Law P) {w : World} {base : Nat} {a : Option Addr} {c : Nat} {l : List β} (h : K.Row w base a c l) (x : Addr) (cb : Nat) (m : List β) (hm : K.Lies w (some x) m) (hb : l.length + m.length ≤ 1000000000000) (hbase : base ≤ w.heap.size) :
    ∀ ty, ∃ a' c' w', (Builtin.append_ #[K.t, K.t] ty #[.slice a l.length c, .slice (some x) m.length cb]).run P w = .ok (.slice a' (l ++ m).length c') w' ∧
      K.Row w' base a' c' (l ++ m) ∧ w.grownBy w' (Value.slice a l.length c).ownBlock ∧
      ((Value.slice a' (l ++ m).length c').ownBlock = (Value.slice a l.length c).ownBlock ∨ (Value.slice a' (l ++ m).length c').ownBlock = some w.heap.size) := fun ty => by
  obtain ⟨a', c', w', h1, h2, h3⟩ := grow_app hK h (some x) cb m hm hb hbase ty
  exact ⟨a', c', w', h1, h2, h3, append_block hK h x cb m hm hb ty h1⟩
end Go.Proofs.Ytdmjkbcjljnleaa

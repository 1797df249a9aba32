/- The statements' acts, done to a store. Conditions: a store has at most 32 windows, whose numbers are 64 bits wide. -/
import Derived.Test.YtmgmkdkdpeljmabActs
namespace Go.Proofs.Ytmgmkdkdpeljmab
open Go.RowKit
structure Mild (l : List (Win AggV)) : Prop where
  rise : Rise l
  most : l.length ≤ 32
  ins_ : ∀ a ∈ l, a.agg.In
theorem mild_nil : Mild [] := ⟨List.Pairwise.nil, Nat.zero_le _, fun _ h => by cases h⟩
theorem mild_ins {l : List (Win AggV)} {x : Win AggV} (h : Mild l) (hx : x.agg.In) (hl : (look l x.key x.start).isSome = true ∨ l.length < 32) : Mild (ins x l) := by
  refine ⟨ins_rise h.rise, ?_, fun a ha => ?_⟩
  · rw [ins_len h.rise]
    have := h.most
    split
    · exact this
    · rename_i hn
      rcases hl with k | k
      · exact absurd k hn
      · omega
  · rcases ins_mem ha with rfl | ha
    · exact hx
    · exact h.ins_ a ha
theorem mild_put {l : List (Win AggV)} (h : Mild l) {k : List UInt8} {a v : Int} (hv : i64 v) : Mild (putS SO l k a v).1 := by
  rcases put_ways (O := SO) l k a v with ⟨_, e⟩ | ⟨hk, ⟨x, hx, e⟩ | ⟨hx, ⟨_, e⟩ | ⟨hl, e⟩⟩⟩
  · rw [e]; exact h
  · rw [e]; exact mild_ins h (put_in (h.ins_ _ (look_some hx)) hv) (.inl (by rw [hx]; rfl))
  · rw [e]; exact h
  · rw [e]; exact mild_ins h (put_in zero_in hv) (.inr (by omega))
theorem mild_set {l : List (Win AggV)} (h : Mild l) {x : Win AggV} (hx : x.agg.In) : Mild (setS SO l x).1 := by
  rcases set_ways (O := SO) l x with ⟨_, e⟩ | ⟨hk, ⟨_, e⟩ | ⟨_, ⟨_, e⟩ | ⟨hl, e⟩⟩⟩
  · rw [e]; exact h
  · rw [e]; exact h
  · rw [e]; exact h
  · rw [e]; exact mild_ins h hx (.inr (by omega))
theorem mild_take {l : List (Win AggV)} (h : Mild l) (m : Int) : Mild (takeS SO l m).1 := ⟨rise_filter h.rise, Nat.le_trans (List.length_filter_le _ _) h.most, fun a ha => h.ins_ a (List.mem_filter.1 ha).1⟩
theorem mild_act {l : List (Win AggV)} (h : Mild l) {p : ActZ} (hp : p.Ok) : Mild (actS SO l p) := by
  unfold actS
  split
  · exact mild_put h hp.n
  · split
    · exact mild_set h hp.outa
    · split
      · exact mild_take h _
      · exact h
theorem take_snoc {z : List ActZ} {k : Nat} (hk : k < z.length) : z.take (k + 1) = z.take k ++ [z.getD k ActZ.none_] := by
  rw [List.take_add_one, List.getD_eq_getElem?_getD, List.getElem?_eq_getElem hk]; rfl
end Go.Proofs.Ytmgmkdkdpeljmab

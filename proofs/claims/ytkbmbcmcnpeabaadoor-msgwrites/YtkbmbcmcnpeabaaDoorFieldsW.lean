/- What the program's fields does through its writer with a message of whatever kind; and when a message is right. Condition: no more than 2^40 bytes are written. -/
import Derived.Test.YtkbmbcmcnpeabaaDoorFieldsN
import Derived.Test.YtkbmbcmcnpeabaaDoorSameB
namespace Go.Proofs.YtkbmbcmcnpeabaaDoor
open Pk Go.RowKit

/-- A message that Go's types can hold. -/
structure Fit (m : MsgV) : Prop where
  digest : m.digest < 2 ^ 64
  at_ : I64 m.at_
  iat : I64 m.item.at_
  iN : I64 m.item.n
  key : m.item.key.length ≤ maxLen
  owner : m.owner.length ≤ maxLen
  set : m.set.length ≤ maxLen
  data : m.data.length ≤ maxLen
/-- The fields of a message's kind are within their bounds. -/
def okF (m : MsgV) : Prop := match m.kind.toNat with
  | 1 => (In m.item.src) ∧ (In m.item.seq) ∧ (In m.item.low) ∧ (m.item.key.length ≤ 255) ∧ (In m.item.part)
  | 2 => (In m.item.src) ∧ (In m.item.seq) ∧ (In m.code)
  | 3 => (In m.item.src) ∧ (In m.item.seq) ∧ (In m.epoch) ∧ (In m.nodes) ∧ (m.owner.length ≤ 64) ∧ (∀ x ∈ m.owner, In x)
  | 4 => (In m.move) ∧ (In m.part) ∧ (In m.to_)
  | 5 => (In m.move) ∧ (In m.part) ∧ (In m.n) ∧ (In m.count) ∧ (m.data.length ≤ 1024)
  | 6 => (In m.move) ∧ (In m.part) ∧ (In m.n) ∧ (m.set.length ≤ 1024) ∧ (∀ x ∈ m.set, In x)
  | 7 => (In m.move) ∧ (In m.part) ∧ (In m.n) ∧ (In m.item.src) ∧ (In m.item.seq) ∧ (In m.item.low) ∧ (m.item.key.length ≤ 255) ∧ (In m.item.part)
  | 8 => (In m.move) ∧ (In m.part) ∧ (In m.n)
  | 9 => (In m.move) ∧ (In m.part) ∧ (In m.n)
  | 10 => (In m.move) ∧ (In m.part) ∧ (In m.code)
  | 11 => (In m.move) ∧ (In m.part) ∧ (In m.epoch) ∧ (In m.nodes) ∧ (m.owner.length ≤ 64) ∧ (∀ x ∈ m.owner, In x)
  | 12 => (In m.move) ∧ (In m.part)
  | 13 => (In m.move) ∧ (In m.part)
  | 14 => (In m.epoch) ∧ (In m.nodes) ∧ (m.owner.length ≤ 64) ∧ (∀ x ∈ m.owner, In x)
  | _ => False
/-- What is left of a message when the fields of its kind are taken out. -/
def rest (m : MsgV) : MsgV := match m.kind.toNat with
  | 1 => { m with kind := 0, item := ItemV.zero }
  | 2 => { m with kind := 0, item := { m.item with src := 0, seq := 0 }, code := 0 }
  | 3 => { m with kind := 0, item := { m.item with src := 0, seq := 0 }, epoch := 0, nodes := 0, owner := [] }
  | 4 => { m with kind := 0, move := 0, part := 0, to_ := 0 }
  | 5 => { m with kind := 0, move := 0, part := 0, n := 0, count := 0, data := [] }
  | 6 => { m with kind := 0, move := 0, part := 0, n := 0, set := [] }
  | 7 => { m with kind := 0, move := 0, part := 0, n := 0, item := ItemV.zero }
  | 8 => { m with kind := 0, move := 0, part := 0, n := 0 }
  | 9 => { m with kind := 0, move := 0, part := 0, n := 0, at_ := 0, digest := 0 }
  | 10 => { m with kind := 0, move := 0, part := 0, code := 0 }
  | 11 => { m with kind := 0, move := 0, part := 0, epoch := 0, nodes := 0, owner := [] }
  | 12 => { m with kind := 0, move := 0, part := 0 }
  | 13 => { m with kind := 0, move := 0, part := 0 }
  | 14 => { m with kind := 0, epoch := 0, nodes := 0, owner := [] }
  | _ => m
theorem kinds_cases {n : Nat} (h : 1 ≤ n ∧ n ≤ 14) : n = 1 ∨ n = 2 ∨ n = 3 ∨ n = 4 ∨ n = 5 ∨ n = 6 ∨ n = 7 ∨ n = 8 ∨ n = 9 ∨ n = 10 ∨ n = 11 ∨ n = 12 ∨ n = 13 ∨ n = 14 := by omega
theorem right_iff {m : MsgV} (hf : Fit m) (hk : 1 ≤ m.kind.toNat ∧ m.kind.toNat ≤ 14) : Right m ↔ okF m ∧ rest m = MsgV.zero := by
  constructor
  · intro h
    have hO := h.ok
    have hI := h.ok.item
    refine ⟨?_, ?_⟩
    · rcases kinds_cases hk with h1 | h1 | h1 | h1 | h1 | h1 | h1 | h1 | h1 | h1 | h1 | h1 | h1 | h1 <;> unfold okF <;> rw [h1]
      · exact ⟨hI.src, hI.seq, hI.low, hI.key, hI.part⟩
      · exact ⟨hI.src, hI.seq, hO.code⟩
      · exact ⟨hI.src, hI.seq, hO.epoch, hO.nodes, hO.owner.1, hO.owner.2⟩
      · exact ⟨hO.move, hO.part, hO.to_⟩
      · exact ⟨hO.move, hO.part, hO.n, hO.count, hO.data⟩
      · exact ⟨hO.move, hO.part, hO.n, hO.set.1, hO.set.2⟩
      · exact ⟨hO.move, hO.part, hO.n, hI.src, hI.seq, hI.low, hI.key, hI.part⟩
      · exact ⟨hO.move, hO.part, hO.n⟩
      · exact ⟨hO.move, hO.part, hO.n⟩
      · exact ⟨hO.move, hO.part, hO.code⟩
      · exact ⟨hO.move, hO.part, hO.epoch, hO.nodes, hO.owner.1, hO.owner.2⟩
      · exact ⟨hO.move, hO.part⟩
      · exact ⟨hO.move, hO.part⟩
      · exact ⟨hO.epoch, hO.nodes, hO.owner.1, hO.owner.2⟩
    · have e := h.only
      rcases kinds_cases hk with h1 | h1 | h1 | h1 | h1 | h1 | h1 | h1 | h1 | h1 | h1 | h1 | h1 | h1 <;> unfold only at e <;> rw [h1] at e <;> unfold rest <;> rw [h1] <;> simp only [] at e ⊢ <;> rw [← e] <;> rfl
  · rintro ⟨h2, h3⟩
    have h4 : m.Ok ∧ only m = m := by
      rcases kinds_cases hk with h1 | h1 | h1 | h1 | h1 | h1 | h1 | h1 | h1 | h1 | h1 | h1 | h1 | h1
      · have e1 : rest m = { m with kind := 0, item := ItemV.zero } := by unfold rest; rw [h1]; rfl
        have e2 : okF m = ((In m.item.src) ∧ (In m.item.seq) ∧ (In m.item.low) ∧ (m.item.key.length ≤ 255) ∧ (In m.item.part)) := by unfold okF; rw [h1]; rfl
        have e4 : only m = { MsgV.zero with kind := m.kind, item := m.item } := by unfold only; rw [h1]; rfl
        rw [e1] at h3
        rw [e2] at h2
        rw [e4]
        clear e1 e2 e4 h1
        obtain ⟨kind, move, part, to_, n, count, code, digest, at_, item, epoch, nodes, owner, set, data⟩ := m
        obtain rfl : move = 0 := congrArg MsgV.move h3
        obtain rfl : part = 0 := congrArg MsgV.part h3
        obtain rfl : to_ = 0 := congrArg MsgV.to_ h3
        obtain rfl : n = 0 := congrArg MsgV.n h3
        obtain rfl : count = 0 := congrArg MsgV.count h3
        obtain rfl : code = 0 := congrArg MsgV.code h3
        obtain rfl : digest = 0 := congrArg MsgV.digest h3
        obtain rfl : at_ = 0 := congrArg MsgV.at_ h3
        obtain rfl : epoch = 0 := congrArg MsgV.epoch h3
        obtain rfl : nodes = 0 := congrArg MsgV.nodes h3
        obtain rfl : owner = [] := congrArg MsgV.owner h3
        obtain rfl : set = [] := congrArg MsgV.set h3
        obtain rfl : data = [] := congrArg MsgV.data h3
        obtain ⟨q0, q1, q2, q3, q4⟩ := h2
        exact ⟨⟨zero_in, zero_in, zero_in, zero_in, zero_in, zero_in, hf.digest, hf.at_, ⟨q0, q1, q2, q4, q3, hf.iat, hf.iN⟩, zero_in, zero_in, ⟨Nat.zero_le _, fun _ h => by cases h⟩, ⟨Nat.zero_le _, fun _ h => by cases h⟩, Nat.zero_le _⟩, rfl⟩
      · have e1 : rest m = { m with kind := 0, item := { m.item with src := 0, seq := 0 }, code := 0 } := by unfold rest; rw [h1]; rfl
        have e2 : okF m = ((In m.item.src) ∧ (In m.item.seq) ∧ (In m.code)) := by unfold okF; rw [h1]; rfl
        have e4 : only m = { MsgV.zero with kind := m.kind, item := { ItemV.zero with src := m.item.src, seq := m.item.seq }, code := m.code } := by unfold only; rw [h1]; rfl
        rw [e1] at h3
        rw [e2] at h2
        rw [e4]
        clear e1 e2 e4 h1
        obtain ⟨kind, move, part, to_, n, count, code, digest, at_, ⟨src, seq, low, ik, key, ip, ia, inn⟩, epoch, nodes, owner, set, data⟩ := m
        obtain rfl : move = 0 := congrArg MsgV.move h3
        obtain rfl : part = 0 := congrArg MsgV.part h3
        obtain rfl : to_ = 0 := congrArg MsgV.to_ h3
        obtain rfl : n = 0 := congrArg MsgV.n h3
        obtain rfl : count = 0 := congrArg MsgV.count h3
        obtain rfl : digest = 0 := congrArg MsgV.digest h3
        obtain rfl : at_ = 0 := congrArg MsgV.at_ h3
        obtain rfl : low = 0 := congrArg (fun m => m.item.low) h3
        obtain rfl : ik = 0 := congrArg (fun m => m.item.kind) h3
        obtain rfl : key = [] := congrArg (fun m => m.item.key) h3
        obtain rfl : ip = 0 := congrArg (fun m => m.item.part) h3
        obtain rfl : ia = 0 := congrArg (fun m => m.item.at_) h3
        obtain rfl : inn = 0 := congrArg (fun m => m.item.n) h3
        obtain rfl : epoch = 0 := congrArg MsgV.epoch h3
        obtain rfl : nodes = 0 := congrArg MsgV.nodes h3
        obtain rfl : owner = [] := congrArg MsgV.owner h3
        obtain rfl : set = [] := congrArg MsgV.set h3
        obtain rfl : data = [] := congrArg MsgV.data h3
        obtain ⟨q0, q1, q2⟩ := h2
        exact ⟨⟨zero_in, zero_in, zero_in, zero_in, zero_in, q2, hf.digest, hf.at_, ⟨q0, q1, zero_in, zero_in, Nat.zero_le _, zero_i64, zero_i64⟩, zero_in, zero_in, ⟨Nat.zero_le _, fun _ h => by cases h⟩, ⟨Nat.zero_le _, fun _ h => by cases h⟩, Nat.zero_le _⟩, rfl⟩
      · have e1 : rest m = { m with kind := 0, item := { m.item with src := 0, seq := 0 }, epoch := 0, nodes := 0, owner := [] } := by unfold rest; rw [h1]; rfl
        have e2 : okF m = ((In m.item.src) ∧ (In m.item.seq) ∧ (In m.epoch) ∧ (In m.nodes) ∧ (m.owner.length ≤ 64) ∧ (∀ x ∈ m.owner, In x)) := by unfold okF; rw [h1]; rfl
        have e4 : only m = { MsgV.zero with kind := m.kind, item := { ItemV.zero with src := m.item.src, seq := m.item.seq }, epoch := m.epoch, nodes := m.nodes, owner := m.owner } := by unfold only; rw [h1]; rfl
        rw [e1] at h3
        rw [e2] at h2
        rw [e4]
        clear e1 e2 e4 h1
        obtain ⟨kind, move, part, to_, n, count, code, digest, at_, ⟨src, seq, low, ik, key, ip, ia, inn⟩, epoch, nodes, owner, set, data⟩ := m
        obtain rfl : move = 0 := congrArg MsgV.move h3
        obtain rfl : part = 0 := congrArg MsgV.part h3
        obtain rfl : to_ = 0 := congrArg MsgV.to_ h3
        obtain rfl : n = 0 := congrArg MsgV.n h3
        obtain rfl : count = 0 := congrArg MsgV.count h3
        obtain rfl : code = 0 := congrArg MsgV.code h3
        obtain rfl : digest = 0 := congrArg MsgV.digest h3
        obtain rfl : at_ = 0 := congrArg MsgV.at_ h3
        obtain rfl : low = 0 := congrArg (fun m => m.item.low) h3
        obtain rfl : ik = 0 := congrArg (fun m => m.item.kind) h3
        obtain rfl : key = [] := congrArg (fun m => m.item.key) h3
        obtain rfl : ip = 0 := congrArg (fun m => m.item.part) h3
        obtain rfl : ia = 0 := congrArg (fun m => m.item.at_) h3
        obtain rfl : inn = 0 := congrArg (fun m => m.item.n) h3
        obtain rfl : set = [] := congrArg MsgV.set h3
        obtain rfl : data = [] := congrArg MsgV.data h3
        obtain ⟨q0, q1, q2, q3, q4, q5⟩ := h2
        exact ⟨⟨zero_in, zero_in, zero_in, zero_in, zero_in, zero_in, hf.digest, hf.at_, ⟨q0, q1, zero_in, zero_in, Nat.zero_le _, zero_i64, zero_i64⟩, q2, q3, ⟨q4, q5⟩, ⟨Nat.zero_le _, fun _ h => by cases h⟩, Nat.zero_le _⟩, rfl⟩
      · have e1 : rest m = { m with kind := 0, move := 0, part := 0, to_ := 0 } := by unfold rest; rw [h1]; rfl
        have e2 : okF m = ((In m.move) ∧ (In m.part) ∧ (In m.to_)) := by unfold okF; rw [h1]; rfl
        have e4 : only m = { MsgV.zero with kind := m.kind, move := m.move, part := m.part, to_ := m.to_ } := by unfold only; rw [h1]; rfl
        rw [e1] at h3
        rw [e2] at h2
        rw [e4]
        clear e1 e2 e4 h1
        obtain ⟨kind, move, part, to_, n, count, code, digest, at_, item, epoch, nodes, owner, set, data⟩ := m
        obtain rfl : n = 0 := congrArg MsgV.n h3
        obtain rfl : count = 0 := congrArg MsgV.count h3
        obtain rfl : code = 0 := congrArg MsgV.code h3
        obtain rfl : digest = 0 := congrArg MsgV.digest h3
        obtain rfl : at_ = 0 := congrArg MsgV.at_ h3
        obtain rfl : item = ItemV.zero := congrArg MsgV.item h3
        obtain rfl : epoch = 0 := congrArg MsgV.epoch h3
        obtain rfl : nodes = 0 := congrArg MsgV.nodes h3
        obtain rfl : owner = [] := congrArg MsgV.owner h3
        obtain rfl : set = [] := congrArg MsgV.set h3
        obtain rfl : data = [] := congrArg MsgV.data h3
        obtain ⟨q0, q1, q2⟩ := h2
        exact ⟨⟨q0, q1, q2, zero_in, zero_in, zero_in, hf.digest, hf.at_, ItemV.zero_ok, zero_in, zero_in, ⟨Nat.zero_le _, fun _ h => by cases h⟩, ⟨Nat.zero_le _, fun _ h => by cases h⟩, Nat.zero_le _⟩, rfl⟩
      · have e1 : rest m = { m with kind := 0, move := 0, part := 0, n := 0, count := 0, data := [] } := by unfold rest; rw [h1]; rfl
        have e2 : okF m = ((In m.move) ∧ (In m.part) ∧ (In m.n) ∧ (In m.count) ∧ (m.data.length ≤ 1024)) := by unfold okF; rw [h1]; rfl
        have e4 : only m = { MsgV.zero with kind := m.kind, move := m.move, part := m.part, n := m.n, count := m.count, data := m.data } := by unfold only; rw [h1]; rfl
        rw [e1] at h3
        rw [e2] at h2
        rw [e4]
        clear e1 e2 e4 h1
        obtain ⟨kind, move, part, to_, n, count, code, digest, at_, item, epoch, nodes, owner, set, data⟩ := m
        obtain rfl : to_ = 0 := congrArg MsgV.to_ h3
        obtain rfl : code = 0 := congrArg MsgV.code h3
        obtain rfl : digest = 0 := congrArg MsgV.digest h3
        obtain rfl : at_ = 0 := congrArg MsgV.at_ h3
        obtain rfl : item = ItemV.zero := congrArg MsgV.item h3
        obtain rfl : epoch = 0 := congrArg MsgV.epoch h3
        obtain rfl : nodes = 0 := congrArg MsgV.nodes h3
        obtain rfl : owner = [] := congrArg MsgV.owner h3
        obtain rfl : set = [] := congrArg MsgV.set h3
        obtain ⟨q0, q1, q2, q3, q4⟩ := h2
        exact ⟨⟨q0, q1, zero_in, q2, q3, zero_in, hf.digest, hf.at_, ItemV.zero_ok, zero_in, zero_in, ⟨Nat.zero_le _, fun _ h => by cases h⟩, ⟨Nat.zero_le _, fun _ h => by cases h⟩, q4⟩, rfl⟩
      · have e1 : rest m = { m with kind := 0, move := 0, part := 0, n := 0, set := [] } := by unfold rest; rw [h1]; rfl
        have e2 : okF m = ((In m.move) ∧ (In m.part) ∧ (In m.n) ∧ (m.set.length ≤ 1024) ∧ (∀ x ∈ m.set, In x)) := by unfold okF; rw [h1]; rfl
        have e4 : only m = { MsgV.zero with kind := m.kind, move := m.move, part := m.part, n := m.n, set := m.set } := by unfold only; rw [h1]; rfl
        rw [e1] at h3
        rw [e2] at h2
        rw [e4]
        clear e1 e2 e4 h1
        obtain ⟨kind, move, part, to_, n, count, code, digest, at_, item, epoch, nodes, owner, set, data⟩ := m
        obtain rfl : to_ = 0 := congrArg MsgV.to_ h3
        obtain rfl : count = 0 := congrArg MsgV.count h3
        obtain rfl : code = 0 := congrArg MsgV.code h3
        obtain rfl : digest = 0 := congrArg MsgV.digest h3
        obtain rfl : at_ = 0 := congrArg MsgV.at_ h3
        obtain rfl : item = ItemV.zero := congrArg MsgV.item h3
        obtain rfl : epoch = 0 := congrArg MsgV.epoch h3
        obtain rfl : nodes = 0 := congrArg MsgV.nodes h3
        obtain rfl : owner = [] := congrArg MsgV.owner h3
        obtain rfl : data = [] := congrArg MsgV.data h3
        obtain ⟨q0, q1, q2, q3, q4⟩ := h2
        exact ⟨⟨q0, q1, zero_in, q2, zero_in, zero_in, hf.digest, hf.at_, ItemV.zero_ok, zero_in, zero_in, ⟨Nat.zero_le _, fun _ h => by cases h⟩, ⟨q3, q4⟩, Nat.zero_le _⟩, rfl⟩
      · have e1 : rest m = { m with kind := 0, move := 0, part := 0, n := 0, item := ItemV.zero } := by unfold rest; rw [h1]; rfl
        have e2 : okF m = ((In m.move) ∧ (In m.part) ∧ (In m.n) ∧ (In m.item.src) ∧ (In m.item.seq) ∧ (In m.item.low) ∧ (m.item.key.length ≤ 255) ∧ (In m.item.part)) := by unfold okF; rw [h1]; rfl
        have e4 : only m = { MsgV.zero with kind := m.kind, move := m.move, part := m.part, n := m.n, item := m.item } := by unfold only; rw [h1]; rfl
        rw [e1] at h3
        rw [e2] at h2
        rw [e4]
        clear e1 e2 e4 h1
        obtain ⟨kind, move, part, to_, n, count, code, digest, at_, item, epoch, nodes, owner, set, data⟩ := m
        obtain rfl : to_ = 0 := congrArg MsgV.to_ h3
        obtain rfl : count = 0 := congrArg MsgV.count h3
        obtain rfl : code = 0 := congrArg MsgV.code h3
        obtain rfl : digest = 0 := congrArg MsgV.digest h3
        obtain rfl : at_ = 0 := congrArg MsgV.at_ h3
        obtain rfl : epoch = 0 := congrArg MsgV.epoch h3
        obtain rfl : nodes = 0 := congrArg MsgV.nodes h3
        obtain rfl : owner = [] := congrArg MsgV.owner h3
        obtain rfl : set = [] := congrArg MsgV.set h3
        obtain rfl : data = [] := congrArg MsgV.data h3
        obtain ⟨q0, q1, q2, q3, q4, q5, q6, q7⟩ := h2
        exact ⟨⟨q0, q1, zero_in, q2, zero_in, zero_in, hf.digest, hf.at_, ⟨q3, q4, q5, q7, q6, hf.iat, hf.iN⟩, zero_in, zero_in, ⟨Nat.zero_le _, fun _ h => by cases h⟩, ⟨Nat.zero_le _, fun _ h => by cases h⟩, Nat.zero_le _⟩, rfl⟩
      · have e1 : rest m = { m with kind := 0, move := 0, part := 0, n := 0 } := by unfold rest; rw [h1]; rfl
        have e2 : okF m = ((In m.move) ∧ (In m.part) ∧ (In m.n)) := by unfold okF; rw [h1]; rfl
        have e4 : only m = { MsgV.zero with kind := m.kind, move := m.move, part := m.part, n := m.n } := by unfold only; rw [h1]; rfl
        rw [e1] at h3
        rw [e2] at h2
        rw [e4]
        clear e1 e2 e4 h1
        obtain ⟨kind, move, part, to_, n, count, code, digest, at_, item, epoch, nodes, owner, set, data⟩ := m
        obtain rfl : to_ = 0 := congrArg MsgV.to_ h3
        obtain rfl : count = 0 := congrArg MsgV.count h3
        obtain rfl : code = 0 := congrArg MsgV.code h3
        obtain rfl : digest = 0 := congrArg MsgV.digest h3
        obtain rfl : at_ = 0 := congrArg MsgV.at_ h3
        obtain rfl : item = ItemV.zero := congrArg MsgV.item h3
        obtain rfl : epoch = 0 := congrArg MsgV.epoch h3
        obtain rfl : nodes = 0 := congrArg MsgV.nodes h3
        obtain rfl : owner = [] := congrArg MsgV.owner h3
        obtain rfl : set = [] := congrArg MsgV.set h3
        obtain rfl : data = [] := congrArg MsgV.data h3
        obtain ⟨q0, q1, q2⟩ := h2
        exact ⟨⟨q0, q1, zero_in, q2, zero_in, zero_in, hf.digest, hf.at_, ItemV.zero_ok, zero_in, zero_in, ⟨Nat.zero_le _, fun _ h => by cases h⟩, ⟨Nat.zero_le _, fun _ h => by cases h⟩, Nat.zero_le _⟩, rfl⟩
      · have e1 : rest m = { m with kind := 0, move := 0, part := 0, n := 0, at_ := 0, digest := 0 } := by unfold rest; rw [h1]; rfl
        have e2 : okF m = ((In m.move) ∧ (In m.part) ∧ (In m.n)) := by unfold okF; rw [h1]; rfl
        have e4 : only m = { MsgV.zero with kind := m.kind, move := m.move, part := m.part, n := m.n, at_ := m.at_, digest := m.digest } := by unfold only; rw [h1]; rfl
        rw [e1] at h3
        rw [e2] at h2
        rw [e4]
        clear e1 e2 e4 h1
        obtain ⟨kind, move, part, to_, n, count, code, digest, at_, item, epoch, nodes, owner, set, data⟩ := m
        obtain rfl : to_ = 0 := congrArg MsgV.to_ h3
        obtain rfl : count = 0 := congrArg MsgV.count h3
        obtain rfl : code = 0 := congrArg MsgV.code h3
        obtain rfl : item = ItemV.zero := congrArg MsgV.item h3
        obtain rfl : epoch = 0 := congrArg MsgV.epoch h3
        obtain rfl : nodes = 0 := congrArg MsgV.nodes h3
        obtain rfl : owner = [] := congrArg MsgV.owner h3
        obtain rfl : set = [] := congrArg MsgV.set h3
        obtain rfl : data = [] := congrArg MsgV.data h3
        obtain ⟨q0, q1, q2⟩ := h2
        exact ⟨⟨q0, q1, zero_in, q2, zero_in, zero_in, hf.digest, hf.at_, ItemV.zero_ok, zero_in, zero_in, ⟨Nat.zero_le _, fun _ h => by cases h⟩, ⟨Nat.zero_le _, fun _ h => by cases h⟩, Nat.zero_le _⟩, rfl⟩
      · have e1 : rest m = { m with kind := 0, move := 0, part := 0, code := 0 } := by unfold rest; rw [h1]; rfl
        have e2 : okF m = ((In m.move) ∧ (In m.part) ∧ (In m.code)) := by unfold okF; rw [h1]; rfl
        have e4 : only m = { MsgV.zero with kind := m.kind, move := m.move, part := m.part, code := m.code } := by unfold only; rw [h1]; rfl
        rw [e1] at h3
        rw [e2] at h2
        rw [e4]
        clear e1 e2 e4 h1
        obtain ⟨kind, move, part, to_, n, count, code, digest, at_, item, epoch, nodes, owner, set, data⟩ := m
        obtain rfl : to_ = 0 := congrArg MsgV.to_ h3
        obtain rfl : n = 0 := congrArg MsgV.n h3
        obtain rfl : count = 0 := congrArg MsgV.count h3
        obtain rfl : digest = 0 := congrArg MsgV.digest h3
        obtain rfl : at_ = 0 := congrArg MsgV.at_ h3
        obtain rfl : item = ItemV.zero := congrArg MsgV.item h3
        obtain rfl : epoch = 0 := congrArg MsgV.epoch h3
        obtain rfl : nodes = 0 := congrArg MsgV.nodes h3
        obtain rfl : owner = [] := congrArg MsgV.owner h3
        obtain rfl : set = [] := congrArg MsgV.set h3
        obtain rfl : data = [] := congrArg MsgV.data h3
        obtain ⟨q0, q1, q2⟩ := h2
        exact ⟨⟨q0, q1, zero_in, zero_in, zero_in, q2, hf.digest, hf.at_, ItemV.zero_ok, zero_in, zero_in, ⟨Nat.zero_le _, fun _ h => by cases h⟩, ⟨Nat.zero_le _, fun _ h => by cases h⟩, Nat.zero_le _⟩, rfl⟩
      · have e1 : rest m = { m with kind := 0, move := 0, part := 0, epoch := 0, nodes := 0, owner := [] } := by unfold rest; rw [h1]; rfl
        have e2 : okF m = ((In m.move) ∧ (In m.part) ∧ (In m.epoch) ∧ (In m.nodes) ∧ (m.owner.length ≤ 64) ∧ (∀ x ∈ m.owner, In x)) := by unfold okF; rw [h1]; rfl
        have e4 : only m = { MsgV.zero with kind := m.kind, move := m.move, part := m.part, epoch := m.epoch, nodes := m.nodes, owner := m.owner } := by unfold only; rw [h1]; rfl
        rw [e1] at h3
        rw [e2] at h2
        rw [e4]
        clear e1 e2 e4 h1
        obtain ⟨kind, move, part, to_, n, count, code, digest, at_, item, epoch, nodes, owner, set, data⟩ := m
        obtain rfl : to_ = 0 := congrArg MsgV.to_ h3
        obtain rfl : n = 0 := congrArg MsgV.n h3
        obtain rfl : count = 0 := congrArg MsgV.count h3
        obtain rfl : code = 0 := congrArg MsgV.code h3
        obtain rfl : digest = 0 := congrArg MsgV.digest h3
        obtain rfl : at_ = 0 := congrArg MsgV.at_ h3
        obtain rfl : item = ItemV.zero := congrArg MsgV.item h3
        obtain rfl : set = [] := congrArg MsgV.set h3
        obtain rfl : data = [] := congrArg MsgV.data h3
        obtain ⟨q0, q1, q2, q3, q4, q5⟩ := h2
        exact ⟨⟨q0, q1, zero_in, zero_in, zero_in, zero_in, hf.digest, hf.at_, ItemV.zero_ok, q2, q3, ⟨q4, q5⟩, ⟨Nat.zero_le _, fun _ h => by cases h⟩, Nat.zero_le _⟩, rfl⟩
      · have e1 : rest m = { m with kind := 0, move := 0, part := 0 } := by unfold rest; rw [h1]; rfl
        have e2 : okF m = ((In m.move) ∧ (In m.part)) := by unfold okF; rw [h1]; rfl
        have e4 : only m = { MsgV.zero with kind := m.kind, move := m.move, part := m.part } := by unfold only; rw [h1]; rfl
        rw [e1] at h3
        rw [e2] at h2
        rw [e4]
        clear e1 e2 e4 h1
        obtain ⟨kind, move, part, to_, n, count, code, digest, at_, item, epoch, nodes, owner, set, data⟩ := m
        obtain rfl : to_ = 0 := congrArg MsgV.to_ h3
        obtain rfl : n = 0 := congrArg MsgV.n h3
        obtain rfl : count = 0 := congrArg MsgV.count h3
        obtain rfl : code = 0 := congrArg MsgV.code h3
        obtain rfl : digest = 0 := congrArg MsgV.digest h3
        obtain rfl : at_ = 0 := congrArg MsgV.at_ h3
        obtain rfl : item = ItemV.zero := congrArg MsgV.item h3
        obtain rfl : epoch = 0 := congrArg MsgV.epoch h3
        obtain rfl : nodes = 0 := congrArg MsgV.nodes h3
        obtain rfl : owner = [] := congrArg MsgV.owner h3
        obtain rfl : set = [] := congrArg MsgV.set h3
        obtain rfl : data = [] := congrArg MsgV.data h3
        obtain ⟨q0, q1⟩ := h2
        exact ⟨⟨q0, q1, zero_in, zero_in, zero_in, zero_in, hf.digest, hf.at_, ItemV.zero_ok, zero_in, zero_in, ⟨Nat.zero_le _, fun _ h => by cases h⟩, ⟨Nat.zero_le _, fun _ h => by cases h⟩, Nat.zero_le _⟩, rfl⟩
      · have e1 : rest m = { m with kind := 0, move := 0, part := 0 } := by unfold rest; rw [h1]; rfl
        have e2 : okF m = ((In m.move) ∧ (In m.part)) := by unfold okF; rw [h1]; rfl
        have e4 : only m = { MsgV.zero with kind := m.kind, move := m.move, part := m.part } := by unfold only; rw [h1]; rfl
        rw [e1] at h3
        rw [e2] at h2
        rw [e4]
        clear e1 e2 e4 h1
        obtain ⟨kind, move, part, to_, n, count, code, digest, at_, item, epoch, nodes, owner, set, data⟩ := m
        obtain rfl : to_ = 0 := congrArg MsgV.to_ h3
        obtain rfl : n = 0 := congrArg MsgV.n h3
        obtain rfl : count = 0 := congrArg MsgV.count h3
        obtain rfl : code = 0 := congrArg MsgV.code h3
        obtain rfl : digest = 0 := congrArg MsgV.digest h3
        obtain rfl : at_ = 0 := congrArg MsgV.at_ h3
        obtain rfl : item = ItemV.zero := congrArg MsgV.item h3
        obtain rfl : epoch = 0 := congrArg MsgV.epoch h3
        obtain rfl : nodes = 0 := congrArg MsgV.nodes h3
        obtain rfl : owner = [] := congrArg MsgV.owner h3
        obtain rfl : set = [] := congrArg MsgV.set h3
        obtain rfl : data = [] := congrArg MsgV.data h3
        obtain ⟨q0, q1⟩ := h2
        exact ⟨⟨q0, q1, zero_in, zero_in, zero_in, zero_in, hf.digest, hf.at_, ItemV.zero_ok, zero_in, zero_in, ⟨Nat.zero_le _, fun _ h => by cases h⟩, ⟨Nat.zero_le _, fun _ h => by cases h⟩, Nat.zero_le _⟩, rfl⟩
      · have e1 : rest m = { m with kind := 0, epoch := 0, nodes := 0, owner := [] } := by unfold rest; rw [h1]; rfl
        have e2 : okF m = ((In m.epoch) ∧ (In m.nodes) ∧ (m.owner.length ≤ 64) ∧ (∀ x ∈ m.owner, In x)) := by unfold okF; rw [h1]; rfl
        have e4 : only m = { MsgV.zero with kind := m.kind, epoch := m.epoch, nodes := m.nodes, owner := m.owner } := by unfold only; rw [h1]; rfl
        rw [e1] at h3
        rw [e2] at h2
        rw [e4]
        clear e1 e2 e4 h1
        obtain ⟨kind, move, part, to_, n, count, code, digest, at_, item, epoch, nodes, owner, set, data⟩ := m
        obtain rfl : move = 0 := congrArg MsgV.move h3
        obtain rfl : part = 0 := congrArg MsgV.part h3
        obtain rfl : to_ = 0 := congrArg MsgV.to_ h3
        obtain rfl : n = 0 := congrArg MsgV.n h3
        obtain rfl : count = 0 := congrArg MsgV.count h3
        obtain rfl : code = 0 := congrArg MsgV.code h3
        obtain rfl : digest = 0 := congrArg MsgV.digest h3
        obtain rfl : at_ = 0 := congrArg MsgV.at_ h3
        obtain rfl : item = ItemV.zero := congrArg MsgV.item h3
        obtain rfl : set = [] := congrArg MsgV.set h3
        obtain rfl : data = [] := congrArg MsgV.data h3
        obtain ⟨q0, q1, q2, q3⟩ := h2
        exact ⟨⟨zero_in, zero_in, zero_in, zero_in, zero_in, zero_in, hf.digest, hf.at_, ItemV.zero_ok, q0, q1, ⟨q2, q3⟩, ⟨Nat.zero_le _, fun _ h => by cases h⟩, Nat.zero_le _⟩, rfl⟩
    exact ⟨hk, h4.2, h4.1⟩

set_option maxHeartbeats 4000000 in
/-- fields, for a message of whatever kind: its fields are written, and zero then, or the writer gives up. -/
theorem fields_w {w0 w : World} {p B : Nat} (m : MsgV) (a1 a2 : Option Addr) (c1 c2 : Nat) {l : List UInt8} (hf : Fit m) (hk : 1 ≤ m.kind.toNat ∧ m.kind.toNat ≤ 14) (h : WSt w0 w p B (msgCells { m with kind := 0 } a1 c1 a2 c2) l) (hI1 : IntsF w0 p B a1 m.owner) (hI2 : IntsF w0 p B a2 m.set) (hb : l.length + 60000 ≤ 1099511627776) :
    Calls Tryd.prog 22 #[sw p, .int .u8 (m.kind.toNat : Int), .pointer (some ⟨B, 0, none⟩)] w fun e w' =>
      (e = .returned (.tuple #[]) ∧ okF m ∧ ∃ b1 d1 b2 d2, WSt w0 w' p B (msgCells (rest m) b1 d1 b2 d2) (l ++ (bodyC m.kind.toNat).enc m) ∧ IntsF w0 p B b1 (rest m).owner ∧ IntsF w0 p B b2 (rest m).set) ∨ (e = .panicked (refused 1) ∧ ¬ okF m ∧ Moved (fun i => i = p ∨ i = B) w0 w') := by
  have nil : ∀ a, IntsF w0 p B a [] := fun a => ⟨fun i hi => by simp at hi, fun _ _ h => by simp at h⟩
  rcases kinds_cases hk with h1 | h1 | h1 | h1 | h1 | h1 | h1 | h1 | h1 | h1 | h1 | h1 | h1 | h1
  · have e1 : rest m = { m with kind := 0, item := ItemV.zero } := by unfold rest; rw [h1]; rfl
    have e2 : okF m = ((In m.item.src) ∧ (In m.item.seq) ∧ (In m.item.low) ∧ (m.item.key.length ≤ 255) ∧ (In m.item.part)) := by unfold okF; rw [h1]; rfl
    have e3 : (bodyC 1).enc m = (P.enc m.item.src ++ (P.enc m.item.seq ++ (P.enc m.item.low ++ ([m.item.kind] ++ ((textC 255).enc m.item.key ++ (P.enc m.item.part ++ (intC.enc m.item.at_ ++ intC.enc m.item.n))))))) := rfl
    rw [e1, e2, h1, e3]
    refine (fields_w1 h m.item.src m.item.seq m.item.low m.item.kind m.item.key m.item.part m.item.at_ m.item.n rfl rfl rfl rfl rfl rfl rfl rfl hf.key hf.iat hf.iN hb).mono ?_
    rintro e w' (⟨rfl, ok, hs⟩ | ⟨rfl, no, hm⟩)
    · refine .inl ⟨rfl, ok, a1, c1, a2, c2, ?_, hI1, hI2⟩
      simp only [← List.append_assoc]
      exact hs
    · exact .inr ⟨rfl, no, hm⟩
  · have e1 : rest m = { m with kind := 0, item := { m.item with src := 0, seq := 0 }, code := 0 } := by unfold rest; rw [h1]; rfl
    have e2 : okF m = ((In m.item.src) ∧ (In m.item.seq) ∧ (In m.code)) := by unfold okF; rw [h1]; rfl
    have e3 : (bodyC 2).enc m = P.enc m.item.src ++ (P.enc m.item.seq ++ (P.enc m.code)) := rfl
    rw [e1, e2, h1, e3]
    refine (fields_w2 h m.item.src m.item.seq rfl rfl m.code rfl hb).mono ?_
    rintro e w' (⟨rfl, ok, hs⟩ | ⟨rfl, no, hm⟩)
    · refine .inl ⟨rfl, ok, a1, c1, a2, c2, ?_, hI1, hI2⟩
      simp only [← List.append_assoc]
      exact hs
    · exact .inr ⟨rfl, no, hm⟩
  · have e1 : rest m = { m with kind := 0, item := { m.item with src := 0, seq := 0 }, epoch := 0, nodes := 0, owner := [] } := by unfold rest; rw [h1]; rfl
    have e2 : okF m = ((In m.item.src) ∧ (In m.item.seq) ∧ (In m.epoch) ∧ (In m.nodes) ∧ (m.owner.length ≤ 64) ∧ (∀ x ∈ m.owner, In x)) := by unfold okF; rw [h1]; rfl
    have e3 : (bodyC 3).enc m = P.enc m.item.src ++ (P.enc m.item.seq ++ ((P.enc m.epoch ++ (P.enc m.nodes ++ (listC P 64).enc m.owner)))) := rfl
    rw [e1, e2, h1, e3]
    refine (fields_w3 h m.item.src m.item.seq rfl rfl m.epoch m.nodes m.owner a1 c1 rfl rfl rfl hI1 hf.owner hb).mono ?_
    rintro e w' (⟨rfl, ok, hs⟩ | ⟨rfl, no, hm⟩)
    · refine .inl ⟨rfl, ok, none, 0, a2, c2, ?_, nil _, hI2⟩
      simp only [← List.append_assoc]
      exact hs
    · exact .inr ⟨rfl, no, hm⟩
  · have e1 : rest m = { m with kind := 0, move := 0, part := 0, to_ := 0 } := by unfold rest; rw [h1]; rfl
    have e2 : okF m = ((In m.move) ∧ (In m.part) ∧ (In m.to_)) := by unfold okF; rw [h1]; rfl
    have e3 : (bodyC 4).enc m = P.enc m.move ++ (P.enc m.part ++ (P.enc m.to_)) := rfl
    rw [e1, e2, h1, e3]
    refine (fields_w4 h m.move rfl m.part rfl m.to_ rfl hb).mono ?_
    rintro e w' (⟨rfl, ok, hs⟩ | ⟨rfl, no, hm⟩)
    · refine .inl ⟨rfl, ok, a1, c1, a2, c2, ?_, hI1, hI2⟩
      simp only [← List.append_assoc]
      exact hs
    · exact .inr ⟨rfl, no, hm⟩
  · have e1 : rest m = { m with kind := 0, move := 0, part := 0, n := 0, count := 0, data := [] } := by unfold rest; rw [h1]; rfl
    have e2 : okF m = ((In m.move) ∧ (In m.part) ∧ (In m.n) ∧ (In m.count) ∧ (m.data.length ≤ 1024)) := by unfold okF; rw [h1]; rfl
    have e3 : (bodyC 5).enc m = P.enc m.move ++ (P.enc m.part ++ (P.enc m.n ++ (P.enc m.count ++ ((textC 1024).enc m.data)))) := rfl
    rw [e1, e2, h1, e3]
    refine (fields_w5 h m.move rfl m.part rfl m.n rfl m.count rfl m.data rfl hf.data hb).mono ?_
    rintro e w' (⟨rfl, ok, hs⟩ | ⟨rfl, no, hm⟩)
    · refine .inl ⟨rfl, ok, a1, c1, a2, c2, ?_, hI1, hI2⟩
      simp only [← List.append_assoc]
      exact hs
    · exact .inr ⟨rfl, no, hm⟩
  · have e1 : rest m = { m with kind := 0, move := 0, part := 0, n := 0, set := [] } := by unfold rest; rw [h1]; rfl
    have e2 : okF m = ((In m.move) ∧ (In m.part) ∧ (In m.n) ∧ (m.set.length ≤ 1024) ∧ (∀ x ∈ m.set, In x)) := by unfold okF; rw [h1]; rfl
    have e3 : (bodyC 6).enc m = P.enc m.move ++ (P.enc m.part ++ (P.enc m.n ++ ((listC P 1024).enc m.set))) := rfl
    rw [e1, e2, h1, e3]
    refine (fields_w6 h m.move rfl m.part rfl m.n rfl m.set a2 c2 rfl hI2 hf.set hb).mono ?_
    rintro e w' (⟨rfl, ok, hs⟩ | ⟨rfl, no, hm⟩)
    · refine .inl ⟨rfl, ok, a1, c1, none, 0, ?_, hI1, nil _⟩
      simp only [← List.append_assoc]
      exact hs
    · exact .inr ⟨rfl, no, hm⟩
  · have e1 : rest m = { m with kind := 0, move := 0, part := 0, n := 0, item := ItemV.zero } := by unfold rest; rw [h1]; rfl
    have e2 : okF m = ((In m.move) ∧ (In m.part) ∧ (In m.n) ∧ (In m.item.src) ∧ (In m.item.seq) ∧ (In m.item.low) ∧ (m.item.key.length ≤ 255) ∧ (In m.item.part)) := by unfold okF; rw [h1]; rfl
    have e3 : (bodyC 7).enc m = P.enc m.move ++ (P.enc m.part ++ (P.enc m.n ++ ((P.enc m.item.src ++ (P.enc m.item.seq ++ (P.enc m.item.low ++ ([m.item.kind] ++ ((textC 255).enc m.item.key ++ (P.enc m.item.part ++ (intC.enc m.item.at_ ++ intC.enc m.item.n)))))))))) := rfl
    rw [e1, e2, h1, e3]
    refine (fields_w7 h m.move rfl m.part rfl m.n rfl m.item.src m.item.seq m.item.low m.item.kind m.item.key m.item.part m.item.at_ m.item.n rfl rfl rfl rfl rfl rfl rfl rfl hf.key hf.iat hf.iN hb).mono ?_
    rintro e w' (⟨rfl, ok, hs⟩ | ⟨rfl, no, hm⟩)
    · refine .inl ⟨rfl, ok, a1, c1, a2, c2, ?_, hI1, hI2⟩
      simp only [← List.append_assoc]
      exact hs
    · exact .inr ⟨rfl, no, hm⟩
  · have e1 : rest m = { m with kind := 0, move := 0, part := 0, n := 0 } := by unfold rest; rw [h1]; rfl
    have e2 : okF m = ((In m.move) ∧ (In m.part) ∧ (In m.n)) := by unfold okF; rw [h1]; rfl
    have e3 : (bodyC 8).enc m = P.enc m.move ++ (P.enc m.part ++ (P.enc m.n)) := rfl
    rw [e1, e2, h1, e3]
    refine (fields_w8 h m.move rfl m.part rfl m.n rfl hb).mono ?_
    rintro e w' (⟨rfl, ok, hs⟩ | ⟨rfl, no, hm⟩)
    · refine .inl ⟨rfl, ok, a1, c1, a2, c2, ?_, hI1, hI2⟩
      simp only [← List.append_assoc]
      exact hs
    · exact .inr ⟨rfl, no, hm⟩
  · have e1 : rest m = { m with kind := 0, move := 0, part := 0, n := 0, at_ := 0, digest := 0 } := by unfold rest; rw [h1]; rfl
    have e2 : okF m = ((In m.move) ∧ (In m.part) ∧ (In m.n)) := by unfold okF; rw [h1]; rfl
    have e3 : (bodyC 9).enc m = P.enc m.move ++ (P.enc m.part ++ (P.enc m.n ++ (intC.enc m.at_ ++ (numC.enc m.digest)))) := rfl
    rw [e1, e2, h1, e3]
    refine (fields_w9 h m.move rfl m.part rfl m.n rfl m.at_ rfl hf.at_ m.digest rfl hf.digest hb).mono ?_
    rintro e w' (⟨rfl, ok, hs⟩ | ⟨rfl, no, hm⟩)
    · refine .inl ⟨rfl, ok, a1, c1, a2, c2, ?_, hI1, hI2⟩
      simp only [← List.append_assoc]
      exact hs
    · exact .inr ⟨rfl, no, hm⟩
  · have e1 : rest m = { m with kind := 0, move := 0, part := 0, code := 0 } := by unfold rest; rw [h1]; rfl
    have e2 : okF m = ((In m.move) ∧ (In m.part) ∧ (In m.code)) := by unfold okF; rw [h1]; rfl
    have e3 : (bodyC 10).enc m = P.enc m.move ++ (P.enc m.part ++ (P.enc m.code)) := rfl
    rw [e1, e2, h1, e3]
    refine (fields_w10 h m.move rfl m.part rfl m.code rfl hb).mono ?_
    rintro e w' (⟨rfl, ok, hs⟩ | ⟨rfl, no, hm⟩)
    · refine .inl ⟨rfl, ok, a1, c1, a2, c2, ?_, hI1, hI2⟩
      simp only [← List.append_assoc]
      exact hs
    · exact .inr ⟨rfl, no, hm⟩
  · have e1 : rest m = { m with kind := 0, move := 0, part := 0, epoch := 0, nodes := 0, owner := [] } := by unfold rest; rw [h1]; rfl
    have e2 : okF m = ((In m.move) ∧ (In m.part) ∧ (In m.epoch) ∧ (In m.nodes) ∧ (m.owner.length ≤ 64) ∧ (∀ x ∈ m.owner, In x)) := by unfold okF; rw [h1]; rfl
    have e3 : (bodyC 11).enc m = P.enc m.move ++ (P.enc m.part ++ ((P.enc m.epoch ++ (P.enc m.nodes ++ (listC P 64).enc m.owner)))) := rfl
    rw [e1, e2, h1, e3]
    refine (fields_w11 h m.move rfl m.part rfl m.epoch m.nodes m.owner a1 c1 rfl rfl rfl hI1 hf.owner hb).mono ?_
    rintro e w' (⟨rfl, ok, hs⟩ | ⟨rfl, no, hm⟩)
    · refine .inl ⟨rfl, ok, none, 0, a2, c2, ?_, nil _, hI2⟩
      simp only [← List.append_assoc]
      exact hs
    · exact .inr ⟨rfl, no, hm⟩
  · have e1 : rest m = { m with kind := 0, move := 0, part := 0 } := by unfold rest; rw [h1]; rfl
    have e2 : okF m = ((In m.move) ∧ (In m.part)) := by unfold okF; rw [h1]; rfl
    have e3 : (bodyC 12).enc m = P.enc m.move ++ (P.enc m.part) := rfl
    rw [e1, e2, h1, e3]
    refine (fields_w12 h m.move rfl m.part rfl hb).mono ?_
    rintro e w' (⟨rfl, ok, hs⟩ | ⟨rfl, no, hm⟩)
    · refine .inl ⟨rfl, ok, a1, c1, a2, c2, ?_, hI1, hI2⟩
      simp only [← List.append_assoc]
      exact hs
    · exact .inr ⟨rfl, no, hm⟩
  · have e1 : rest m = { m with kind := 0, move := 0, part := 0 } := by unfold rest; rw [h1]; rfl
    have e2 : okF m = ((In m.move) ∧ (In m.part)) := by unfold okF; rw [h1]; rfl
    have e3 : (bodyC 13).enc m = P.enc m.move ++ (P.enc m.part) := rfl
    rw [e1, e2, h1, e3]
    refine (fields_w13 h m.move rfl m.part rfl hb).mono ?_
    rintro e w' (⟨rfl, ok, hs⟩ | ⟨rfl, no, hm⟩)
    · refine .inl ⟨rfl, ok, a1, c1, a2, c2, ?_, hI1, hI2⟩
      simp only [← List.append_assoc]
      exact hs
    · exact .inr ⟨rfl, no, hm⟩
  · have e1 : rest m = { m with kind := 0, epoch := 0, nodes := 0, owner := [] } := by unfold rest; rw [h1]; rfl
    have e2 : okF m = ((In m.epoch) ∧ (In m.nodes) ∧ (m.owner.length ≤ 64) ∧ (∀ x ∈ m.owner, In x)) := by unfold okF; rw [h1]; rfl
    have e3 : (bodyC 14).enc m = (P.enc m.epoch ++ (P.enc m.nodes ++ (listC P 64).enc m.owner)) := rfl
    rw [e1, e2, h1, e3]
    refine (fields_w14 h m.epoch m.nodes m.owner a1 c1 rfl rfl rfl hI1 hf.owner hb).mono ?_
    rintro e w' (⟨rfl, ok, hs⟩ | ⟨rfl, no, hm⟩)
    · refine .inl ⟨rfl, ok, none, 0, a2, c2, ?_, nil _, hI2⟩
      simp only [← List.append_assoc]
      exact hs
    · exact .inr ⟨rfl, no, hm⟩
end Go.Proofs.YtkbmbcmcnpeabaaDoor

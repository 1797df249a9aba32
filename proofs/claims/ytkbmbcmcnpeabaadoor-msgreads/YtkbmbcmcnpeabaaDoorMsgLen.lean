/- A right message has at most 16384 bytes. No conditions. -/
import Derived.Test.YtkbmbcmcnpeabaaDoorMsgMath
namespace Go.Proofs.YtkbmbcmcnpeabaaDoor.Pk

theorem P_len {x : Int} (h : In x) : (P.enc x).length ≤ 10 := by
  show (numBytes x.toNat).length ≤ 10
  exact numBytes_length _ (by have := h.2; unfold m31 at this; omega)
theorem int_len {x : Int} (h : I64 x) : (intC.enc x).length ≤ 10 := numBytes_length _ (zig_lt x h)
theorem num_len {x : Nat} (h : x < 2 ^ 64) : (numC.enc x).length ≤ 10 := numBytes_length _ h
theorem text_len_le (m : Nat) (l : List UInt8) (h : l.length ≤ m) (hm : m ≤ 1024) : ((textC m).enc l).length ≤ 10 + m := by
  show (numBytes l.length ++ l).length ≤ 10 + m
  have := numBytes_length l.length (by omega)
  rw [List.length_append]; omega
theorem encN_len (l : List Int) (h : ∀ x ∈ l, In x) : (encN P l).length ≤ 10 * l.length := by
  induction l with
  | nil => simp [encN]
  | cons a r ih =>
    have h1 := P_len (h a (by simp))
    have h2 := ih (fun x hx => h x (by simp [hx]))
    simp only [encN, List.length_append, List.length_cons]
    omega
theorem list_len_le (m : Nat) (l : List Int) (h : l.length ≤ m ∧ ∀ x ∈ l, In x) (hm : m ≤ 1024) : ((listC P m).enc l).length ≤ 10 + 10 * m := by
  show (numBytes l.length ++ encN P l).length ≤ 10 + 10 * m
  have h1 := numBytes_length l.length (by omega)
  have h2 := encN_len l h.2
  rw [List.length_append]; omega
theorem item_len {x : ItemV} (h : x.Ok) : (itemC.enc x).length ≤ 400 := by
  have h0 := P_len h.src
  have h1 := P_len h.seq
  have h2 := P_len h.low
  have h3 := text_len_le 255 x.key h.key (by decide)
  have h4 := P_len h.part
  have h5 := int_len h.at_
  have h6 := int_len h.n
  show (P.enc x.src ++ (P.enc x.seq ++ (P.enc x.low ++ ([x.kind] ++ (keyC.enc x.key ++ (P.enc x.part ++ (intC.enc x.at_ ++ intC.enc x.n))))))).length ≤ 400
  unfold keyC
  simp only [List.length_append, List.length_cons, List.length_nil]
  omega
theorem msg_len {m : MsgV} (h : Right m) : (msgBytes m).length ≤ 16384 := by
  obtain ⟨hk, _, ok⟩ := h
  have b0 := P_len ok.move
  have b1 := P_len ok.part
  have b2 := P_len ok.to_
  have b3 := P_len ok.n
  have b4 := P_len ok.count
  have b5 := P_len ok.code
  have b6 := num_len ok.digest
  have b7 := int_len ok.at_
  have b8 := item_len ok.item
  have b9 := P_len ok.epoch
  have b10 := P_len ok.nodes
  have b11 : (ownersC.enc m.owner).length ≤ 650 := list_len_le 64 m.owner ok.owner (by decide)
  have b12 : (setC.enc m.set).length ≤ 10250 := list_len_le 1024 m.set ok.set (by decide)
  have b13 : (dataC.enc m.data).length ≤ 1034 := text_len_le 1024 m.data ok.data (by decide)
  have b14 := P_len ok.item.src
  have b15 := P_len ok.item.seq
  unfold msgBytes
  rw [List.length_cons]
  have : m.kind.toNat = 1 ∨ m.kind.toNat = 2 ∨ m.kind.toNat = 3 ∨ m.kind.toNat = 4 ∨ m.kind.toNat = 5 ∨ m.kind.toNat = 6 ∨ m.kind.toNat = 7 ∨ m.kind.toNat = 8 ∨ m.kind.toNat = 9 ∨ m.kind.toNat = 10 ∨ m.kind.toNat = 11 ∨ m.kind.toNat = 12 ∨ m.kind.toNat = 13 ∨ m.kind.toNat = 14 := by omega
  rcases this with e | e | e | e | e | e | e | e | e | e | e | e | e | e <;> rw [e]
  · show (itemC.enc m.item).length + 1 ≤ 16384
    omega
  · show (P.enc m.item.src ++ (P.enc m.item.seq ++ P.enc m.code)).length + 1 ≤ 16384
    simp only [List.length_append]; omega
  · show (P.enc m.item.src ++ (P.enc m.item.seq ++ (P.enc m.epoch ++ (P.enc m.nodes ++ ownersC.enc m.owner)))).length + 1 ≤ 16384
    simp only [List.length_append]; omega
  · show (P.enc m.move ++ (P.enc m.part ++ P.enc m.to_)).length + 1 ≤ 16384
    simp only [List.length_append]; omega
  · show (P.enc m.move ++ (P.enc m.part ++ (P.enc m.n ++ (P.enc m.count ++ dataC.enc m.data)))).length + 1 ≤ 16384
    simp only [List.length_append]; omega
  · show (P.enc m.move ++ (P.enc m.part ++ (P.enc m.n ++ setC.enc m.set))).length + 1 ≤ 16384
    simp only [List.length_append]; omega
  · show (P.enc m.move ++ (P.enc m.part ++ (P.enc m.n ++ itemC.enc m.item))).length + 1 ≤ 16384
    simp only [List.length_append]; omega
  · show (P.enc m.move ++ (P.enc m.part ++ P.enc m.n)).length + 1 ≤ 16384
    simp only [List.length_append]; omega
  · show (P.enc m.move ++ (P.enc m.part ++ (P.enc m.n ++ (intC.enc m.at_ ++ numC.enc m.digest)))).length + 1 ≤ 16384
    simp only [List.length_append]; omega
  · show (P.enc m.move ++ (P.enc m.part ++ P.enc m.code)).length + 1 ≤ 16384
    simp only [List.length_append]; omega
  · show (P.enc m.move ++ (P.enc m.part ++ (P.enc m.epoch ++ (P.enc m.nodes ++ ownersC.enc m.owner)))).length + 1 ≤ 16384
    simp only [List.length_append]; omega
  · show (P.enc m.move ++ P.enc m.part).length + 1 ≤ 16384
    simp only [List.length_append]; omega
  · show (P.enc m.move ++ P.enc m.part).length + 1 ≤ 16384
    simp only [List.length_append]; omega
  · show (P.enc m.epoch ++ (P.enc m.nodes ++ ownersC.enc m.owner)).length + 1 ≤ 16384
    simp only [List.length_append]; omega
end Go.Proofs.YtkbmbcmcnpeabaaDoor.Pk

/- Plain facts on messages, with no Go text in them: which are right, their bytes, and what any bytes are read as: what has bytes is read from them, what is read is right and has just these bytes, what is cut is short, and a byte more is one too many. No conditions. -/
import Derived.Test.YtkbmbcmcnpeabaaDoorCod
namespace Go.Proofs.YtkbmbcmcnpeabaaDoor.Pk

structure ItemV where
  src : Int
  seq : Int
  low : Int
  kind : UInt8
  key : List UInt8
  part : Int
  at_ : Int
  n : Int
structure MsgV where
  kind : UInt8
  move : Int
  part : Int
  to_ : Int
  n : Int
  count : Int
  code : Int
  digest : Nat
  at_ : Int
  item : ItemV
  epoch : Int
  nodes : Int
  owner : List Int
  set : List Int
  data : List UInt8
def ItemV.zero : ItemV := ⟨0, 0, 0, 0, [], 0, 0, 0⟩
def MsgV.zero : MsgV := ⟨0, 0, 0, 0, 0, 0, 0, 0, 0, ItemV.zero, 0, 0, [], [], []⟩
def m31 : Nat := 2147483647
def In (x : Int) : Prop := 0 ≤ x ∧ x ≤ (m31 : Int)
def I64 (x : Int) : Prop := -9223372036854775808 ≤ x ∧ x ≤ 9223372036854775807
/-- An item's fields are within their bounds. -/
structure ItemV.Ok (x : ItemV) : Prop where
  src : In x.src
  seq : In x.seq
  low : In x.low
  part : In x.part
  key : x.key.length ≤ 255
  at_ : I64 x.at_
  n : I64 x.n
/-- A message's fields are within their bounds. -/
structure MsgV.Ok (m : MsgV) : Prop where
  move : In m.move
  part : In m.part
  to_ : In m.to_
  n : In m.n
  count : In m.count
  code : In m.code
  digest : m.digest < 2 ^ 64
  at_ : I64 m.at_
  item : m.item.Ok
  epoch : In m.epoch
  nodes : In m.nodes
  owner : m.owner.length ≤ 64 ∧ ∀ x ∈ m.owner, In x
  set : m.set.length ≤ 1024 ∧ ∀ x ∈ m.set, In x
  data : m.data.length ≤ 1024
def short (x : ItemV) : ItemV := { ItemV.zero with src := x.src, seq := x.seq }

/-- A message with the fields of its kind alone. -/
def only (m : MsgV) : MsgV := match m.kind.toNat with
  | 1 => { MsgV.zero with kind := m.kind, item := m.item }
  | 2 => { MsgV.zero with kind := m.kind, item := { ItemV.zero with src := m.item.src, seq := m.item.seq }, code := m.code }
  | 3 => { MsgV.zero with kind := m.kind, item := { ItemV.zero with src := m.item.src, seq := m.item.seq }, epoch := m.epoch, nodes := m.nodes, owner := m.owner }
  | 4 => { MsgV.zero with kind := m.kind, move := m.move, part := m.part, to_ := m.to_ }
  | 5 => { MsgV.zero with kind := m.kind, move := m.move, part := m.part, n := m.n, count := m.count, data := m.data }
  | 6 => { MsgV.zero with kind := m.kind, move := m.move, part := m.part, n := m.n, set := m.set }
  | 7 => { MsgV.zero with kind := m.kind, move := m.move, part := m.part, n := m.n, item := m.item }
  | 8 => { MsgV.zero with kind := m.kind, move := m.move, part := m.part, n := m.n }
  | 9 => { MsgV.zero with kind := m.kind, move := m.move, part := m.part, n := m.n, at_ := m.at_, digest := m.digest }
  | 10 => { MsgV.zero with kind := m.kind, move := m.move, part := m.part, code := m.code }
  | 11 => { MsgV.zero with kind := m.kind, move := m.move, part := m.part, epoch := m.epoch, nodes := m.nodes, owner := m.owner }
  | 12 => { MsgV.zero with kind := m.kind, move := m.move, part := m.part }
  | 13 => { MsgV.zero with kind := m.kind, move := m.move, part := m.part }
  | 14 => { MsgV.zero with kind := m.kind, epoch := m.epoch, nodes := m.nodes, owner := m.owner }
  | _ => { MsgV.zero with kind := m.kind }
/-- A message is right. -/
structure Right (m : MsgV) : Prop where
  kind : 1 ≤ m.kind.toNat ∧ m.kind.toNat ≤ 14
  only : only m = m
  ok : m.Ok

def P : Cod Int := posC m31
theorem P_law : P.Law := posC_law m31 (by decide)
def dataC : Cod (List UInt8) := textC 1024
def ownersC : Cod (List Int) := listC P 64
def setC : Cod (List Int) := listC P 1024
theorem dataC_law : dataC.Law := textC_law 1024 (by decide)
theorem ownersC_law : ownersC.Law := listC_law P_law 64 (by decide)
theorem setC_law : setC.Law := listC_law P_law 1024 (by decide)
def keyC : Cod (List UInt8) := textC 255
theorem keyC_law : keyC.Law := textC_law 255 (by decide)

def itemT := (P.seq (P.seq (P.seq (byteC.seq (keyC.seq (P.seq (intC.seq intC 0 0) 0 (0, 0)) [] (0, (0, 0))) 0 ([], (0, (0, 0)))) 0 (0, ([], (0, (0, 0))))) 0 (0, (0, ([], (0, (0, 0)))))) 0 (0, (0, (0, ([], (0, (0, 0)))))))
theorem itemT_law : itemT.Law := (P_law.seq (P_law.seq (P_law.seq (byteC_law.seq (keyC_law.seq (P_law.seq (intC_law.seq intC_law 0 0) 0 (0, 0)) [] (0, (0, 0))) 0 ([], (0, (0, 0)))) 0 (0, ([], (0, (0, 0))))) 0 (0, (0, ([], (0, (0, 0)))))) 0 (0, (0, (0, ([], (0, (0, 0)))))))
def itemC : Cod ItemV := itemT.map (fun t => ⟨t.1, t.2.1, t.2.2.1, t.2.2.2.1, t.2.2.2.2.1, t.2.2.2.2.2.1, t.2.2.2.2.2.2.1, t.2.2.2.2.2.2.2⟩) (fun x => (x.src, x.seq, x.low, x.kind, x.key, x.part, x.at_, x.n)) ItemV.Ok
theorem itemC_law : itemC.Law := itemT_law.map _ _ _ (fun x h => ⟨⟨h.src, h.seq, h.low, trivial, ⟨h.key, rfl⟩, h.part, h.at_, h.n⟩, rfl⟩) (fun t h => by
  obtain ⟨h1, h2, h3, _, h5, h6, h7, h8⟩ := h
  exact ⟨⟨h1, h2, h3, h6, h5.1, h7, h8⟩, rfl⟩)
theorem zero_in : In 0 := ⟨by decide, by decide⟩
theorem zero_u64 : (0 : Nat) < 2 ^ 64 := by decide
theorem zero_i64 : I64 0 := ⟨by decide, by decide⟩
theorem ItemV.zero_ok : ItemV.zero.Ok := ⟨zero_in, zero_in, zero_in, zero_in, by decide, zero_i64, zero_i64⟩
theorem list_ok {m : Nat} {l : List Int} : (listC P m).ok l ↔ l.length ≤ m ∧ ∀ x ∈ l, In x := ⟨fun h => ⟨h.1, h.2.2⟩, fun h => ⟨h.1, rfl, h.2⟩⟩
theorem kind_is {m : MsgV} {k : Nat} (h : m.kind.toNat = k) (hk : k < 256) : UInt8.ofNat k = m.kind := by
  apply UInt8.toNat_inj.1
  rw [UInt8.toNat_ofNat', h]; omega
def okK (k : Nat) (m : MsgV) : Prop := m.kind.toNat = k ∧ only m = m ∧ m.Ok

def t1 := itemC
theorem t1_law : t1.Law := itemC_law
def f1 (t : ItemV) : MsgV := { MsgV.zero with kind := 1, item := t }
def g1 (m : MsgV) : ItemV := (m.item)
def b1 : Cod MsgV := t1.map f1 g1 (okK 1)
theorem b1_law : b1.Law := t1_law.map _ _ _ (fun m ⟨h1, h2, h3⟩ => ⟨h3.item, by
    have e : only m = f1 (g1 m) := by unfold only; rw [h1]; simp only [f1, g1, ← kind_is h1 (by decide)]; rfl
    rw [← e, h2]⟩) (fun t h => by
  have q0 := h
  exact ⟨⟨rfl, rfl, ⟨zero_in, zero_in, zero_in, zero_in, zero_in, zero_in, zero_u64, zero_i64, q0, zero_in, zero_in, ⟨Nat.zero_le _, fun _ h => by cases h⟩, ⟨Nat.zero_le _, fun _ h => by cases h⟩, Nat.zero_le _⟩⟩, rfl⟩)
def t2 := (P.seq (P.seq P 0 0) 0 (0, 0))
theorem t2_law : t2.Law := (P_law.seq (P_law.seq P_law 0 0) 0 (0, 0))
def f2 (t : Int × Int × Int) : MsgV := { MsgV.zero with kind := 2, item := { ItemV.zero with src := t.1, seq := t.2.1 }, code := t.2.2 }
def g2 (m : MsgV) : Int × Int × Int := (m.item.src, m.item.seq, m.code)
def b2 : Cod MsgV := t2.map f2 g2 (okK 2)
theorem b2_law : b2.Law := t2_law.map _ _ _ (fun m ⟨h1, h2, h3⟩ => ⟨⟨h3.item.src, h3.item.seq, h3.code⟩, by
    have e : only m = f2 (g2 m) := by unfold only; rw [h1]; simp only [f2, g2, ← kind_is h1 (by decide)]; rfl
    rw [← e, h2]⟩) (fun t h => by
  obtain ⟨q0, q1, q2⟩ := h
  exact ⟨⟨rfl, rfl, ⟨zero_in, zero_in, zero_in, zero_in, zero_in, q2, zero_u64, zero_i64, ⟨q0, q1, zero_in, zero_in, Nat.zero_le _, zero_i64, zero_i64⟩, zero_in, zero_in, ⟨Nat.zero_le _, fun _ h => by cases h⟩, ⟨Nat.zero_le _, fun _ h => by cases h⟩, Nat.zero_le _⟩⟩, rfl⟩)
def t3 := (P.seq (P.seq (P.seq (P.seq ownersC 0 []) 0 (0, [])) 0 (0, (0, []))) 0 (0, (0, (0, []))))
theorem t3_law : t3.Law := (P_law.seq (P_law.seq (P_law.seq (P_law.seq ownersC_law 0 []) 0 (0, [])) 0 (0, (0, []))) 0 (0, (0, (0, []))))
def f3 (t : Int × Int × Int × Int × List Int) : MsgV := { MsgV.zero with kind := 3, item := { ItemV.zero with src := t.1, seq := t.2.1 }, epoch := t.2.2.1, nodes := t.2.2.2.1, owner := t.2.2.2.2 }
def g3 (m : MsgV) : Int × Int × Int × Int × List Int := (m.item.src, m.item.seq, m.epoch, m.nodes, m.owner)
def b3 : Cod MsgV := t3.map f3 g3 (okK 3)
theorem b3_law : b3.Law := t3_law.map _ _ _ (fun m ⟨h1, h2, h3⟩ => ⟨⟨h3.item.src, h3.item.seq, h3.epoch, h3.nodes, list_ok.2 h3.owner⟩, by
    have e : only m = f3 (g3 m) := by unfold only; rw [h1]; simp only [f3, g3, ← kind_is h1 (by decide)]; rfl
    rw [← e, h2]⟩) (fun t h => by
  obtain ⟨q0, q1, q2, q3, q4⟩ := h
  exact ⟨⟨rfl, rfl, ⟨zero_in, zero_in, zero_in, zero_in, zero_in, zero_in, zero_u64, zero_i64, ⟨q0, q1, zero_in, zero_in, Nat.zero_le _, zero_i64, zero_i64⟩, q2, q3, list_ok.1 q4, ⟨Nat.zero_le _, fun _ h => by cases h⟩, Nat.zero_le _⟩⟩, rfl⟩)
def t4 := (P.seq (P.seq P 0 0) 0 (0, 0))
theorem t4_law : t4.Law := (P_law.seq (P_law.seq P_law 0 0) 0 (0, 0))
def f4 (t : Int × Int × Int) : MsgV := { MsgV.zero with kind := 4, move := t.1, part := t.2.1, to_ := t.2.2 }
def g4 (m : MsgV) : Int × Int × Int := (m.move, m.part, m.to_)
def b4 : Cod MsgV := t4.map f4 g4 (okK 4)
theorem b4_law : b4.Law := t4_law.map _ _ _ (fun m ⟨h1, h2, h3⟩ => ⟨⟨h3.move, h3.part, h3.to_⟩, by
    have e : only m = f4 (g4 m) := by unfold only; rw [h1]; simp only [f4, g4, ← kind_is h1 (by decide)]; rfl
    rw [← e, h2]⟩) (fun t h => by
  obtain ⟨q0, q1, q2⟩ := h
  exact ⟨⟨rfl, rfl, ⟨q0, q1, q2, zero_in, zero_in, zero_in, zero_u64, zero_i64, ItemV.zero_ok, zero_in, zero_in, ⟨Nat.zero_le _, fun _ h => by cases h⟩, ⟨Nat.zero_le _, fun _ h => by cases h⟩, Nat.zero_le _⟩⟩, rfl⟩)
def t5 := (P.seq (P.seq (P.seq (P.seq dataC 0 []) 0 (0, [])) 0 (0, (0, []))) 0 (0, (0, (0, []))))
theorem t5_law : t5.Law := (P_law.seq (P_law.seq (P_law.seq (P_law.seq dataC_law 0 []) 0 (0, [])) 0 (0, (0, []))) 0 (0, (0, (0, []))))
def f5 (t : Int × Int × Int × Int × List UInt8) : MsgV := { MsgV.zero with kind := 5, move := t.1, part := t.2.1, n := t.2.2.1, count := t.2.2.2.1, data := t.2.2.2.2 }
def g5 (m : MsgV) : Int × Int × Int × Int × List UInt8 := (m.move, m.part, m.n, m.count, m.data)
def b5 : Cod MsgV := t5.map f5 g5 (okK 5)
theorem b5_law : b5.Law := t5_law.map _ _ _ (fun m ⟨h1, h2, h3⟩ => ⟨⟨h3.move, h3.part, h3.n, h3.count, ⟨h3.data, rfl⟩⟩, by
    have e : only m = f5 (g5 m) := by unfold only; rw [h1]; simp only [f5, g5, ← kind_is h1 (by decide)]; rfl
    rw [← e, h2]⟩) (fun t h => by
  obtain ⟨q0, q1, q2, q3, q4⟩ := h
  exact ⟨⟨rfl, rfl, ⟨q0, q1, zero_in, q2, q3, zero_in, zero_u64, zero_i64, ItemV.zero_ok, zero_in, zero_in, ⟨Nat.zero_le _, fun _ h => by cases h⟩, ⟨Nat.zero_le _, fun _ h => by cases h⟩, q4.1⟩⟩, rfl⟩)
def t6 := (P.seq (P.seq (P.seq setC 0 []) 0 (0, [])) 0 (0, (0, [])))
theorem t6_law : t6.Law := (P_law.seq (P_law.seq (P_law.seq setC_law 0 []) 0 (0, [])) 0 (0, (0, [])))
def f6 (t : Int × Int × Int × List Int) : MsgV := { MsgV.zero with kind := 6, move := t.1, part := t.2.1, n := t.2.2.1, set := t.2.2.2 }
def g6 (m : MsgV) : Int × Int × Int × List Int := (m.move, m.part, m.n, m.set)
def b6 : Cod MsgV := t6.map f6 g6 (okK 6)
theorem b6_law : b6.Law := t6_law.map _ _ _ (fun m ⟨h1, h2, h3⟩ => ⟨⟨h3.move, h3.part, h3.n, list_ok.2 h3.set⟩, by
    have e : only m = f6 (g6 m) := by unfold only; rw [h1]; simp only [f6, g6, ← kind_is h1 (by decide)]; rfl
    rw [← e, h2]⟩) (fun t h => by
  obtain ⟨q0, q1, q2, q3⟩ := h
  exact ⟨⟨rfl, rfl, ⟨q0, q1, zero_in, q2, zero_in, zero_in, zero_u64, zero_i64, ItemV.zero_ok, zero_in, zero_in, ⟨Nat.zero_le _, fun _ h => by cases h⟩, list_ok.1 q3, Nat.zero_le _⟩⟩, rfl⟩)
def t7 := (P.seq (P.seq (P.seq itemC 0 ItemV.zero) 0 (0, ItemV.zero)) 0 (0, (0, ItemV.zero)))
theorem t7_law : t7.Law := (P_law.seq (P_law.seq (P_law.seq itemC_law 0 ItemV.zero) 0 (0, ItemV.zero)) 0 (0, (0, ItemV.zero)))
def f7 (t : Int × Int × Int × ItemV) : MsgV := { MsgV.zero with kind := 7, move := t.1, part := t.2.1, n := t.2.2.1, item := t.2.2.2 }
def g7 (m : MsgV) : Int × Int × Int × ItemV := (m.move, m.part, m.n, m.item)
def b7 : Cod MsgV := t7.map f7 g7 (okK 7)
theorem b7_law : b7.Law := t7_law.map _ _ _ (fun m ⟨h1, h2, h3⟩ => ⟨⟨h3.move, h3.part, h3.n, h3.item⟩, by
    have e : only m = f7 (g7 m) := by unfold only; rw [h1]; simp only [f7, g7, ← kind_is h1 (by decide)]; rfl
    rw [← e, h2]⟩) (fun t h => by
  obtain ⟨q0, q1, q2, q3⟩ := h
  exact ⟨⟨rfl, rfl, ⟨q0, q1, zero_in, q2, zero_in, zero_in, zero_u64, zero_i64, q3, zero_in, zero_in, ⟨Nat.zero_le _, fun _ h => by cases h⟩, ⟨Nat.zero_le _, fun _ h => by cases h⟩, Nat.zero_le _⟩⟩, rfl⟩)
def t8 := (P.seq (P.seq P 0 0) 0 (0, 0))
theorem t8_law : t8.Law := (P_law.seq (P_law.seq P_law 0 0) 0 (0, 0))
def f8 (t : Int × Int × Int) : MsgV := { MsgV.zero with kind := 8, move := t.1, part := t.2.1, n := t.2.2 }
def g8 (m : MsgV) : Int × Int × Int := (m.move, m.part, m.n)
def b8 : Cod MsgV := t8.map f8 g8 (okK 8)
theorem b8_law : b8.Law := t8_law.map _ _ _ (fun m ⟨h1, h2, h3⟩ => ⟨⟨h3.move, h3.part, h3.n⟩, by
    have e : only m = f8 (g8 m) := by unfold only; rw [h1]; simp only [f8, g8, ← kind_is h1 (by decide)]; rfl
    rw [← e, h2]⟩) (fun t h => by
  obtain ⟨q0, q1, q2⟩ := h
  exact ⟨⟨rfl, rfl, ⟨q0, q1, zero_in, q2, zero_in, zero_in, zero_u64, zero_i64, ItemV.zero_ok, zero_in, zero_in, ⟨Nat.zero_le _, fun _ h => by cases h⟩, ⟨Nat.zero_le _, fun _ h => by cases h⟩, Nat.zero_le _⟩⟩, rfl⟩)
def t9 := (P.seq (P.seq (P.seq (intC.seq numC 0 0) 0 (0, 0)) 0 (0, (0, 0))) 0 (0, (0, (0, 0))))
theorem t9_law : t9.Law := (P_law.seq (P_law.seq (P_law.seq (intC_law.seq numC_law 0 0) 0 (0, 0)) 0 (0, (0, 0))) 0 (0, (0, (0, 0))))
def f9 (t : Int × Int × Int × Int × Nat) : MsgV := { MsgV.zero with kind := 9, move := t.1, part := t.2.1, n := t.2.2.1, at_ := t.2.2.2.1, digest := t.2.2.2.2 }
def g9 (m : MsgV) : Int × Int × Int × Int × Nat := (m.move, m.part, m.n, m.at_, m.digest)
def b9 : Cod MsgV := t9.map f9 g9 (okK 9)
theorem b9_law : b9.Law := t9_law.map _ _ _ (fun m ⟨h1, h2, h3⟩ => ⟨⟨h3.move, h3.part, h3.n, h3.at_, h3.digest⟩, by
    have e : only m = f9 (g9 m) := by unfold only; rw [h1]; simp only [f9, g9, ← kind_is h1 (by decide)]; rfl
    rw [← e, h2]⟩) (fun t h => by
  obtain ⟨q0, q1, q2, q3, q4⟩ := h
  exact ⟨⟨rfl, rfl, ⟨q0, q1, zero_in, q2, zero_in, zero_in, q4, q3, ItemV.zero_ok, zero_in, zero_in, ⟨Nat.zero_le _, fun _ h => by cases h⟩, ⟨Nat.zero_le _, fun _ h => by cases h⟩, Nat.zero_le _⟩⟩, rfl⟩)
def t10 := (P.seq (P.seq P 0 0) 0 (0, 0))
theorem t10_law : t10.Law := (P_law.seq (P_law.seq P_law 0 0) 0 (0, 0))
def f10 (t : Int × Int × Int) : MsgV := { MsgV.zero with kind := 10, move := t.1, part := t.2.1, code := t.2.2 }
def g10 (m : MsgV) : Int × Int × Int := (m.move, m.part, m.code)
def b10 : Cod MsgV := t10.map f10 g10 (okK 10)
theorem b10_law : b10.Law := t10_law.map _ _ _ (fun m ⟨h1, h2, h3⟩ => ⟨⟨h3.move, h3.part, h3.code⟩, by
    have e : only m = f10 (g10 m) := by unfold only; rw [h1]; simp only [f10, g10, ← kind_is h1 (by decide)]; rfl
    rw [← e, h2]⟩) (fun t h => by
  obtain ⟨q0, q1, q2⟩ := h
  exact ⟨⟨rfl, rfl, ⟨q0, q1, zero_in, zero_in, zero_in, q2, zero_u64, zero_i64, ItemV.zero_ok, zero_in, zero_in, ⟨Nat.zero_le _, fun _ h => by cases h⟩, ⟨Nat.zero_le _, fun _ h => by cases h⟩, Nat.zero_le _⟩⟩, rfl⟩)
def t11 := (P.seq (P.seq (P.seq (P.seq ownersC 0 []) 0 (0, [])) 0 (0, (0, []))) 0 (0, (0, (0, []))))
theorem t11_law : t11.Law := (P_law.seq (P_law.seq (P_law.seq (P_law.seq ownersC_law 0 []) 0 (0, [])) 0 (0, (0, []))) 0 (0, (0, (0, []))))
def f11 (t : Int × Int × Int × Int × List Int) : MsgV := { MsgV.zero with kind := 11, move := t.1, part := t.2.1, epoch := t.2.2.1, nodes := t.2.2.2.1, owner := t.2.2.2.2 }
def g11 (m : MsgV) : Int × Int × Int × Int × List Int := (m.move, m.part, m.epoch, m.nodes, m.owner)
def b11 : Cod MsgV := t11.map f11 g11 (okK 11)
theorem b11_law : b11.Law := t11_law.map _ _ _ (fun m ⟨h1, h2, h3⟩ => ⟨⟨h3.move, h3.part, h3.epoch, h3.nodes, list_ok.2 h3.owner⟩, by
    have e : only m = f11 (g11 m) := by unfold only; rw [h1]; simp only [f11, g11, ← kind_is h1 (by decide)]; rfl
    rw [← e, h2]⟩) (fun t h => by
  obtain ⟨q0, q1, q2, q3, q4⟩ := h
  exact ⟨⟨rfl, rfl, ⟨q0, q1, zero_in, zero_in, zero_in, zero_in, zero_u64, zero_i64, ItemV.zero_ok, q2, q3, list_ok.1 q4, ⟨Nat.zero_le _, fun _ h => by cases h⟩, Nat.zero_le _⟩⟩, rfl⟩)
def t12 := (P.seq P 0 0)
theorem t12_law : t12.Law := (P_law.seq P_law 0 0)
def f12 (t : Int × Int) : MsgV := { MsgV.zero with kind := 12, move := t.1, part := t.2 }
def g12 (m : MsgV) : Int × Int := (m.move, m.part)
def b12 : Cod MsgV := t12.map f12 g12 (okK 12)
theorem b12_law : b12.Law := t12_law.map _ _ _ (fun m ⟨h1, h2, h3⟩ => ⟨⟨h3.move, h3.part⟩, by
    have e : only m = f12 (g12 m) := by unfold only; rw [h1]; simp only [f12, g12, ← kind_is h1 (by decide)]; rfl
    rw [← e, h2]⟩) (fun t h => by
  obtain ⟨q0, q1⟩ := h
  exact ⟨⟨rfl, rfl, ⟨q0, q1, zero_in, zero_in, zero_in, zero_in, zero_u64, zero_i64, ItemV.zero_ok, zero_in, zero_in, ⟨Nat.zero_le _, fun _ h => by cases h⟩, ⟨Nat.zero_le _, fun _ h => by cases h⟩, Nat.zero_le _⟩⟩, rfl⟩)
def t13 := (P.seq P 0 0)
theorem t13_law : t13.Law := (P_law.seq P_law 0 0)
def f13 (t : Int × Int) : MsgV := { MsgV.zero with kind := 13, move := t.1, part := t.2 }
def g13 (m : MsgV) : Int × Int := (m.move, m.part)
def b13 : Cod MsgV := t13.map f13 g13 (okK 13)
theorem b13_law : b13.Law := t13_law.map _ _ _ (fun m ⟨h1, h2, h3⟩ => ⟨⟨h3.move, h3.part⟩, by
    have e : only m = f13 (g13 m) := by unfold only; rw [h1]; simp only [f13, g13, ← kind_is h1 (by decide)]; rfl
    rw [← e, h2]⟩) (fun t h => by
  obtain ⟨q0, q1⟩ := h
  exact ⟨⟨rfl, rfl, ⟨q0, q1, zero_in, zero_in, zero_in, zero_in, zero_u64, zero_i64, ItemV.zero_ok, zero_in, zero_in, ⟨Nat.zero_le _, fun _ h => by cases h⟩, ⟨Nat.zero_le _, fun _ h => by cases h⟩, Nat.zero_le _⟩⟩, rfl⟩)
def t14 := (P.seq (P.seq ownersC 0 []) 0 (0, []))
theorem t14_law : t14.Law := (P_law.seq (P_law.seq ownersC_law 0 []) 0 (0, []))
def f14 (t : Int × Int × List Int) : MsgV := { MsgV.zero with kind := 14, epoch := t.1, nodes := t.2.1, owner := t.2.2 }
def g14 (m : MsgV) : Int × Int × List Int := (m.epoch, m.nodes, m.owner)
def b14 : Cod MsgV := t14.map f14 g14 (okK 14)
theorem b14_law : b14.Law := t14_law.map _ _ _ (fun m ⟨h1, h2, h3⟩ => ⟨⟨h3.epoch, h3.nodes, list_ok.2 h3.owner⟩, by
    have e : only m = f14 (g14 m) := by unfold only; rw [h1]; simp only [f14, g14, ← kind_is h1 (by decide)]; rfl
    rw [← e, h2]⟩) (fun t h => by
  obtain ⟨q0, q1, q2⟩ := h
  exact ⟨⟨rfl, rfl, ⟨zero_in, zero_in, zero_in, zero_in, zero_in, zero_in, zero_u64, zero_i64, ItemV.zero_ok, q0, q1, list_ok.1 q2, ⟨Nat.zero_le _, fun _ h => by cases h⟩, Nat.zero_le _⟩⟩, rfl⟩)
/-- What stands behind the kind. -/
def bodyC (k : Nat) : Cod MsgV := match k with
  | 1 => b1
  | 2 => b2
  | 3 => b3
  | 4 => b4
  | 5 => b5
  | 6 => b6
  | 7 => b7
  | 8 => b8
  | 9 => b9
  | 10 => b10
  | 11 => b11
  | 12 => b12
  | 13 => b13
  | 14 => b14
  | _ => ⟨fun _ => False, fun _ => [], fun _ => (MsgV.zero, 0, 8)⟩
theorem bodyC_law (k : Nat) : (bodyC k).Law := by
  unfold bodyC
  split
  · exact b1_law
  · exact b2_law
  · exact b3_law
  · exact b4_law
  · exact b5_law
  · exact b6_law
  · exact b7_law
  · exact b8_law
  · exact b9_law
  · exact b10_law
  · exact b11_law
  · exact b12_law
  · exact b13_law
  · exact b14_law
  · exact ⟨fun _ _ h => h.elim, fun _ _ _ h => by simp at h, fun _ _ h => h.elim, fun _ => ⟨Nat.le_refl _, Nat.zero_le _⟩⟩
theorem bodyC_ok (k : Nat) (hk : 1 ≤ k ∧ k ≤ 14) : (bodyC k).ok = okK k := by
  have : k = 1 ∨ k = 2 ∨ k = 3 ∨ k = 4 ∨ k = 5 ∨ k = 6 ∨ k = 7 ∨ k = 8 ∨ k = 9 ∨ k = 10 ∨ k = 11 ∨ k = 12 ∨ k = 13 ∨ k = 14 := by omega
  rcases this with rfl | rfl | rfl | rfl | rfl | rfl | rfl | rfl | rfl | rfl | rfl | rfl | rfl | rfl <;> rfl

/-- A message's bytes. -/
def msgBytes (m : MsgV) : List UInt8 := m.kind :: (bodyC m.kind.toNat).enc m
/-- What any bytes are read as. -/
def readMsg (l : List UInt8) : MsgV × Nat := match l with
  | [] => (MsgV.zero, 7)
  | c :: t => if c.toNat < 1 ∨ 14 < c.toNat then (MsgV.zero, 10)
    else if ((bodyC c.toNat).dec t).2.2 ≠ 0 then (MsgV.zero, ((bodyC c.toNat).dec t).2.2)
    else if ((bodyC c.toNat).dec t).2.1 < t.length then (MsgV.zero, 8)
    else (((bodyC c.toNat).dec t).1, 0)
theorem Right.body {m : MsgV} (h : Right m) : (bodyC m.kind.toNat).ok m := by
  rw [bodyC_ok _ h.kind]
  exact ⟨rfl, h.only, h.ok⟩
/-- What has bytes is read from them. -/
theorem msg_back {m : MsgV} (h : Right m) : readMsg (msgBytes m) = (m, 0) := by
  have e := (bodyC_law m.kind.toNat).back m [] h.body
  rw [List.append_nil] at e
  have hk := h.kind
  unfold readMsg msgBytes
  simp only []
  rw [if_neg (by omega), e, if_neg (fun h => h rfl), if_neg (by simp)]
/-- A byte more is one too many. -/
theorem msg_more {m : MsgV} (h : Right m) (x : UInt8) : readMsg (msgBytes m ++ [x]) = (MsgV.zero, 8) := by
  have e := (bodyC_law m.kind.toNat).back m [x] h.body
  have hk := h.kind
  unfold readMsg msgBytes
  simp only [List.cons_append]
  rw [if_neg (by omega), e, if_neg (fun h => h rfl), if_pos (by simp)]
/-- What is cut is short. -/
theorem msg_cut {m : MsgV} (h : Right m) (k : Nat) (hk : k < (msgBytes m).length) : readMsg ((msgBytes m).take k) = (MsgV.zero, 7) := by
  have hK := h.kind
  cases k with
  | zero => rfl
  | succ k =>
    have e := (bodyC_law m.kind.toNat).cut m k h.body (by simpa [msgBytes] using hk)
    unfold readMsg msgBytes
    simp only [List.take_succ_cons]
    rw [if_neg (by omega), if_pos (by rw [e]; decide), e]
/-- What is read is right, and has just these bytes. -/
theorem msg_just {l : List UInt8} {m : MsgV} (h : readMsg l = (m, 0)) : Right m ∧ msgBytes m = l := by
  unfold readMsg at h
  match l, h with
  | [], h => simp at h
  | c :: t, h =>
    simp only [] at h
    by_cases h1 : c.toNat < 1 ∨ 14 < c.toNat
    · rw [if_pos h1] at h; simp at h
    · rw [if_neg h1] at h
      by_cases h2 : ((bodyC c.toNat).dec t).2.2 = 0
      · rw [if_neg (fun h' => h' h2)] at h
        by_cases h3 : ((bodyC c.toNat).dec t).2.1 < t.length
        · rw [if_pos h3] at h; simp at h
        · rw [if_neg h3] at h
          simp only [Prod.mk.injEq, and_true] at h
          subst h
          obtain ⟨o, l1, tk⟩ := (bodyC_law c.toNat).just t ((bodyC c.toNat).dec t).1 ((bodyC c.toNat).dec t).2.1 (Prod.ext rfl (Prod.ext rfl h2))
          rw [bodyC_ok _ (by omega)] at o
          obtain ⟨k1, k2, k3⟩ := o
          have hc : ((bodyC c.toNat).dec t).1.kind = c := UInt8.toNat_inj.1 k1
          refine ⟨⟨by omega, k2, k3⟩, ?_⟩
          unfold msgBytes
          rw [k1, ← tk, List.take_of_length_le (by omega), hc]
      · rw [if_pos h2] at h
        simp only [Prod.mk.injEq] at h
        exact absurd h.2 h2
theorem msg_fault (l : List UInt8) : (readMsg l).2 = 0 ∨ (readMsg l).1 = MsgV.zero := by
  unfold readMsg
  repeat' split
  all_goals simp
theorem msg_inj {a b : MsgV} (ha : Right a) (hb : Right b) (h : msgBytes a = msgBytes b) : a = b := by
  have e := msg_back ha
  rw [h, msg_back hb] at e
  simp only [Prod.mk.injEq, and_true] at e
  exact e.symm
end Go.Proofs.YtkbmbcmcnpeabaaDoor.Pk

/- Part 7 of the proof. -/
import Derived.Test.YtejglhlodfhgkaaGreatDoorXv6
namespace Go.Proofs.YtejglhlodfhgkaaGreatDoor
set_option linter.unusedVariables false
set_option linter.unusedSimpArgs false
open Go.RowKit
set_option maxRecDepth 100000
set_option linter.unusedSimpArgs false
set_option linter.unusedVariables false
theorem RowsIn.keep {α : Type} {n : Nat} {C : α → List Value} {w w' : World} {v : Value} {l : List α} (h : RowsIn n C w v l) (hs : w.heap.size ≤ w'.heap.size) (hk : ∀ k, v.ownBlock = some k → w'.heap[k]? = w.heap[k]?) : RowsIn n C w' v l := by
  obtain ⟨a, cap, rfl, hc, hm, hx⟩ := h
  refine ⟨a, cap, rfl, hc, hm, hx.imp id ?_⟩
  rintro ⟨ab, ao, rfl, hlt, hx⟩
  exact ⟨ab, ao, rfl, Nat.lt_of_lt_of_le hlt hs, fun i p hi j u hu => (World.cell?_of_block (hk ab rfl)).trans (hx i p hi j u hu)⟩
theorem rows_nil15 {α : Type} {n : Nat} {C : α → List Value} (w : World) : RowsIn n C w (.slice none 0 0) [] := ⟨none, 0, rfl, by simp, by simp [maxLen], .inl rfl⟩
theorem RowsIn.len_le {α : Type} {n : Nat} {C : α → List Value} {w : World} {v : Value} {l : List α} (h : RowsIn n C w v l) : l.length ≤ maxLen := by obtain ⟨a, c, e, h1, h2⟩ := h.len; exact h2
abbrev StIn (w : World) (v : Value) (l : List ByteArray) : Prop := RowsIn 1 (fun s => [.string s]) w v l
abbrev ItIn (w : World) (v : Value) (l : List Int) : Prop := RowsIn 1 (fun i => [.int .i64 i]) w v l
/-- a message -/
structure Mg where
  kind : Int
  tv : Value
  ts : List ByteArray
  iv : Value
  is : List Int
  dv : Value
  ds : List Tb
def mgL (m : Mg) : List Value := [.int .i64 m.kind, m.tv, m.iv, m.dv]
def mgC (m : Mg) : Array Value := #[.int .i64 m.kind, m.tv, m.iv, m.dv]
abbrev MgIn (w : World) (v : Value) (l : List Mg) : Prop := RowsIn 4 mgL w v l
/-- a message's parts in memory -/
structure MgE (w : World) (m : Mg) : Prop where
  t : StIn w m.tv m.ts
  i : ItIn w m.iv m.is
  d : TbIn w m.dv m.ds
  b : ∀ t ∈ m.ds, BytesIn w t.bv t.bs
theorem MgE.below {w w' : World} {m : Mg} (h : MgE w m) (hb : Below w.heap.size w w') : MgE w' m := ⟨h.t.below hb, h.i.below hb, h.d.below hb, fun t ht => (h.b t ht).below hb⟩
/-- the parts' values are slices -/
structure MgV (m : Mg) : Prop where
  t : ∃ a c, m.tv = .slice a m.ts.length c
  i : ∃ a c, m.iv = .slice a m.is.length c
  d : ∃ a c, m.dv = .slice a m.ds.length c
theorem MgE.v {w : World} {m : Mg} (h : MgE w m) : MgV m := by
  obtain ⟨a, c, e1, -⟩ := h.t.len
  obtain ⟨a2, c2, e2, -⟩ := h.i.len
  obtain ⟨a3, c3, e3, -⟩ := h.d.len
  exact ⟨⟨a, c, e1⟩, ⟨a2, c2, e2⟩, ⟨a3, c3, e3⟩⟩
theorem mgC_one {m : Mg} (h : MgV m) : (mgC m).all (·.oneCell') = true := by
  obtain ⟨⟨a, c, e1⟩, ⟨a2, c2, e2⟩, ⟨a3, c3, e3⟩⟩ := h
  unfold mgC
  rw [e1, e2, e3]; simp [Value.oneCell']
theorem mgC_nest {m : Mg} (h : MgV m) : ∀ v ∈ (mgC m).toList, v.oneCell' = true := List.all_eq_true.1 (by rw [Array.all_toList]; exact mgC_one h)
/-- the blocks of a message's parts -/
def mgF (m : Mg) (k : Nat) : Prop := m.tv.ownBlock = some k ∨ m.iv.ownBlock = some k ∨ m.dv.ownBlock = some k ∨ ∃ t ∈ m.ds, t.bv.ownBlock = some k
theorem MgE.keep {w w' : World} {m : Mg} (h : MgE w m) (hs : w.heap.size ≤ w'.heap.size) (hk : ∀ k, mgF m k → w'.heap[k]? = w.heap[k]?) : MgE w' m :=
  ⟨h.t.keep hs fun k e => hk k (.inl e), h.i.keep hs fun k e => hk k (.inr (.inl e)), h.d.keep hs fun k e => hk k (.inr (.inr (.inl e))), fun t ht => by
    obtain ⟨a, c, e, h1, h2, h3⟩ := h.b t ht
    refine ⟨a, c, e, h1, h2, h3.imp id ?_⟩
    rintro ⟨ab, ao, rfl, hx⟩
    exact ⟨ab, ao, rfl, fun i x hi => (World.cell?_of_block (hk ab (.inr (.inr (.inr ⟨t, ht, by rw [e]; rfl⟩))))).trans (hx i x hi)⟩⟩
/-- a transaction -/
structure Tr where
  acc : ByteArray
  seq : Int
  den : ByteArray
  amt : Int
  mv : Value
  ms : List Mg
  sv : Value
  sg : List Int
def trC15 (x : Tr) : Array Value := #[.string x.acc, .int .i64 x.seq, .string x.den, .int .i64 x.amt, x.mv, x.sv]
theorem trC15_size (x : Tr) : (trC15 x).size = 6 := rfl
structure TrE (w : World) (x : Tr) : Prop where
  m : MgIn w x.mv x.ms
  e : ∀ m ∈ x.ms, MgE w m
  s : BytesIn w x.sv x.sg
theorem TrE.below {w w' : World} {x : Tr} (h : TrE w x) (hb : Below w.heap.size w w') : TrE w' x := ⟨h.m.below hb, fun m hm => (h.e m hm).below hb, h.s.below hb⟩
structure TrV15 (x : Tr) : Prop where
  m : ∃ a c, x.mv = .slice a x.ms.length c
  s : ∃ a c, x.sv = .slice a x.sg.length c
theorem TrE.v {w : World} {x : Tr} (h : TrE w x) : TrV15 x := by
  obtain ⟨a, c, e1, -⟩ := h.m.len
  obtain ⟨a2, c2, e2, -⟩ := h.s
  exact ⟨⟨a, c, e1⟩, ⟨a2, c2, e2⟩⟩
theorem trC15_one {x : Tr} (h : TrV15 x) : (trC15 x).all (·.oneCell') = true := by
  obtain ⟨⟨a, c, e1⟩, ⟨a2, c2, e2⟩⟩ := h
  unfold trC15
  rw [e1, e2]; simp [Value.oneCell']
/-- a message's values alone -/
structure Pm where
  kind : Int
  ts : List ByteArray
  is : List Int
  ds : List (List Int)
def mgP (m : Mg) : Pm := ⟨m.kind, m.ts, m.is, m.ds.map Tb.bs⟩
structure Px where
  acc : ByteArray
  seq : Int
  den : ByteArray
  amt : Int
  ms : List Pm
  sg : List Int
def pxP (x : Tr) : Px := ⟨x.acc, x.seq, x.den, x.amt, x.ms.map mgP, x.sg⟩
def i64b (i : Int) : Prop := -9223372036854775808 ≤ i ∧ i ≤ 9223372036854775807
structure MgFl (m : Mg) : Prop where
  k : i64b m.kind
  i : ∀ i ∈ m.is, i64b i
structure TrFl (x : Tr) : Prop where
  s : i64b x.seq
  a : i64b x.amt
  m : ∀ m ∈ x.ms, MgFl m
/-- bytes -/
def st1 (s : ByteArray) : List Int := varint s.size ++ numsOf s
def it1 (i : Int) : List Int := varint (zig i)
def mg1 (m : Mg) : List Int := it1 m.kind ++ (listL st1 m.ts ++ (listL it1 m.is ++ listL tb1 m.ds))
def tr1 (x : Tr) : List Int := (((st1 x.acc ++ it1 x.seq) ++ st1 x.den) ++ it1 x.amt) ++ listL mg1 x.ms
def trB (x : Tr) : List Int := tr1 x ++ (varint x.sg.length ++ x.sg)
def trS (chain : ByteArray) (x : Tr) : List Int := (st1 { data := #[116, 120] } ++ st1 chain) ++ tr1 x
theorem it1_len {i : Int} (h : i64b i) : (it1 i).length ≤ 10 := glenT (zig_lt h.1 h.2)
theorem st1_len (s : ByteArray) : (st1 s).length = (varint s.size).length + s.size := by unfold st1; rw [List.length_append, numsOf_length]
end Go.Proofs.YtejglhlodfhgkaaGreatDoor

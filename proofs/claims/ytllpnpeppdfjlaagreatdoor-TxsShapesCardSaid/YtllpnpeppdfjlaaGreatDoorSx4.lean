/- Part 4 of the proof. -/
import Derived.Shelf.Strings.SlTrimAscii
import Derived.Shelf.Strings.OnBuilder
import Derived.Shelf.Strings.Search2
import Derived.Test.YtllpnpeppdfjlaaGreatDoorProg
import Derived.Great.BuildSlice
import Derived.Shelf.Small.Wraps
import Derived.Shelf.Strings.Split
import Derived.Laws.BytesArg
import Derived.Shelf.Small.Bits
import Derived.Shelf.Small.Strs
import Derived.Shelf.Strconv.Itoa0
import Derived.Shelf.Strings.Search1
import Derived.Test.YtllpnpeppdfjlaaGreatDoorSx3
namespace Go.Proofs.YtllpnpeppdfjlaaGreatDoor
set_option linter.unusedVariables false
set_option linter.unusedSimpArgs false
open Go.RowKit
set_option maxRecDepth 100000
set_option linter.unusedSimpArgs false
set_option linter.unusedVariables false
theorem RowsIn.keep {α : Type} {n : Nat} {C : α → List Value} {w w' : World} {v : Value} {l : List α} (h : RowsIn n C w v l) (hs : w.heap.size ≤ w'.heap.size) (hk : ∀ k, v.ownBlock = some k → w'.heap[k]? = w.heap[k]?) : RowsIn n C w' v l := by
  obtain ⟨a, cap, rfl, hc, hm, hx⟩ := h
  refine ⟨a, cap, rfl, hc, hm, hx.imp id ?_⟩
  rintro ⟨ab, ao, rfl, hlt, hx⟩
  exact ⟨ab, ao, rfl, Nat.lt_of_lt_of_le hlt hs, fun i p hi j u hu => (World.cell?_of_block (hk ab rfl)).trans (hx i p hi j u hu)⟩
theorem rows_nil15 {α : Type} {n : Nat} {C : α → List Value} (w : World) : RowsIn n C w (.slice none 0 0) [] := ⟨none, 0, rfl, by simp, by simp [maxLen], .inl rfl⟩
theorem RowsIn.len_le {α : Type} {n : Nat} {C : α → List Value} {w : World} {v : Value} {l : List α} (h : RowsIn n C w v l) : l.length ≤ maxLen := by obtain ⟨a, c, e, h1, h2⟩ := h.len; exact h2
abbrev StIn (w : World) (v : Value) (l : List ByteArray) : Prop := RowsIn 1 (fun s => [.string s]) w v l
abbrev ItIn (w : World) (v : Value) (l : List Int) : Prop := RowsIn 1 (fun i => [.int .i64 i]) w v l
/-- a message -/
structure Mg where
  kind : Int
  tv : Value
  ts : List ByteArray
  iv : Value
  is : List Int
  dv : Value
  ds : List Tb
def mgL (m : Mg) : List Value := [.int .i64 m.kind, m.tv, m.iv, m.dv]
def mgC (m : Mg) : Array Value := #[.int .i64 m.kind, m.tv, m.iv, m.dv]
abbrev MgIn (w : World) (v : Value) (l : List Mg) : Prop := RowsIn 4 mgL w v l
/-- a message's parts in memory -/
structure MgE (w : World) (m : Mg) : Prop where
  t : StIn w m.tv m.ts
  i : ItIn w m.iv m.is
  d : TbIn w m.dv m.ds
  b : ∀ t ∈ m.ds, BytesIn w t.bv t.bs
theorem MgE.below {w w' : World} {m : Mg} (h : MgE w m) (hb : Below w.heap.size w w') : MgE w' m := ⟨h.t.below hb, h.i.below hb, h.d.below hb, fun t ht => (h.b t ht).below hb⟩
/-- the parts' values are slices -/
structure MgV (m : Mg) : Prop where
  t : ∃ a c, m.tv = .slice a m.ts.length c
  i : ∃ a c, m.iv = .slice a m.is.length c
  d : ∃ a c, m.dv = .slice a m.ds.length c
theorem MgE.v {w : World} {m : Mg} (h : MgE w m) : MgV m := by
  obtain ⟨a, c, e1, -⟩ := h.t.len
  obtain ⟨a2, c2, e2, -⟩ := h.i.len
  obtain ⟨a3, c3, e3, -⟩ := h.d.len
  exact ⟨⟨a, c, e1⟩, ⟨a2, c2, e2⟩, ⟨a3, c3, e3⟩⟩
theorem mgC_one {m : Mg} (h : MgV m) : (mgC m).all (·.oneCell') = true := by
  obtain ⟨⟨a, c, e1⟩, ⟨a2, c2, e2⟩, ⟨a3, c3, e3⟩⟩ := h
  unfold mgC
  rw [e1, e2, e3]; simp [Value.oneCell']
theorem mgC_nest {m : Mg} (h : MgV m) : ∀ v ∈ (mgC m).toList, v.oneCell' = true := List.all_eq_true.1 (by rw [Array.all_toList]; exact mgC_one h)
/-- the blocks of a message's parts -/
def mgF (m : Mg) (k : Nat) : Prop := m.tv.ownBlock = some k ∨ m.iv.ownBlock = some k ∨ m.dv.ownBlock = some k ∨ ∃ t ∈ m.ds, t.bv.ownBlock = some k
theorem MgE.keep {w w' : World} {m : Mg} (h : MgE w m) (hs : w.heap.size ≤ w'.heap.size) (hk : ∀ k, mgF m k → w'.heap[k]? = w.heap[k]?) : MgE w' m :=
  ⟨h.t.keep hs fun k e => hk k (.inl e), h.i.keep hs fun k e => hk k (.inr (.inl e)), h.d.keep hs fun k e => hk k (.inr (.inr (.inl e))), fun t ht => by
    obtain ⟨a, c, e, h1, h2, h3⟩ := h.b t ht
    refine ⟨a, c, e, h1, h2, h3.imp id ?_⟩
    rintro ⟨ab, ao, rfl, hx⟩
    exact ⟨ab, ao, rfl, fun i x hi => (World.cell?_of_block (hk ab (.inr (.inr (.inr ⟨t, ht, by rw [e]; rfl⟩))))).trans (hx i x hi)⟩⟩
/-- a transaction -/
structure Tr where
  acc : ByteArray
  seq : Int
  den : ByteArray
  amt : Int
  mv : Value
  ms : List Mg
  sv : Value
  sg : List Int
def trC15 (x : Tr) : Array Value := #[.string x.acc, .int .i64 x.seq, .string x.den, .int .i64 x.amt, x.mv, x.sv]
theorem trC15_size (x : Tr) : (trC15 x).size = 6 := rfl
structure TrE (w : World) (x : Tr) : Prop where
  m : MgIn w x.mv x.ms
  e : ∀ m ∈ x.ms, MgE w m
  s : BytesIn w x.sv x.sg
theorem TrE.below {w w' : World} {x : Tr} (h : TrE w x) (hb : Below w.heap.size w w') : TrE w' x := ⟨h.m.below hb, fun m hm => (h.e m hm).below hb, h.s.below hb⟩
structure TrV15 (x : Tr) : Prop where
  m : ∃ a c, x.mv = .slice a x.ms.length c
  s : ∃ a c, x.sv = .slice a x.sg.length c
theorem TrE.v {w : World} {x : Tr} (h : TrE w x) : TrV15 x := by
  obtain ⟨a, c, e1, -⟩ := h.m.len
  obtain ⟨a2, c2, e2, -⟩ := h.s
  exact ⟨⟨a, c, e1⟩, ⟨a2, c2, e2⟩⟩
theorem trC15_one {x : Tr} (h : TrV15 x) : (trC15 x).all (·.oneCell') = true := by
  obtain ⟨⟨a, c, e1⟩, ⟨a2, c2, e2⟩⟩ := h
  unfold trC15
  rw [e1, e2]; simp [Value.oneCell']
/-- a message's values alone -/
structure Pm where
  kind : Int
  ts : List ByteArray
  is : List Int
  ds : List (List Int)
def mgP (m : Mg) : Pm := ⟨m.kind, m.ts, m.is, m.ds.map Tb.bs⟩
structure Px where
  acc : ByteArray
  seq : Int
  den : ByteArray
  amt : Int
  ms : List Pm
  sg : List Int
def pxP (x : Tr) : Px := ⟨x.acc, x.seq, x.den, x.amt, x.ms.map mgP, x.sg⟩
def i64b (i : Int) : Prop := -9223372036854775808 ≤ i ∧ i ≤ 9223372036854775807
structure MgFl (m : Mg) : Prop where
  k : i64b m.kind
  i : ∀ i ∈ m.is, i64b i
structure TrFl (x : Tr) : Prop where
  s : i64b x.seq
  a : i64b x.amt
  m : ∀ m ∈ x.ms, MgFl m
/-- bytes -/
def st1 (s : ByteArray) : List Int := varint s.size ++ numsOf s
def it1 (i : Int) : List Int := varint (zig i)
def mg1 (m : Mg) : List Int := it1 m.kind ++ (listL st1 m.ts ++ (listL it1 m.is ++ listL tb1 m.ds))
def tr1 (x : Tr) : List Int := (((st1 x.acc ++ it1 x.seq) ++ st1 x.den) ++ it1 x.amt) ++ listL mg1 x.ms
def trB (x : Tr) : List Int := tr1 x ++ (varint x.sg.length ++ x.sg)
theorem it1_len {i : Int} (h : i64b i) : (it1 i).length ≤ 10 := glenT (zig_lt h.1 h.2)
theorem st1_len (s : ByteArray) : (st1 s).length = (varint s.size).length + s.size := by unfold st1; rw [List.length_append, numsOf_length]
end Go.Proofs.YtllpnpeppdfjlaaGreatDoor
namespace Go.Proofs.YtllpnpeppdfjlaaGreatDoor
set_option linter.unusedVariables false
set_option linter.unusedSimpArgs false
open Go.RowKit
set_option maxRecDepth 100000
set_option linter.unusedSimpArgs false
set_option linter.unusedVariables false
theorem wtext15_any (g : Nat) (v : Value) (s : ByteArray) (XS : List Int) (w : World) (hw : WAt w g v XS) (hl : XS.length + (st1 s).length + 10 ≤ 140737488355328) :
    Calls Tryz.prog 186 #[.pointer (some ⟨g, 0, none⟩), .string s] w fun e w' => e = .returned (.tuple #[]) ∧ WsR g v w (XS ++ st1 s) w' := by
  have HC := Lib.hid (wtext_any g v s XS w hw (by rw [st1_len] at hl; omega))
  clear hw hl
  go_enter Tryz.func186, Tryz.ntmps186
  go_wp2_with (go_at_call 80; (with_reducible refine HC.out.mono ?_); rintro e w1 hp; obtain ⟨rfl, v1, hw1, hs1⟩ := wpS_next hp; have HW := Lib.hid hw1; have HS := Lib.hid hs1; clear hp hw1 hs1)
  go_end0
  exact ⟨rfl, _, HW.out, HS.out⟩
theorem wint15_any (g : Nat) (v : Value) (i : Int) (XS : List Int) (w : World) (hw : WAt w g v XS) (hi : i64b i) (hl : XS.length + (it1 i).length + 10 ≤ 140737488355328) :
    Calls Tryz.prog 188 #[.pointer (some ⟨g, 0, none⟩), .int .i64 i] w fun e w' => e = .returned (.tuple #[]) ∧ WsR g v w (XS ++ it1 i) w' := by
  have HC := Lib.hid (wint_any g v i XS w hw hi.1 hi.2 (by omega))
  clear hw hl hi
  go_enter Tryz.func188, Tryz.ntmps188
  go_wp2_with (go_at_call 119; (with_reducible refine HC.out.mono ?_); rintro e w1 hp; obtain ⟨rfl, v1, hw1, hs1⟩ := wpS_next hp; have HW := Lib.hid hw1; have HS := Lib.hid hs1; clear hp hw1 hs1)
  go_end0
  exact ⟨rfl, _, HW.out, HS.out⟩
theorem wdata15_any (g : Nat) (v : Value) (t : Tb) (XS : List Int) (w : World) (hw : WAt w g v XS) (w0 : World) (hg : w0.heap.size ≤ g) (hB : Below w0.heap.size w0 w) (hsv : BytesIn w0 t.bv t.bs) (hl : XS.length + (tb1 t).length + 10 ≤ 140737488355328) :
    Calls Tryz.prog 190 #[.pointer (some ⟨g, 0, none⟩), t.bv] w fun e w' => e = .returned (.tuple #[]) ∧ WsR g v w (XS ++ tb1 t) w' := by
  obtain ⟨bv, bs⟩ := t
  have HC := Lib.hid (wbytes_any g v bv XS bs w hw (hsv.below hB) (fun hn => apart_of hsv hn hg hw) (by simp only [tb1, List.length_append] at hl; omega))
  clear hw hB hsv hl
  go_enter Tryz.func190, Tryz.ntmps190
  go_wp2_with (go_at_call 70; (with_reducible refine HC.out.mono ?_); rintro e w1 hp; obtain ⟨rfl, v1, hw1, hs1⟩ := wpS_next hp; have HW := Lib.hid hw1; have HS := Lib.hid hs1; clear hp hw1 hs1)
  go_end0
  exact ⟨rfl, _, HW.out, HS.out⟩
theorem vlen15 (n : Nat) (h : n < 18446744073709551616) : 0 ≤ (varint n).length ∧ (varint n).length ≤ 10 := ⟨Nat.zero_le _, glenT h⟩
set_option maxHeartbeats 8000000 in
theorem wlist15S_any (w0 : World) (g : Nat) (hg : w0.heap.size ≤ g) (l : List ByteArray) (vv : Value) (hl : StIn w0 vv l)  (v : Value) (XS : List Int) (w : World) (hw : WAt w g v XS) (hB : Below w0.heap.size w0 w) (room : XS.length + (listL st1 l).length + 10 ≤ 140737488355328) :
    Calls Tryz.prog 185 #[.pointer (some ⟨g, 0, none⟩), vv, .func (.func 186) #[] #[]] w fun e w' => e = .returned (.tuple #[]) ∧ WsR g v w (XS ++ listL st1 l) w' := by
  obtain ⟨la, lc, rfl, -, hlm⟩ := hl.len
  have hl64 : l.length < 18446744073709551616 := by unfold maxLen at hlm; omega
  have HU := Lib.hid (wuint_any g v XS l.length w hw hl64 (by simp only [listL, List.length_append] at room; have := vlen15 l.length hl64; omega))
  have hu : IntKind.u64.wrap (l.length : Int) = (l.length : Int) := IntWalk.u64_in _ (by omega)
  have HLA := Lib.hid hl
  have HG := Lib.hid hg
  have HB := Lib.hid hB
  have HW := Lib.hid hw
  have HY := Lib.hid (show True from trivial)
  have HR := Lib.hid room
  obtain ⟨nl, hnl⟩ : ∃ n, n = l.length := ⟨_, rfl⟩
  have HNL := Lib.hid hnl
  rw [← hnl] at hlm hl64 HU hu HLA ⊢
  have hnlI : (nl : Int) ≤ 9223372036854775807 := by unfold maxLen at hlm; omega
  clear hl hg hB hw  room hnl hlm
  go_enter Tryz.func185, Tryz.ntmps185
  go_upto_region 1 with (go_at_call 122; (with_reducible refine HU.out.mono ?_); rintro e w1 hp; obtain ⟨rfl, v1, hw1, hs1⟩ := wpS_next hp; have HM := Lib.hid (show WlR st1 g v w (XS ++ varint nl) l 0 w1 from ⟨v1, by simpa [catL] using hw1, hs1⟩); clear hp hw1 hs1)
  go_wp2_with (fail)
  go_loopw [15] (fun x wr => ∃ k : Nat, k ≤ nl ∧ x = .int .i64 (k : Int) ∧ Hid (WlR st1 g v w (XS ++ varint nl) l k wr)) (fun x _ => nl - (intOf x).toNat)
  case atStart => exact ⟨0, Nat.zero_le _, rfl, HM⟩
  case round =>
    clear HM HU
    obtain ⟨k, hkn, rfl, HM⟩ := hrel
    obtain ⟨v2, hw2, hs2⟩ := HM.out
    by_cases hlt : k < nl
    · have hltI : (k : Int) < (nl : Int) := by omega
      obtain ⟨x, hx⟩ : ∃ x, l[k]? = some x := ⟨l[k]'(by have := HNL.out; omega), List.getElem?_eq_getElem _⟩
      have HX := Lib.hid (HY.out)
      have HT := Lib.hid (catL_take st1 l k x hx)
      have HBr := Lib.hid (HB.out.trans (hs2.below HW.out HG.out))
      have hv := HLA.out.below HBr.out
      rw [HNL.out] at hv
      obtain ⟨ab, ao, rfl, hab, hra⟩ := hv.at hx
      have HWr := Lib.hid hw2
      have HSr := Lib.hid hs2
      have HRM := Lib.hid (show (XS ++ varint nl ++ catL st1 (l.take k)).length + (st1 x).length + 10 ≤ 140737488355328 from by
        have h1 := HR.out
        have h2 := catL_room st1 l (k + 1)
        rw [HT.out] at h2
        rw [List.length_append] at h2
        simp only [listL, List.length_append, ← HNL.out] at h1 ⊢
        omega)
      have hc : wr.cell? ⟨ab, ao + k, none⟩ = some (.string x) := by have := hra 0 _ rfl; rw [Nat.mul_one] at this; exact this
      clear hv hra hx hw2 hs2 HM
      go_upto_region 5 with (first
        | (go_at_call 186; (with_reducible refine (wtext15_any g v2 x _ wr HWr.out HRM.out).mono ?_); rintro e w4 ⟨rfl, v4, hw4, hs4⟩; replace HWr := Lib.hid hw4; replace HSr := Lib.hid (HSr.out.trans hs4); clear hw4 hs4))
      go_wp2_with (fail)
      go_roundw
      case rel => exact ⟨k + 1, by omega, by go_num, Lib.hid ⟨v4, by have h := HWr.out; rw [List.append_assoc] at h; rw [HT.out]; exact h, HSr.out⟩⟩
      case measure => simp [intOf]; omega
    · obtain rfl : k = nl := by omega
      go_wp2_with (fail)
      go_end0
      refine ⟨rfl, v2, ?_, hs2⟩
      rw [show listL st1 l = varint k ++ catL st1 (l.take k) from by unfold listL; rw [← HNL.out, HNL.out, List.take_length], ← List.append_assoc]
      exact hw2
set_option maxHeartbeats 8000000 in
theorem wlist15I_any (w0 : World) (g : Nat) (hg : w0.heap.size ≤ g) (l : List Int) (vv : Value) (hl : ItIn w0 vv l) (ho : ∀ i ∈ l, i64b i) (v : Value) (XS : List Int) (w : World) (hw : WAt w g v XS) (hB : Below w0.heap.size w0 w) (room : XS.length + (listL it1 l).length + 10 ≤ 140737488355328) :
    Calls Tryz.prog 187 #[.pointer (some ⟨g, 0, none⟩), vv, .func (.func 188) #[] #[]] w fun e w' => e = .returned (.tuple #[]) ∧ WsR g v w (XS ++ listL it1 l) w' := by
  obtain ⟨la, lc, rfl, -, hlm⟩ := hl.len
  have hl64 : l.length < 18446744073709551616 := by unfold maxLen at hlm; omega
  have HU := Lib.hid (wuint_any g v XS l.length w hw hl64 (by simp only [listL, List.length_append] at room; have := vlen15 l.length hl64; omega))
  have hu : IntKind.u64.wrap (l.length : Int) = (l.length : Int) := IntWalk.u64_in _ (by omega)
  have HLA := Lib.hid hl
  have HG := Lib.hid hg
  have HB := Lib.hid hB
  have HW := Lib.hid hw
  have HY := Lib.hid (show ∀ i ∈ l, i64b i from ho)
  have HR := Lib.hid room
  obtain ⟨nl, hnl⟩ : ∃ n, n = l.length := ⟨_, rfl⟩
  have HNL := Lib.hid hnl
  rw [← hnl] at hlm hl64 HU hu HLA ⊢
  have hnlI : (nl : Int) ≤ 9223372036854775807 := by unfold maxLen at hlm; omega
  clear hl hg hB hw ho room hnl hlm
  go_enter Tryz.func187, Tryz.ntmps187
  go_upto_region 1 with (go_at_call 122; (with_reducible refine HU.out.mono ?_); rintro e w1 hp; obtain ⟨rfl, v1, hw1, hs1⟩ := wpS_next hp; have HM := Lib.hid (show WlR it1 g v w (XS ++ varint nl) l 0 w1 from ⟨v1, by simpa [catL] using hw1, hs1⟩); clear hp hw1 hs1)
  go_wp2_with (fail)
  go_loopw [15] (fun x wr => ∃ k : Nat, k ≤ nl ∧ x = .int .i64 (k : Int) ∧ Hid (WlR it1 g v w (XS ++ varint nl) l k wr)) (fun x _ => nl - (intOf x).toNat)
  case atStart => exact ⟨0, Nat.zero_le _, rfl, HM⟩
  case round =>
    clear HM HU
    obtain ⟨k, hkn, rfl, HM⟩ := hrel
    obtain ⟨v2, hw2, hs2⟩ := HM.out
    by_cases hlt : k < nl
    · have hltI : (k : Int) < (nl : Int) := by omega
      obtain ⟨x, hx⟩ : ∃ x, l[k]? = some x := ⟨l[k]'(by have := HNL.out; omega), List.getElem?_eq_getElem _⟩
      have HX := Lib.hid (HY.out x (List.mem_of_getElem? hx))
      have HT := Lib.hid (catL_take it1 l k x hx)
      have HBr := Lib.hid (HB.out.trans (hs2.below HW.out HG.out))
      have hv := HLA.out.below HBr.out
      rw [HNL.out] at hv
      obtain ⟨ab, ao, rfl, hab, hra⟩ := hv.at hx
      have HWr := Lib.hid hw2
      have HSr := Lib.hid hs2
      have HRM := Lib.hid (show (XS ++ varint nl ++ catL it1 (l.take k)).length + (it1 x).length + 10 ≤ 140737488355328 from by
        have h1 := HR.out
        have h2 := catL_room it1 l (k + 1)
        rw [HT.out] at h2
        rw [List.length_append] at h2
        simp only [listL, List.length_append, ← HNL.out] at h1 ⊢
        omega)
      have hc : wr.cell? ⟨ab, ao + k, none⟩ = some (.int .i64 x) := by have := hra 0 _ rfl; rw [Nat.mul_one] at this; exact this
      clear hv hra hx hw2 hs2 HM
      go_upto_region 5 with (first
        | (go_at_call 188; (with_reducible refine (wint15_any g v2 x _ wr HWr.out HX.out HRM.out).mono ?_); rintro e w4 ⟨rfl, v4, hw4, hs4⟩; replace HWr := Lib.hid hw4; replace HSr := Lib.hid (HSr.out.trans hs4); clear hw4 hs4))
      go_wp2_with (fail)
      go_roundw
      case rel => exact ⟨k + 1, by omega, by go_num, Lib.hid ⟨v4, by have h := HWr.out; rw [List.append_assoc] at h; rw [HT.out]; exact h, HSr.out⟩⟩
      case measure => simp [intOf]; omega
    · obtain rfl : k = nl := by omega
      go_wp2_with (fail)
      go_end0
      refine ⟨rfl, v2, ?_, hs2⟩
      rw [show listL it1 l = varint k ++ catL it1 (l.take k) from by unfold listL; rw [← HNL.out, HNL.out, List.take_length], ← List.append_assoc]
      exact hw2
set_option maxHeartbeats 8000000 in
theorem wlist15D_any (w0 : World) (g : Nat) (hg : w0.heap.size ≤ g) (l : List Tb) (vv : Value) (hl : TbIn w0 vv l) (hs : ∀ t ∈ l, BytesIn w0 t.bv t.bs) (v : Value) (XS : List Int) (w : World) (hw : WAt w g v XS) (hB : Below w0.heap.size w0 w) (room : XS.length + (listL tb1 l).length + 10 ≤ 140737488355328) :
    Calls Tryz.prog 189 #[.pointer (some ⟨g, 0, none⟩), vv, .func (.func 190) #[] #[]] w fun e w' => e = .returned (.tuple #[]) ∧ WsR g v w (XS ++ listL tb1 l) w' := by
  obtain ⟨la, lc, rfl, -, hlm⟩ := hl.len
  have hl64 : l.length < 18446744073709551616 := by unfold maxLen at hlm; omega
  have HU := Lib.hid (wuint_any g v XS l.length w hw hl64 (by simp only [listL, List.length_append] at room; have := vlen15 l.length hl64; omega))
  have hu : IntKind.u64.wrap (l.length : Int) = (l.length : Int) := IntWalk.u64_in _ (by omega)
  have HLA := Lib.hid hl
  have HG := Lib.hid hg
  have HB := Lib.hid hB
  have HW := Lib.hid hw
  have HY := Lib.hid (show ∀ t ∈ l, BytesIn w0 t.bv t.bs from hs)
  have HR := Lib.hid room
  obtain ⟨nl, hnl⟩ : ∃ n, n = l.length := ⟨_, rfl⟩
  have HNL := Lib.hid hnl
  rw [← hnl] at hlm hl64 HU hu HLA ⊢
  have hnlI : (nl : Int) ≤ 9223372036854775807 := by unfold maxLen at hlm; omega
  clear hl hg hB hw hs room hnl hlm
  go_enter Tryz.func189, Tryz.ntmps189
  go_upto_region 1 with (go_at_call 122; (with_reducible refine HU.out.mono ?_); rintro e w1 hp; obtain ⟨rfl, v1, hw1, hs1⟩ := wpS_next hp; have HM := Lib.hid (show WlR tb1 g v w (XS ++ varint nl) l 0 w1 from ⟨v1, by simpa [catL] using hw1, hs1⟩); clear hp hw1 hs1)
  go_wp2_with (fail)
  go_loopw [15] (fun x wr => ∃ k : Nat, k ≤ nl ∧ x = .int .i64 (k : Int) ∧ Hid (WlR tb1 g v w (XS ++ varint nl) l k wr)) (fun x _ => nl - (intOf x).toNat)
  case atStart => exact ⟨0, Nat.zero_le _, rfl, HM⟩
  case round =>
    clear HM HU
    obtain ⟨k, hkn, rfl, HM⟩ := hrel
    obtain ⟨v2, hw2, hs2⟩ := HM.out
    by_cases hlt : k < nl
    · have hltI : (k : Int) < (nl : Int) := by omega
      obtain ⟨x, hx⟩ : ∃ x, l[k]? = some x := ⟨l[k]'(by have := HNL.out; omega), List.getElem?_eq_getElem _⟩
      have HX := Lib.hid (HY.out x (List.mem_of_getElem? hx))
      have HT := Lib.hid (catL_take tb1 l k x hx)
      have HBr := Lib.hid (HB.out.trans (hs2.below HW.out HG.out))
      have hv := HLA.out.below HBr.out
      rw [HNL.out] at hv
      obtain ⟨ab, ao, rfl, hab, hra⟩ := hv.at hx
      have HWr := Lib.hid hw2
      have HSr := Lib.hid hs2
      have HRM := Lib.hid (show (XS ++ varint nl ++ catL tb1 (l.take k)).length + (tb1 x).length + 10 ≤ 140737488355328 from by
        have h1 := HR.out
        have h2 := catL_room tb1 l (k + 1)
        rw [HT.out] at h2
        rw [List.length_append] at h2
        simp only [listL, List.length_append, ← HNL.out] at h1 ⊢
        omega)
      have hc : wr.cell? ⟨ab, ao + k, none⟩ = some x.bv := by have := hra 0 _ rfl; rw [Nat.mul_one] at this; exact this
      clear hv hra hx hw2 hs2 HM
      go_upto_region 5 with (first
        | (go_at_call 190; (with_reducible refine (wdata15_any g v2 x _ wr HWr.out w0 HG.out HBr.out HX.out HRM.out).mono ?_); rintro e w4 ⟨rfl, v4, hw4, hs4⟩; replace HWr := Lib.hid hw4; replace HSr := Lib.hid (HSr.out.trans hs4); clear hw4 hs4))
      go_wp2_with (fail)
      go_roundw
      case rel => exact ⟨k + 1, by omega, by go_num, Lib.hid ⟨v4, by have h := HWr.out; rw [List.append_assoc] at h; rw [HT.out]; exact h, HSr.out⟩⟩
      case measure => simp [intOf]; omega
    · obtain rfl : k = nl := by omega
      go_wp2_with (fail)
      go_end0
      refine ⟨rfl, v2, ?_, hs2⟩
      rw [show listL tb1 l = varint k ++ catL tb1 (l.take k) from by unfold listL; rw [← HNL.out, HNL.out, List.take_length], ← List.append_assoc]
      exact hw2
set_option maxHeartbeats 8000000 in
theorem wmsg15_any (m : Mg) (g : Nat) (v : Value) (XS : List Int) (w : World) (hw : WAt w g v XS) (w0 : World) (hg : w0.heap.size ≤ g) (hB : Below w0.heap.size w0 w) (hm : MgE w0 m) (hf : MgFl m) (hl : XS.length + (mg1 m).length + 10 ≤ 140737488355328) :
    Calls Tryz.prog 121 #[.pointer (some ⟨g, 0, none⟩), .agg (mgC m)] w fun e w' => e = .returned (.tuple #[]) ∧ WsR g v w (XS ++ mg1 m) w' := by
  obtain ⟨KI, tv, ts, iv, is, dv, ds⟩ := m
  obtain ⟨⟨a1, c1, e1⟩, ⟨a2, c2, e2⟩, ⟨a3, c3, e3⟩⟩ := hm.v
  simp only at e1 e2 e3
  subst e1 e2 e3
  have HLN := Lib.hid (show (mg1 ⟨KI, .slice a1 ts.length c1, ts, .slice a2 is.length c2, is, .slice a3 ds.length c3, ds⟩).length = (it1 KI).length + ((listL st1 ts).length + ((listL it1 is).length + (listL tb1 ds).length)) from by simp only [mg1, List.length_append])
  have HME := Lib.hid (show mg1 ⟨KI, .slice a1 ts.length c1, ts, .slice a2 is.length c2, is, .slice a3 ds.length c3, ds⟩ = it1 KI ++ (listL st1 ts ++ (listL it1 is ++ listL tb1 ds)) from rfl)
  have HL := Lib.hid hl
  have HK := Lib.hid (show i64b KI from hf.k)
  have HKL := Lib.hid (show (it1 KI).length = (varint (zig KI)).length from rfl)
  have HWS := Lib.hid (fun v XS w hw hB room => wlist15S_any w0 g hg ts (.slice a1 ts.length c1) hm.t v XS w hw hB room)
  have HWI := Lib.hid (fun v XS w hw hB room => wlist15I_any w0 g hg is (.slice a2 is.length c2) hm.i hf.i v XS w hw hB room)
  have HWD := Lib.hid (fun v XS w hw hB room => wlist15D_any w0 g hg ds (.slice a3 ds.length c3) hm.d hm.b v XS w hw hB room)
  have HWN := Lib.hid (fun v XS w hw room => wint_any g v KI XS w hw hf.k.1 hf.k.2 room)
  have HB := Lib.hid hB
  have HG := Lib.hid hg
  have HW0 := Lib.hid hw
  obtain ⟨M1, hM1⟩ : ∃ x, x = mg1 ⟨KI, .slice a1 ts.length c1, ts, .slice a2 is.length c2, is, .slice a3 ds.length c3, ds⟩ := ⟨_, rfl⟩
  rw [← hM1] at HLN HME HL ⊢
  obtain ⟨n1, hn1⟩ : ∃ x, x = ts.length := ⟨_, rfl⟩
  obtain ⟨n2, hn2⟩ : ∃ x, x = is.length := ⟨_, rfl⟩
  obtain ⟨n3, hn3⟩ : ∃ x, x = ds.length := ⟨_, rfl⟩
  rw [← hn1] at HWS
  rw [← hn2] at HWI
  rw [← hn3] at HWD
  have hCe : mgC ⟨KI, .slice a1 ts.length c1, ts, .slice a2 is.length c2, is, .slice a3 ds.length c3, ds⟩ = #[.int .i64 KI, .slice a1 n1 c1, .slice a2 n2 c2, .slice a3 n3 c3] := by rw [hn1, hn2, hn3]; rfl
  rw [hCe]
  clear hM1 hn1 hn2 hn3 hCe hm hf hg hl hB
  have HBA := Lib.hid (below_alloc w (.cells #[.int .i64 KI, .slice a1 n1 c1, .slice a2 n2 c2, .slice a3 n3 c3] 100))
  have HQ := Lib.hid (heap_alloc_new w (.cells #[.int .i64 KI, .slice a1 n1 c1, .slice a2 n2 c2, .slice a3 n3 c3] 100))
  have HW := Lib.hid (hw.below HBA.out)
  have HS := Lib.hid (WStep.of_below (p := g) (v := v) HBA.out)
  have HNE := Lib.hid (show w.heap.size ≠ g ∧ some w.heap.size ≠ v.ownBlock from ⟨by have := hw.lt; omega, fun e => by have := (hw.ne _ e.symm).2; omega⟩)
  have HQB := Lib.hid (show w.heap.size < (w.alloc (.cells #[.int .i64 KI, .slice a1 n1 c1, .slice a2 n2 c2, .slice a3 n3 c3] 100)).heap.size by simp)
  clear hw
  go_enter Tryz.func121, Tryz.ntmps121
  go_upto_region 1 with (fail)
  obtain ⟨q, hq⟩ : ∃ q, q = w.heap.size := ⟨_, rfl⟩
  rw [← hq] at HQ HNE HQB ⊢
  clear hq HBA
  generalize w.alloc (.cells #[.int .i64 KI, .slice a1 n1 c1, .slice a2 n2 c2, .slice a3 n3 c3] 100) = w1 at *
  have HSX := Lib.hid (show ∀ v' X, WStep g v v' w1 X → X.heap[q]? = some (.cells #[.int .i64 KI, .slice a1 n1 c1, .slice a2 n2 c2, .slice a3 n3 c3] 100 (0, 0)) from fun v' X hs => (hs.block q HQB.out HNE.out.1 HNE.out.2).trans HQ.out)
  have HZ := Lib.hid (WStep.refl g v w1)
  have k0 := cell_of_row w1 q 0 _ _ _ HQ.out
  simp only [List.getElem?_toArray, List.getElem?_cons_zero, Nat.zero_add] at k0
  go_upto_region 2 with (go_at_call 119; (with_reducible refine (HWN.out v XS w1 HW.out (by have := HL.out; have := HLN.out; omega)).mono ?_); rintro e w2 hp; obtain ⟨rfl, v2, hw, hs⟩ := wpS_next hp; replace HW := Lib.hid hw; replace HS := Lib.hid (HS.out.trans hs); replace HZ := Lib.hid (HZ.out.trans hs); clear hp hw hs)
  clear k0
  have k1 := cell_of_row w2 q 1 _ _ _ (HSX.out _ _ HZ.out)
  simp only [List.getElem?_toArray, List.getElem?_cons_zero, List.getElem?_cons_succ] at k1
  go_upto_region 3 with (go_at_call 185; (with_reducible refine (HWS.out _ _ w2 HW.out (HB.out.trans (HS.out.below HW0.out HG.out)) (by have := HL.out; have := HLN.out; have := HKL.out; simp only [List.length_append]; omega)).mono ?_); rintro e w3 ⟨rfl, v3, hw, hs⟩; replace HW := Lib.hid hw; replace HS := Lib.hid (HS.out.trans hs); replace HZ := Lib.hid (HZ.out.trans hs); clear hw hs)
  clear k1
  have k2 := cell_of_row w3 q 2 _ _ _ (HSX.out _ _ HZ.out)
  simp only [List.getElem?_toArray, List.getElem?_cons_zero, List.getElem?_cons_succ] at k2
  go_upto_region 4 with (go_at_call 187; (with_reducible refine (HWI.out _ _ w3 HW.out (HB.out.trans (HS.out.below HW0.out HG.out)) (by have := HL.out; have := HLN.out; have := HKL.out; simp only [List.length_append]; omega)).mono ?_); rintro e w4 ⟨rfl, v4, hw, hs⟩; replace HW := Lib.hid hw; replace HS := Lib.hid (HS.out.trans hs); replace HZ := Lib.hid (HZ.out.trans hs); clear hw hs)
  clear k2
  have k3 := cell_of_row w4 q 3 _ _ _ (HSX.out _ _ HZ.out)
  simp only [List.getElem?_toArray, List.getElem?_cons_zero, List.getElem?_cons_succ] at k3
  go_upto_region 5 with (go_at_call 189; (with_reducible refine (HWD.out _ _ w4 HW.out (HB.out.trans (HS.out.below HW0.out HG.out)) (by have := HL.out; have := HLN.out; have := HKL.out; simp only [List.length_append]; omega)).mono ?_); rintro e w5 ⟨rfl, v5, hw, hs⟩; replace HW := Lib.hid hw; replace HS := Lib.hid (HS.out.trans hs); replace HZ := Lib.hid (HZ.out.trans hs); clear hw hs)
  go_wp2_with (fail)
  go_end0
  refine ⟨rfl, v5, ?_, HS.out⟩
  have h := HW.out
  rw [HME.out]
  simpa only [it1, List.append_assoc] using h
set_option maxHeartbeats 8000000 in
theorem wlist15M_any (w0 : World) (g : Nat) (hg : w0.heap.size ≤ g) (l : List Mg) (vv : Value) (hl : MgIn w0 vv l) (hs : ∀ m ∈ l, MgE w0 m) (ho : ∀ m ∈ l, MgFl m) (v : Value) (XS : List Int) (w : World) (hw : WAt w g v XS) (hB : Below w0.heap.size w0 w) (room : XS.length + (listL mg1 l).length + 10 ≤ 140737488355328) :
    Calls Tryz.prog 120 #[.pointer (some ⟨g, 0, none⟩), vv, .func (.func 121) #[] #[]] w fun e w' => e = .returned (.tuple #[]) ∧ WsR g v w (XS ++ listL mg1 l) w' := by
  obtain ⟨la, lc, rfl, -, hlm⟩ := hl.len
  have hl64 : l.length < 18446744073709551616 := by unfold maxLen at hlm; omega
  have HU := Lib.hid (wuint_any g v XS l.length w hw hl64 (by simp only [listL, List.length_append] at room; have := vlen15 l.length hl64; omega))
  have hu : IntKind.u64.wrap (l.length : Int) = (l.length : Int) := IntWalk.u64_in _ (by omega)
  have HLA := Lib.hid hl
  have HG := Lib.hid hg
  have HB := Lib.hid hB
  have HW := Lib.hid hw
  have HY := Lib.hid (show ∀ m ∈ l, MgFl m ∧ MgE w0 m from fun m h => ⟨ho m h, hs m h⟩)
  have HR := Lib.hid room
  obtain ⟨nl, hnl⟩ : ∃ n, n = l.length := ⟨_, rfl⟩
  have HNL := Lib.hid hnl
  rw [← hnl] at hlm hl64 HU hu HLA ⊢
  have hnlI : (nl : Int) ≤ 9223372036854775807 := by unfold maxLen at hlm; omega
  clear hl hg hB hw hs ho room hnl hlm
  go_enter Tryz.func120, Tryz.ntmps120
  go_upto_region 1 with (go_at_call 122; (with_reducible refine HU.out.mono ?_); rintro e w1 hp; obtain ⟨rfl, v1, hw1, hs1⟩ := wpS_next hp; have HM := Lib.hid (show WlR mg1 g v w (XS ++ varint nl) l 0 w1 from ⟨v1, by simpa [catL] using hw1, hs1⟩); clear hp hw1 hs1)
  go_wp2_with (fail)
  go_loopw [15] (fun x wr => ∃ k : Nat, k ≤ nl ∧ x = .int .i64 (k : Int) ∧ Hid (WlR mg1 g v w (XS ++ varint nl) l k wr)) (fun x _ => nl - (intOf x).toNat)
  case atStart => exact ⟨0, Nat.zero_le _, rfl, HM⟩
  case round =>
    clear HM HU
    obtain ⟨k, hkn, rfl, HM⟩ := hrel
    obtain ⟨v2, hw2, hs2⟩ := HM.out
    by_cases hlt : k < nl
    · have hltI : (k : Int) < (nl : Int) := by omega
      obtain ⟨x, hx⟩ : ∃ x, l[k]? = some x := ⟨l[k]'(by have := HNL.out; omega), List.getElem?_eq_getElem _⟩
      have HX := Lib.hid (HY.out x (List.mem_of_getElem? hx))
      have HT := Lib.hid (catL_take mg1 l k x hx)
      have HBr := Lib.hid (HB.out.trans (hs2.below HW.out HG.out))
      have hv := HLA.out.below HBr.out
      rw [HNL.out] at hv
      obtain ⟨ab, ao, rfl, hab, hra⟩ := hv.at hx
      have HWr := Lib.hid hw2
      have HSr := Lib.hid hs2
      have HRM := Lib.hid (show (XS ++ varint nl ++ catL mg1 (l.take k)).length + (mg1 x).length + 10 ≤ 140737488355328 from by
        have h1 := HR.out
        have h2 := catL_room mg1 l (k + 1)
        rw [HT.out] at h2
        rw [List.length_append] at h2
        simp only [listL, List.length_append, ← HNL.out] at h1 ⊢
        omega)
      have HRA := Lib.hid hra
      obtain ⟨CV, hCV⟩ : ∃ c, c = mgC x := ⟨_, rfl⟩
      have HCV := Lib.hid hCV
      have HCS := Lib.hid (show CV.size = 4 from by rw [hCV]; rfl)
      have HCO := Lib.hid (show CV.all (·.oneCell') = true from by rw [hCV]; exact mgC_one HX.out.2.v)
      have HRC := Lib.hid (show wr.rangeAt ab (ao + k * 4) CV.toList from by rw [hCV]; exact hra)
      clear hv hra hx hw2 hs2 HM hCV
      go_upto_region 5 with (first
        | (refine wpList_load_rowT (by rfl) 100 (.tmp 17) rfl ab (ao + k * 4) rfl CV _ HRC.out Tryz.underlying100 rfl (by rw [HCS.out]; kernel_rfl) ?_)
        | (refine wpList_store_row rfl 100 (.tmp 7) (.tmp 18) rfl wr.heap.size CV rfl rfl 100 _ (heap_alloc_new _ _) (by rw [HCS.out]; kernel_rfl) (by rw [HCS.out]; rfl) HCO.out ?_; rw [World.setRow_alloc_new]; have HQ := Lib.hid (heap_alloc_new wr (.cells CV 100)); have hb := below_alloc wr (.cells CV 100); replace HWr := Lib.hid (HWr.out.below hb); replace HSr := Lib.hid (HSr.out.trans (WStep.of_below hb)); replace HBr := Lib.hid (HBr.out.trans (hb.mono HBr.out.size)); clear hb; obtain ⟨q, hq⟩ : ∃ q, q = wr.heap.size := ⟨_, rfl⟩; rw [← hq] at HQ ⊢; clear hq; generalize wr.alloc (.cells CV 100) = w3 at *)
        | (refine wpList_load_rowT (by rfl) 100 (.tmp 7) rfl q 0 rfl CV _ (rowT_range HQ.out) Tryz.underlying100 rfl (by rw [HCS.out]; kernel_rfl) ?_)
        | (rw [HCV.out]; go_at_call 121; (with_reducible refine (wmsg15_any x g v2 _ w3 HWr.out w0 HG.out HBr.out HX.out.2 HX.out.1 HRM.out).mono ?_); rintro e w4 ⟨rfl, v4, hw4, hs4⟩; replace HWr := Lib.hid hw4; replace HSr := Lib.hid (HSr.out.trans hs4); clear hw4 hs4))
      go_wp2_with (fail)
      go_roundw
      case rel => exact ⟨k + 1, by omega, by go_num, Lib.hid ⟨v4, by have h := HWr.out; rw [List.append_assoc] at h; rw [HT.out]; exact h, HSr.out⟩⟩
      case measure => simp [intOf]; omega
    · obtain rfl : k = nl := by omega
      go_wp2_with (fail)
      go_end0
      refine ⟨rfl, v2, ?_, hs2⟩
      rw [show listL mg1 l = varint k ++ catL mg1 (l.take k) from by unfold listL; rw [← HNL.out, HNL.out, List.take_length], ← List.append_assoc]
      exact hw2
end Go.Proofs.YtllpnpeppdfjlaaGreatDoor
namespace Go.Proofs
set_option linter.unusedVariables false
set_option linter.unusedSimpArgs false
open Go.Shelf
def Tryz.lays161_ren : Go.Shelf.Ren := ⟨fun | 161 => 193 | 231 => 241 | 227 => 242 | 233 => 243 | 235 => 244 | 228 => 263 | 197 => 264 | 151 => 265 | 260 => 273 | 152 => 274 | 137 => 267 | 119 => 277 | 224 => 278 | 225 => 279 | 217 => 276 | 266 => 280 | n => n, fun | 9 => 9 | 4 => 4 | 3 => 3 | 5 => 5 | 117 => 334 | 116 => 333 | 0 => 0 | 124 => 337 | 105 => 350 | 21 => 21 | 119 => 357 | 46 => 38 | 139 => 360 | 138 => 359 | n => n, fun | 3 => 6 | 4 => 7 | n => n⟩
theorem Tryz.lays161 : Go.Proofs.Lays.n161 Tryz.prog Tryz.lays161_ren := {
  mixed := by kernel_rfl
  f119 := Tryz.func277.trans (congrArg some (by kernel_rfl))
  f137 := Tryz.func267.trans (congrArg some (by kernel_rfl))
  f151 := Tryz.func265.trans (congrArg some (by kernel_rfl))
  f152 := Tryz.func274.trans (congrArg some (by kernel_rfl))
  f161 := Tryz.func193.trans (congrArg some (by kernel_rfl))
  f197 := Tryz.func264.trans (congrArg some (by kernel_rfl))
  f217 := Tryz.func276.trans (congrArg some (by kernel_rfl))
  f224 := Tryz.func278.trans (congrArg some (by kernel_rfl))
  f225 := Tryz.func279.trans (congrArg some (by kernel_rfl))
  f227 := Tryz.func242.trans (congrArg some (by kernel_rfl))
  f228 := Tryz.func263.trans (congrArg some (by kernel_rfl))
  f231 := Tryz.func241.trans (congrArg some (by kernel_rfl))
  f233 := Tryz.func243.trans (congrArg some (by kernel_rfl))
  f235 := Tryz.func244.trans (congrArg some (by kernel_rfl))
  f260 := Tryz.func273.trans (congrArg some (by kernel_rfl))
  f266 := Tryz.func280.trans (congrArg some (by kernel_rfl))
  t0 := Tryz.underlying0
  a0 := Tryz.isAgg0
  z0 := Tryz.sizeOf0
  v0 := Tryz.zeroValue0
  t3 := Tryz.underlying3
  a3 := Tryz.isAgg3
  z3 := Tryz.sizeOf3
  v3 := Tryz.zeroValue3
  t4 := Tryz.underlying4
  a4 := Tryz.isAgg4
  z4 := Tryz.sizeOf4
  v4 := Tryz.zeroValue4
  t5 := Tryz.underlying5
  a5 := Tryz.isAgg5
  z5 := Tryz.sizeOf5
  v5 := Tryz.zeroValue5
  t9 := Tryz.underlying9
  a9 := Tryz.isAgg9
  z9 := Tryz.sizeOf9
  v9 := Tryz.zeroValue9
  t21 := Tryz.underlying21
  a21 := Tryz.isAgg21
  z21 := Tryz.sizeOf21
  v21 := Tryz.zeroValue21
  t46 := Tryz.underlying38
  a46 := Tryz.isAgg38
  z46 := Tryz.sizeOf38
  v46 := Tryz.zeroValue38
  t105 := Tryz.underlying350
  a105 := Tryz.isAgg350
  z105 := Tryz.sizeOf350
  v105 := Tryz.zeroValue350
  t116 := Tryz.underlying333
  a116 := Tryz.isAgg333
  z116 := Tryz.sizeOf333
  t117 := Tryz.underlying334
  a117 := Tryz.isAgg334
  z117 := Tryz.sizeOf334
  v117 := Tryz.zeroValue334
  t119 := Tryz.underlying357
  a119 := Tryz.isAgg357
  z119 := Tryz.sizeOf357
  t124 := Tryz.underlying337
  a124 := Tryz.isAgg337
  z124 := Tryz.sizeOf337
  v124 := Tryz.zeroValue337
  t138 := Tryz.underlying359
  a138 := Tryz.isAgg359
  z138 := Tryz.sizeOf359
  v138 := Tryz.zeroValue359
  t139 := Tryz.underlying360
  a139 := Tryz.isAgg360
  z139 := Tryz.sizeOf360
  v139 := Tryz.zeroValue360
  g3 := by kernel_rfl
  g4 := by kernel_rfl }
end Go.Proofs
namespace Go.Proofs.YtllpnpeppdfjlaaGreatDoor
set_option linter.unusedVariables false
set_option linter.unusedSimpArgs false
open Go.RowKit
set_option maxRecDepth 100000
set_option linter.unusedSimpArgs false
set_option linter.unusedVariables false
def letL : List UInt8 := [97, 98, 99, 100, 101, 102, 103, 104, 105, 106, 107, 108, 109, 110, 111, 112, 113, 114, 115, 116, 117, 118, 119, 120, 121, 122]
def alnL : List UInt8 := [97, 98, 99, 100, 101, 102, 103, 104, 105, 106, 107, 108, 109, 110, 111, 112, 113, 114, 115, 116, 117, 118, 119, 120, 121, 122, 48, 49, 50, 51, 52, 53, 54, 55, 56, 57]
def consB (s : ByteArray) (t : List UInt8) : Bool := s.data.toList.all (t.contains ·)
def baseB (s : ByteArray) : Bool := decide (3 ≤ s.size ∧ s.size ≤ 16) && (consB (s.extract 0 1) letL && consB s alnL)
theorem beq14 (a b : ByteArray) : (a.toList == b.toList) = decide (a = b) := by
  rw [Bool.eq_iff_iff]
  simp only [beq_iff_eq, decide_eq_true_eq]
  refine ⟨fun h => ?_, fun h => by rw [h]⟩
  rw [ByteArray.toList_eq, ByteArray.toList_eq] at h
  cases a; cases b; congr; exact Array.toList_inj.1 h
theorem drop_nil14 {α : Type} (p : α → Bool) : ∀ l : List α, l.dropWhile p = [] ↔ l.all p = true
  | [] => by simp
  | x :: l => by
    rw [List.dropWhile_cons, List.all_cons]
    cases hp : p x
    · simp
    · simp only [if_true, Bool.true_and]
      exact drop_nil14 p l
theorem trim_nil (s : ByteArray) (t : List UInt8) : (({ data := (Lib.trimLeftS s.data.toList t).toArray } : ByteArray).toList == ({ data := #[] } : ByteArray).toList) = consB s t := by
  rw [beq14]
  unfold consB
  rw [Bool.eq_iff_iff, decide_eq_true_eq]
  constructor
  · intro h
    have h1 : (Lib.trimLeftS s.data.toList t) = [] := by
      have := congrArg (fun b : ByteArray => b.data.toList) h
      simpa using this
    unfold Lib.trimLeftS at h1
    exact (drop_nil14 _ _).1 h1
  · intro h
    have h1 : (Lib.trimLeftS s.data.toList t) = [] := by unfold Lib.trimLeftS; exact (drop_nil14 _ _).2 h
    rw [h1]
theorem trim_nilE (s : ByteArray) (t : List UInt8) : ({ data := (Lib.trimLeftS s.data.toList t).toArray } : ByteArray).toList.isEmpty = consB s t := by
  rw [← trim_nil]
  have h : ∀ l : List UInt8, l.isEmpty = (l == []) := fun l => by cases l <;> rfl
  rw [h, show ({ data := #[] } : ByteArray).toList = [] from by rw [ByteArray.toList_eq]]
theorem ccons_any (s t : ByteArray) (w : World) (hts : t.size < 4294967281) (ha : t.data.toList.all (fun b => decide (b.toNat < 128)) = true) :
    Calls Tryz.prog 245 #[.string s, .string t] w fun e w' => e = .returned (.bool (consB s t.data.toList)) ∧ Below w.heap.size w w' := by
  have HC := Lib.hid (show Calls Tryz.prog 193 #[.string s, .string t] w fun e w' => e = .returned (.string ⟨(Lib.trimLeftS s.data.toList t.data.toList).toArray⟩) ∧ Below w.heap.size w w' from Any.strings_TrimLeft_laid Tryz.lays161 (by kernel_rfl) s t w hts (ascii_of_all ha))
  have k0 := trim_nilE s t.data.toList
  obtain ⟨r, hr⟩ : ∃ r : ByteArray, r = ⟨(Lib.trimLeftS s.data.toList t.data.toList).toArray⟩ := ⟨_, rfl⟩
  rw [← hr] at HC k0
  obtain ⟨b, hb⟩ : ∃ b, b = consB s t.data.toList := ⟨_, rfl⟩
  rw [← hb] at k0 ⊢
  clear hr hb hts ha
  go_enter Tryz.func245, Tryz.ntmps245
  go_wp2_with (go_at_call 193; (with_reducible refine HC.out.mono ?_); rintro e w1 ⟨rfl, hb⟩; have HB := Lib.hid hb; clear hb)
  go_ret
  exact ⟨rfl, HB.out⟩
theorem cbase_any (s : ByteArray) (w : World) (hs : s.size ≤ 9223372036854775807) : Calls Tryz.prog 194 #[.string s] w fun e w' => e = .returned (.bool (baseB s)) ∧ Below w.heap.size w w' := by
  have HC1 := Lib.hid (show ∀ s w, Calls Tryz.prog 245 #[.string s, .string { data := #[97, 98, 99, 100, 101, 102, 103, 104, 105, 106, 107, 108, 109, 110, 111, 112, 113, 114, 115, 116, 117, 118, 119, 120, 121, 122] }] w fun e w' => e = .returned (.bool (consB s letL)) ∧ Below w.heap.size w w' from fun s w => ccons_any s { data := #[97, 98, 99, 100, 101, 102, 103, 104, 105, 106, 107, 108, 109, 110, 111, 112, 113, 114, 115, 116, 117, 118, 119, 120, 121, 122] } w (by decide) (by decide))
  have HC2 := Lib.hid (show ∀ w, Calls Tryz.prog 245 #[.string s, .string { data := #[97, 98, 99, 100, 101, 102, 103, 104, 105, 106, 107, 108, 109, 110, 111, 112, 113, 114, 115, 116, 117, 118, 119, 120, 121, 122, 48, 49, 50, 51, 52, 53, 54, 55, 56, 57] }] w fun e w' => e = .returned (.bool (consB s alnL)) ∧ Below w.heap.size w w' from fun w => ccons_any s { data := #[97, 98, 99, 100, 101, 102, 103, 104, 105, 106, 107, 108, 109, 110, 111, 112, 113, 114, 115, 116, 117, 118, 119, 120, 121, 122, 48, 49, 50, 51, 52, 53, 54, 55, 56, 57] } w (by decide) (by decide))
  by_cases h1 : 3 ≤ s.size
  · have h1I : ¬ (s.size : Int) < 3 := by omega
    by_cases h2 : s.size ≤ 16
    · have h2I : ¬ (16 : Int) < (s.size : Int) := by omega
      rw [show baseB s = (consB (s.extract 0 1) letL && consB s alnL) from by unfold baseB; rw [decide_eq_true ⟨h1, h2⟩]; rfl]
      replace HC1 := Lib.hid (HC1.out (s.extract 0 1))
      obtain ⟨b, hb⟩ : ∃ b, b = consB (s.extract 0 1) letL := ⟨_, rfl⟩
      obtain ⟨c, hc⟩ : ∃ b, b = consB s alnL := ⟨_, rfl⟩
      rw [← hb] at HC1 ⊢
      rw [← hc] at HC2 ⊢
      have h3I : (1 : Int) ≤ (s.size : Int) := by omega
      clear hb hc h1 h2
      cases b
      · go_enter Tryz.func194, Tryz.ntmps194
        go_wp2_with (go_at_call 245; (with_reducible refine (HC1.out _).mono ?_); rintro e w1 ⟨rfl, hb⟩; have HB := Lib.hid hb; clear hb)
        go_ret
        exact ⟨rfl, HB.out⟩
      · go_enter Tryz.func194, Tryz.ntmps194
        go_wp2_with (first
          | (go_at_call 245; (with_reducible refine (HC1.out _).mono ?_); rintro e w1 ⟨rfl, hb⟩; have HB := Lib.hid hb; clear hb)
          | (go_at_call 245; (with_reducible refine (HC2.out _).mono ?_); rintro e w2 ⟨rfl, hb⟩; have HB2 := Lib.hid (HB.out.trans (hb.mono HB.out.size)); clear hb))
        go_ret
        exact ⟨rfl, HB2.out⟩
    · have h2I : (16 : Int) < (s.size : Int) := by omega
      rw [show baseB s = false from by unfold baseB; rw [decide_eq_false (by omega)]; rfl]
      clear h1 h2 HC1 HC2
      go_enter Tryz.func194, Tryz.ntmps194
      go_wp2_with (fail)
      go_ret
      exact ⟨rfl, Below.refl _ _⟩
  · have h1I : (s.size : Int) < 3 := by omega
    rw [show baseB s = false from by unfold baseB; rw [decide_eq_false (by omega)]; rfl]
    clear h1 HC1 HC2
    go_enter Tryz.func194, Tryz.ntmps194
    go_wp2_with (fail)
    go_ret
    exact ⟨rfl, Below.refl _ _⟩
end Go.Proofs.YtllpnpeppdfjlaaGreatDoor
namespace Go.Proofs.YtllpnpeppdfjlaaGreatDoor
set_option linter.unusedVariables false
set_option linter.unusedSimpArgs false
open Go.RowKit
set_option maxRecDepth 100000
set_option linter.unusedSimpArgs false
set_option linter.unusedVariables false
theorem size14 (s : ByteArray) : s.data.toList.length = s.size := Array.length_toList
end Go.Proofs.YtllpnpeppdfjlaaGreatDoor
namespace Go.Proofs.YtllpnpeppdfjlaaGreatDoor
set_option linter.unusedVariables false
set_option linter.unusedSimpArgs false
open Go.RowKit
set_option maxRecDepth 100000
set_option linter.unusedSimpArgs false
set_option linter.unusedVariables false
/-- a slice of strings in memory -/
def SsIn (w : World) (v : Value) (l : List ByteArray) : Prop :=
  ∃ a cap, v = .slice a l.length cap ∧ l.length ≤ cap ∧ l.length ≤ maxLen ∧ (l = [] ∨ ∃ ab ao, a = some ⟨ab, ao, none⟩ ∧ ab < w.heap.size ∧ ∀ i s, l[i]? = some s → w.cell? ⟨ab, ao + i, none⟩ = some (.string s))
theorem SsIn.below {w w' : World} {v : Value} {l : List ByteArray} (h : SsIn w v l) (hb : Below w.heap.size w w') : SsIn w' v l := by
  obtain ⟨a, cap, rfl, h1, h2, h3⟩ := h
  refine ⟨a, cap, rfl, h1, h2, h3.imp id ?_⟩
  rintro ⟨ab, ao, rfl, hlt, hx⟩
  exact ⟨ab, ao, rfl, Nat.lt_of_lt_of_le hlt hb.size, fun i s hi => (hb.cell (p := ⟨ab, ao + i, none⟩) hlt).trans (hx i s hi)⟩
end Go.Proofs.YtllpnpeppdfjlaaGreatDoor
namespace Go.Proofs.YtllpnpeppdfjlaaGreatDoor
set_option linter.unusedVariables false
set_option linter.unusedSimpArgs false
open Go.RowKit
set_option maxRecDepth 100000
set_option linter.unusedSimpArgs false
set_option linter.unusedVariables false
end Go.Proofs.YtllpnpeppdfjlaaGreatDoor
namespace Go.Proofs
set_option linter.unusedVariables false
set_option linter.unusedSimpArgs false
open Go.Shelf
def Tryz.lays103_ren : Go.Shelf.Ren := ⟨fun | 103 => 246 | 210 => 266 | 206 => 275 | n => n, fun | 9 => 9 | 4 => 4 | 24 => 53 | 3 => 3 | n => n, fun | n => n⟩
theorem Tryz.lays103 : Go.Proofs.Lays.n103 Tryz.prog Tryz.lays103_ren := {
  mixed := by kernel_rfl
  f103 := Tryz.func246.trans (congrArg some (by kernel_rfl))
  f206 := Tryz.func275.trans (congrArg some (by kernel_rfl))
  f210 := Tryz.func266.trans (congrArg some (by kernel_rfl))
  t3 := Tryz.underlying3
  a3 := Tryz.isAgg3
  z3 := Tryz.sizeOf3
  v3 := Tryz.zeroValue3
  t4 := Tryz.underlying4
  a4 := Tryz.isAgg4
  z4 := Tryz.sizeOf4
  v4 := Tryz.zeroValue4
  t9 := Tryz.underlying9
  a9 := Tryz.isAgg9
  z9 := Tryz.sizeOf9
  v9 := Tryz.zeroValue9
  t24 := Tryz.underlying53
  a24 := Tryz.isAgg53
  z24 := Tryz.sizeOf53
  v24 := Tryz.zeroValue53 }
end Go.Proofs
namespace Go.Proofs.YtllpnpeppdfjlaaGreatDoor
set_option linter.unusedVariables false
set_option linter.unusedSimpArgs false
open Go.RowKit
end Go.Proofs.YtllpnpeppdfjlaaGreatDoor
namespace Go.Proofs
set_option linter.unusedVariables false
set_option linter.unusedSimpArgs false
open Go.Shelf
def Tryz.lays137_ren : Go.Shelf.Ren := ⟨fun | 137 => 267 | 217 => 276 | 266 => 280 | n => n, fun | 9 => 9 | 5 => 5 | 3 => 3 | n => n, fun | n => n⟩
theorem Tryz.lays137 : Go.Proofs.Lays.n137 Tryz.prog Tryz.lays137_ren := {
  mixed := by kernel_rfl
  f137 := Tryz.func267.trans (congrArg some (by kernel_rfl))
  f217 := Tryz.func276.trans (congrArg some (by kernel_rfl))
  f266 := Tryz.func280.trans (congrArg some (by kernel_rfl))
  t3 := Tryz.underlying3
  a3 := Tryz.isAgg3
  z3 := Tryz.sizeOf3
  v3 := Tryz.zeroValue3
  t5 := Tryz.underlying5
  a5 := Tryz.isAgg5
  z5 := Tryz.sizeOf5
  v5 := Tryz.zeroValue5
  t9 := Tryz.underlying9
  a9 := Tryz.isAgg9
  z9 := Tryz.sizeOf9
  v9 := Tryz.zeroValue9 }
open Go.RowKit in
theorem Tryz.strings_IndexByte (s : ByteArray) (c : Int) (w : World) :
    Calls Tryz.prog 267 #[.string s, .int .u8 c] w fun e w' => e = .returned (.int .i64 (Lib.indexByte s.data.toList c.toNat.toUInt8)) ∧ w' = w := Any.strings_IndexByte Tryz.lays137 s c w
end Go.Proofs

/- Part 12 of the proof. -/
import Derived.Lib.ItoaNum
import Derived.Shelf.Small.Bits
import Derived.Shelf.Small.Strs
import Derived.Shelf.Strconv.Itoa0
import Derived.Shelf.Strings.Search1
import Derived.Test.YteokgklfljhcaaaGreatDoorProg
import Derived.Test.YteokgklfljhcaaaGreatDoorBd7
import Derived.Test.YteokgklfljhcaaaGreatDoorBd11
namespace Go.Proofs.YteokgklfljhcaaaGreatDoor
set_option linter.unusedVariables false
set_option linter.unusedSimpArgs false
open Go.RowKit
set_option maxRecDepth 100000
set_option linter.unusedSimpArgs false
set_option linter.unusedVariables false
theorem setCells11 (g : Nat) (t : TypeId) : ∀ (vs : List Value) (o : Nat) (w : World) (cs : Array Value), w.heap[g]? = some (.cells cs t (0, 0)) → o + vs.length ≤ cs.size →
    ∃ cs' : Array Value, (w.setCells g o vs).heap[g]? = some (.cells cs' t (0, 0)) ∧ cs'.size = cs.size ∧ ∀ j, cs'[j]? = if o ≤ j ∧ j < o + vs.length then vs[j - o]? else cs[j]?
  | [], o, w, cs, h, _ => ⟨cs, h, rfl, fun j => by rw [if_neg (by simp)]⟩
  | v :: r, o, w, cs, h, hl => by
    have h1 := heap_setCell_same w g o _ t v h
    obtain ⟨cs', h2, h3, h4⟩ := setCells11 g t r (o + 1) (w.setCell ⟨g, o, none⟩ v) _ h1 (by simp at hl ⊢; omega)
    refine ⟨cs', h2, by rw [h3]; simp, fun j => ?_⟩
    rw [h4 j]
    simp only [List.length_cons] at hl ⊢
    by_cases e : j = o
    · subst e
      rw [if_neg (by omega), if_pos (by omega)]
      have : j < cs.size := by omega
      simp [this]
    · by_cases e2 : o + 1 ≤ j ∧ j < o + 1 + r.length
      · rw [if_pos e2, if_pos (by omega), show j - o = (j - (o + 1)) + 1 by omega]; simp
      · rw [if_neg e2, if_neg (by omega), Array.getElem?_setIfInBounds_ne (by omega)]
theorem only_cells11 (g : Nat) : ∀ (vs : List Value) (o : Nat) (w : World), Only g w (w.setCells g o vs)
  | [], _, w => Only.refl _ _
  | v :: r, o, w => (Only.setCell w ⟨g, o, none⟩ v).trans (only_cells11 g r (o + 1) _)
theorem bytes_blk11 {w w' : World} {y : Value} {xs : List Int} (h : BytesIn w y xs) (hk : xs ≠ [] → ∀ k, y.ownBlock = some k → w'.heap[k]? = w.heap[k]?) : BytesIn w' y xs := by
  obtain ⟨a, c, rfl, h1, h2, h3⟩ := h
  refine ⟨a, c, rfl, h1, h2, ?_⟩
  by_cases hn : xs = []
  · exact .inl hn
  · rcases h3 with h3 | ⟨ab, ao, rfl, h3⟩
    · exact .inl h3
    · refine .inr ⟨ab, ao, rfl, fun i x hi => ?_⟩
      have h4 := h3 i x hi
      have h5 := hk hn ab rfl
      unfold World.cell? at h4 ⊢
      rw [h5]
      exact h4
theorem BytesIn.only11 {w w' : World} {y : Value} {ys : List Int} {p : Nat} (h : BytesIn w y ys) (ho : Only p w w') (hn : ys ≠ [] → ∀ k, y.ownBlock = some k → k ≠ p) : BytesIn w' y ys :=
  bytes_blk11 h fun hne k hk => ho.block k (bytes_own11 h hne k hk) (hn hne k hk)
/-- while a record is read: the Reader's block N, the results' blocks, the record's block q -/
structure RrM (w : World) (N q : Nat) (T : TypeId) (Z : Array Value) (ob : Option Nat) (s : RSt) (cs : Array Value) (wr : World) : Prop where
  eN : N = w.heap.size
  below : Below N w wr
  rd : ∃ ra rn rc, wr.heap[N]? = some (.cells (rdC (.slice ra rn rc) (numE s.2)) 104 (0, 0)) ∧ BytesIn wr (.slice ra rn rc) s.1 ∧ (Value.slice ra rn rc).ownBlock = ob
  res : wr.heap[N + 1]? = some (.cells (rdC (.slice none 0 0) 0) 104 (0, 0))
  zer : wr.heap[N + 1 + 1]? = some (.cells Z T (0, 0))
  at_ : wr.heap[q]? = some (.cells cs T (0, 0))
  obN : s.1 ≠ [] → ∀ k, ob = some k → k < N
  q3 : N + 1 + 1 < q
theorem RrM.call {w : World} {N q : Nat} {T : TypeId} {Z : Array Value} {ob : Option Nat} {s : RSt} {cs : Array Value} {wr wr' : World} (m : RrM w N q T Z ob s cs wr) (hb : Below wr.heap.size wr wr') : RrM w N q T Z ob s cs wr' := by
  obtain ⟨ra, rn, rc, h5, hin, ho⟩ := m.rd
  exact ⟨m.eN, m.below.trans (hb.mono (by rw [m.eN]; exact m.below.size)), ⟨ra, rn, rc, (hb.block _ (bkT_lt h5)).trans h5, hin.below hb, ho⟩, (hb.block _ (bkT_lt m.res)).trans m.res, (hb.block _ (bkT_lt m.zer)).trans m.zer, (hb.block _ (bkT_lt m.at_)).trans m.at_, m.obN, m.q3⟩
theorem RrM.read {w : World} {N q : Nat} {T : TypeId} {Z : Array Value} {ob : Option Nat} {s s' : RSt} {cs : Array Value} {wr : World} (m : RrM w N q T Z ob s cs wr) {a : Option Addr} {n c : Nat} (hx : BytesIn wr (.slice a n c) s'.1) (ho : (Value.slice a n c).ownBlock = ob) (hs : s.1 = [] → s'.1 = []) : RrM w N q T Z ob s' cs (wr.setRow N (rdC (.slice a n c) (numE s'.2))) := by
  have h3 := m.q3
  obtain ⟨ra, rn, rc, h5, hin, _⟩ := m.rd
  exact ⟨m.eN, below_setRow m.below (Nat.le_refl _) _, ⟨a, n, c, setRow_heap _ _ _ _ _ _ h5, bytes_row hx h5 _, ho⟩, (setRow_other _ _ _ _ (by omega)).trans m.res, (setRow_other _ _ _ _ (by omega)).trans m.zer, (setRow_other _ _ _ _ (by omega)).trans m.at_, fun hn => m.obN fun e => hn (hs e), h3⟩
/-- what the row of the Reader being written leaves as it was -/
theorem RrM.row {w : World} {N q : Nat} {T : TypeId} {Z : Array Value} {ob : Option Nat} {s : RSt} {cs : Array Value} {wr : World} (m : RrM w N q T Z ob s cs wr) (C : Array Value) {v : Value} {ys : List Int} (h : BytesIn wr v ys) : BytesIn (wr.setRow N C) v ys := by
  obtain ⟨ra, rn, rc, h5, hin, _⟩ := m.rd
  exact bytes_row h h5 _
theorem RrM.put {w : World} {N q : Nat} {T : TypeId} {Z : Array Value} {ob : Option Nat} {s : RSt} {cs cs' : Array Value} {wr wr' : World} (m : RrM w N q T Z ob s cs wr) (ho : Only q wr wr') (h : wr'.heap[q]? = some (.cells cs' T (0, 0))) : RrM w N q T Z ob s cs' wr' := by
  have h3 := m.q3
  obtain ⟨ra, rn, rc, h5, hin, hob⟩ := m.rd
  exact ⟨m.eN, m.below.trans (ho.below (by omega) (by rw [m.eN]; exact m.below.size)), ⟨ra, rn, rc, (ho.block _ (bkT_lt h5) (by omega)).trans h5, hin.only11 ho (fun hn k hk => by have := m.obN hn k (hob ▸ hk); omega), hob⟩, (ho.block _ (bkT_lt m.res) (by omega)).trans m.res, (ho.block _ (bkT_lt m.zer) (by omega)).trans m.zer, h, m.obN, h3⟩
theorem RrM.grow {w : World} {N q : Nat} {T : TypeId} {Z : Array Value} {ob : Option Nat} {s : RSt} {cs : Array Value} {wr wr' : World} (m : RrM w N q T Z ob s cs wr) {own : Option Nat} (hg : wr.grownBy wr' own) (ho : ∀ k, own = some k → q < k) : RrM w N q T Z ob s cs wr' := by
  have h3 := m.q3
  have hne : ∀ k, k ≤ q → some k ≠ own := fun k hk e => by have := ho k e.symm; omega
  obtain ⟨ra, rn, rc, h5, hin, hob⟩ := m.rd
  have blk : ∀ {k : Nat} {o : Obj}, wr.heap[k]? = some o → k ≤ q → wr'.heap[k]? = some o := fun {k o} h hk => (hg.block k (bkT_lt h) (hne k hk)).trans h
  refine ⟨m.eN, m.below.trans ⟨hg.os, hg.tape, hg.output, hg.size, fun k hk => hg.block k (Nat.lt_of_lt_of_le hk (by rw [m.eN]; exact m.below.size)) (hne k (by omega))⟩, ⟨ra, rn, rc, blk h5 (by omega), ?_, hob⟩, blk m.res (by omega), blk m.zer (by omega), blk m.at_ (Nat.le_refl _), m.obN, h3⟩
  obtain ⟨a', c', e', x1, x2, x3⟩ := id hin
  refine ⟨a', c', e', x1, x2, ?_⟩
  by_cases hn : s.1 = []
  · exact .inl hn
  · rcases x3 with x3 | ⟨ab, ao, rfl, h4⟩
    · exact .inl x3
    · injection e' with e1 _ _
      subst e1
      refine .inr ⟨ab, ao, rfl, fun i x hi => ?_⟩
      have h6 := h4 i x hi
      have h7 := m.obN hn ab (by rw [← hob]; rfl)
      unfold World.cell? at h6 ⊢
      have h8 : ab < wr.heap.size := by have := World.block_lt_of_cell? wr _ (h4 i x hi); exact this
      rw [hg.block ab h8 (hne ab (by omega))]
      exact h6
theorem RrM.side {w : World} {N q : Nat} {T : TypeId} {Z : Array Value} {ob : Option Nat} {s : RSt} {cs : Array Value} {wr wr' : World} (m : RrM w N q T Z ob s cs wr) {g : Nat} (ho : Only g wr wr') (hg : q < g) : RrM w N q T Z ob s cs wr' := by
  have h3 := m.q3
  obtain ⟨ra, rn, rc, h5, hin, hob⟩ := m.rd
  exact ⟨m.eN, m.below.trans (ho.below (by omega) (by rw [m.eN]; exact m.below.size)), ⟨ra, rn, rc, (ho.block _ (bkT_lt h5) (by omega)).trans h5, hin.only11 ho (fun hn k hk => by have := m.obN hn k (hob ▸ hk); omega), hob⟩, (ho.block _ (bkT_lt m.res) (by omega)).trans m.res, (ho.block _ (bkT_lt m.zer) (by omega)).trans m.zer, (ho.block _ (bkT_lt m.at_) (by omega)).trans m.at_, m.obN, h3⟩
/-- the results are stored -/
structure RrF (w wr : World) (N q : Nat) (T : TypeId) (R cs Z : Array Value) : Prop where
  r0 : wr.heap[N + 1]? = some (.cells (rdC (.slice none 0 0) 0) 104 (0, 0))
  s1 : (wr.setRow (N + 1) R).heap[N]? = some (.cells R 104 (0, 0)) ∧ (wr.setRow (N + 1) R).heap[q]? = some (.cells cs T (0, 0))
  r1 : (wr.setRow (N + 1) R).heap[N + 1 + 1]? = some (.cells Z T (0, 0))
  s2 : ((wr.setRow (N + 1) R).setRow (N + 1 + 1) cs).heap[N]? = some (.cells R 104 (0, 0)) ∧ ((wr.setRow (N + 1) R).setRow (N + 1 + 1) cs).heap[q]? = some (.cells cs T (0, 0))
  a : ((wr.setRow (N + 1) R).setRow (N + 1 + 1) cs).heap[N + 1]? = some (.cells R 104 (0, 0))
  b : ((wr.setRow (N + 1) R).setRow (N + 1 + 1) cs).heap[N + 1 + 1]? = some (.cells cs T (0, 0))
  end_ : Below N w ((wr.setRow (N + 1) R).setRow (N + 1 + 1) cs) ∧ ((wr.setRow (N + 1) R).setRow (N + 1 + 1) cs).heap.size = wr.heap.size ∧ ∀ k, k ≠ N + 1 → k ≠ N + 1 + 1 → ((wr.setRow (N + 1) R).setRow (N + 1 + 1) cs).heap[k]? = wr.heap[k]?
theorem RrM.fin {w : World} {N q : Nat} {T : TypeId} {Z : Array Value} {ob : Option Nat} {s : RSt} {cs : Array Value} {wr : World} (m : RrM w N q T Z ob s cs wr) {R : Array Value} (h5 : wr.heap[N]? = some (.cells R 104 (0, 0))) : RrF w wr N q T R cs Z := by
  have h3 := m.q3
  have e1 := setRow_heap wr (N + 1) _ R _ _ m.res
  have e2 := (setRow_other wr (N + 1) (N + 1 + 1) R (by omega)).trans m.zer
  have e3 := (setRow_other wr (N + 1) N R (by omega)).trans h5
  have e4 := (setRow_other wr (N + 1) q R (by omega)).trans m.at_
  refine ⟨m.res, ⟨e3, e4⟩, e2, ⟨(setRow_other _ _ _ _ (by omega)).trans e3, (setRow_other _ _ _ _ (by omega)).trans e4⟩, (setRow_other _ _ _ _ (by omega)).trans e1, setRow_heap _ _ _ _ _ _ e2, below_setRow (below_setRow m.below (by omega) _) (by omega) _, by simp [World.setRow], fun k h1 h2 => (setRow_other _ _ _ _ h2).trans (setRow_other _ _ _ _ h1)⟩
end Go.Proofs.YteokgklfljhcaaaGreatDoor
namespace Go.Proofs.YteokgklfljhcaaaGreatDoor
set_option linter.unusedVariables false
set_option linter.unusedSimpArgs false
open Go.RowKit
def bytesOf (h : Nat → Int) : List Int := (List.range 32).map h
/-- the hash of a node -/
def nodeF (a b : Nat → Int) : Nat → Int := sumF (1 :: (bytesOf a ++ bytesOf b))
/-- how many leaves stand in the first part -/
def splitF (n : Nat) : Nat := 2 ^ (Lib.bitLen (n - 1) - 1)
theorem splitF_spec (n : Nat) (h : 2 ≤ n) (hn : n < 18446744073709551616) : 1 ≤ splitF n ∧ splitF n < n ∧ n ≤ 2 * splitF n ∧ 1 ≤ Lib.bitLen (n - 1) ∧ Lib.bitLen (n - 1) ≤ 64 := by
  have hb := Lib.bitLenAux_bounds 64 (n - 1) (by omega) (by omega)
  have h64 : Lib.bitLenAux 64 (n - 1) ≤ 64 := Lib.bitLenAux_le 64 (n - 1) 64 (by omega)
  unfold splitF Lib.bitLen
  obtain ⟨e, he⟩ : ∃ e, Lib.bitLenAux 64 (n - 1) = e + 1 := ⟨Lib.bitLenAux 64 (n - 1) - 1, by omega⟩
  rw [he] at hb h64 ⊢
  simp only [Nat.add_sub_cancel] at hb ⊢
  have hp : 1 ≤ 2 ^ e := Nat.one_le_two_pow
  have hs : 2 ^ (e + 1) = 2 * 2 ^ e := by rw [Nat.pow_succ, Nat.mul_comm]
  omega
def rootF (l : List (Nat → Int)) : Nat → Int :=
  if l.length = 1 then l.getD 0 (fun _ => 0)
  else if _h : 1 ≤ splitF l.length ∧ splitF l.length < l.length then nodeF (rootF (l.take (splitF l.length))) (rootF (l.drop (splitF l.length)))
  else sumF []
termination_by l.length
decreasing_by
  · rw [List.length_take]; omega
  · rw [List.length_drop]; omega
def turnsF (i n : Nat) : List Bool :=
  if _h : 1 ≤ splitF n ∧ splitF n < n then
    if i < splitF n then false :: turnsF i (splitF n) else true :: turnsF (i - splitF n) (n - splitF n)
  else []
termination_by n
decreasing_by
  · omega
  · omega
theorem rootF_nil : rootF [] = sumF [] := by
  rw [rootF, if_neg (by simp), dif_neg (by simp)]
theorem rootF_one (l : List (Nat → Int)) (h : l.length = 1) : rootF l = l.getD 0 (fun _ => 0) := by rw [rootF, if_pos h]
theorem rootF_step (l : List (Nat → Int)) (h : 2 ≤ l.length) (hs : 1 ≤ splitF l.length ∧ splitF l.length < l.length) :
    rootF l = nodeF (rootF (l.take (splitF l.length))) (rootF (l.drop (splitF l.length))) := by rw [rootF, if_neg (by omega), dif_pos hs]
def foldStep (s : Nat → Int) (x : Bool × (Nat → Int)) : Nat → Int := if x.1 then nodeF x.2 s else nodeF s x.2
def foldT (s : Nat → Int) (l : List (Bool × (Nat → Int))) : Nat → Int := l.foldl foldStep s
end Go.Proofs.YteokgklfljhcaaaGreatDoor
namespace Go.Proofs
set_option linter.unusedVariables false
set_option linter.unusedSimpArgs false
open Go.Shelf
def Tryz.lays125_ren : Go.Shelf.Ren := ⟨fun | 125 => 146 | 128 => 177 | 129 => 178 | n => n, fun | 3 => 3 | 4 => 4 | 5 => 5 | 9 => 9 | 46 => 152 | 51 => 147 | 53 => 88 | n => n, fun | n => n⟩
theorem Tryz.lays125 : Go.Proofs.Lays.n125 Tryz.prog Tryz.lays125_ren := {
  mixed := by kernel_rfl
  f125 := Tryz.func146.trans (congrArg some (by kernel_rfl))
  f128 := Tryz.func177.trans (congrArg some (by kernel_rfl))
  f129 := Tryz.func178.trans (congrArg some (by kernel_rfl))
  t3 := Tryz.underlying3
  a3 := Tryz.isAgg3
  z3 := Tryz.sizeOf3
  v3 := Tryz.zeroValue3
  t4 := Tryz.underlying4
  a4 := Tryz.isAgg4
  z4 := Tryz.sizeOf4
  v4 := Tryz.zeroValue4
  t5 := Tryz.underlying5
  a5 := Tryz.isAgg5
  z5 := Tryz.sizeOf5
  v5 := Tryz.zeroValue5
  t9 := Tryz.underlying9
  a9 := Tryz.isAgg9
  z9 := Tryz.sizeOf9
  v9 := Tryz.zeroValue9
  t46 := Tryz.underlying152
  a46 := Tryz.isAgg152
  z46 := Tryz.sizeOf152
  v46 := Tryz.zeroValue152
  t51 := Tryz.underlying147
  a51 := Tryz.isAgg147
  z51 := Tryz.sizeOf147
  v51 := Tryz.zeroValue147
  t53 := Tryz.underlying88
  a53 := Tryz.isAgg88
  z53 := Tryz.sizeOf88
  v53 := Tryz.zeroValue88 }
theorem Tryz.bits_Len (x : Int) (w : World) (h0 : 0 ≤ x) (h1 : x ≤ 18446744073709551615) :
    Calls Tryz.prog 146 #[.int .u64 x] w fun e w' => e = .returned (.int .i64 (Lib.bitLen x.toNat)) ∧ w' = w := Any.bits_Len Tryz.lays125 x w h0 h1
end Go.Proofs
namespace Go.Proofs.YteokgklfljhcaaaGreatDoor
set_option linter.unusedVariables false
set_option linter.unusedSimpArgs false
open Go.RowKit
theorem slice25all (b : Nat) (w : World) : (Instr.sliceAt 23 (.pointer (some ⟨b, 0, none⟩)) none none none).run Tryz.prog w = .ok (.slice (some ⟨b, 0, none⟩) 32 32) w := by
  have ha : Tryz.prog.arrayLen 23 = 32 := by kernel_rfl
  have he : Tryz.prog.elem 23 = 5 := by kernel_rfl
  have hs : (sizeOf 5).run Tryz.prog w = .ok 1 w := by kernel_rfl
  rw [run_sliceAt_array_all w 23 ⟨b, 0, none⟩ (by rw [ha, he]; exact Tryz.underlying23), ha, he, hs]
  simp only [Result.andThen_ok, slicedAt]
  rw [if_neg (by omega), Addr.add_mid]
theorem bytesOf_length (a : Nat → Int) : (bytesOf a).length = 32 := by simp [bytesOf]
theorem RowAt.bytes {w : World} {b g : Nat} {a : Nat → Int} (h : RowAt w b .u8 32 23 a) (hne : b ≠ g) : BytesAt w g (.slice (some ⟨b, 0, none⟩) 32 32) (bytesOf a) := by
  refine ⟨_, _, by rw [bytesOf_length], by rw [bytesOf_length]; omega, by rw [bytesOf_length]; unfold maxLen; omega, .inr ⟨b, 0, rfl, hne, fun i x hi => ?_⟩⟩
  have hil : i < 32 := by have := (List.getElem?_eq_some_iff.1 hi).1; rw [bytesOf_length] at this; exact this
  rw [Nat.zero_add, h.cell i hil]
  simp [bytesOf, hil] at hi
  rw [hi]
theorem shSumM_h (g : Nat) (h : HS) (w : World) (hh : HashAt w g h.s h.b h.n) (h0 : 0 ≤ h.n ∧ h.n < 18446744073709551616) (hk : Consts w) :
    Calls Tryz.prog 100 #[.pointer (some ⟨g, 0, none⟩)] w fun e w' => e = .returned (.agg (rowOf .u8 32 (hsum h))) ∧ Below w.heap.size w w' :=
  sumM_any g h.s h.b h.n w hh h0.1 h0.2 hk
theorem shWrite_h (g : Nat) (h : HS) (xs : List Int) (v : Value) (w : World) (hh : HashAt w g h.s h.b h.n) (h0 : 0 ≤ h.n ∧ h.n < 18446744073709551616) (hx : BytesAt w g v xs) (he : Env w) (hg : 2 < g) :
    Calls Tryz.prog 99 #[.pointer (some ⟨g, 0, none⟩), v] w fun e w' => e = .returned (.tuple #[]) ∧ HashAt w' g (putF h xs).s (putF h xs).b (putF h xs).n ∧ Only g w w' :=
  shWrite_any g h.s h.b h.n xs v w hh h0.1 h0.2 hx he hg
/-- what Node knows of memory -/
structure NodeM (w w' : World) (g : Nat) (a b : Nat → Int) (h : HS) : Prop where
  ra : RowAt w' w.heap.size .u8 32 23 a
  rb : RowAt w' (w.heap.size + 1) .u8 32 23 b
  re : RowAt w' (w.heap.size + 1 + 1) .u8 32 23 (fun _ => 0)
  hash : HashAt w' g h.s h.b h.n
  gg : w.heap.size + 1 + 1 < g
  bounds : 0 ≤ h.n ∧ h.n < 18446744073709551616
  below : Below w.heap.size w w'
  env : Env w'
theorem NodeM.wrote {w w' w2 : World} {g : Nat} {a b : Nat → Int} {h : HS} (HC : 2 < w.heap.size) (m : NodeM w w' g a b h) {xs : List Int} (hh : HashAt w2 g (putF h xs).s (putF h xs).b (putF h xs).n) (ho : Only g w' w2) : NodeM w w2 g a b (putF h xs) :=
  ⟨(ho.block _ m.ra.lt (by have := m.gg; omega)).trans m.ra, (ho.block _ m.rb.lt (by have := m.gg; omega)).trans m.rb, (ho.block _ m.re.lt (by have := m.gg; omega)).trans m.re, hh, m.gg, putF_bounds h m.bounds.1 m.bounds.2 xs,
   m.below.trans (ho.below (by have := m.gg; omega) m.below.size), ho.env m.env (by have := m.gg; have := HC; omega)⟩
theorem NodeM.calls {w w' w2 : World} {g : Nat} {a b : Nat → Int} {h : HS} (m : NodeM w w' g a b h) (hb : Below w'.heap.size w' w2) : NodeM w w2 g a b h :=
  ⟨m.ra.below hb m.ra.lt, m.rb.below hb m.rb.lt, m.re.below hb m.re.lt, m.hash.below hb m.hash.lt, m.gg, m.bounds, m.below.trans (hb.mono m.below.size), m.env.below hb m.env.lt⟩
theorem node_start (w : World) (a b : Nat → Int) (he : Env w) :
    NodeM w ((((w.alloc (.cells (rowOf .u8 32 a) 23)).alloc (.cells (rowOf .u8 32 b) 23)).alloc (.cells (rowOf .u8 32 (fun _ => 0)) 23)).alloc (.cells (hashCells BT (fun _ => 0) 0) 210)) (w.heap.size + 1 + 1 + 1) a b h0 := by
  have hb : Below w.heap.size w ((((w.alloc (.cells (rowOf .u8 32 a) 23)).alloc (.cells (rowOf .u8 32 b) 23)).alloc (.cells (rowOf .u8 32 (fun _ => 0)) 23)).alloc (.cells (hashCells BT (fun _ => 0) 0) 210)) :=
    (((below_alloc w _).trans ((below_alloc _ _).mono (by simp))).trans ((below_alloc _ _).mono (by simp; omega))).trans ((below_alloc _ _).mono (by simp; omega))
  refine ⟨((RowAt.new w _ _ _ _).alloc _).alloc _ |>.alloc _, ?_, ?_, ?_, by omega, by decide, hb, he.below hb he.lt⟩
  · have := ((RowAt.new (w.alloc (.cells (rowOf .u8 32 a) 23)) .u8 32 23 b).alloc (.cells (rowOf .u8 32 (fun _ => 0)) 23)).alloc (.cells (hashCells BT (fun _ => 0) 0) 210)
    rw [shSize_alloc] at this; exact this
  · have := (RowAt.new ((w.alloc (.cells (rowOf .u8 32 a) 23)).alloc (.cells (rowOf .u8 32 b) 23)) .u8 32 23 (fun _ => 0)).alloc (.cells (hashCells BT (fun _ => 0) 0) 210)
    rw [shSize_alloc, shSize_alloc] at this; exact this
  · have := heap_alloc_new (((w.alloc (.cells (rowOf .u8 32 a) 23)).alloc (.cells (rowOf .u8 32 b) 23)).alloc (.cells (rowOf .u8 32 (fun _ => 0)) 23)) (.cells (hashCells BT (fun _ => 0) 0) 210)
    rw [shSize_alloc, shSize_alloc, shSize_alloc] at this; exact this
theorem one_inN (w : World) (g : Nat) (hg : g < w.heap.size) (x : Int) : BytesAt (w.alloc (.cells #[.int .u8 x] 5)) g (.slice (some ⟨w.heap.size, 0, none⟩) 1 1) [x] := by
  refine ⟨_, _, rfl, by simp, by simp [maxLen], .inr ⟨_, _, rfl, by omega, fun i y hi => ?_⟩⟩
  rw [Nat.zero_add, cell_of_row _ _ _ _ _ _ (heap_alloc_new w _)]
  match i, hi with
  | 0, hi => cases hi; rfl
set_option maxRecDepth 100000 in
set_option maxHeartbeats 400000 in
theorem node_any (a b : Nat → Int) (w : World) (he : Env w) :
    Calls Tryz.prog 102 #[.agg (rowOf .u8 32 a), .agg (rowOf .u8 32 b)] w fun e w' => e = .returned (.agg (rowOf .u8 32 (nodeF a b))) ∧ Below w.heap.size w w' := by
  have M := Lib.hid (node_start w a b he)
  have HE := Lib.hid (he.below (((below_alloc w (.cells (rowOf .u8 32 a) 23)).trans ((below_alloc _ (.cells (rowOf .u8 32 b) 23)).mono (by simp))).trans ((below_alloc _ (.cells (rowOf .u8 32 (fun _ => 0)) 23)).mono (by simp; omega))) he.lt)
  have HC := Lib.hid he.lt
  clear he
  go_enter Tryz.func102, Tryz.ntmps102
  go_upto_region 1 with (fail)
  rw [zeros32]
  go_upto_region 2 with (go_at_call 98; (with_reducible refine (shNew_any _ HE.out).mono ?_); rintro e w' ⟨rfl, rfl⟩)
  generalize (((w.alloc (.cells (rowOf .u8 32 a) 23)).alloc (.cells (rowOf .u8 32 b) 23)).alloc (.cells (rowOf .u8 32 (fun _ => 0)) 23)).alloc (.cells (hashCells BT (fun _ => 0) 0) 210) = w1 at *
  obtain ⟨g, hg⟩ : ∃ g, g = w.heap.size + 1 + 1 + 1 := ⟨_, rfl⟩
  rw [← hg] at M ⊢
  clear hg HE
  have M1 := Lib.hid (M.out.calls (below_alloc w1 (.cells #[.int .u8 1] 5)))
  have HX := Lib.hid (one_inN w1 g M.out.hash.lt 1)
  have HG := Lib.hid (show 2 < g from by have := M.out.gg; have := HC.out; omega)
  go_upto_region 3 with (go_at_call 99; (with_reducible refine (shWrite_h g h0 [1] _ _ M1.out.hash M1.out.bounds HX.out M1.out.env HG.out).mono ?_); rintro e w2 ⟨rfl, HH, HO⟩; replace HH := Lib.hid HH; replace HO := Lib.hid HO)
  have M2 := Lib.hid (M1.out.wrote HC.out HH.out HO.out)
  clear M M1 HX HH HO
  have hsl := slice25all w.heap.size
  have HX := Lib.hid (M2.out.ra.bytes (g := g) (by have := M2.out.gg; omega))
  go_upto_region 4 with (go_at_call 99; (with_reducible refine (shWrite_h g _ _ _ _ M2.out.hash M2.out.bounds HX.out M2.out.env HG.out).mono ?_); rintro e w3 ⟨rfl, HH, HO⟩; replace HH := Lib.hid HH; replace HO := Lib.hid HO)
  have M3 := Lib.hid (M2.out.wrote HC.out HH.out HO.out)
  clear M2 HX HH HO hsl
  have hsl := slice25all (w.heap.size + 1)
  have HX := Lib.hid (M3.out.rb.bytes (g := g) (by have := M3.out.gg; omega))
  go_upto_region 5 with (go_at_call 99; (with_reducible refine (shWrite_h g _ _ _ _ M3.out.hash M3.out.bounds HX.out M3.out.env HG.out).mono ?_); rintro e w4 ⟨rfl, HH, HO⟩; replace HH := Lib.hid HH; replace HO := Lib.hid HO)
  have M4 := Lib.hid (M3.out.wrote HC.out HH.out HO.out)
  clear M3 HX HH HO hsl
  go_wp2_with (first
    | (go_at_call 100; (with_reducible refine (shSumM_h g _ _ M4.out.hash M4.out.bounds M4.out.env.consts).mono ?_); rintro e w5 ⟨rfl, HB5⟩; replace M4 := Lib.hid (M4.out.calls HB5); clear HB5)
    | (refine wpList_store_row rfl 23 (.tmp 4) (.tmp 17) rfl (w.heap.size + 1 + 1) _ rfl rfl 23 _ M4.out.re (by rw [rowOf_size]; kernel_rfl) (by rw [rowOf_size, rowOf_size]) (rowOf_one _ _ _) ?_))
  refine bodyPost_ret (results_cell_row rfl _ _ (w.heap.size + 1 + 1) 23 _ (0, 0) _ rfl (setRow_heap _ _ _ _ _ _ M4.out.re) Tryz.underlying23 rfl (by rw [rowOf_size]; kernel_rfl)) rfl ?_
  refine ⟨?_, below_setRow M4.out.below (by omega) _⟩
  rw [← putF_append, ← putF_append]
  rfl
set_option maxRecDepth 100000 in
theorem split_any (n : Nat) (w : World) (h : 2 ≤ n) (hn : n < 9223372036854775808) : Calls Tryz.prog 101 #[.int .i64 (n : Int)] w fun e w' => e = .returned (.int .i64 (splitF n : Int)) ∧ w = w' := by
  have hs := splitF_spec n h (by omega)
  obtain ⟨L, hL⟩ : ∃ L, Lib.bitLen (n - 1) = L := ⟨_, rfl⟩
  have HS := Lib.hid (show splitF n = 2 ^ (L - 1) by unfold splitF; rw [hL])
  rw [hL] at hs
  have n0 : ((n : Int) - 1).toNat = n - 1 := by omega
  have HP := Lib.hid hs
  obtain ⟨_, _, _, hl1, hl2⟩ := hs
  have n1 : ((L : Int) - 1).toNat = L - 1 := by omega
  have n2 : 0 ≤ ((L : Int) - 1) := by omega
  replace hn := Lib.hid hn
  have HB := Lib.hid (show (0 : Int) ≤ (n : Int) - 1 ∧ (n : Int) - 1 ≤ 18446744073709551615 from ⟨by omega, by have := hn.out; omega⟩)
  replace hL := Lib.hid hL
  have hnI : n ≤ 9223372036854775807 := by have := hn.out; omega
  go_enter Tryz.func101, Tryz.ntmps101
  go_wp2_with (go_at_call 146; (with_reducible refine (Tryz.bits_Len _ _ HB.out.1 HB.out.2).mono ?_); rintro e w' ⟨rfl, rfl⟩; rw [n0, hL.out])
  go_ret
  have e : (2 : Int) ^ (L - 1) = ((splitF n : Nat) : Int) := by rw [HS.out]; simp
  refine ⟨?_, rfl⟩
  have e2 : wrap64 ((2 : Int) ^ (L - 1)) = ((splitF n : Nat) : Int) := by rw [e]; exact IntWalk.wrap64_in _ ⟨by omega, by have := HP.out.2.1; omega⟩
  exact congrArg (fun x => Ending.returned (Value.int IntKind.i64 x)) e2
end Go.Proofs.YteokgklfljhcaaaGreatDoor

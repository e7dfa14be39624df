/- Part 1 of the proof. -/
import Derived.Test.YtllpnpeppdfjlaaDoorRows
import Derived.WalkKit
import Derived.WalkSpells
import Derived.WalkLawsBesides
import Derived.Lib.Hide
import Derived.StillTailTactics
import Derived.Deep.QuietTactic
import Derived.BigQuiet
import Derived.Deep.MidRow
import Derived.Laws.CopyOwn
import Derived.Deep.RegionHeld3
import Derived.Maps.AppendAt
import Derived.Laws.BytesArg
import Derived.Laws.Bits64b
import Derived.ChangeKeysEq
import Derived.Lib.SlBytesConst
import Derived.Deep.WholeRow
import Derived.Lib.SliceRun
import Derived.Deep.Cut
import Derived.Deep.CutRange
import Derived.Deep.RegionWith
import Derived.Deep.RegionLaw
import Derived.OwnWalk
import Derived.Laws.IdiomStrings
namespace Go.Proofs.YtllpnpeppdfjlaaDoor
set_option linter.unusedVariables false
set_option linter.unusedSimpArgs false
open Go.RowKit
def upd (f : Nat → Int) (i : Nat) (v : Int) : Nat → Int := fun j => if j = i then v else f j
def rowOf (k : IntKind) (n : Nat) (f : Nat → Int) : Array Value := ((List.range n).map fun i => Value.int k (f i)).toArray
theorem rowOf_size (k : IntKind) (n : Nat) (f : Nat → Int) : (rowOf k n f).size = n := by simp [rowOf]
theorem rowOf_get (k : IntKind) (n : Nat) (f : Nat → Int) (i : Nat) (h : i < n) : (rowOf k n f)[i]? = some (.int k (f i)) := by simp [rowOf, h]
theorem rowOf_congr (k : IntKind) (n : Nat) (f g : Nat → Int) (h : ∀ i, i < n → f i = g i) : rowOf k n f = rowOf k n g := by
  unfold rowOf
  congr 1
  apply List.map_congr_left
  intro i hi
  rw [h i (by simpa using hi)]
theorem rowOf_set (k : IntKind) (n : Nat) (f : Nat → Int) (i : Nat) (v : Int) : (rowOf k n f).setIfInBounds i (.int k v) = rowOf k n (upd f i v) := by
  apply Array.ext_getElem?
  intro j
  simp only [Array.getElem?_setIfInBounds, rowOf_size]
  by_cases hj : j < n
  · rw [rowOf_get k n _ j hj, rowOf_get k n _ j hj]
    by_cases e : i = j
    · subst e; simp [hj, upd]
    · have e' : ¬ j = i := fun x => e x.symm
      simp [e, upd, e']
  · have h1 : (rowOf k n f)[j]? = none := by simp [rowOf_size]; omega
    have h2 : (rowOf k n (upd f i v))[j]? = none := by simp [rowOf_size]; omega
    rw [h1, h2]
    by_cases e : i = j
    · subst e; simp [hj]
    · simp [e]
/-- block g of w is a row of n numbers, not frozen -/
def RowAt (w : World) (g : Nat) (k : IntKind) (n : Nat) (t : TypeId) (f : Nat → Int) : Prop := w.heap[g]? = some (.cells (rowOf k n f) t (0, 0))
theorem RowAt.cell {w : World} {g n : Nat} {k : IntKind} {t : TypeId} {f : Nat → Int} (h : RowAt w g k n t f) (i : Nat) (hi : i < n) : w.cell? ⟨g, i, none⟩ = some (.int k (f i)) := by
  rw [cell_of_row w g i _ t _ h, rowOf_get k n f i hi]
theorem RowAt.free {w : World} {g n : Nat} {k : IntKind} {t : TypeId} {f : Nat → Int} (h : RowAt w g k n t f) (i : Nat) : w.frozen? ⟨g, i, none⟩ = false := frozen_of_row w g i _ t h
theorem RowAt.set {w : World} {g n : Nat} {k : IntKind} {t : TypeId} {f : Nat → Int} (h : RowAt w g k n t f) (i : Nat) (v : Int) : RowAt (w.setCell ⟨g, i, none⟩ (.int k v)) g k n t (upd f i v) := by
  unfold RowAt
  rw [heap_setCell_same w g i _ t _ h, rowOf_set]
theorem RowAt.other {w : World} {g n : Nat} {k : IntKind} {t : TypeId} {f : Nat → Int} (h : RowAt w g k n t f) (a : Addr) (v : Value) (hne : g ≠ a.block) : RowAt (w.setCell a v) g k n t f := by
  unfold RowAt
  rw [heap_setCell_other w a g v hne]; exact h
theorem RowAt.alloc {w : World} {g n : Nat} {k : IntKind} {t : TypeId} {f : Nat → Int} (h : RowAt w g k n t f) (o : Obj) : RowAt (w.alloc o) g k n t f := by
  unfold RowAt at h ⊢
  have hlt : g < w.heap.size := (Array.getElem?_eq_some_iff.1 h).1
  exact (Below.heap_alloc w o g hlt).trans h
theorem RowAt.drew {w : World} {g n : Nat} {k : IntKind} {t : TypeId} {f : Nat → Int} (h : RowAt w g k n t f) : RowAt w.drew g k n t f := h
theorem RowAt.new (w : World) (k : IntKind) (n : Nat) (t : TypeId) (f : Nat → Int) : RowAt (w.alloc (.cells (rowOf k n f) t)) w.heap.size k n t f := heap_alloc_new w _
theorem RowAt.lt {w : World} {g n : Nat} {k : IntKind} {t : TypeId} {f : Nat → Int} (h : RowAt w g k n t f) : g < w.heap.size := (Array.getElem?_eq_some_iff.1 h).1
theorem RowAt.below {w w' : World} {B g n : Nat} {k : IntKind} {t : TypeId} {f : Nat → Int} (h : RowAt w g k n t f) (hb : Below B w w') (hg : g < B) : RowAt w' g k n t f := (hb.block g hg).trans h
theorem rowOf_one (k : IntKind) (n : Nat) (f : Nat → Int) : (rowOf k n f).all (·.oneCell') = true := by
  rw [Array.all_eq_true_iff_forall_mem]
  intro v hv
  simp only [rowOf, List.mem_toArray, List.mem_map] at hv
  obtain ⟨i, _, rfl⟩ := hv
  rfl
def byteVals (ys : List Int) : List Value := ys.map (Value.int .u8)
theorem byteVals_length (ys : List Int) : (byteVals ys).length = ys.length := by simp [byteVals]
theorem byteVals_one (ys : List Int) : ∀ v ∈ byteVals ys, v.oneCell' = true := by
  intro v hv
  simp only [byteVals, List.mem_map] at hv
  obtain ⟨i, _, rfl⟩ := hv
  rfl
/-- of the blocks that there are block g alone may turn; new ones may come -/
structure Only (g : Nat) (w w' : World) : Prop where
  os : w'.os = w.os
  tape : w'.tape = w.tape
  output : w'.output = w.output
  size : w.heap.size ≤ w'.heap.size
  block : ∀ k, k < w.heap.size → k ≠ g → w'.heap[k]? = w.heap[k]?
theorem Only.refl (g : Nat) (w : World) : Only g w w := ⟨rfl, rfl, rfl, Nat.le_refl _, fun _ _ _ => rfl⟩
theorem Only.trans {g : Nat} {a b c : World} (h : Only g a b) (k : Only g b c) : Only g a c :=
  ⟨k.os.trans h.os, k.tape.trans h.tape, k.output.trans h.output, Nat.le_trans h.size k.size, fun i hi hg => (k.block i (Nat.lt_of_lt_of_le hi h.size) hg).trans (h.block i hi hg)⟩
theorem Only.of_below {g : Nat} {w w' : World} (h : Below w.heap.size w w') : Only g w w' := ⟨h.os, h.tape, h.output, h.size, fun k hk _ => h.block k hk⟩
theorem Only.setCell (w : World) (p : Addr) (v : Value) : Only p.block w (w.setCell p v) := ⟨rfl, rfl, rfl, by simp [World.setCell], fun k _ hg => Below.heap_setCell _ _ _ _ hg⟩
theorem Only.setRow (w : World) (g : Nat) (cs : Array Value) : Only g w (w.setRow g cs) := ⟨rfl, rfl, rfl, by simp [World.setRow], fun k _ hg => setRow_other w g k cs hg⟩
theorem Only.drew (g : Nat) (w : World) : Only g w w.drew := ⟨rfl, rfl, rfl, Nat.le_refl _, fun _ _ _ => rfl⟩
theorem Only.cell {g : Nat} {w w' : World} (h : Only g w w') {p : Addr} {v : Value} (hv : w.cell? p = some v) (hg : p.block ≠ g) : w'.cell? p = some v :=
  (World.cell?_of_block (w := w) (h.block p.block (World.block_lt_of_cell? w _ hv) hg)).trans hv
theorem Only.below {g B : Nat} {w w' : World} (h : Only g w w') (hB : B ≤ g) (hs : B ≤ w.heap.size) : Below B w w' := ⟨h.os, h.tape, h.output, h.size, fun k hk => h.block k (by omega) (by omega)⟩
/-- v is a slice of the bytes xs -/
def BytesIn (w : World) (v : Value) (xs : List Int) : Prop :=
  ∃ a cap, v = .slice a xs.length cap ∧ xs.length ≤ cap ∧ xs.length ≤ maxLen ∧ (xs = [] ∨ ∃ ab ao, a = some ⟨ab, ao, none⟩ ∧ ∀ i x, xs[i]? = some x → w.cell? ⟨ab, ao + i, none⟩ = some (.int .u8 x))
/-- where a cut at p begins -/
def cutA (a : Option Addr) (cap p : Nat) : Option Addr := if cap = p then a else a.map (·.add p)
theorem sliceBlo (a : Option Addr) (n cap p : Nat) (hp : p ≤ n) (w : World) : (Instr.slice 25 (.slice a n cap) (some (.int .i64 (p : Int))) none none).run Tryd.prog w = .ok (.slice (cutA a cap p) (n - p) (cap - p)) w := by
  have he : Tryd.prog.elem 25 = 5 := by kernel_rfl
  have hs : (sizeOf 5).run Tryd.prog w = .ok 1 w := by kernel_rfl
  rw [run_slice_l w 25 a n cap (by rw [he]; exact Tryd.underlying25) .i64 (p : Int) (by omega) (by omega), he, hs]
  simp [Result.andThen_ok, sliced, cutA]
theorem sliceBhi (a : Option Addr) (n cap q : Nat) (hq : q ≤ cap) (w : World) : (Instr.slice 25 (.slice a n cap) none (some (.int .i64 (q : Int))) none).run Tryd.prog w = .ok (.slice (cutA a cap 0) q cap) w := by
  have he : Tryd.prog.elem 25 = 5 := by kernel_rfl
  have hs : (sizeOf 5).run Tryd.prog w = .ok 1 w := by kernel_rfl
  rw [run_slice_h w 25 a n cap (by rw [he]; exact Tryd.underlying25) .i64 (q : Int) (by omega) (by omega), he, hs]
  simp [Result.andThen_ok, sliced, cutA]
theorem BytesIn.cut {w : World} {a : Option Addr} {n cap : Nat} {xs : List Int} (h : BytesIn w (.slice a n cap) xs) (p q : Nat) (hp : p ≤ q) (hq : q ≤ n) :
    BytesIn w (.slice (cutA a cap p) (q - p) (cap - p)) ((xs.take q).drop p) := by
  obtain ⟨a', cap', e, hc, hm, hx⟩ := h
  injection e with e1 e2 e3
  subst e1 e2 e3
  have hl : ((xs.take q).drop p).length = q - p := by rw [List.length_drop, List.length_take]; omega
  refine ⟨cutA a cap p, cap - p, by rw [hl], by rw [hl]; omega, by rw [hl]; omega, ?_⟩
  by_cases he : (xs.take q).drop p = []
  · exact .inl he
  · right
    have hpq : p < q := by
      rcases Nat.lt_or_ge p q with h | h
      · exact h
      · exact absurd (List.eq_nil_of_length_eq_zero (by rw [hl]; omega)) he
    rcases hx with hx | ⟨ab, ao, rfl, hx⟩
    · subst hx; simp at hq; omega
    · refine ⟨ab, ao + p, ?_, fun i x hi => ?_⟩
      · unfold cutA
        rw [if_neg (by omega)]
        show some (Addr.add ⟨ab, ao, none⟩ p) = _
        rw [Addr.add_mid]
      · rw [List.getElem?_drop, List.getElem?_take] at hi
        split at hi
        · rw [Nat.add_assoc]; exact hx _ _ hi
        · cases hi
theorem BytesIn.cut0 {w : World} {a : Option Addr} {n cap : Nat} {xs : List Int} (h : BytesIn w (.slice a n cap) xs) (q : Nat) (hq : q ≤ n) : BytesIn w (.slice (cutA a cap 0) q cap) ((xs.take q).drop 0) :=
  h.cut 0 q (Nat.zero_le _) hq
theorem BytesIn.below {w w' : World} {v : Value} {xs : List Int} (h : BytesIn w v xs) (hb : Below w.heap.size w w') : BytesIn w' v xs := by
  obtain ⟨a, cap, rfl, hc, hm, hx⟩ := h
  refine ⟨a, cap, rfl, hc, hm, ?_⟩
  rcases hx with hx | ⟨ab, ao, rfl, hx⟩
  · exact .inl hx
  · exact .inr ⟨ab, ao, rfl, fun i y hi => (hb.cell (p := ⟨ab, ao + i, none⟩) (World.block_lt_of_cell? w _ (hx i y hi))).trans (hx i y hi)⟩
theorem BytesIn.le {w : World} {a : Option Addr} {n cap : Nat} {xs : List Int} (h : BytesIn w (.slice a n cap) xs) : n ≤ cap := by
  obtain ⟨a', cap', e, hc, hm, hx⟩ := h
  injection e with e1 e2 e3
  omega
theorem below_alloc (w : World) (o : Obj) : Below w.heap.size w (w.alloc o) := (Below.refl _ _).alloc (Nat.le_refl _) _
theorem infoU8 : (Tryd.prog.info? 5).map (fun i => (i.zero, i.size, i.bytes)) = some (some (.int .u8 0), 1, 1) := by kernel_rfl
theorem byteVals_append (xs ys : List Int) : byteVals (xs ++ ys) = byteVals xs ++ byteVals ys := by simp [byteVals]
def bytesOk (xs : List Int) : Prop := ∀ x ∈ xs, 0 ≤ x ∧ x < 256
end Go.Proofs.YtllpnpeppdfjlaaDoor
namespace Go.Proofs.YtllpnpeppdfjlaaDoor
set_option linter.unusedVariables false
set_option linter.unusedSimpArgs false
/-- how many groups -/
def glen (n : Nat) : Nat := if h : n < 128 then 1 else glen (n / 128) + 1
termination_by n
decreasing_by omega
theorem glen_small {n : Nat} (h : n < 128) : glen n = 1 := by rw [glen, dif_pos h]
theorem glen_big {n : Nat} (h : ¬ n < 128) : glen n = glen (n / 128) + 1 := by rw [glen, dif_neg h]
theorem glen_pos (n : Nat) : 0 < glen n := by
  by_cases h : n < 128
  · rw [glen_small h]; decide
  · rw [glen_big h]; omega
theorem div_pow_succ (n i : Nat) : n / 128 ^ (i + 1) = n / 128 / 128 ^ i := by rw [Nat.pow_succ, Nat.mul_comm, ← Nat.div_div_eq_div_mul]
theorem div_pow_step (n i : Nat) : n / 128 ^ (i + 1) = n / 128 ^ i / 128 := by rw [Nat.pow_succ, ← Nat.div_div_eq_div_mul]
theorem glen_lo : ∀ (n i : Nat), i + 1 < glen n → 128 ≤ n / 128 ^ i := by
  intro n
  induction n using Nat.strongRecOn with
  | ind n ih =>
    intro i hi
    by_cases h : n < 128
    · rw [glen_small h] at hi; omega
    · rw [glen_big h] at hi
      cases i with
      | zero => simp; omega
      | succ i => rw [div_pow_succ]; exact ih (n / 128) (by omega) i (by omega)
theorem glen_hi : ∀ n : Nat, n / 128 ^ (glen n - 1) < 128 := by
  intro n
  induction n using Nat.strongRecOn with
  | ind n ih =>
    by_cases h : n < 128
    · rw [glen_small h]; simpa using h
    · have := glen_pos (n / 128)
      rw [glen_big h, show glen (n / 128) + 1 - 1 = (glen (n / 128) - 1) + 1 by omega, div_pow_succ]
      exact ih (n / 128) (by omega)
theorem glen_iff {n k : Nat} (h : k < glen n) : 128 ≤ n / 128 ^ k ↔ k + 1 < glen n := by
  constructor
  · intro h1
    by_cases h2 : k + 1 < glen n
    · exact h2
    · have := glen_hi n
      rw [show glen n - 1 = k by omega] at this
      omega
  · exact glen_lo n k
theorem glen_le {n : Nat} (h : n < 18446744073709551616) : glen n ≤ 10 := by
  by_cases hc : glen n ≤ 10
  · exact hc
  · have := glen_lo n 9 (by omega)
    have e : (128 : Nat) ^ 9 = 9223372036854775808 := by decide
    rw [e] at this
    omega
/-- byte i of the varint -/
def gby (n i : Nat) : Nat := if i + 1 < glen n then n / 128 ^ i % 128 + 128 else n / 128 ^ i
def varint (n : Nat) : List Int := (List.range (glen n)).map fun i => ((gby n i : Nat) : Int)
theorem varint_length (n : Nat) : (varint n).length = glen n := by simp [varint]
theorem varint_get {n i : Nat} (h : i < glen n) : (varint n)[i]? = some ((gby n i : Nat) : Int) := by simp [varint, h]
theorem gby_lt {n i : Nat} (h : i < glen n) : gby n i < 256 := by
  unfold gby
  split
  · omega
  · have := glen_hi n
    rw [show glen n - 1 = i by omega] at this
    omega
theorem gby_more {n i : Nat} (h : i + 1 < glen n) : 128 ≤ gby n i ∧ gby n i % 128 = n / 128 ^ i % 128 := by
  unfold gby; rw [if_pos h]; omega
theorem gby_last {n i : Nat} (h : i + 1 = glen n) : gby n i = n / 128 ^ i ∧ gby n i < 128 := by
  have := glen_hi n
  rw [show glen n - 1 = i by omega] at this
  unfold gby; rw [if_neg (by omega)]
  exact ⟨rfl, this⟩
/-- the first bytes as they are laid, behind them zeros -/
def gbyK (n k : Nat) : Nat → Int := fun i => if i < k then ((gby n i : Nat) : Int) else 0
/-- what a reader adds up: the low seven bits of the first i bytes, below 2^64 -/
def accF (xs : List Int) : Nat → Nat
  | 0 => 0
  | i + 1 => accF xs i + ((xs.getD i 0).toNat % 128 * 128 ^ i) % 18446744073709551616
theorem pow128 (i : Nat) : 0 < 128 ^ i := Nat.pow_pos (by decide)
theorem accF_lt (xs : List Int) : ∀ i, i ≤ 9 → accF xs i < 128 ^ i
  | 0, _ => by simp [accF]
  | i + 1, h => by
    have ih := accF_lt xs i (by omega)
    have h1 : (xs.getD i 0).toNat % 128 * 128 ^ i % 18446744073709551616 ≤ (xs.getD i 0).toNat % 128 * 128 ^ i := Nat.mod_le _ _
    have h2 : (xs.getD i 0).toNat % 128 * 128 ^ i ≤ 127 * 128 ^ i := Nat.mul_le_mul_right _ (by omega)
    have h3 : (128 : Nat) ^ (i + 1) = 128 ^ i * 128 := Nat.pow_succ _ _
    have h4 : accF xs (i + 1) = accF xs i + (xs.getD i 0).toNat % 128 * 128 ^ i % 18446744073709551616 := rfl
    omega
/-- the bytes of a varint add up to its number -/
theorem accF_varint (n : Nat) (r : List Int) (hn : n < 18446744073709551616) : ∀ i, i ≤ glen n → accF (varint n ++ r) i = n % 128 ^ i := by
  intro i
  induction i with
  | zero => intro _; simp [accF, Nat.mod_one]
  | succ i ih =>
    intro h
    have hg : (varint n ++ r).getD i 0 = ((gby n i : Nat) : Int) := by
      simp [List.getD, List.getElem?_append_left (by rw [varint_length]; omega : i < (varint n).length), varint_get (show i < glen n by omega)]
    have e : gby n i % 128 = n / 128 ^ i % 128 := by
      by_cases h1 : i + 1 < glen n
      · exact (gby_more h1).2
      · rw [(gby_last (by omega : i + 1 = glen n)).1]
    show accF _ i + _ = _
    rw [ih (by omega), hg, Int.toNat_natCast, e]
    have hm : n / 128 ^ i % 128 * 128 ^ i ≤ n / 128 ^ i * 128 ^ i := Nat.mul_le_mul_right _ (Nat.mod_le _ _)
    have hd : n / 128 ^ i * 128 ^ i ≤ n := Nat.div_mul_le_self _ _
    have hlt : n / 128 ^ i % 128 * 128 ^ i < 18446744073709551616 := by omega
    rw [Nat.mod_eq_of_lt hlt, Nat.pow_succ, Nat.mod_mul, Nat.mul_comm (n / 128 ^ i % 128)]
theorem mod_glen (n : Nat) : n % 128 ^ glen n = n := by
  apply Nat.mod_eq_of_lt
  have h := glen_hi n
  have hp := glen_pos n
  have h2 : n / 128 ^ glen n = 0 := by
    obtain ⟨k, hk⟩ : ∃ k, glen n = k + 1 := ⟨glen n - 1, by omega⟩
    rw [hk, Nat.add_sub_cancel] at h
    rw [hk, div_pow_step]; exact Nat.div_eq_of_lt h
  rcases Nat.lt_or_ge n (128 ^ glen n) with h3 | h3
  · exact h3
  · have := Nat.div_pos h3 (pow128 _); omega
end Go.Proofs.YtllpnpeppdfjlaaDoor
namespace Go.Proofs.YtllpnpeppdfjlaaDoor
set_option linter.unusedVariables false
set_option linter.unusedSimpArgs false
open Go.RowKit
set_option maxRecDepth 100000
/-- where the array of a slice lies, if it is old, it is that of the elder slice -/
def OwnOf (v v' : Value) (w : World) : Prop := v'.ownBlock = v.ownBlock ∨ ∃ k, v'.ownBlock = some k ∧ w.heap.size ≤ k
theorem owns_wide {w : World} {base n : Nat} {v : Value} {vs : List Value} (h : w.ownsRow base 5 1 v n vs) : ∃ a c, v = .slice a n c := by
  rcases h.2 with ⟨rfl, h0⟩ | ⟨g, c, _, rfl, _⟩
  · exact ⟨none, 0, by rw [h0]⟩
  · exact ⟨_, c, rfl⟩
/-- append of bytes to a slice of one's own -/
theorem run_append_bytes (w : World) (base : Nat) (v : Value) (n : Nat) (vs : List Value) (hown : w.ownsRow base 5 1 v n vs) (y : Value) (ys : List Int) (hy : BytesIn w y ys) (hl : n + ys.length ≤ 140737488355328) (hb : base ≤ w.heap.size) :
    ∃ v' w', (Builtin.append_ #[25, 25] 25 #[v, y]).run Tryd.prog w = .ok v' w' ∧ w'.ownsRow base 5 1 v' (n + ys.length) (vs ++ byteVals ys) ∧ w.grownBy w' v.ownBlock ∧ OwnOf v v' w := by
  obtain ⟨i0, hi, hz0, hz1, hz2⟩ := info_parts infoU8
  obtain ⟨a, c, rfl, hc, hm, hx⟩ := hy
  rcases a with _ | ad
  · have hn : ys = [] := by
      rcases hx with hx | ⟨_, _, h, _⟩
      · exact hx
      · cases h
    subst hn
    refine ⟨v, w, ?_, by simpa [byteVals] using hown, ⟨rfl, rfl, rfl, Nat.le_refl _, fun _ _ _ => rfl⟩, .inl rfl⟩
    rcases hown.2 with ⟨rfl, rfl⟩ | ⟨g, cap, cur, rfl, _, _, hnc, _⟩
    · simp [Builtin.append_, run_underlying Tryd.underlying25, sizeOf, typeInfo, hi, Builtin.lenOf, Builtin.firstCells]
    · simp [Builtin.append_, run_underlying Tryd.underlying25, sizeOf, typeInfo, hi, Builtin.lenOf, Builtin.firstCells, hnc, storeCells]
  · have hcells : ∀ j u, (byteVals ys)[j]? = some u → w.cell? (ad.add j) = some u := fun j u hu => by
      rcases hx with rfl | ⟨ab, ao, h, hx⟩
      · simp [byteVals] at hu
      · injection h with h; subst h
        rw [Addr.add_mid]
        simp only [byteVals, List.getElem?_map] at hu
        cases hj : ys[j]? with
        | none => rw [hj] at hu; cases hu
        | some x => rw [hj] at hu; cases hu; exact hx j x hj
    obtain ⟨v', w', hr, h1, h2, _, h4⟩ := run_append_own_at w base 25 25 5 i0 (.int .u8 0) 1 1 Tryd.underlying25 hi hz0 hz1 hz2 rfl (by decide) v n vs hown ad ys.length c (byteVals ys) (by rw [byteVals_length, Nat.mul_one]) hcells (byteVals_one ys) (by unfold maxLen; omega) (by omega) hb
    exact ⟨v', w', hr, h1, h2, h4.imp id fun h => ⟨_, h, Nat.le_refl _⟩⟩
theorem wpList_append_bytes {w : World} {ops : Array Oper} {rest : List Oper} {o : Oper} {a : Act} {Q : Exit → Act → World → Prop} (hgd : o.guard = none) (s x : Operand)
    (ho : o.op = .call { callee := .builtin .append, args := #[s, x], argTypes := #[25, 25] }) (hty : o.type = 25)
    (base : Nat) (v : Value) (n : Nat) (vs : List Value) (hs : a.eval s = v) (hown : w.ownsRow base 5 1 v n vs) (y : Value) (ys : List Int) (hx : a.eval x = y) (hy : BytesIn w y ys) (hl : n + ys.length ≤ 140737488355328) (hb : base ≤ w.heap.size)
    (h : ∀ v' w', w'.ownsRow base 5 1 v' (n + ys.length) (vs ++ byteVals ys) → w.grownBy w' v.ownBlock → OwnOf v v' w → wpList Tryd.prog ops Q rest (a.put o.dst v') w') : wpList Tryd.prog ops Q (o :: rest) a w := by
  refine wpList_plain hgd fun K hK => ?_
  obtain ⟨v', w', hr, h1, h2, h3⟩ := run_append_bytes w base v n vs hown y ys hy hl hb
  unfold Oper.wp execOp
  simp only [ho, hty, resolve, invoke, builtin, Sem.run_bind, Sem.run_pure, Result.andThen_ok, List.map_toArray, List.map_cons, List.map_nil, hs, hx, hr]
  exact hK _ _ (h v' w' h1 h2 h3)
theorem owns_in {w : World} {base : Nat} {v : Value} {xs : List Int} (h : w.ownsRow base 5 1 v xs.length (byteVals xs)) (hl : xs.length ≤ maxLen) : BytesIn w v xs := by
  rcases h.2 with ⟨rfl, h0⟩ | ⟨g, c, cur, rfl, hb, hg, hc, hm, hs, ht⟩
  · obtain rfl := List.eq_nil_of_length_eq_zero h0
    exact ⟨none, 0, rfl, Nat.le_refl _, hl, .inl rfl⟩
  · refine ⟨_, c, rfl, hc, hl, .inr ⟨g, 0, rfl, fun i x hi => ?_⟩⟩
    have := h.cells (g := g) rfl i (.int .u8 x) (by simp [byteVals, hi])
    rw [Addr.add_mid] at this
    exact this
theorem eqNil_some (ad : Addr) (n c : Nat) (w : World) : (binOp .eql 25 (.slice (some ad) n c) (.slice none 0 0)).run Tryd.prog w = .ok (.bool false) w := by kernel_rfl
theorem eqNil_none (n c : Nat) (w : World) : (binOp .eql 25 (.slice none n c) (.slice none 0 0)).run Tryd.prog w = .ok (.bool true) w := by kernel_rfl
set_option maxRecDepth 100000 in
set_option maxHeartbeats 400000 in
theorem clone_any (y : Value) (ys : List Int) (w : World) (hy : BytesIn w y ys) (hl : ys.length ≤ 140737488355328) :
    Calls Tryd.prog 28 #[y] w fun e w' => ∃ v', e = .returned v' ∧ w'.ownsRow w.heap.size 5 1 v' ys.length (byteVals ys) ∧ Below w.heap.size w w' := by
  have HY := Lib.hid hy
  have HL := Lib.hid hl
  obtain ⟨a, c, rfl, hc, hm, hx⟩ := hy
  clear hl
  cases a with
  | none =>
    have hn : ys = [] := by
      rcases hx with hx | ⟨_, _, h, _⟩
      · exact hx
      · cases h
    subst hn
    clear hc hm hx
    have h1 := eqNil_none 0 c
    go_enter Tryd.func28, Tryd.ntmps28
    go_wp2_with (fail)
    go_ret
    exact ⟨_, rfl, World.ownsRow_nil _ _ _ _, Below.refl _ _⟩
  | some ad =>
    clear hc hm hx
    have h1 := eqNil_some ad ys.length c
    go_enter Tryd.func28, Tryd.ntmps28
    have HO := Lib.hid (World.ownsRow_lit (w := w) (base := w.heap.size) (e := 5) (size := 1) #[] 0 (Nat.le_refl _) (by simp [maxLen]) rfl)
    have HB := Lib.hid (below_alloc w (.cells #[] 5))
    go_wp2_with (at_builtin; refine wpList_append_bytes rfl (.tmp 5) (.tmp 6) rfl rfl w.heap.size _ 0 [] rfl HO.out (.slice (some ad) ys.length c) ys rfl (HY.out.below HB.out) (by have := HL.out; omega) (by simp) ?_; intro v' w1 ho hg _; have H := Lib.hid ho; have HB1 := Lib.hid (HB.out.grown hg (by simp) (fun k hk => (HO.out.lt k hk).1)); clear ho hg)
    go_ret
    refine ⟨_, rfl, ?_, HB1.out⟩
    have := H.out
    rw [Nat.zero_add, List.nil_append] at this
    exact this
/-- an error, by its number -/
def errV : Option Nat → Value
  | none => .nilIface
  | some n => .iface 48 (.int .i64 n)
theorem nil_in (w : World) : BytesIn w (.slice none 0 0) [] := ⟨_, _, rfl, by simp, by simp [maxLen], .inl rfl⟩
end Go.Proofs.YtllpnpeppdfjlaaDoor
namespace Go.Proofs.YtllpnpeppdfjlaaDoor
set_option linter.unusedVariables false
set_option linter.unusedSimpArgs false
open Go.RowKit
set_option maxRecDepth 100000
/-- block p is a Writer: its slice v is its own and holds xs -/
def WAt (w : World) (p : Nat) (v : Value) (xs : List Int) : Prop :=
  w.heap[p]? = some (.cells #[v] 65 (0, 0)) ∧ w.ownsRow (p + 1) 5 1 v xs.length (byteVals xs)
/-- of the blocks that there are, only p and the array of v may have turned; the array of v' is that of v or new -/
structure WStep (p : Nat) (v v' : Value) (w w' : World) : Prop where
  os : w'.os = w.os
  tape : w'.tape = w.tape
  output : w'.output = w.output
  size : w.heap.size ≤ w'.heap.size
  block : ∀ k, k < w.heap.size → k ≠ p → some k ≠ v.ownBlock → w'.heap[k]? = w.heap[k]?
  own : OwnOf v v' w
theorem WStep.refl (p : Nat) (v : Value) (w : World) : WStep p v v w w := ⟨rfl, rfl, rfl, Nat.le_refl _, fun _ _ _ _ => rfl, .inl rfl⟩
theorem WStep.trans {p : Nat} {v v' v'' : Value} {a b c : World} (h : WStep p v v' a b) (k : WStep p v' v'' b c) : WStep p v v'' a c := by
  refine ⟨k.os.trans h.os, k.tape.trans h.tape, k.output.trans h.output, Nat.le_trans h.size k.size, fun i hi hp hv => ?_, ?_⟩
  · refine (k.block i (Nat.lt_of_lt_of_le hi h.size) hp fun e => ?_).trans (h.block i hi hp hv)
    rcases h.own with ho | ⟨j, ho, hj⟩
    · exact hv (e.trans ho)
    · rw [ho] at e; injection e; omega
  · rcases k.own with ho | ⟨j, ho, hj⟩
    · rcases h.own with ho2 | ⟨j, ho2, hj⟩
      · exact .inl (ho.trans ho2)
      · exact .inr ⟨j, ho.trans ho2, hj⟩
    · exact .inr ⟨j, ho, Nat.le_trans h.size hj⟩
theorem WStep.of_below {p : Nat} {v : Value} {w w' : World} (h : Below w.heap.size w w') : WStep p v v w w' :=
  ⟨h.os, h.tape, h.output, h.size, fun k hk _ _ => h.block k hk, .inl rfl⟩
theorem WAt.lt {w : World} {p : Nat} {v : Value} {xs : List Int} (h : WAt w p v xs) : p < w.heap.size := (Array.getElem?_eq_some_iff.1 h.1).1
theorem WAt.ne {w : World} {p : Nat} {v : Value} {xs : List Int} (h : WAt w p v xs) : ∀ k, v.ownBlock = some k → p < k ∧ k < w.heap.size := fun k hk => by
  have := h.2.lt k hk; omega
theorem WAt.below {w w' : World} {p : Nat} {v : Value} {xs : List Int} (h : WAt w p v xs) (hb : Below w.heap.size w w') : WAt w' p v xs := by
  refine ⟨(hb.block p h.lt).trans h.1, h.2.kept (row := none) ⟨hb.os, hb.tape, hb.output, hb.size, fun k hk _ => hb.block k hk⟩ ?_⟩
  cases v.ownBlock <;> simp
/-- what lies below the Writer is as it was -/
theorem WStep.below {p B : Nat} {v v' : Value} {xs : List Int} {w w' : World} (h : WStep p v v' w w') (hw : WAt w p v xs) (hB : B ≤ p) : Below B w w' :=
  ⟨h.os, h.tape, h.output, h.size, fun k hk => h.block k (by have := hw.lt; omega) (by omega) fun e => by have := hw.ne k e.symm; omega⟩
theorem WAt.cell {w : World} {p : Nat} {v : Value} {xs : List Int} (h : WAt w p v xs) : w.cell? ⟨p, 0, none⟩ = some v := by
  rw [cell_of_row w p 0 _ _ _ h.1]; rfl
theorem WAt.free {w : World} {p : Nat} {v : Value} {xs : List Int} (h : WAt w p v xs) : w.frozen? ⟨p, 0, none⟩ = false := frozen_of_row w p 0 _ _ h.1
theorem WAt.wide {w : World} {p : Nat} {v : Value} {xs : List Int} (h : WAt w p v xs) : ∃ a c, v = .slice a xs.length c := by
  rcases h.2.2 with ⟨rfl, h0⟩ | ⟨g, c, _, rfl, _⟩
  · exact ⟨none, 0, by rw [h0]⟩
  · exact ⟨_, c, rfl⟩
theorem WAt.grown {w w' : World} {p : Nat} {v : Value} {xs : List Int} (h : WAt w p v xs) (hg : w.grownBy w' v.ownBlock) : w'.heap[p]? = some (.cells #[v] 65 (0, 0)) :=
  (hg.block p h.lt fun e => by have := h.ne p e.symm; omega).trans h.1
/-- the appended slice is stored -/
theorem WAt.stored {w w1 : World} {p : Nat} {v v' : Value} {xs ys : List Int} (h : WAt w p v xs) (hg : w.grownBy w1 v.ownBlock) (ho : w1.ownsRow (p + 1) 5 1 v' (xs.length + ys.length) (byteVals xs ++ byteVals ys)) (hof : OwnOf v v' w) :
    WAt (w1.setCell ⟨p, 0, none⟩ v') p v' (xs ++ ys) ∧ WStep p v v' w (w1.setCell ⟨p, 0, none⟩ v') := by
  have h1 := h.grown hg
  refine ⟨⟨?_, ?_⟩, hg.os, hg.tape, hg.output, ?_, fun k hk hp hv => ?_, hof⟩
  · rw [heap_setCell_same w1 p 0 _ _ _ h1]; rfl
  · rw [List.length_append, byteVals_append]
    refine ho.kept (row := some p) ⟨rfl, rfl, rfl, by simp [World.setCell], fun k _ hk => Below.heap_setCell _ _ _ _ fun e => hk (by rw [e])⟩ ?_
    cases hb : v'.ownBlock with
    | none => exact .inl rfl
    | some k => right; intro e; injection e with e; have := ho.lt k hb; omega
  · exact Nat.le_trans hg.size (by simp [World.setCell])
  · rw [Below.heap_setCell _ _ _ _ (by exact hp)]; exact hg.block k hk hv
theorem new_any (w : World) : Calls Tryd.prog 11 #[] w fun e w' => e = .returned (.pointer (some ⟨w.heap.size, 0, none⟩)) ∧ WAt w' w.heap.size (.slice none 0 0) [] ∧ Below w.heap.size w w' := by
  go_enter Tryd.func11, Tryd.ntmps11
  go_wp2
  go_ret
  exact ⟨rfl, ⟨heap_alloc_new w _, World.ownsRow_nil _ _ _ _⟩, below_alloc w _⟩
set_option maxRecDepth 100000 in
set_option maxHeartbeats 400000 in
theorem add_any (p : Nat) (v y : Value) (xs ys : List Int) (w : World) (hw : WAt w p v xs) (hy : BytesIn w y ys) (hl : xs.length + ys.length ≤ 140737488355328) :
    Calls Tryd.prog 27 #[.pointer (some ⟨p, 0, none⟩), y] w fun e w' => e = .returned (.pointer (some ⟨p, 0, none⟩)) ∧ ∃ v', WAt w' p v' (xs ++ ys) ∧ WStep p v v' w w' := by
  have HW := Lib.hid hw
  have HY := Lib.hid hy
  have HL := Lib.hid hl
  have hc := hw.cell
  clear hw hy hl
  go_enter Tryd.func27, Tryd.ntmps27
  go_upto_region 2 with (fail)
  go_wp2_with (at_builtin; refine wpList_append_bytes rfl (.tmp 11) (.tmp 12) rfl rfl (p + 1) v xs.length (byteVals xs) rfl HW.out.2 y ys rfl HY.out HL.out (by have := HW.out.lt; omega) ?_; intro v' w1 ho hg hof; obtain ⟨a1, c1, rfl⟩ := owns_wide ho; have H := Lib.hid (HW.out.stored hg ho hof); have h1 := HW.out.grown hg; have hc1 := cell_of_row w1 p 0 _ _ _ h1; have hf1 := frozen_of_row w1 p 0 _ _ h1; clear hc hg ho hof h1)
  go_ret
  exact ⟨rfl, _, H.out.1, H.out.2⟩
end Go.Proofs.YtllpnpeppdfjlaaDoor
namespace Go.Proofs.YtllpnpeppdfjlaaDoor
set_option linter.unusedVariables false
set_option linter.unusedSimpArgs false
open Go.RowKit
set_option maxRecDepth 100000
theorem done_any (p : Nat) (v : Value) (xs : List Int) (w : World) (hw : WAt w p v xs) (hl : xs.length ≤ 140737488355328) :
    Calls Tryd.prog 14 #[.pointer (some ⟨p, 0, none⟩)] w fun e w' => ∃ v', e = .returned v' ∧ w'.ownsRow w.heap.size 5 1 v' xs.length (byteVals xs) ∧ Below w.heap.size w w' := by
  have HV := Lib.hid (owns_in hw.2 (by unfold maxLen; omega))
  have HL := Lib.hid hl
  have hc := hw.cell
  clear hw hl
  go_enter Tryd.func14, Tryd.ntmps14
  go_wp2_with (go_at_call 28; (with_reducible refine (clone_any v xs _ HV.out HL.out).mono ?_); rintro e w1 ⟨v', rfl, ho, hb⟩; have H := Lib.hid ho; have HB := Lib.hid hb; clear ho hb)
  go_ret
  exact ⟨_, rfl, H.out, HB.out⟩
end Go.Proofs.YtllpnpeppdfjlaaDoor
namespace Go.Proofs.YtllpnpeppdfjlaaDoor
set_option linter.unusedVariables false
set_option linter.unusedSimpArgs false
open Go.RowKit
set_option maxRecDepth 100000
/-- a call of a Writer that appends ys -/
def WPost (p : Nat) (v : Value) (xs ys : List Int) (w : World) (e : Ending) (w' : World) : Prop :=
  e = .returned (.pointer (some ⟨p, 0, none⟩)) ∧ ∃ v', WAt w' p v' (xs ++ ys) ∧ WStep p v v' w w'
theorem one_in (w : World) (x : Int) : BytesIn (w.alloc (.cells #[.int .u8 x] 5)) (.slice (some ⟨w.heap.size, 0, none⟩) 1 1) [x] := by
  refine ⟨_, _, rfl, by simp, by simp [maxLen], .inr ⟨_, _, rfl, fun i y hi => ?_⟩⟩
  rw [Nat.zero_add, cell_of_row _ _ _ _ _ _ (heap_alloc_new w _)]
  match i, hi with
  | 0, hi => cases hi; rfl
def rowL (n : Nat) (f : Nat → Int) : List Int := (List.range n).map f
theorem row_in {w : World} {g n c : Nat} {t : TypeId} {f : Nat → Int} {k : Nat} (h : RowAt w g .u8 n t f) (hk : k ≤ n) (hc : k ≤ c) (hm : k ≤ maxLen) : BytesIn w (.slice (some ⟨g, 0, none⟩) k c) (rowL k f) := by
  have hl : (rowL k f).length = k := by simp [rowL]
  refine ⟨_, c, by rw [hl], by rw [hl]; exact hc, by rw [hl]; exact hm, .inr ⟨g, 0, rfl, fun i x hi => ?_⟩⟩
  simp only [rowL, List.getElem?_map] at hi
  rcases Nat.lt_or_ge i k with h1 | h1
  · rw [List.getElem?_range h1] at hi
    cases hi
    rw [Nat.zero_add]; exact h.cell i (by omega)
  · rw [List.getElem?_eq_none (by simpa using h1)] at hi; cases hi
theorem zeros10 : (#[Value.int IntKind.u8 0, Value.int IntKind.u8 0, Value.int IntKind.u8 0, Value.int IntKind.u8 0, Value.int IntKind.u8 0, Value.int IntKind.u8 0, Value.int IntKind.u8 0, Value.int IntKind.u8 0, Value.int IntKind.u8 0, Value.int IntKind.u8 0] : Array Value) = rowOf .u8 10 (fun _ => 0) := by rfl
theorem or128 (b : Nat) (h : b < 256) : bits .or .u8 (b : Int) 128 = ((b % 128 + 128 : Nat) : Int) := by
  have : ∀ b : Fin 256, bits .or .u8 (b.val : Int) 128 = ((b.val % 128 + 128 : Nat) : Int) := by decide +kernel
  exact this ⟨b, h⟩
theorem gbyK_succ (n k : Nat) : upd (gbyK n k) k ((gby n k : Nat) : Int) = gbyK n (k + 1) := by
  funext i
  unfold upd gbyK
  by_cases h1 : i = k
  · subst h1; rw [if_pos rfl, if_pos (by omega)]
  · rw [if_neg h1]
    by_cases h2 : i < k
    · rw [if_pos h2, if_pos (by omega)]
    · rw [if_neg h2, if_neg (by omega)]
theorem rowL_varint (n : Nat) : rowL (glen n) (gbyK n (glen n)) = varint n := by
  unfold rowL varint
  apply List.map_congr_left
  intro i hi
  unfold gbyK
  rw [if_pos (by simpa using hi)]
theorem sliceA10 (b u : Nat) (hu : u ≤ 10) (w : World) : (Instr.sliceAt 88 (.pointer (some ⟨b, 0, none⟩)) none (some (.int .i64 (u : Int))) none).run Tryd.prog w
    = .ok (.slice (some ⟨b, 0, none⟩) u 10) w := by
  have ha : Tryd.prog.arrayLen 88 = 10 := by kernel_rfl
  have he : Tryd.prog.elem 88 = 5 := by kernel_rfl
  have hs : (sizeOf 5).run Tryd.prog w = .ok 1 w := by kernel_rfl
  rw [run_sliceAt_array_h w 88 ⟨b, 0, none⟩ (by rw [ha, he]; exact Tryd.underlying88) .i64 (u : Int) (by omega) (by rw [ha]; omega), ha, he, hs]
  simp only [Result.andThen_ok, slicedAt, Int.toNat_natCast]
  rfl
set_option maxRecDepth 100000 in
set_option maxHeartbeats 400000 in
theorem wuint_any (p : Nat) (v : Value) (xs : List Int) (n : Nat) (w : World) (hw : WAt w p v xs) (hn : n < 18446744073709551616) (hl : xs.length + 10 ≤ 140737488355328) :
    Calls Tryd.prog 26 #[.pointer (some ⟨p, 0, none⟩), .int .u64 (n : Int)] w (WPost p v xs (varint n) w) := by
  have HW := Lib.hid hw
  have HL := Lib.hid hl
  have HN := Lib.hid hn
  have HG := Lib.hid (glen_le hn)
  clear hw hl hn
  unfold WPost
  go_enter Tryd.func26, Tryd.ntmps26
  go_upto_region 2 with (fail)
  rw [zeros10]
  have HB := Lib.hid (below_alloc w (.cells (rowOf .u8 10 (fun _ => 0)) 88))
  have HR : Hid (RowAt (w.alloc (.cells (rowOf .u8 10 (fun _ => 0)) 88)) w.heap.size .u8 10 88 (gbyK n 0)) := Lib.hid (RowAt.new w .u8 10 88 (fun _ => 0))
  generalize w.alloc (.cells (rowOf .u8 10 (fun _ => 0)) 88) = w1 at *
  go_wp2_with (fail)
  go_loopw [1, 6] (fun x i wr => ∃ k : Nat, k < glen n ∧ x = .int .u64 ((n / 128 ^ k : Nat) : Int) ∧ i = .int .i64 k ∧ Hid (RowAt wr w.heap.size .u8 10 88 (gbyK n k) ∧ Below w.heap.size w wr)) (fun _ i _ => 10 - (intOf i).toNat)
  case atStart => exact ⟨0, glen_pos n, by simp, rfl, HR.out, HB.out⟩
  case round =>
    clear HR HB
    obtain ⟨k, hk, rfl, rfl, H⟩ := hrel
    have hk10 := HG.out
    obtain ⟨m, hm⟩ : ∃ m, m = n / 128 ^ k := ⟨_, rfl⟩
    have hmn : m < 18446744073709551616 := by have := HN.out; have := Nat.div_le_self n (128 ^ k); omega
    have hiff := glen_iff hk
    rw [← hm] at hiff ⊢
    by_cases h : 128 ≤ m
    · have hk1 := hiff.1 h
      have hor := or128 (m % 256) (by omega)
      have hg1 : m % 256 % 128 + 128 = gby n k := by unfold gby; rw [if_pos hk1, ← hm]; omega
      rw [hg1] at hor
      have c0 := H.out.1.cell k (by omega)
      have f0 := H.out.1.free k
      have HM := Lib.hid hm
      replace hiff := Lib.hid hiff
      clear hg1 hm
      go_wp2_with (fail)
      go_roundw
      case rel =>
        refine ⟨k + 1, hk1, ?_, rfl, ?_, (H.out.2.setCell (Nat.le_refl _) _)⟩
        · rw [div_pow_step, ← HM.out]; rfl
        · have e : (m : Int) % 256 = ((m % 256 : Nat) : Int) := by omega
          rw [e, hor, ← gbyK_succ]
          exact H.out.1.set k _
      case measure => simp [intOf]; omega
    · have hk1 : k + 1 = glen n := by omega
      have hg1 : m = gby n k := by rw [(gby_last hk1).1]; exact hm
      have c0 := H.out.1.cell k (by omega)
      have f0 := H.out.1.free k
      have HM := Lib.hid hm
      replace hiff := Lib.hid hiff
      have hsl := sliceA10 w.heap.size (k + 1) (by omega)
      rw [show ((k + 1 : Nat) : Int) = (k : Int) + 1 by omega] at hsl
      have HS := Lib.hid (show RowAt (wr.setCell ⟨w.heap.size, k, none⟩ (.int .u8 (m : Int))) w.heap.size .u8 10 88 (gbyK n (k + 1)) by rw [← gbyK_succ, ← hg1]; exact H.out.1.set k _)
      have HB := Lib.hid (H.out.2.setCell (p := ⟨w.heap.size, k, none⟩) (Nat.le_refl _) (.int .u8 (m : Int)))
      have HY := Lib.hid (row_in (k := k + 1) (c := 10) HS.out (by omega) (by omega) (by unfold maxLen; omega))
      rw [hk1, rowL_varint, ← hk1] at HY
      replace hk1 := Lib.hid hk1
      clear hm hg1
      go_wp2_with (go_at_call 27; (with_reducible refine (add_any p v _ xs (varint n) _ (HW.out.below HB.out) HY.out (by have := HL.out; have := HG.out; rw [varint_length]; omega)).mono ?_); rintro e w1 ⟨rfl, v', ho, hb⟩; have H := Lib.hid ho; have HS := Lib.hid hb; clear ho hb)
      go_ret
      exact ⟨rfl, v', H.out, (WStep.of_below HB.out).trans HS.out⟩
end Go.Proofs.YtllpnpeppdfjlaaDoor
namespace Go.Proofs.YtllpnpeppdfjlaaDoor
set_option linter.unusedVariables false
set_option linter.unusedSimpArgs false
open Go.RowKit
set_option maxRecDepth 100000
/-- the bytes of a string -/
def numsOf (s : ByteArray) : List Int := s.data.toList.map fun b => (b.toNat : Int)
theorem numsOf_length (s : ByteArray) : (numsOf s).length = s.size := by unfold numsOf; rw [List.length_map]; rfl
theorem numsOf_str (xs : List Int) (h : ∀ x ∈ xs, 0 ≤ x ∧ x < 256) : numsOf (strOfNums xs) = xs := by
  unfold numsOf
  rw [strOfNums_data, List.map_map]
  conv => rhs; rw [← List.map_id xs]
  apply List.map_congr_left
  intro x hx
  obtain ⟨h0, h1⟩ := h x hx
  simp only [Function.comp, id]
  rw [show (UInt8.ofNat x.toNat).toNat = x.toNat % 256 from rfl]
  omega
theorem str_numsOf (s : ByteArray) : strOfNums (numsOf s) = s := by
  apply ByteArray.ext
  apply Array.ext'
  rw [strOfNums_data, numsOf, List.map_map]
  conv => rhs; rw [← List.map_id s.data.toList]
  apply List.map_congr_left
  intro b _
  show UInt8.ofNat ((b.toNat : Nat) : Int).toNat = b
  rw [Int.toNat_natCast]; exact UInt8.ofNat_toNat
/-- the world behind []byte(s) -/
def bytesW (w : World) (s : ByteArray) : World := w.drew.alloc (.cells (bytesRow s (grownCap w s.size 0 5)) 5 ((bytesRow s (grownCap w s.size 0 5)).size, (bytesRow s (grownCap w s.size 0 5)).size + 1))
theorem bytesW_in (w : World) (s : ByteArray) (hs : s.size ≤ maxLen) : BytesIn (bytesW w s) (.slice (some ⟨w.heap.size, 0, none⟩) s.size (grownCap w s.size 0 5)) (numsOf s) := by
  refine ⟨_, _, by rw [numsOf_length], by rw [numsOf_length]; exact grownCap_ge _ _ _ _, by rw [numsOf_length]; exact hs, .inr ⟨_, 0, rfl, fun i x hi => ?_⟩⟩
  have hil : i < s.size := by rw [← numsOf_length]; exact (List.getElem?_eq_some_iff.1 hi).1
  unfold bytesW
  rw [Nat.zero_add]
  have := cell_of_row (w.drew.alloc (.cells (bytesRow s (grownCap w s.size 0 5)) 5 ((bytesRow s (grownCap w s.size 0 5)).size, (bytesRow s (grownCap w s.size 0 5)).size + 1))) w.heap.size i _ _ _ (heap_alloc_new w.drew _)
  rw [this]
  unfold bytesRow
  rw [Array.getElem?_append_left (by rw [Array.size_map]; exact hil), Array.getElem?_map]
  simp only [numsOf, List.getElem?_map, Array.getElem?_toList] at hi
  cases hb : s.data[i]? with
  | none => rw [hb] at hi; cases hi
  | some b => rw [hb] at hi; cases hi; rfl
theorem bytesW_below (w : World) (s : ByteArray) : Below w.heap.size w (bytesW w s) := ((Below.refl _ w).drew).alloc (Nat.le_refl _) _
theorem conv_bytes (w : World) (v : Value) (l : List Int) (h : BytesIn w v l) : (convert 25 9 v).run Tryd.prog w = .ok (.string (strOfNums l)) w := by
  obtain ⟨a, c, rfl, hc, hm, hx⟩ := h
  cases a with
  | none =>
    have hn : l = [] := by
      rcases hx with hx | ⟨_, _, h, _⟩
      · exact hx
      · cases h
    subst hn
    exact run_convert_bytes_nil w 25 5 Tryd.underlying25 Tryd.underlying5 _ _ 9 Tryd.underlying9
  | some ad =>
    rcases hx with rfl | ⟨ab, ao, e, hx1⟩
    · rw [List.length_nil, run_convert_bytes_string w 25 9 5 _ 0 c Tryd.underlying25 Tryd.underlying5 Tryd.underlying9, run_bytesToString w ad 0 c [] (run_loadCells_list (P := Tryd.prog) w ad [] (fun j v hj => by simp at hj))]
      rfl
    · injection e with e; subst e
      refine run_convert_bytes_arg w 25 5 Tryd.underlying25 Tryd.underlying5 ab ao l.length c l rfl (fun i hi => ?_) 9 Tryd.underlying9
      rw [List.getD, List.getElem?_eq_getElem hi]
      exact hx1 i _ (List.getElem?_eq_getElem hi)
theorem size_alloc (w : World) (o : Obj) : (w.alloc o).heap.size = w.heap.size + 1 := by simp
end Go.Proofs.YtllpnpeppdfjlaaDoor
namespace Go.Proofs.YtllpnpeppdfjlaaDoor
set_option linter.unusedVariables false
set_option linter.unusedSimpArgs false
open Go.RowKit
set_option maxRecDepth 100000
/-- the array of y is neither the Writer nor the Writer's -/
def Apart (p : Nat) (v y : Value) : Prop := ∀ k, y.ownBlock = some k → k ≠ p ∧ some k ≠ v.ownBlock
theorem BytesIn.step {p : Nat} {v v' y : Value} {ys : List Int} {w w' : World} (h : BytesIn w y ys) (hs : WStep p v v' w w') (ha : ys ≠ [] → Apart p v y) : BytesIn w' y ys := by
  obtain ⟨a, c, rfl, hc, hm, hx⟩ := h
  refine ⟨a, c, rfl, hc, hm, ?_⟩
  by_cases hne : ys = []
  · exact .inl hne
  · obtain ⟨ab, ao, rfl, hx1⟩ := hx.resolve_left hne
    obtain ⟨h1, h2⟩ := ha hne ab rfl
    exact .inr ⟨ab, ao, rfl, fun i x hi => (World.cell?_of_block (w := w) (hs.block ab (World.block_lt_of_cell? w _ (hx1 i x hi)) h1 h2)).trans (hx1 i x hi)⟩
set_option maxRecDepth 100000 in
set_option maxHeartbeats 400000 in
theorem wbytes_any (p : Nat) (v y : Value) (xs ys : List Int) (w : World) (hw : WAt w p v xs) (hy : BytesIn w y ys) (ha : ys ≠ [] → Apart p v y) (hl : xs.length + ys.length + 10 ≤ 140737488355328) :
    Calls Tryd.prog 13 #[.pointer (some ⟨p, 0, none⟩), y] w (WPost p v xs (varint ys.length ++ ys) w) := by
  have HW := Lib.hid hw
  have HY := Lib.hid hy
  have HA := Lib.hid ha
  have HL := Lib.hid hl
  have hlt : ys.length < 18446744073709551616 := by omega
  have HG := Lib.hid (glen_le hlt)
  obtain ⟨a, c, rfl, hc, hm, hx⟩ := hy
  clear hw ha hl hc hm hx
  have HLT := Lib.hid hlt
  unfold WPost
  go_enter Tryd.func13, Tryd.ntmps13
  go_wp2_with (first
    | (go_at_call 26; (with_reducible refine (wuint_any p v xs ys.length _ HW.out HLT.out (by have := HL.out; omega)).mono ?_); rintro e w1 ⟨rfl, v', ho, hb⟩; have H1 := Lib.hid ho; have HS1 := Lib.hid hb; clear ho hb)
    | (go_at_call 27; (with_reducible refine (add_any p v' _ (xs ++ varint ys.length) ys _ H1.out (HY.out.step HS1.out HA.out) (by have := HL.out; have := HG.out; rw [List.length_append, varint_length]; omega)).mono ?_); rintro e w2 ⟨rfl, v2, ho, hb⟩; have H2 := Lib.hid ho; have HS2 := Lib.hid hb; clear ho hb))
  go_ret
  exact ⟨rfl, v2, by rw [← List.append_assoc]; exact H2.out, HS1.out.trans HS2.out⟩
set_option maxRecDepth 100000 in
set_option maxHeartbeats 400000 in
theorem wtext_any (p : Nat) (v : Value) (s : ByteArray) (xs : List Int) (w : World) (hw : WAt w p v xs) (hl : xs.length + s.size + 10 ≤ 140737488355328) :
    Calls Tryd.prog 18 #[.pointer (some ⟨p, 0, none⟩), .string s] w (WPost p v xs (varint s.size ++ numsOf s) w) := by
  have HB := Lib.hid (bytesW_below w s)
  have HW := Lib.hid (hw.below HB.out)
  have HY := Lib.hid (bytesW_in w s (by unfold maxLen; omega))
  have HA := Lib.hid (show numsOf s ≠ [] → Apart p v (.slice (some ⟨w.heap.size, 0, none⟩) s.size (grownCap w s.size 0 5)) from fun _ k hk => by
    simp [Value.ownBlock] at hk
    subst hk
    have := hw.lt
    exact ⟨by omega, fun e => by have := hw.ne _ e.symm; omega⟩)
  have HL := Lib.hid hl
  have hcv : ∀ w : World, (convert 9 25 (.string s)).run Tryd.prog w = .ok (.slice (some ⟨w.heap.size, 0, none⟩) s.size (grownCap w s.size 0 5)) (bytesW w s) :=
    fun w => run_bytes_of_string w 9 25 5 s Tryd.underlying9 Tryd.underlying25 Tryd.underlying5
  clear hw hl
  unfold WPost
  go_enter Tryd.func18, Tryd.ntmps18
  go_wp2_with (go_at_call 13; (with_reducible refine (wbytes_any p v _ xs (numsOf s) _ HW.out HY.out HA.out (by have := HL.out; rw [numsOf_length]; omega)).mono ?_); rintro e w1 ⟨rfl, v', ho, hb⟩; have H1 := Lib.hid ho; have HS1 := Lib.hid hb; clear ho hb)
  go_ret
  exact ⟨rfl, v', by have := H1.out; rw [numsOf_length] at this; exact this, (WStep.of_below HB.out).trans HS1.out⟩
/-- '^n' of a number with a sign -/
theorem not_i64 (n : Int) (h0 : -9223372036854775808 ≤ n) (h1 : n ≤ 9223372036854775807) : bits .xor .i64 (-1) n = -n - 1 := by
  show IntKind.i64.wrap ((BitVec.ofInt 64 (-1) ^^^ BitVec.ofInt 64 n).toNat : Int) = _
  have e1 : BitVec.ofInt 64 (-1) = BitVec.allOnes 64 := by decide
  have e2 : (BitVec.ofInt 64 n).toNat = (n % 18446744073709551616).toNat := by rw [BitVec.toNat_ofInt]; rfl
  rw [e1, BitVec.allOnes_xor, BitVec.toNat_not, e2, IntKind.wrap_i64]
  omega
/-- how a number with a sign becomes one without -/
def zig (n : Int) : Nat := if n < 0 then (-n).toNat * 2 - 1 else n.toNat * 2
theorem zig_lt {n : Int} (h0 : -9223372036854775808 ≤ n) (h1 : n ≤ 9223372036854775807) : zig n < 18446744073709551616 := by
  unfold zig; split <;> omega
set_option maxRecDepth 100000 in
set_option maxHeartbeats 400000 in
theorem wint_any (p : Nat) (v : Value) (n : Int) (xs : List Int) (w : World) (hw : WAt w p v xs) (h0 : -9223372036854775808 ≤ n) (h1 : n ≤ 9223372036854775807) (hl : xs.length + 10 ≤ 140737488355328) :
    Calls Tryd.prog 23 #[.pointer (some ⟨p, 0, none⟩), .int .i64 n] w (WPost p v xs (varint (zig n)) w) := by
  have HW := Lib.hid hw
  have HL := Lib.hid hl
  have HZ := Lib.hid (zig_lt h0 h1)
  have H := wuint_any p v xs (zig n) w hw HZ.out hl
  have H0 := Lib.hid H
  clear hw hl H
  unfold WPost at *
  by_cases hn : n < 0
  · have e : ((zig n : Nat) : Int) = 2 * (-n - 1) + 1 := by unfold zig; rw [if_pos hn]; omega
    rw [e] at H0
    go_enter Tryd.func23, Tryd.ntmps23
    go_wp2_with (go_at_call 26; rw [show (if IntKind.i64.signed = true then (-1 : Int) else 9223372036854775807) = -1 by rfl, not_i64 n h0 h1, show IntKind.u64.wrap (IntKind.u64.wrap (2 * IntKind.u64.wrap (-n - 1)) + 1) = 2 * (-n - 1) + 1 by simp only [IntKind.wrap_u64]; omega]; (with_reducible refine H0.out.mono ?_); rintro e w1 ⟨rfl, v', ho, hb⟩; have H1 := Lib.hid ho; have HS1 := Lib.hid hb; clear ho hb)
    go_ret
    exact ⟨rfl, v', H1.out, HS1.out⟩
  · have e : ((zig n : Nat) : Int) = 2 * n := by unfold zig; rw [if_neg hn]; omega
    rw [e] at H0
    go_enter Tryd.func23, Tryd.ntmps23
    go_wp2_with (go_at_call 26; (with_reducible refine H0.out.mono ?_); rintro e w1 ⟨rfl, v', ho, hb⟩; have H1 := Lib.hid ho; have HS1 := Lib.hid hb; clear ho hb)
    go_ret
    exact ⟨rfl, v', H1.out, HS1.out⟩
end Go.Proofs.YtllpnpeppdfjlaaDoor
namespace Go.Proofs.YtllpnpeppdfjlaaDoor
set_option linter.unusedVariables false
set_option linter.unusedSimpArgs false
open Go.RowKit
set_option maxRecDepth 100000
/-- what the groups' check answers: the number, how many bytes, the error -/
def chk (n : Nat) (size last most : Nat) : Nat × Nat × Option Nat :=
  if (1 < size ∧ last = 0) ∨ (size = 10 ∧ 1 < last) then (0, 0, some 3) else if most < n then (0, 0, some 4) else (n, size, none)
/-- what varint answers from byte i on -/
def rdFrom (xs : List Int) (most : Nat) : Nat → Nat → Nat × Nat × Option Nat
  | 0, _ => if xs.length < 10 then (0, 0, some 12) else (0, 0, some 3)
  | k + 1, i => if (xs.getD i 0) < 128 then chk (accF xs (i + 1)) (i + 1) (xs.getD i 0).toNat most else rdFrom xs most k (i + 1)
def rdF (xs : List Int) (most : Nat) : Nat × Nat × Option Nat := rdFrom xs most (min xs.length 10) 0
def tripV (r : Nat × Nat × Option Nat) : Value := .tuple #[.int .u64 (r.1 : Int), .int .i64 (r.2.1 : Int), errV r.2.2]
set_option maxRecDepth 100000 in
set_option maxHeartbeats 400000 in
theorem checked_any (n most : Nat) (ab ao size cap : Nat) (last : Nat) (w : World) (hs0 : 0 < size) (hs : size ≤ 10) (hl : last < 256) (hc : w.cell? ⟨ab, ao + (size - 1), none⟩ = some (.int .u8 (last : Int))) :
    Calls Tryd.prog 68 #[.int .u64 (n : Int), .slice (some ⟨ab, ao, none⟩) size cap, .int .u64 (most : Int)] w fun e w' => e = .returned (tripV (chk n size last most)) ∧ w' = w := by
  obtain ⟨s, rfl⟩ : ∃ s, size = s + 1 := ⟨size - 1, by omega⟩
  rw [Nat.add_sub_cancel] at hc
  go_enter Tryd.func68, Tryd.ntmps68
  go_wp2_with (fail)
  all_goals go_ret3
  all_goals refine ⟨?_, rfl⟩
  all_goals (try simp only [beq_eq_false_iff_ne, beq_iff_eq, ne_eq] at *)
  all_goals first
    | (rw [show chk n (s + 1) last most = (0, 0, some 3) by unfold chk; rw [if_pos (by omega)]]; rfl)
    | (rw [show chk n (s + 1) last most = (0, 0, some 4) by unfold chk; rw [if_neg (by omega), if_pos (by omega)]]; rfl)
    | (rw [show chk n (s + 1) last most = (n, s + 1, none) by unfold chk; rw [if_neg (by omega), if_neg (by omega)]]; first | rfl | (have e : s = 9 := (by omega); subst e; rfl))
theorem and128 (b : Nat) (h : b < 256) : bits .andNot .u8 (b : Int) 128 = ((b % 128 : Nat) : Int) := by
  have : ∀ b : Fin 256, bits .andNot .u8 (b.val : Int) 128 = ((b.val % 128 : Nat) : Int) := by decide +kernel
  exact this ⟨b, h⟩
/-- the groups so far, and the next one -/
theorem or_group (a g k : Nat) (ha : a < 128 ^ k) (hk : k ≤ 9) :
    bits .or .u64 (a : Int) ((g * 128 ^ k % 18446744073709551616 : Nat) : Int) = ((a + g * 128 ^ k % 18446744073709551616 : Nat) : Int) := by
  have hp : (128 : Nat) ^ k ≤ 128 ^ 9 := Nat.pow_le_pow_right (by decide) hk
  have h9 : (128 : Nat) ^ 9 = 9223372036854775808 := by decide
  rw [bits_or_u64_nat _ _ (by omega) (by omega)]
  congr 1
  have e : (128 : Nat) ^ k = 2 ^ (7 * k) := by rw [Nat.pow_mul]
  have h64 : (18446744073709551616 : Nat) = 2 ^ (7 * k) * 2 ^ (64 - 7 * k) := by
    rw [← Nat.pow_add, show 7 * k + (64 - 7 * k) = 64 by omega]
  have e2 : g * 128 ^ k % 18446744073709551616 = 2 ^ (7 * k) * (g % 2 ^ (64 - 7 * k)) := by
    rw [h64, e, Nat.mul_comm g, Nat.mul_mod_mul_left]
  rw [e2, Nat.or_comm, Nat.add_comm]
  rw [e] at ha
  exact (Nat.two_pow_add_eq_or_of_lt ha _).symm
theorem acc_step (xs : List Int) (k b : Nat) (hk : k ≤ 9) (hb : xs.getD k 0 = (b : Int)) :
    bits .or .u64 ((accF xs k : Nat) : Int) (IntKind.u64.wrap ((b : Int) % 128 * 2 ^ (7 * k))) = ((accF xs (k + 1) : Nat) : Int) := by
  have h := or_group (accF xs k) (b % 128) k (accF_lt xs k hk) hk
  have e : IntKind.u64.wrap ((b : Int) % 128 * 2 ^ (7 * k)) = ((b % 128 * 128 ^ k % 18446744073709551616 : Nat) : Int) := by
    have e1 : (2 : Int) ^ (7 * k) = ((128 ^ k : Nat) : Int) := by
      rw [Int.pow_mul, Int.natCast_pow]; rfl
    rw [IntKind.wrap_u64, e1, show (b : Int) % 128 = ((b % 128 : Nat) : Int) by omega, ← Int.natCast_mul]
    generalize b % 128 * 128 ^ k = X
    omega
  rw [e, h]
  show _ = ((accF xs k + (xs.getD k 0).toNat % 128 * 128 ^ k % 18446744073709551616 : Nat) : Int)
  rw [hb, Int.toNat_natCast]
theorem rd_step (xs : List Int) (most k b : Nat) (hk : k < min xs.length 10) (hb : xs.getD k 0 = (b : Int)) :
    rdFrom xs most (min xs.length 10 - k) k = if b < 128 then chk (accF xs (k + 1)) (k + 1) b most else rdFrom xs most (min xs.length 10 - (k + 1)) (k + 1) := by
  rw [show min xs.length 10 - k = (min xs.length 10 - (k + 1)) + 1 by omega, rdFrom, hb, Int.toNat_natCast]
  by_cases h : b < 128
  · rw [if_pos h, if_pos (by omega)]
  · rw [if_neg h, if_neg (by omega)]
theorem sliceB_first (ab ao n c q : Nat) (hq : q ≤ c) (w : World) : (Instr.slice 25 (.slice (some ⟨ab, ao, none⟩) n c) none (some (.int .i64 (q : Int))) none).run Tryd.prog w = .ok (.slice (some ⟨ab, ao, none⟩) q c) w := by
  rw [sliceBhi _ _ _ _ hq]
  unfold cutA
  split
  · rfl
  · show Result.ok (Value.slice (some (Addr.add ⟨ab, ao, none⟩ 0)) _ _) w = _
    rw [Addr.add_mid]; rfl
set_option maxRecDepth 100000 in
set_option maxHeartbeats 400000 in
theorem varint_any (v : Value) (xs : List Int) (most : Nat) (w : World) (hx : BytesIn w v xs) (hb : bytesOk xs) :
    Calls Tryd.prog 59 #[v, .int .u64 (most : Int)] w fun e w' => e = .returned (tripV (rdF xs most)) ∧ w' = w := by
  obtain ⟨a, c, rfl, hc, hm, hx⟩ := hx
  have HX := Lib.hid hx
  have HB := Lib.hid hb
  have HC := Lib.hid hc
  have HM := Lib.hid hm
  clear hx hb hc hm
  obtain ⟨m, hm⟩ : ∃ m, m = min xs.length 10 := ⟨_, rfl⟩
  have hmin : ((min xs.length 10 : Nat) : Int) = min (xs.length : Int) 10 := by omega
  have HMM := Lib.hid hm
  clear hm
  go_enter Tryd.func59, Tryd.ntmps59
  go_upto_region 2 with (fail)
  all_goals clear hmin
  all_goals go_loopw [4, 11] (fun n i wr => ∃ k : Nat, k ≤ min xs.length 10 ∧ n = .int .u64 ((accF xs k : Nat) : Int) ∧ i = .int .i64 k ∧ wr = w ∧ rdF xs most = rdFrom xs most (min xs.length 10 - k) k) (fun _ i _ => 10 - (intOf i).toNat)
  case atStart => exact ⟨0, by omega, rfl, rfl, rfl, rfl⟩
  try (case atStart => exact ⟨0, by omega, rfl, rfl, rfl, rfl⟩)
  all_goals obtain ⟨k, hk, rfl, rfl, rfl, hrd⟩ := hrel
  all_goals
    by_cases hlt : k < min xs.length 10
    · obtain ⟨ab, ao, rfl, hcell⟩ := HX.out.resolve_left (by rintro rfl; simp at hlt)
      obtain ⟨b, hb⟩ : ∃ b : Nat, xs[k]? = some (b : Int) ∧ b < 256 := by
        have hk1 : k < xs.length := by omega
        have := HB.out xs[k] (List.getElem_mem hk1)
        exact ⟨xs[k].toNat, by rw [List.getElem?_eq_getElem hk1]; congr 1; omega, by omega⟩
      have hc := hcell k _ hb.1
      have ha := and128 b hb.2
      have hk1 : (k : Int) < xs.length := by omega
      have hk2 : (k : Int) < 10 := by omega
      have hgd : xs.getD k 0 = (b : Int) := by rw [List.getD, hb.1]; rfl
      have hor := acc_step xs k b (by omega) hgd
      have hst := rd_step xs most k b hlt hgd
      have HC' := HC.out
      have hsl := sliceB_first ab ao xs.length c (k + 1) (by omega)
      rw [show ((k + 1 : Nat) : Int) = (k : Int) + 1 by omega] at hsl
      have hck := checked_any (accF xs (k + 1)) most ab ao (k + 1) c b wr (by omega) (by omega) hb.2 (by rw [Nat.add_sub_cancel]; exact hc)
      replace hck := Lib.hid hck
      have HST := Lib.hid (hrd.trans hst)
      clear hst hrd hgd hcell HC'
      have hb2 := hb.2
      clear hb
      generalize hacc : accF xs (k + 1) = acc1 at *
      replace hacc := Lib.hid hacc
      by_cases h128 : b < 128
      · have HR := HST.out
        rw [if_pos h128] at HR
        replace HR := Lib.hid HR
        clear HST
        go_wp2_with (go_at_call 68; (with_reducible refine hck.out.mono ?_); rintro e w2 ⟨rfl, rfl⟩; simp only [tripV])
        go_ret3
        exact ⟨by rw [HR.out]; rfl, rfl⟩
      · have HR := HST.out
        rw [if_neg h128] at HR
        replace HR := Lib.hid HR
        clear HST
        go_wp2_with (fail)
        go_roundw
        case rel => exact ⟨k + 1, by omega, by rw [hacc.out], rfl, trivial, HR.out⟩
        case measure => simp [intOf]; omega
    · have hk1 : ¬ (k : Int) < min (xs.length : Int) 10 := by omega
      have HRD := Lib.hid (show rdF xs most = if xs.length < 10 then (0, 0, some 12) else (0, 0, some 3) by rw [hrd, show min xs.length 10 - k = 0 by omega]; rfl)
      clear hrd HX
      go_wp2_with (fail)
      all_goals go_ret3
      all_goals rw [HRD.out]
      all_goals first
        | (rw [if_pos (by omega)]; exact ⟨rfl, rfl⟩)
        | (rw [if_neg (by omega)]; exact ⟨rfl, rfl⟩)
end Go.Proofs.YtllpnpeppdfjlaaDoor

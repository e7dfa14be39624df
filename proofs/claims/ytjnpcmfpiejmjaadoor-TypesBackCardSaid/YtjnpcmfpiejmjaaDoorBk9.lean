/- Part 9 of the proof. -/
import Derived.Lib.SliceRun
import Derived.Deep.CutRange
import Derived.Deep.RegionWith
import Derived.Laws.CopyRow
import Derived.Deep.RegionHeld3
import Derived.Test.YtjnpcmfpiejmjaaDoorBk1
import Derived.Test.YtjnpcmfpiejmjaaDoorBk2
import Derived.Test.YtjnpcmfpiejmjaaDoorBk5
import Derived.Test.YtjnpcmfpiejmjaaDoorBk7
import Derived.Test.YtjnpcmfpiejmjaaDoorBk8
namespace Go.Proofs.YtjnpcmfpiejmjaaDoor
set_option linter.unusedVariables false
set_option linter.unusedSimpArgs false
open Go.RowKit
def clr (f : Nat → Int) (o m : Nat) : Nat → Int := fun i => if o ≤ i ∧ i < o + m then 0 else f i
theorem RowAt.clear {g n : Nat} {k : IntKind} {t : TypeId} : ∀ (m o : Nat) (f : Nat → Int) (w : World), RowAt w g k n t f → RowAt (w.setCells g o (List.replicate m (.int k 0))) g k n t (clr f o m)
  | 0, o, f, w, h => by
    have : clr f o 0 = f := by funext i; unfold clr; rw [if_neg (by omega)]
    rw [this]; exact h
  | m + 1, o, f, w, h => by
    have := RowAt.clear m (o + 1) _ _ (h.set o 0)
    have e : clr (upd f o 0) (o + 1) m = clr f o (m + 1) := by
      funext i
      unfold clr upd
      by_cases h1 : o + 1 ≤ i ∧ i < o + 1 + m
      · rw [if_pos h1, if_pos (by omega)]
      · rw [if_neg h1]
        by_cases h2 : i = o
        · rw [if_pos h2, if_pos (by omega)]
        · rw [if_neg h2, if_neg (by omega)]
    rw [e] at this
    exact this
theorem wpList_clear_row {P : Program} {w : World} {ops : Array Oper} {rest : List Oper} {o : Oper} {a : Act} {Q : Exit → Act → World → Prop} (hgd : o.guard = none) (x : Operand) (T : TypeId)
    (ho : o.op = .call { callee := .builtin .clear, args := #[x], argTypes := #[T] }) (e : TypeId) (z : Value) (hu : P.underlying T = some (.slice e)) (hv : ∀ w, (zeroValue e).run P w = .ok z w)
    (hz : z.cells = #[z]) (h1 : z.oneCell' = true) (b oo n c : Nat) (hx : a.eval x = .slice (some ⟨b, oo, none⟩) n c)
    (hc : ∀ j, j < n → (w.cell? ⟨b, oo + j, none⟩).isSome = true) (hf : ∀ j, j < n → w.frozen? ⟨b, oo + j, none⟩ = false)
    (h : wpList P ops Q rest (a.put o.dst (.tuple #[])) (w.setCells b oo (List.replicate n z))) : wpList P ops Q (o :: rest) a w := by
  refine wpList_plain hgd fun K hK => ?_
  have hrun : (Builtin.clear_ #[T] o.type #[.slice (some ⟨b, oo, none⟩) n c]).run P w = .ok (.tuple #[]) (w.setCells b oo (List.replicate n z)) := by
    rcases Nat.eq_zero_or_pos n with rfl | hn
    · simp [Builtin.clear_, run_underlying hu, World.setCells]
    · exact Lib.run_clear_slice w T e o.type z hu hv hz h1 b oo n c hn hc hf
  unfold Oper.wp
  simp [execOp, ho, resolve, invoke, builtin, hx, hrun, Result.andThen]
  exact hK _ _ h
theorem zeroU8 (w : World) : (zeroValue 5).run Tryd.prog w = .ok (.int .u8 0) w := by kernel_rfl
theorem setCells_below (B b : Nat) (hb : B ≤ b) : ∀ (vs : List Value) (o : Nat) (w : World), Below B w (w.setCells b o vs)
  | [], _, _ => Below.refl _ _
  | v :: r, o, w => ((Below.refl B w).setCell (p := ⟨b, o, none⟩) hb v).trans (setCells_below B b hb r (o + 1) _)
theorem setCells_heap (b k : Nat) (hb : k ≠ b) : ∀ (vs : List Value) (o : Nat) (w : World), (w.setCells b o vs).heap[k]? = w.heap[k]?
  | [], _, _ => rfl
  | v :: r, o, w => by
    rw [World.setCells, setCells_heap b k hb r (o + 1) _]
    exact Below.heap_setCell w ⟨b, o, none⟩ v k hb
/-- the block behind the padding's begin: a bit 1, noughts -/
def padB (bl : Nat → Int) (u : Nat) : Nat → Int := clr (upd bl u 128) (u + 1) (63 - u)
/-- the last k bytes of the block hold the number of bits -/
def lenF (f : Nat → Int) (n : Int) : Nat → Nat → Int
  | 0 => f
  | k + 1 => upd (lenF f n k) (63 - k) (IntKind.u64.wrap (n * 8) / 2 ^ (8 * k) % 256)
/-- the state behind the padding -/
def finF (s bl : Nat → Int) (n : Int) (u : Nat) : Nat → Int :=
  if u < 56 then mixF s (lenF (padB bl u) n 8) else mixF (mixF s (padB bl u)) (lenF (clr (padB bl u) 0 64) n 8)
end Go.Proofs.YtjnpcmfpiejmjaaDoor
namespace Go.Proofs.YtjnpcmfpiejmjaaDoor
set_option linter.unusedVariables false
set_option linter.unusedSimpArgs false
open Go.RowKit
def BT (i : Nat) : Int := (([1779033703, 3144134277, 1013904242, 2773480762, 1359893119, 2600822924, 528734635, 1541459225] : List Nat).getD i 0 : Nat)
def hashCells (s b : Nat → Int) (n : Int) : Array Value := rowOf .u32 8 s ++ (rowOf .u8 64 b ++ #[.int .u64 n])
theorem hashCells_size (s b : Nat → Int) (n : Int) : (hashCells s b n).size = 73 := by simp [hashCells, rowOf_size]
theorem hashCells_state (s b : Nat → Int) (n : Int) (i : Nat) (h : i < 8) : (hashCells s b n)[i]? = some (.int .u32 (s i)) := by
  unfold hashCells
  rw [Array.getElem?_append_left (by rw [rowOf_size]; exact h), rowOf_get _ _ _ _ h]
theorem hashCells_block (s b : Nat → Int) (n : Int) (i : Nat) (h : i < 64) : (hashCells s b n)[8 + i]? = some (.int .u8 (b i)) := by
  unfold hashCells
  rw [Array.getElem?_append_right (by rw [rowOf_size]; omega), rowOf_size, show 8 + i - 8 = i by omega, Array.getElem?_append_left (by rw [rowOf_size]; exact h), rowOf_get _ _ _ _ h]
theorem hashCells_count (s b : Nat → Int) (n : Int) : (hashCells s b n)[72]? = some (.int .u64 n) := by
  unfold hashCells
  rw [Array.getElem?_append_right (by rw [rowOf_size]; omega), rowOf_size, Array.getElem?_append_right (by rw [rowOf_size]; omega), rowOf_size]
  rfl
theorem hashCells_one (s b : Nat → Int) (n : Int) : (hashCells s b n).all (·.oneCell') = true := by
  unfold hashCells
  rw [Array.all_append, Array.all_append, rowOf_one, rowOf_one]
  simp [Value.oneCell']
theorem rowOf_list (k : IntKind) (n : Nat) (f : Nat → Int) : ((rowOf k n f).toList)[n]? = none ∧ (rowOf k n f).toList.length = n := by
  constructor <;> simp [rowOf]
theorem hashCells_setS (s b : Nat → Int) (n : Int) (i : Nat) (v : Int) (h : i < 8) : (hashCells s b n).setIfInBounds i (.int .u32 v) = hashCells (upd s i v) b n := by
  unfold hashCells
  rw [← rowOf_set, Array.setIfInBounds_append_left (by rw [rowOf_size]; exact h)]
theorem hashCells_setN (s b : Nat → Int) (n v : Int) : (hashCells s b n).setIfInBounds 72 (.int .u64 v) = hashCells s b v := by
  unfold hashCells
  rw [Array.setIfInBounds_append_right (by rw [rowOf_size]; omega), rowOf_size, Array.setIfInBounds_append_right (by rw [rowOf_size]; omega), rowOf_size]
  rfl
end Go.Proofs.YtjnpcmfpiejmjaaDoor
namespace Go.Proofs.YtjnpcmfpiejmjaaDoor
set_option linter.unusedVariables false
set_option linter.unusedSimpArgs false
open Go.RowKit
structure HS where
  s : Nat → Int
  b : Nat → Int
  n : Int
def put1 (h : HS) (x : Int) : HS :=
  if (h.n + 1) % 18446744073709551616 % 64 = 0 then ⟨mixF h.s (upd h.b (h.n % 64).toNat x), upd h.b (h.n % 64).toNat x, (h.n + 1) % 18446744073709551616⟩
  else ⟨h.s, upd h.b (h.n % 64).toNat x, (h.n + 1) % 18446744073709551616⟩
/-- all bytes of a list, one behind the other -/
def putF (h : HS) (xs : List Int) : HS := xs.foldl put1 h
theorem putF_append (h : HS) (xs ys : List Int) : putF h (xs ++ ys) = putF (putF h xs) ys := by unfold putF; rw [List.foldl_append]
/-- a list laid over a block from place u on -/
def lay (b : Nat → Int) : Nat → List Int → Nat → Int
  | _, [] => b
  | u, y :: ys => lay (upd b u y) (u + 1) ys
theorem lay_get : ∀ (ys : List Int) (b : Nat → Int) (u i : Nat), lay b u ys i = if u ≤ i ∧ i < u + ys.length then ys.getD (i - u) 0 else b i
  | [], b, u, i => by rw [if_neg (by simp)]; rfl
  | y :: ys, b, u, i => by
    rw [lay, lay_get ys]
    unfold upd
    by_cases h : i = u
    · subst h
      rw [if_neg (by omega), if_pos rfl, if_pos (by simp)]
      simp
    · by_cases h2 : u + 1 ≤ i ∧ i < u + 1 + ys.length
      · rw [if_pos h2, if_pos (by simp; omega), show i - u = (i - (u + 1)) + 1 by omega]
        simp
      · rw [if_neg h2, if_neg h, if_neg (by simp; omega)]
theorem put_run (s : Nat → Int) : ∀ (ys : List Int) (b : Nat → Int) (n : Int) (u : Nat), 0 ≤ n → n < 18446744073709551616 → n % 64 = u → u + ys.length < 64 →
    putF ⟨s, b, n⟩ ys = ⟨s, lay b u ys, (n + ys.length) % 18446744073709551616⟩
  | [], b, n, u, h0, h1, _, _ => by
    have : n % 18446744073709551616 = n := by omega
    simp [putF, lay, this]
  | y :: ys, b, n, u, h0, h1, hu, hl => by
    simp only [List.length_cons] at hl
    have e : put1 ⟨s, b, n⟩ y = ⟨s, upd b u y, (n + 1) % 18446744073709551616⟩ := by
      unfold put1
      rw [if_neg (by show ¬ (n + 1) % 18446744073709551616 % 64 = 0; omega)]
      show (⟨s, upd b (n % 64).toNat y, _⟩ : HS) = _
      rw [show (n % 64).toNat = u by omega]
    have ih := put_run s ys (upd b u y) ((n + 1) % 18446744073709551616) (u + 1) (by omega) (by omega) (by omega) (by omega)
    unfold putF at ih ⊢
    rw [List.foldl_cons, e, ih, lay]
    congr 1
    simp only [List.length_cons]
    omega
theorem put_full (s : Nat → Int) : ∀ (ys : List Int) (b : Nat → Int) (n : Int) (u : Nat), 0 ≤ n → n < 18446744073709551616 → n % 64 = u → u + ys.length = 64 → u < 64 →
    putF ⟨s, b, n⟩ ys = ⟨mixF s (lay b u ys), lay b u ys, (n + ys.length) % 18446744073709551616⟩
  | [], b, n, u, h0, h1, hu, hl, hlt => by simp at hl; omega
  | y :: ys, b, n, u, h0, h1, hu, hl, hlt => by
    simp only [List.length_cons] at hl
    by_cases hn : ys = []
    · subst hn
      simp at hl
      have e : put1 ⟨s, b, n⟩ y = ⟨mixF s (upd b u y), upd b u y, (n + 1) % 18446744073709551616⟩ := by
        unfold put1
        rw [if_pos (by show (n + 1) % 18446744073709551616 % 64 = 0; omega)]
        show (⟨mixF s (upd b (n % 64).toNat y), upd b (n % 64).toNat y, _⟩ : HS) = _
        rw [show (n % 64).toNat = u by omega]
      unfold putF
      rw [List.foldl_cons, e]
      rfl
    · have hpos : 0 < ys.length := List.length_pos_iff.2 hn
      have e : put1 ⟨s, b, n⟩ y = ⟨s, upd b u y, (n + 1) % 18446744073709551616⟩ := by
        unfold put1
        rw [if_neg (by show ¬ (n + 1) % 18446744073709551616 % 64 = 0; omega)]
        show (⟨s, upd b (n % 64).toNat y, _⟩ : HS) = _
        rw [show (n % 64).toNat = u by omega]
      have ih := put_full s ys (upd b u y) ((n + 1) % 18446744073709551616) (u + 1) (by omega) (by omega) (by omega) (by omega) (by omega)
      unfold putF at ih ⊢
      rw [List.foldl_cons, e, ih, lay]
      congr 1
      simp only [List.length_cons]
      omega
theorem putF_bounds (h : HS) (h0 : 0 ≤ h.n) (h1 : h.n < 18446744073709551616) : ∀ xs : List Int, 0 ≤ (putF h xs).n ∧ (putF h xs).n < 18446744073709551616 := by
  intro xs
  induction xs generalizing h with
  | nil => exact ⟨h0, h1⟩
  | cons x xs ih =>
    unfold putF at *
    rw [List.foldl_cons]
    have e : (put1 h x).n = (h.n + 1) % 18446744073709551616 := by unfold put1; split <;> rfl
    exact ih _ (by rw [e]; omega) (by rw [e]; omega)
/-- a copy into the block of a Hash -/
theorem hashCells_copy (s b : Nat → Int) (n : Int) (u : Nat) (ys : List Int) (h : u + ys.length ≤ 64) :
    ((hashCells s b n).toList.take (8 + u) ++ (byteVals ys ++ (hashCells s b n).toList.drop (8 + u + (byteVals ys).length))).toArray = hashCells s (lay b u ys) n := by
  apply Array.ext_getElem?
  intro i
  have hsz := hashCells_size s b n
  rw [byteVals_length, List.getElem?_toArray, List.getElem?_append, List.getElem?_take, List.getElem?_append, List.getElem?_drop]
  simp only [List.length_take, Array.length_toList, hsz, byteVals_length, Array.getElem?_toList]
  by_cases h1 : i < 8
  · rw [if_pos (by omega), if_pos (by omega), hashCells_state _ _ _ _ h1, hashCells_state _ _ _ _ h1]
  · by_cases h2 : i < 72
    · obtain ⟨j, rfl⟩ : ∃ j, i = 8 + j := ⟨i - 8, by omega⟩
      have hj : j < 64 := by omega
      rw [hashCells_block s (lay b u ys) n j hj, lay_get]
      by_cases h3 : j < u
      · rw [if_pos (by omega), if_pos (by omega), hashCells_block _ _ _ _ hj, if_neg (by omega)]
      · rw [if_neg (by omega)]
        by_cases h4 : j < u + ys.length
        · rw [if_pos (by omega), if_pos (by omega), show 8 + j - min (8 + u) 73 = j - u by omega]
          simp [byteVals, List.getD, (by omega : j - u < ys.length)]
        · rw [if_neg (by omega), if_neg (by omega), show 8 + u + ys.length + (8 + j - min (8 + u) 73 - ys.length) = 8 + j by omega, hashCells_block _ _ _ _ hj]
    · have e : ∀ f : Nat → Int, (hashCells s f n)[i]? = if i = 72 then some (.int .u64 n) else none := fun f => by
        by_cases h3 : i = 72
        · subst h3; rw [if_pos rfl, hashCells_count]
        · rw [if_neg h3, Array.getElem?_eq_none]; rw [hashCells_size]; omega
      rw [if_neg (by omega), if_neg (by omega), show 8 + u + ys.length + (i - min (8 + u) 73 - ys.length) = i by omega, e, e]
end Go.Proofs.YtjnpcmfpiejmjaaDoor
namespace Go.Proofs.YtjnpcmfpiejmjaaDoor
set_option linter.unusedVariables false
set_option linter.unusedSimpArgs false
open Go.RowKit
/-- v is a slice of the bytes xs, apart from block g -/
def BytesAt (w : World) (g : Nat) (v : Value) (xs : List Int) : Prop :=
  ∃ a cap, v = .slice a xs.length cap ∧ xs.length ≤ cap ∧ xs.length ≤ maxLen ∧ (xs = [] ∨ ∃ ab ao, a = some ⟨ab, ao, none⟩ ∧ ab ≠ g ∧ ∀ i x, xs[i]? = some x → w.cell? ⟨ab, ao + i, none⟩ = some (.int .u8 x))
theorem BytesAt.only {g : Nat} {w w' : World} {v : Value} {xs : List Int} (h : BytesAt w g v xs) (ho : Only g w w') : BytesAt w' g v xs := by
  obtain ⟨a, cap, rfl, hc, hm, hx⟩ := h
  refine ⟨a, cap, rfl, hc, hm, ?_⟩
  rcases hx with hx | ⟨ab, ao, rfl, hne, hx⟩
  · exact .inl hx
  · exact .inr ⟨ab, ao, rfl, hne, fun i x hi => ho.cell (hx i x hi) hne⟩
/-- a cut at m -/
theorem BytesAt.drop {g : Nat} {w : World} {ab ao cap m : Nat} {xs : List Int} (hc : xs.length ≤ cap) (hm : xs.length ≤ maxLen) (hne : ab ≠ g) (hx : ∀ i x, xs[i]? = some x → w.cell? ⟨ab, ao + i, none⟩ = some (.int .u8 x)) (hmx : m ≤ xs.length)
    (a' : Option Addr) (ha : a' = if cap = m then some ⟨ab, ao, none⟩ else some ⟨ab, ao + m, none⟩) : BytesAt w g (.slice a' (xs.length - m) (cap - m)) (xs.drop m) := by
  refine ⟨a', cap - m, by rw [List.length_drop], by rw [List.length_drop]; omega, by rw [List.length_drop]; omega, ?_⟩
  by_cases h : cap = m
  · left
    apply List.drop_eq_nil_of_le
    omega
  · right
    refine ⟨ab, ao + m, by rw [ha, if_neg h], hne, fun i x hi => ?_⟩
    rw [List.getElem?_drop] at hi
    rw [Nat.add_assoc]
    exact hx _ _ hi
theorem slice22l (ab ao n cap m : Nat) (hm : m ≤ n) (_hn : n ≤ cap) (a' : Option Addr) (ha : a' = if cap = m then some ⟨ab, ao, none⟩ else some ⟨ab, ao + m, none⟩) (w : World) :
    (Instr.slice 33 (.slice (some ⟨ab, ao, none⟩) n cap) (some (.int .i64 (m : Int))) none none).run Tryd.prog w = .ok (.slice a' (n - m) (cap - m)) w := by
  have he : Tryd.prog.elem 33 = 5 := by kernel_rfl
  have hs : (sizeOf 5).run Tryd.prog w = .ok 1 w := by kernel_rfl
  rw [run_slice_l w 33 (some ⟨ab, ao, none⟩) n cap (by rw [he]; exact Tryd.underlying33) .i64 (m : Int) (by omega) (by omega), he, hs]
  simp only [Result.andThen_ok, sliced, Int.toNat_natCast]
  subst ha
  by_cases h : cap = m
  · rw [if_pos h, if_pos h]
  · rw [if_neg h, if_neg h]
    show Result.ok (Value.slice (some (Addr.add ⟨ab, ao, none⟩ (m * 1))) _ _) w = _
    rw [Addr.add_mid, Nat.mul_one]
theorem range_set8 {w : World} {g : Nat} {cs : List Value} {i : Nat} {v : Value} (hi : i < 8) (h : w.rangeAt g 8 cs) : (w.setCell ⟨g, i, none⟩ v).rangeAt g 8 cs := fun j u hj => by
  rw [World.cell?_setCell_other _ _ _ _ (by intro e; injection e; omega)]
  exact h j u hj
theorem Only.setCells (g : Nat) : ∀ (vs : List Value) (o : Nat) (w : World), Only g w (w.setCells g o vs)
  | [], _, w => Only.refl g w
  | v :: r, o, w => (Only.setCell w ⟨g, o, none⟩ v).trans (Only.setCells g r (o + 1) _)
theorem put_next (h : HS) (ys : List Int) (m u : Nat) (h0 : 0 ≤ h.n) (h1 : h.n < 18446744073709551616) (hu : h.n % 64 = u) (hm : (ys.take m).length = m) (hlt : u + m < 64) (N : Int) (hN : N = IntKind.u64.wrap (h.n + m)) :
    putF ⟨h.s, lay h.b u (ys.take m), N⟩ (ys.drop m) = putF h ys ∧ 0 ≤ N ∧ N < 18446744073709551616 ∧ (N % 64 == 0) = (decide (u + m = 0)) := by
  rw [IntKind.wrap_u64] at hN
  have e := put_run h.s (ys.take m) h.b h.n u h0 h1 hu (by rw [hm]; exact hlt)
  rw [hm, ← hN] at e
  refine ⟨?_, by omega, by omega, ?_⟩
  · rw [← e, ← putF_append, List.take_append_drop]
  · by_cases hz : u + m = 0
    · rw [decide_eq_true hz, show N % 64 = 0 by omega]; rfl
    · rw [decide_eq_false hz, beq_eq_false_iff_ne]; omega
theorem put_next_full (h : HS) (ys : List Int) (m u : Nat) (h0 : 0 ≤ h.n) (h1 : h.n < 18446744073709551616) (hu : h.n % 64 = u) (hm : (ys.take m).length = m) (hlt : u + m = 64) (h64 : u < 64) (N : Int) (hN : N = IntKind.u64.wrap (h.n + m)) :
    putF ⟨mixF h.s (lay h.b u (ys.take m)), lay h.b u (ys.take m), N⟩ (ys.drop m) = putF h ys ∧ 0 ≤ N ∧ N < 18446744073709551616 ∧ (N % 64 == 0) = true := by
  rw [IntKind.wrap_u64] at hN
  have e := put_full h.s (ys.take m) h.b h.n u h0 h1 hu (by rw [hm]; exact hlt) h64
  rw [hm, ← hN] at e
  refine ⟨?_, by omega, by omega, ?_⟩
  · rw [← e, ← putF_append, List.take_append_drop]
  · rw [show N % 64 = 0 by omega]; rfl
def lenOfV : Value → Nat | .slice _ n _ => n | _ => 0
end Go.Proofs.YtjnpcmfpiejmjaaDoor
namespace Go.Proofs.YtjnpcmfpiejmjaaDoor
set_option linter.unusedVariables false
set_option linter.unusedSimpArgs false
open Go.RowKit
/-- the bytes of eight words -/
def outF (f : Nat → Int) : Nat → Int := fun i => f (i / 4) / 2 ^ (24 - 8 * (i % 4)) % 256
/-- the first k bytes are there -/
def outK (f : Nat → Int) (k : Nat) : Nat → Int := fun i => if i < k then outF f i else 0
theorem outK_succ (f : Nat → Int) (i j : Nat) (hj : j < 4) : upd (outK f (4 * i + j)) (4 * i + j) (f i / 2 ^ (24 - 8 * j) % 256) = outK f (4 * i + j + 1) := by
  funext x
  unfold upd outK
  by_cases h : x = 4 * i + j
  · subst h
    rw [if_pos rfl, if_pos (by omega)]
    unfold outF
    rw [show (4 * i + j) / 4 = i by omega, show (4 * i + j) % 4 = j by omega]
  · rw [if_neg h]
    by_cases h2 : x < 4 * i + j
    · rw [if_pos h2, if_pos (by omega)]
    · rw [if_neg h2, if_neg (by omega)]
theorem zeros32 : (#[Value.int IntKind.u8 0, Value.int IntKind.u8 0, Value.int IntKind.u8 0, Value.int IntKind.u8 0, Value.int IntKind.u8 0, Value.int IntKind.u8 0, Value.int IntKind.u8 0, Value.int IntKind.u8 0, Value.int IntKind.u8 0, Value.int IntKind.u8 0, Value.int IntKind.u8 0, Value.int IntKind.u8 0, Value.int IntKind.u8 0, Value.int IntKind.u8 0, Value.int IntKind.u8 0, Value.int IntKind.u8 0, Value.int IntKind.u8 0, Value.int IntKind.u8 0, Value.int IntKind.u8 0, Value.int IntKind.u8 0, Value.int IntKind.u8 0, Value.int IntKind.u8 0, Value.int IntKind.u8 0, Value.int IntKind.u8 0, Value.int IntKind.u8 0, Value.int IntKind.u8 0, Value.int IntKind.u8 0, Value.int IntKind.u8 0, Value.int IntKind.u8 0, Value.int IntKind.u8 0, Value.int IntKind.u8 0, Value.int IntKind.u8 0] : Array Value) = rowOf .u8 32 (fun _ => 0) := by rfl
abbrev SumS (g : Nat) (s b : Nat → Int) (n : Int) (w' : World) : Prop := w'.rangeAt g 8 (rowOf .u8 64 b).toList ∧ w'.cell? ⟨g, 0, none⟩ = some (.int .u32 (s 0)) ∧ w'.cell? ⟨g, 1, none⟩ = some (.int .u32 (s 1)) ∧ w'.cell? ⟨g, 2, none⟩ = some (.int .u32 (s 2)) ∧ w'.cell? ⟨g, 3, none⟩ = some (.int .u32 (s 3)) ∧ w'.cell? ⟨g, 4, none⟩ = some (.int .u32 (s 4)) ∧ w'.cell? ⟨g, 5, none⟩ = some (.int .u32 (s 5)) ∧ w'.cell? ⟨g, 6, none⟩ = some (.int .u32 (s 6)) ∧ w'.cell? ⟨g, 7, none⟩ = some (.int .u32 (s 7)) ∧ w'.cell? ⟨g, 72, none⟩ = some (.int .u64 n)
theorem BytesIn.at {w w' : World} {v : Value} {xs : List Int} (h : BytesIn w v xs) {B g : Nat} (hb : Below B w w') (hB : w.heap.size ≤ B) (hg : w.heap.size ≤ g) : BytesAt w' g v xs := by
  obtain ⟨a, cap, rfl, hc, hm, hx⟩ := h
  refine ⟨a, cap, rfl, hc, hm, ?_⟩
  rcases hx with hx | ⟨ab, ao, rfl, hx⟩
  · exact .inl hx
  · by_cases he : xs = []
    · exact .inl he
    · obtain ⟨x, xs', rfl⟩ := List.exists_cons_of_ne_nil he
      have h0 := World.block_lt_of_cell? w _ (hx 0 x rfl)
      have h0' : ab < w.heap.size := h0
      exact .inr ⟨ab, ao, rfl, by omega, fun i y hi => (hb.cell (p := ⟨ab, ao + i, none⟩) (by show ab < B; omega)).trans (hx i y hi)⟩
/-- the empty Hash -/
def h0 : HS := ⟨BT, fun _ => 0, 0⟩
/-- the hash that a Hash answers -/
def hsum (h : HS) : Nat → Int := outF (finF h.s h.b h.n (h.n % 64).toNat)
/-- the hash of bytes -/
def sumF (xs : List Int) : Nat → Int := hsum (putF h0 xs)
end Go.Proofs.YtjnpcmfpiejmjaaDoor
namespace Go.Proofs.YtjnpcmfpiejmjaaDoor
set_option linter.unusedVariables false
set_option linter.unusedSimpArgs false
open Go.RowKit
set_option maxRecDepth 100000
/-- are the params valid? -/
def kOk (D E : Int) : Prop := 1 ≤ D ∧ D ≤ 32 ∧ 0 ≤ E ∧ E ≤ 10
instance (D E : Int) : Decidable (kOk D E) := by unfold kOk; infer_instance
def parC (D E : Int) : Array Value := #[.int .i64 D, .int .i64 E]
def ckR (D E : Int) : Option Nat := if kOk D E then none else some 20
end Go.Proofs.YtjnpcmfpiejmjaaDoor
namespace Go.Proofs.YtjnpcmfpiejmjaaDoor
set_option linter.unusedVariables false
set_option linter.unusedSimpArgs false
open Go.RowKit
set_option maxRecDepth 100000
set_option linter.unusedSimpArgs false
set_option linter.unusedVariables false
structure VoOk (v : Vo) : Prop where
  k : -9223372036854775808 ≤ v.kind ∧ v.kind ≤ 9223372036854775807
  h : -9223372036854775808 ≤ v.height ∧ v.height ≤ 9223372036854775807
  r : -9223372036854775808 ≤ v.round ∧ v.round ≤ 9223372036854775807
abbrev sVote : ByteArray := { data := #[118, 111, 116, 101] }
/-- what is signed -/
def vbL (chain : ByteArray) (v : Vo) : List Int := ((((([] ++ (varint sVote.size ++ numsOf sVote)) ++ (varint chain.size ++ numsOf chain)) ++ varint (zig v.kind)) ++ varint (zig v.height)) ++ varint (zig v.round)) ++ rowL 32 v.blk
theorem glenT {n : Nat} (h : n < 18446744073709551616) : (varint n).length ≤ 10 := by
  have := glen_le h
  rw [varint_length]; omega
theorem rowT_yields {ops : Array Oper} {S : World → Prop} {op : Oper} {a : Act} (hw : Region.wanted op (yielded ops a.tmps) = true) (ty : TypeId) (x : Operand) (ho : op.op = .load ty x)
    (b o : Nat) (hx : a.eval x = .pointer (some ⟨b, o, none⟩)) (cs : Array Value) (d : TypeDesc) (hS : ∀ w, S w → w.rangeAt b o cs.toList)
    (hu : Tryd.prog.underlying ty = some d) (hd : d.isRow = true) (hi : (Tryd.prog.info? ty).map (·.size) = some cs.size) : YieldsIf Tryd.prog ops S op (.agg cs) a := by
  have h := yieldsIf_load_mid (P := Tryd.prog) (S := S) hw ty x ho b o hx cs.toList d hS hu hd (by rw [hi, Array.length_toList])
  simpa using h
def VbS (q : Nat) (v : Vo) (w : World) : Prop := w.heap[q]? = some (.cells (voC v) 35 (0, 0))
theorem VbS.below {q : Nat} {v : Vo} {w w' : World} (h : VbS q v w) (hb : Below w.heap.size w w') : VbS q v w' := (hb.block _ (bkT_lt h)).trans h
theorem wpT_next {g B : Nat} {v : Value} {xs ys : List Int} {w0 w w' : World} {e : Ending} (h : WPost g v xs ys w e w') (hw : WAt w g v xs) (hB : Below B w0 w) (hg : B ≤ g) : e = .returned (.pointer (some ⟨g, 0, none⟩)) ∧ ∃ v', WAt w' g v' (xs ++ ys) ∧ Below B w0 w' ∧ Below B w w' := by
  obtain ⟨h1, v', h2, h3⟩ := h
  exact ⟨h1, v', h2, hB.trans (h3.below hw hg), h3.below hw hg⟩
/-- a small depth -/
def cutE4 (E : Int) : Int := if 3 < E ∧ E ≤ 10 then E % 4 else E
theorem cutE4_same (D E : Int) : kOk D (cutE4 E) ↔ kOk D E := by
  unfold cutE4
  by_cases h : 3 < E ∧ E ≤ 10
  · rw [if_pos h]
    unfold kOk; omega
  · rw [if_neg h]
theorem par11_one (D E : Int) : (parC D E).all (·.oneCell') = true := by simp [parC, Value.oneCell']
end Go.Proofs.YtjnpcmfpiejmjaaDoor

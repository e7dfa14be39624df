/- Part 3 of the proof. -/
import Derived.Deep.RegionWith
import Derived.Laws.CopyRow
import Derived.Deep.RegionHeld3
import Derived.Laws.BytesArg
import Derived.Shelf.Small.Bits
import Derived.Shelf.Small.Strs
import Derived.Shelf.Strconv.Itoa0
import Derived.Shelf.Strings.Search1
import Derived.Test.YtejglhlodfhgkaaGreatDoorProg
import Derived.Test.YtejglhlodfhgkaaGreatDoorXv1
import Derived.Test.YtejglhlodfhgkaaGreatDoorXv2
namespace Go.Proofs.YtejglhlodfhgkaaGreatDoor
set_option linter.unusedVariables false
set_option linter.unusedSimpArgs false
open Go.RowKit
def BT (i : Nat) : Int := (([1779033703, 3144134277, 1013904242, 2773480762, 1359893119, 2600822924, 528734635, 1541459225] : List Nat).getD i 0 : Nat)
/-- the two tables lie where start-up laid them -/
structure Env (w : World) : Prop where
  begin : ∀ i, i < 8 → w.cell? ⟨2, i, none⟩ = some (.int .u32 (BT i))
  consts : Consts w
theorem Env.below {w w' : World} {B : Nat} (h : Env w) (hb : Below B w w') (h1 : 3 < B) : Env w' :=
  ⟨fun i hi => (hb.cell (p := ⟨2, i, none⟩) (by show 2 < B; omega)).trans (h.begin i hi), h.consts.below hb h1⟩
theorem Env.lt {w : World} (h : Env w) : 3 < w.heap.size := h.consts.lt
def hashCells (s b : Nat → Int) (n : Int) : Array Value := rowOf .u32 8 s ++ (rowOf .u8 64 b ++ #[.int .u64 n])
/-- block g is a Hash -/
def HashAt (w : World) (g : Nat) (s b : Nat → Int) (n : Int) : Prop := w.heap[g]? = some (.cells (hashCells s b n) 282 (0, 0))
theorem hashCells_size (s b : Nat → Int) (n : Int) : (hashCells s b n).size = 73 := by simp [hashCells, rowOf_size]
theorem hashCells_state (s b : Nat → Int) (n : Int) (i : Nat) (h : i < 8) : (hashCells s b n)[i]? = some (.int .u32 (s i)) := by
  unfold hashCells
  rw [Array.getElem?_append_left (by rw [rowOf_size]; exact h), rowOf_get _ _ _ _ h]
theorem hashCells_block (s b : Nat → Int) (n : Int) (i : Nat) (h : i < 64) : (hashCells s b n)[8 + i]? = some (.int .u8 (b i)) := by
  unfold hashCells
  rw [Array.getElem?_append_right (by rw [rowOf_size]; omega), rowOf_size, show 8 + i - 8 = i by omega, Array.getElem?_append_left (by rw [rowOf_size]; exact h), rowOf_get _ _ _ _ h]
theorem hashCells_count (s b : Nat → Int) (n : Int) : (hashCells s b n)[72]? = some (.int .u64 n) := by
  unfold hashCells
  rw [Array.getElem?_append_right (by rw [rowOf_size]; omega), rowOf_size, Array.getElem?_append_right (by rw [rowOf_size]; omega), rowOf_size]
  rfl
theorem HashAt.lt {w : World} {g : Nat} {s b : Nat → Int} {n : Int} (h : HashAt w g s b n) : g < w.heap.size := (Array.getElem?_eq_some_iff.1 h).1
theorem HashAt.below {w w' : World} {g B : Nat} {s b : Nat → Int} {n : Int} (h : HashAt w g s b n) (hb : Below B w w') (hg : g < B) : HashAt w' g s b n := (hb.block g hg).trans h
theorem HashAt.cellS {w : World} {g : Nat} {s b : Nat → Int} {n : Int} (h : HashAt w g s b n) (i : Nat) (hi : i < 8) : w.cell? ⟨g, i, none⟩ = some (.int .u32 (s i)) := by
  rw [cell_of_row w g i _ _ _ h, hashCells_state _ _ _ _ hi]
theorem HashAt.cellB {w : World} {g : Nat} {s b : Nat → Int} {n : Int} (h : HashAt w g s b n) (i : Nat) (hi : i < 64) : w.cell? ⟨g, 8 + i, none⟩ = some (.int .u8 (b i)) := by
  rw [cell_of_row w g _ _ _ _ h, hashCells_block _ _ _ _ hi]
theorem HashAt.cellN {w : World} {g : Nat} {s b : Nat → Int} {n : Int} (h : HashAt w g s b n) : w.cell? ⟨g, 72, none⟩ = some (.int .u64 n) := by
  rw [cell_of_row w g _ _ _ _ h, hashCells_count]
theorem HashAt.free {w : World} {g : Nat} {s b : Nat → Int} {n : Int} (h : HashAt w g s b n) (i : Nat) : w.frozen? ⟨g, i, none⟩ = false := frozen_of_row w g i _ _ h
theorem rowOf_list (k : IntKind) (n : Nat) (f : Nat → Int) : ((rowOf k n f).toList)[n]? = none ∧ (rowOf k n f).toList.length = n := by
  constructor <;> simp [rowOf]
theorem HashAt.rangeS {w : World} {g : Nat} {s b : Nat → Int} {n : Int} (h : HashAt w g s b n) : w.rangeAt g 0 (rowOf .u32 8 s).toList := fun j v hv => by
  have hj : j < 8 := by have := (List.getElem?_eq_some_iff.1 hv).1; rw [(rowOf_list _ _ _).2] at this; exact this
  rw [Array.getElem?_toList, rowOf_get _ _ _ _ hj] at hv
  rw [Nat.zero_add, h.cellS j hj]; exact hv
theorem HashAt.rangeB {w : World} {g : Nat} {s b : Nat → Int} {n : Int} (h : HashAt w g s b n) : w.rangeAt g 8 (rowOf .u8 64 b).toList := fun j v hv => by
  have hj : j < 64 := by have := (List.getElem?_eq_some_iff.1 hv).1; rw [(rowOf_list _ _ _).2] at this; exact this
  rw [Array.getElem?_toList, rowOf_get _ _ _ _ hj] at hv
  rw [h.cellB j hj]; exact hv
set_option maxRecDepth 100000 in
set_option maxHeartbeats 400000 in
theorem shNew_any (w : World) (hk : Env w) :
    Calls Tryz.prog 141 #[] w fun e w' => e = .returned (.pointer (some ⟨w.heap.size, 0, none⟩)) ∧ w.alloc (.cells (hashCells BT (fun _ => 0) 0) 282) = w' := by
  have hc : ∀ i, i < 8 → w.cell? ⟨2, i, none⟩ = some (.int .u32 (BT i)) := hk.begin
  clear hk
  go_enter Tryz.func141, Tryz.ntmps141
  go_wp2
  go_ret
  exact ⟨rfl, by kernel_rfl⟩
theorem hashCells_setS (s b : Nat → Int) (n : Int) (i : Nat) (v : Int) (h : i < 8) : (hashCells s b n).setIfInBounds i (.int .u32 v) = hashCells (upd s i v) b n := by
  unfold hashCells
  rw [← rowOf_set, Array.setIfInBounds_append_left (by rw [rowOf_size]; exact h)]
theorem hashCells_setN (s b : Nat → Int) (n v : Int) : (hashCells s b n).setIfInBounds 72 (.int .u64 v) = hashCells s b v := by
  unfold hashCells
  rw [Array.setIfInBounds_append_right (by rw [rowOf_size]; omega), rowOf_size, Array.setIfInBounds_append_right (by rw [rowOf_size]; omega), rowOf_size]
  rfl
theorem HashAt.setS {w : World} {g : Nat} {s b : Nat → Int} {n : Int} (h : HashAt w g s b n) (i : Nat) (v : Int) (hi : i < 8) : HashAt (w.setCell ⟨g, i, none⟩ (.int .u32 v)) g (upd s i v) b n := by
  unfold HashAt
  rw [heap_setCell_same w g i _ _ _ h, hashCells_setS _ _ _ _ _ hi]
theorem HashAt.setN {w : World} {g : Nat} {s b : Nat → Int} {n : Int} (h : HashAt w g s b n) (v : Int) : HashAt (w.setCell ⟨g, 72, none⟩ (.int .u64 v)) g s b v := by
  unfold HashAt
  rw [heap_setCell_same w g 72 _ _ _ h, hashCells_setN]
theorem HashAt.congr {w : World} {g : Nat} {s s' b b' : Nat → Int} {n : Int} (h : HashAt w g s b n) (h1 : ∀ i, i < 8 → s i = s' i) (h2 : ∀ i, i < 64 → b i = b' i) : HashAt w g s' b' n := by
  unfold HashAt hashCells at *
  rw [← rowOf_congr _ _ _ _ h1, ← rowOf_congr _ _ _ _ h2]; exact h
end Go.Proofs.YtejglhlodfhgkaaGreatDoor
namespace Go.Proofs.YtejglhlodfhgkaaGreatDoor
set_option linter.unusedVariables false
set_option linter.unusedSimpArgs false
open Go.RowKit
structure HS where
  s : Nat → Int
  b : Nat → Int
  n : Int
def put1 (h : HS) (x : Int) : HS :=
  if (h.n + 1) % 18446744073709551616 % 64 = 0 then ⟨mixF h.s (upd h.b (h.n % 64).toNat x), upd h.b (h.n % 64).toNat x, (h.n + 1) % 18446744073709551616⟩
  else ⟨h.s, upd h.b (h.n % 64).toNat x, (h.n + 1) % 18446744073709551616⟩
/-- all bytes of a list, one behind the other -/
def putF (h : HS) (xs : List Int) : HS := xs.foldl put1 h
theorem putF_append (h : HS) (xs ys : List Int) : putF h (xs ++ ys) = putF (putF h xs) ys := by unfold putF; rw [List.foldl_append]
/-- a list laid over a block from place u on -/
def lay (b : Nat → Int) : Nat → List Int → Nat → Int
  | _, [] => b
  | u, y :: ys => lay (upd b u y) (u + 1) ys
theorem lay_get : ∀ (ys : List Int) (b : Nat → Int) (u i : Nat), lay b u ys i = if u ≤ i ∧ i < u + ys.length then ys.getD (i - u) 0 else b i
  | [], b, u, i => by rw [if_neg (by simp)]; rfl
  | y :: ys, b, u, i => by
    rw [lay, lay_get ys]
    unfold upd
    by_cases h : i = u
    · subst h
      rw [if_neg (by omega), if_pos rfl, if_pos (by simp)]
      simp
    · by_cases h2 : u + 1 ≤ i ∧ i < u + 1 + ys.length
      · rw [if_pos h2, if_pos (by simp; omega), show i - u = (i - (u + 1)) + 1 by omega]
        simp
      · rw [if_neg h2, if_neg h, if_neg (by simp; omega)]
theorem put_run (s : Nat → Int) : ∀ (ys : List Int) (b : Nat → Int) (n : Int) (u : Nat), 0 ≤ n → n < 18446744073709551616 → n % 64 = u → u + ys.length < 64 →
    putF ⟨s, b, n⟩ ys = ⟨s, lay b u ys, (n + ys.length) % 18446744073709551616⟩
  | [], b, n, u, h0, h1, _, _ => by
    have : n % 18446744073709551616 = n := by omega
    simp [putF, lay, this]
  | y :: ys, b, n, u, h0, h1, hu, hl => by
    simp only [List.length_cons] at hl
    have e : put1 ⟨s, b, n⟩ y = ⟨s, upd b u y, (n + 1) % 18446744073709551616⟩ := by
      unfold put1
      rw [if_neg (by show ¬ (n + 1) % 18446744073709551616 % 64 = 0; omega)]
      show (⟨s, upd b (n % 64).toNat y, _⟩ : HS) = _
      rw [show (n % 64).toNat = u by omega]
    have ih := put_run s ys (upd b u y) ((n + 1) % 18446744073709551616) (u + 1) (by omega) (by omega) (by omega) (by omega)
    unfold putF at ih ⊢
    rw [List.foldl_cons, e, ih, lay]
    congr 1
    simp only [List.length_cons]
    omega
theorem put_full (s : Nat → Int) : ∀ (ys : List Int) (b : Nat → Int) (n : Int) (u : Nat), 0 ≤ n → n < 18446744073709551616 → n % 64 = u → u + ys.length = 64 → u < 64 →
    putF ⟨s, b, n⟩ ys = ⟨mixF s (lay b u ys), lay b u ys, (n + ys.length) % 18446744073709551616⟩
  | [], b, n, u, h0, h1, hu, hl, hlt => by simp at hl; omega
  | y :: ys, b, n, u, h0, h1, hu, hl, hlt => by
    simp only [List.length_cons] at hl
    by_cases hn : ys = []
    · subst hn
      simp at hl
      have e : put1 ⟨s, b, n⟩ y = ⟨mixF s (upd b u y), upd b u y, (n + 1) % 18446744073709551616⟩ := by
        unfold put1
        rw [if_pos (by show (n + 1) % 18446744073709551616 % 64 = 0; omega)]
        show (⟨mixF s (upd b (n % 64).toNat y), upd b (n % 64).toNat y, _⟩ : HS) = _
        rw [show (n % 64).toNat = u by omega]
      unfold putF
      rw [List.foldl_cons, e]
      rfl
    · have hpos : 0 < ys.length := List.length_pos_iff.2 hn
      have e : put1 ⟨s, b, n⟩ y = ⟨s, upd b u y, (n + 1) % 18446744073709551616⟩ := by
        unfold put1
        rw [if_neg (by show ¬ (n + 1) % 18446744073709551616 % 64 = 0; omega)]
        show (⟨s, upd b (n % 64).toNat y, _⟩ : HS) = _
        rw [show (n % 64).toNat = u by omega]
      have ih := put_full s ys (upd b u y) ((n + 1) % 18446744073709551616) (u + 1) (by omega) (by omega) (by omega) (by omega) (by omega)
      unfold putF at ih ⊢
      rw [List.foldl_cons, e, ih, lay]
      congr 1
      simp only [List.length_cons]
      omega
theorem putF_bounds (h : HS) (h0 : 0 ≤ h.n) (h1 : h.n < 18446744073709551616) : ∀ xs : List Int, 0 ≤ (putF h xs).n ∧ (putF h xs).n < 18446744073709551616 := by
  intro xs
  induction xs generalizing h with
  | nil => exact ⟨h0, h1⟩
  | cons x xs ih =>
    unfold putF at *
    rw [List.foldl_cons]
    have e : (put1 h x).n = (h.n + 1) % 18446744073709551616 := by unfold put1; split <;> rfl
    exact ih _ (by rw [e]; omega) (by rw [e]; omega)
/-- a copy into the block of a Hash -/
theorem hashCells_copy (s b : Nat → Int) (n : Int) (u : Nat) (ys : List Int) (h : u + ys.length ≤ 64) :
    ((hashCells s b n).toList.take (8 + u) ++ (byteVals ys ++ (hashCells s b n).toList.drop (8 + u + (byteVals ys).length))).toArray = hashCells s (lay b u ys) n := by
  apply Array.ext_getElem?
  intro i
  have hsz := hashCells_size s b n
  rw [byteVals_length, List.getElem?_toArray, List.getElem?_append, List.getElem?_take, List.getElem?_append, List.getElem?_drop]
  simp only [List.length_take, Array.length_toList, hsz, byteVals_length, Array.getElem?_toList]
  by_cases h1 : i < 8
  · rw [if_pos (by omega), if_pos (by omega), hashCells_state _ _ _ _ h1, hashCells_state _ _ _ _ h1]
  · by_cases h2 : i < 72
    · obtain ⟨j, rfl⟩ : ∃ j, i = 8 + j := ⟨i - 8, by omega⟩
      have hj : j < 64 := by omega
      rw [hashCells_block s (lay b u ys) n j hj, lay_get]
      by_cases h3 : j < u
      · rw [if_pos (by omega), if_pos (by omega), hashCells_block _ _ _ _ hj, if_neg (by omega)]
      · rw [if_neg (by omega)]
        by_cases h4 : j < u + ys.length
        · rw [if_pos (by omega), if_pos (by omega), show 8 + j - min (8 + u) 73 = j - u by omega]
          simp [byteVals, List.getD, (by omega : j - u < ys.length)]
        · rw [if_neg (by omega), if_neg (by omega), show 8 + u + ys.length + (8 + j - min (8 + u) 73 - ys.length) = 8 + j by omega, hashCells_block _ _ _ _ hj]
    · have e : ∀ f : Nat → Int, (hashCells s f n)[i]? = if i = 72 then some (.int .u64 n) else none := fun f => by
        by_cases h3 : i = 72
        · subst h3; rw [if_pos rfl, hashCells_count]
        · rw [if_neg h3, Array.getElem?_eq_none]; rw [hashCells_size]; omega
      rw [if_neg (by omega), if_neg (by omega), show 8 + u + ys.length + (i - min (8 + u) 73 - ys.length) = i by omega, e, e]
theorem HashAt.copy {w : World} {g : Nat} {s b : Nat → Int} {n : Int} (h : HashAt w g s b n) (u : Nat) (ys : List Int) (hl : u + ys.length ≤ 64) :
    HashAt (w.setRow g ((hashCells s b n).toList.take (8 + u) ++ (byteVals ys ++ (hashCells s b n).toList.drop (8 + u + (byteVals ys).length))).toArray) g s (lay b u ys) n := by
  rw [hashCells_copy _ _ _ _ _ hl]
  exact setRow_heap w g _ _ _ _ h
end Go.Proofs.YtejglhlodfhgkaaGreatDoor
namespace Go.Proofs.YtejglhlodfhgkaaGreatDoor
set_option linter.unusedVariables false
set_option linter.unusedSimpArgs false
open Go.RowKit
/-- v is a slice of the bytes xs, apart from block g -/
def BytesAt (w : World) (g : Nat) (v : Value) (xs : List Int) : Prop :=
  ∃ a cap, v = .slice a xs.length cap ∧ xs.length ≤ cap ∧ xs.length ≤ maxLen ∧ (xs = [] ∨ ∃ ab ao, a = some ⟨ab, ao, none⟩ ∧ ab ≠ g ∧ ∀ i x, xs[i]? = some x → w.cell? ⟨ab, ao + i, none⟩ = some (.int .u8 x))
theorem Only.env {g : Nat} {w w' : World} (h : Only g w w') (he : Env w) (hg : 3 < g) : Env w' :=
  ⟨fun i hi => h.cell (he.begin i hi) (by show 2 ≠ g; omega), fun i hi => h.cell (he.consts i hi) (by show 3 ≠ g; omega)⟩
theorem BytesAt.only {g : Nat} {w w' : World} {v : Value} {xs : List Int} (h : BytesAt w g v xs) (ho : Only g w w') : BytesAt w' g v xs := by
  obtain ⟨a, cap, rfl, hc, hm, hx⟩ := h
  refine ⟨a, cap, rfl, hc, hm, ?_⟩
  rcases hx with hx | ⟨ab, ao, rfl, hne, hx⟩
  · exact .inl hx
  · exact .inr ⟨ab, ao, rfl, hne, fun i x hi => ho.cell (hx i x hi) hne⟩
/-- a cut at m -/
theorem BytesAt.drop {g : Nat} {w : World} {ab ao cap m : Nat} {xs : List Int} (hc : xs.length ≤ cap) (hm : xs.length ≤ maxLen) (hne : ab ≠ g) (hx : ∀ i x, xs[i]? = some x → w.cell? ⟨ab, ao + i, none⟩ = some (.int .u8 x)) (hmx : m ≤ xs.length)
    (a' : Option Addr) (ha : a' = if cap = m then some ⟨ab, ao, none⟩ else some ⟨ab, ao + m, none⟩) : BytesAt w g (.slice a' (xs.length - m) (cap - m)) (xs.drop m) := by
  refine ⟨a', cap - m, by rw [List.length_drop], by rw [List.length_drop]; omega, by rw [List.length_drop]; omega, ?_⟩
  by_cases h : cap = m
  · left
    apply List.drop_eq_nil_of_le
    omega
  · right
    refine ⟨ab, ao + m, by rw [ha, if_neg h], hne, fun i x hi => ?_⟩
    rw [List.getElem?_drop] at hi
    rw [Nat.add_assoc]
    exact hx _ _ hi
theorem slice22l (ab ao n cap m : Nat) (hm : m ≤ n) (_hn : n ≤ cap) (a' : Option Addr) (ha : a' = if cap = m then some ⟨ab, ao, none⟩ else some ⟨ab, ao + m, none⟩) (w : World) :
    (Instr.slice 25 (.slice (some ⟨ab, ao, none⟩) n cap) (some (.int .i64 (m : Int))) none none).run Tryz.prog w = .ok (.slice a' (n - m) (cap - m)) w := by
  have he : Tryz.prog.elem 25 = 5 := by kernel_rfl
  have hs : (sizeOf 5).run Tryz.prog w = .ok 1 w := by kernel_rfl
  rw [run_slice_l w 25 (some ⟨ab, ao, none⟩) n cap (by rw [he]; exact Tryz.underlying25) .i64 (m : Int) (by omega) (by omega), he, hs]
  simp only [Result.andThen_ok, sliced, Int.toNat_natCast]
  subst ha
  by_cases h : cap = m
  · rw [if_pos h, if_pos h]
  · rw [if_neg h, if_neg h]
    show Result.ok (Value.slice (some (Addr.add ⟨ab, ao, none⟩ (m * 1))) _ _) w = _
    rw [Addr.add_mid, Nat.mul_one]
theorem slice64at (b o u : Nat) (hu : u < 64) (w : World) : (Instr.sliceAt 280 (.pointer (some ⟨b, o, none⟩)) (some (.int .u64 (u : Int))) none none).run Tryz.prog w
    = .ok (.slice (some ⟨b, o + u, none⟩) (64 - u) (64 - u)) w := by
  have ha : Tryz.prog.arrayLen 280 = 64 := by kernel_rfl
  have he : Tryz.prog.elem 280 = 5 := by kernel_rfl
  have hs : (sizeOf 5).run Tryz.prog w = .ok 1 w := by kernel_rfl
  rw [run_sliceAt_array_l w 280 ⟨b, o, none⟩ (by rw [ha, he]; exact Tryz.underlying280) .u64 (u : Int) (by omega) (by rw [ha]; omega), ha, he, hs]
  simp only [Result.andThen_ok, slicedAt, Int.toNat_natCast]
  rw [if_neg (by omega), Addr.add_mid, Nat.mul_one]
theorem HashAt.setSl {g : Nat} {b : Nat → Int} {n : Int} : ∀ (l : List Int) (o : Nat) (s : Nat → Int) (w : World), o + l.length ≤ 8 → HashAt w g s b n → HashAt (w.setCells g o (l.map (Value.int .u32))) g (lay s o l) b n
  | [], _, _, _, _, h => h
  | y :: l, o, s, w, hl, h => by
    simp only [List.length_cons] at hl
    exact HashAt.setSl l (o + 1) _ _ (by omega) (h.setS o y (by omega))
theorem HashAt.setSs {w : World} {g : Nat} {s b : Nat → Int} {n : Int} (h : HashAt w g s b n) (s' : Nat → Int) : HashAt (w.setCells g 0 (rowOf .u32 8 s').toList) g s' b n := by
  have e : (rowOf .u32 8 s').toList = ((List.range 8).map s').map (Value.int .u32) := by simp [rowOf]
  rw [e]
  refine (h.setSl ((List.range 8).map s') 0 s w (by simp)).congr (fun i hi => ?_) (fun _ _ => rfl)
  rw [lay_get, if_pos (by simp; exact hi)]
  simp [List.getD, hi]
theorem HashAt.thereS {w : World} {g : Nat} {s b : Nat → Int} {n : Int} (h : HashAt w g s b n) {s' : Nat → Int} : w.there g 0 (rowOf .u32 8 s').size := fun j hj => by
  rw [rowOf_size] at hj
  rw [Nat.zero_add]
  exact ⟨by rw [h.cellS j hj]; rfl, h.free j⟩
theorem Only.setCells (g : Nat) : ∀ (vs : List Value) (o : Nat) (w : World), Only g w (w.setCells g o vs)
  | [], _, w => Only.refl g w
  | v :: r, o, w => (Only.setCell w ⟨g, o, none⟩ v).trans (Only.setCells g r (o + 1) _)
theorem put_next (h : HS) (ys : List Int) (m u : Nat) (h0 : 0 ≤ h.n) (h1 : h.n < 18446744073709551616) (hu : h.n % 64 = u) (hm : (ys.take m).length = m) (hlt : u + m < 64) (N : Int) (hN : N = IntKind.u64.wrap (h.n + m)) :
    putF ⟨h.s, lay h.b u (ys.take m), N⟩ (ys.drop m) = putF h ys ∧ 0 ≤ N ∧ N < 18446744073709551616 ∧ (N % 64 == 0) = (decide (u + m = 0)) := by
  rw [IntKind.wrap_u64] at hN
  have e := put_run h.s (ys.take m) h.b h.n u h0 h1 hu (by rw [hm]; exact hlt)
  rw [hm, ← hN] at e
  refine ⟨?_, by omega, by omega, ?_⟩
  · rw [← e, ← putF_append, List.take_append_drop]
  · by_cases hz : u + m = 0
    · rw [decide_eq_true hz, show N % 64 = 0 by omega]; rfl
    · rw [decide_eq_false hz, beq_eq_false_iff_ne]; omega
theorem put_next_full (h : HS) (ys : List Int) (m u : Nat) (h0 : 0 ≤ h.n) (h1 : h.n < 18446744073709551616) (hu : h.n % 64 = u) (hm : (ys.take m).length = m) (hlt : u + m = 64) (h64 : u < 64) (N : Int) (hN : N = IntKind.u64.wrap (h.n + m)) :
    putF ⟨mixF h.s (lay h.b u (ys.take m)), lay h.b u (ys.take m), N⟩ (ys.drop m) = putF h ys ∧ 0 ≤ N ∧ N < 18446744073709551616 ∧ (N % 64 == 0) = true := by
  rw [IntKind.wrap_u64] at hN
  have e := put_full h.s (ys.take m) h.b h.n u h0 h1 hu (by rw [hm]; exact hlt) h64
  rw [hm, ← hN] at e
  refine ⟨?_, by omega, by omega, ?_⟩
  · rw [← e, ← putF_append, List.take_append_drop]
  · rw [show N % 64 = 0 by omega]; rfl
def lenOfV : Value → Nat | .slice _ n _ => n | _ => 0
set_option maxRecDepth 100000 in
set_option maxHeartbeats 400000 in
theorem shWrite_any (g : Nat) (s b : Nat → Int) (n : Int) (xs : List Int) (v : Value) (w : World) (hh : HashAt w g s b n) (h0 : 0 ≤ n) (h1 : n < 18446744073709551616) (hx : BytesAt w g v xs) (he : Env w) (hg : 3 < g) :
    Calls Tryz.prog 142 #[.pointer (some ⟨g, 0, none⟩), v] w fun e w' => e = .returned (.tuple #[]) ∧ HashAt w' g (putF ⟨s, b, n⟩ xs).s (putF ⟨s, b, n⟩ xs).b (putF ⟨s, b, n⟩ xs).n ∧ Only g w w' := by
  obtain ⟨a0, c0, rfl, hx⟩ := hx
  have HX := Lib.hid (show BytesAt w g (.slice a0 xs.length c0) xs from ⟨a0, c0, rfl, hx⟩)
  have H0 := Lib.hid (show HashAt w g s b n ∧ 0 ≤ n ∧ n < 18446744073709551616 ∧ Env w from ⟨hh, h0, h1, he⟩)
  have HG := Lib.hid hg
  clear hx hh h0 h1 he hg
  go_enter Tryz.func142, Tryz.ntmps142
  go_wp2_with (fail)
  go_loopw [1] (fun v wr => Hid (∃ (ys : List Int) (h : HS), BytesAt wr g v ys ∧ HashAt wr g h.s h.b h.n ∧ 0 ≤ h.n ∧ h.n < 18446744073709551616 ∧ putF h ys = putF ⟨s, b, n⟩ xs ∧ Only g w wr ∧ Env wr))
    (fun v _ => lenOfV v)
  case atStart => exact ⟨xs, ⟨s, b, n⟩, HX.out, H0.out.1, H0.out.2.1, H0.out.2.2.1, rfl, Only.refl _ _, H0.out.2.2.2⟩
  case round =>
    clear HX H0
    obtain ⟨ys, h, ⟨a, cap, rfl, hc, hm, hx0⟩, HH, h0, h1, HP, HO, HE⟩ := hrel.out
    clear hrel
    by_cases hy : ys = []
    · subst hy
      replace HH := Lib.hid HH
      replace HP := Lib.hid HP
      replace HO := Lib.hid HO
      clear hx0 hc hm h0 h1 HE
      go_wp2_with (fail)
      go_end0
      exact ⟨rfl, by rw [← HP.out]; exact HH.out, HO.out⟩
    · obtain ⟨ab, ao, rfl, hne, hx⟩ := hx0.resolve_left hy
      obtain ⟨u, hu⟩ : ∃ u : Nat, h.n % 64 = u := ⟨(h.n % 64).toNat, by omega⟩
      have ht : h.n.tmod 64 = u := by rw [Int.tmod_eq_emod_of_nonneg h0]; exact hu
      have hu64 : u < 64 := by omega
      have hL : 0 < ys.length := List.length_pos_iff.2 hy
      obtain ⟨m, hm'⟩ : ∃ m, m = min (64 - u) ys.length := ⟨_, rfl⟩
      have hmx : m ≤ ys.length := by omega
      have hm64 : m ≤ 64 - u := by omega
      have hmL : (ys.take m).length = m := by rw [List.length_take]; omega
      have HMN := Lib.hid (show (byteVals (ys.take m)).length = Nat.min ys.length (64 - u) by rw [byteVals_length, hmL, hm']; exact Nat.min_comm _ _)
      have HX := Lib.hid hx
      have HHH := Lib.hid (show HashAt wr.drew g h.s h.b h.n from HH)
      have hcell := HH.cellN
      have hsl := slice64at g 8 u hu64
      have HSRC := Lib.hid (show ∀ j v, (byteVals (ys.take m))[j]? = some v → wr.drew.cell? (Addr.add ⟨ab, ao, none⟩ j) = some v from fun j v hv => by
        rw [Addr.add_mid]
        simp only [byteVals, List.getElem?_map, List.getElem?_take] at hv
        split at hv
        · cases hj : ys[j]? with
          | none => rw [hj] at hv; cases hv
          | some x => rw [hj] at hv; cases hv; exact hx j x hj
        · cases hv)
      unfold maxLen at hm
      replace HP := Lib.hid HP
      have HM := Lib.hid hm'
      have HB := Lib.hid (show h.n < 18446744073709551616 from h1)
      have HY := Lib.hid hy
      have HML := Lib.hid hmL
      have HU := Lib.hid hu
      clear hx hx0 HH h1 hm' hy hmL hu
      go_upto_region 2 with (fail)
      go_still_tail 10, (by kernel_rfl)
      refine wpList_copy_own rfl (.tmp 18) (.tmp 19) 25 25 rfl 5 Tryz.underlying25 (by kernel_rfl) g (8 + u) (64 - u) (64 - u) ⟨ab, ao, none⟩ ys.length cap rfl rfl _ 282 HHH.out (byteVals (ys.take m)) HMN.out HSRC.out (by rw [hashCells_size, byteVals_length, HML.out]; omega) (byteVals_one _) ?_
      have HC := Lib.hid (HHH.out.copy u (ys.take m) (by rw [HML.out]; omega))
      have HO2 := Lib.hid ((HO.trans (Only.drew g wr)).trans (Only.setRow wr.drew g ((hashCells h.s h.b h.n).toList.take (8 + u) ++ (byteVals (ys.take m) ++ (hashCells h.s h.b h.n).toList.drop (8 + u + (byteVals (ys.take m)).length))).toArray))
      have HE2 := Lib.hid ((((Only.drew g wr)).trans (Only.setRow wr.drew g ((hashCells h.s h.b h.n).toList.take (8 + u) ++ (byteVals (ys.take m) ++ (hashCells h.s h.b h.n).toList.drop (8 + u + (byteVals (ys.take m)).length))).toArray)).env HE HG.out)
      have HX2 := Lib.hid (show ∀ i x, ys[i]? = some x → (World.setRow wr.drew g ((hashCells h.s h.b h.n).toList.take (8 + u) ++ (byteVals (ys.take m) ++ (hashCells h.s h.b h.n).toList.drop (8 + u + (byteVals (ys.take m)).length))).toArray).cell? ⟨ab, ao + i, none⟩ = some (.int .u8 x) from fun i x hi => (((Only.drew g wr)).trans (Only.setRow wr.drew g _)).cell (HX.out i x hi) hne)
      change wpList _ _ _ _ _ (World.setRow wr.drew g ((hashCells h.s h.b h.n).toList.take (8 + u) ++ (byteVals (ys.take m) ++ (hashCells h.s h.b h.n).toList.drop (8 + u + (byteVals (ys.take m)).length))).toArray)
      generalize World.setRow wr.drew g ((hashCells h.s h.b h.n).toList.take (8 + u) ++ (byteVals (ys.take m) ++ (hashCells h.s h.b h.n).toList.drop (8 + u + (byteVals (ys.take m)).length))).toArray = w2 at *
      rw [show goInt (byteVals (ys.take m)).length = .int .i64 (m : Int) by rw [byteVals_length, HML.out]; rfl]
      clear HHH hcell hsl HSRC HO HE HX ht HMN
      obtain ⟨a', ha'⟩ : ∃ a' : Option Addr, a' = if cap = m then some ⟨ab, ao, none⟩ else some ⟨ab, ao + m, none⟩ := ⟨_, rfl⟩
      have hsl := slice22l ab ao ys.length cap m hmx hc a' ha'
      replace ha' := Lib.hid ha'
      go_upto_region 4 with (fail)
      have hc2 := HC.out.cellN
      have hf2 := HC.out.free 72
      go_upto_region 5 with (fail)
      obtain ⟨N, hN⟩ : ∃ N, N = IntKind.u64.wrap (h.n + m) := ⟨_, rfl⟩
      rw [← hN]
      have HC3 := Lib.hid (HC.out.setN N)
      have HO3 := Lib.hid (HO2.out.trans (Only.setCell w2 ⟨g, 72, none⟩ (.int .u64 N)))
      have HE3 := Lib.hid ((Only.setCell w2 ⟨g, 72, none⟩ (.int .u64 N)).env HE2.out HG.out)
      have HB3 := Lib.hid (BytesAt.drop (g := g) (w := w2.setCell ⟨g, 72, none⟩ (.int .u64 N)) (m := m) hc hm hne (fun i x hi => (Only.setCell w2 ⟨g, 72, none⟩ (.int .u64 N)).cell (HX2.out i x hi) hne) hmx a' ha'.out)
      generalize w2.setCell ⟨g, 72, none⟩ (.int .u64 N) = w3 at *
      clear HC HO2 HE2 HX2 hsl hc2 hf2 ha'
      replace hN := Lib.hid hN
      have hc3 := HC3.out.cellN
      by_cases hf : u + m = 64
      · obtain ⟨hP, hN0, hN1, htest⟩ := put_next_full h ys m u h0 HB.out HU.out HML.out hf hu64 N hN.out
        replace hP := Lib.hid hP
        replace hN1 := Lib.hid hN1
        go_upto_region 6 with (fail)
        have hS : ∀ i, i < 8 → w3.cell? ⟨g, i, none⟩ = some (.int .u32 (h.s i)) := fun i hi => HC3.out.cellS i hi
        have HCC := Lib.hid (show Consts w3.drew from HE3.out.consts)
        obtain ⟨L, hL⟩ : ∃ L, L = lay h.b u (ys.take m) := ⟨_, rfl⟩
        rw [← hL] at HC3 hP
        replace hL := Lib.hid hL
        have hRS := Lib.hid (show w3.drew.rangeAt g 0 (rowOf .u32 8 h.s).toList from HC3.out.rangeS)
        have hRB := Lib.hid (show w3.drew.rangeAt g 8 (rowOf .u8 64 L).toList from HC3.out.rangeB)
        have HCD := Lib.hid (show HashAt w3.drew g h.s L N from HC3.out)
        refine wp_region_any (by kernel_rfl) ?_
        change wpAny _ _ _ _ _ _ _ w3.drew
        have HO34 := Lib.hid (Only.drew g w3)
        generalize w3.drew = w4 at *
        refine wpAny_take (i := 0) (v := .pointer (some ⟨g, 0, none⟩)) rfl (by kernel_rfl) (by kernel_rfl) (by kernel_rfl) (fun _ _ _ h => h) (Or.inl ⟨by rfl, by intro w; go_simp⟩) ?_
        simp only [List.getElem_toArray, List.getElem_cons_zero, Act.put, List.setIfInBounds_toArray, List.set_cons_zero, List.set_cons_succ]
        refine wpAny_take (i := 1) (v := .pointer (some ⟨g, 0, none⟩)) rfl (by kernel_rfl) (by kernel_rfl) (by kernel_rfl) (fun _ _ _ h => h) (Or.inl ⟨by rfl, by intro w; go_simp⟩) ?_
        simp only [List.getElem_toArray, List.getElem_cons_succ, List.getElem_cons_zero, Act.put, List.setIfInBounds_toArray, List.set_cons_zero, List.set_cons_succ]
        refine wpAny_take (i := 2) (v := .pointer (some ⟨g, 0, none⟩)) rfl (by kernel_rfl) (by kernel_rfl) (by kernel_rfl) (fun _ _ _ h => h) (Or.inl ⟨by rfl, by intro w; go_simp⟩) ?_
        simp only [List.getElem_toArray, List.getElem_cons_succ, List.getElem_cons_zero, Act.put, List.setIfInBounds_toArray, List.set_cons_zero, List.set_cons_succ]
        refine wpAny_take (i := 3) (v := .pointer (some ⟨g, 0, none⟩)) rfl (by kernel_rfl) (by kernel_rfl) (by kernel_rfl) (fun _ _ _ h => h) (Or.inl ⟨by rfl, by intro w; go_simp⟩) ?_
        simp only [List.getElem_toArray, List.getElem_cons_succ, List.getElem_cons_zero, Act.put, List.setIfInBounds_toArray, List.set_cons_zero, List.set_cons_succ]
        refine wpAny_take (i := 5) (v := .pointer (some ⟨g, 0, none⟩)) rfl (by kernel_rfl) (by kernel_rfl) (by kernel_rfl) (fun _ _ _ h => h) (Or.inl ⟨by rfl, by intro w; go_simp⟩) ?_
        simp only [List.getElem_toArray, List.getElem_cons_succ, List.getElem_cons_zero, Act.put, List.setIfInBounds_toArray, List.set_cons_zero, List.set_cons_succ]
        refine wpAny_take (i := 6) (v := .pointer (some ⟨g, 0, none⟩)) rfl (by kernel_rfl) (by kernel_rfl) (by kernel_rfl) (fun _ _ _ h => h) (Or.inl ⟨by rfl, by intro w; go_simp⟩) ?_
        simp only [List.getElem_toArray, List.getElem_cons_succ, List.getElem_cons_zero, Act.put, List.setIfInBounds_toArray, List.set_cons_zero, List.set_cons_succ]
        refine wpAny_take (i := 7) (v := .pointer (some ⟨g, 8, none⟩)) rfl (by kernel_rfl) (by kernel_rfl) (by kernel_rfl) (fun _ _ _ h => h) (Or.inl ⟨by rfl, by intro w; go_simp⟩) ?_
        simp only [List.getElem_toArray, List.getElem_cons_succ, List.getElem_cons_zero, Act.put, List.setIfInBounds_toArray, List.set_cons_zero, List.set_cons_succ]
        refine wpAny_ready (rs := [4, 8]) (by kernel_rfl) (by simp) ?_
        refine AllReady.cons rfl (fun K hK => ?_) (AllReady.cons rfl (fun K hK => ?_) AllReady.nil)
        · rw [if_pos (by rfl)]
          refine wp_load_mid 217 (.tmp 42) rfl g 0 rfl _ _ hRS.out Tryz.underlying217 rfl (by rw [(rowOf_list _ _ _).2]; kernel_rfl) ?_; refine hK _ _ ?_; clear hK K
          refine wpAny_ready (rs := [8]) (by kernel_rfl) (by simp) ?_; refine AllReady.cons rfl (fun K hK => ?_) AllReady.nil; rw [if_pos (by rfl)]
          refine wp_load_mid 280 (.tmp 46) rfl g 8 rfl _ _ hRB.out Tryz.underlying280 rfl (by rw [(rowOf_list _ _ _).2]; kernel_rfl) ?_; refine hK _ _ ?_; clear hK K
          try simp only [List.getElem_toArray, List.getElem_cons_succ, List.getElem_cons_zero, Act.put, List.setIfInBounds_toArray, List.set_cons_zero, List.set_cons_succ, Array.toArray_toList]
          refine wpAny_ready (rs := [9]) (by kernel_rfl) (by simp) ?_; refine AllReady.cons rfl (fun K hK => ?_) AllReady.nil; rw [if_pos (by rfl)]
          try simp only [List.getElem_toArray, List.getElem_cons_succ, List.getElem_cons_zero]
          go_simp
          refine (mix_any h.s L _ HCC.out).mono ?_
          rintro e w5 ⟨rfl, HB5⟩
          replace HB5 := Lib.hid HB5
          refine hK _ _ ?_
          clear hK K
          try simp only [List.getElem_toArray, List.getElem_cons_succ, List.getElem_cons_zero, Act.put, List.setIfInBounds_toArray, List.set_cons_zero, List.set_cons_succ, Array.toArray_toList]
          refine wpAny_take (i := 10) (v := .pointer (some ⟨g, 0, none⟩)) rfl (by kernel_rfl) (by kernel_rfl) (by kernel_rfl) (fun _ _ _ h => h) (Or.inl ⟨by rfl, by intro w; go_simp⟩) ?_
          try simp only [List.getElem_toArray, List.getElem_cons_succ, List.getElem_cons_zero, Act.put, List.setIfInBounds_toArray, List.set_cons_zero, List.set_cons_succ]
          refine wpAny_take (i := 11) (v := .pointer (some ⟨g, 0, none⟩)) rfl (by kernel_rfl) (by kernel_rfl) (by kernel_rfl) (fun _ _ _ h => h) (Or.inl ⟨by rfl, by intro w; go_simp⟩) ?_
          try simp only [List.getElem_toArray, List.getElem_cons_succ, List.getElem_cons_zero, Act.put, List.setIfInBounds_toArray, List.set_cons_zero, List.set_cons_succ]
          refine wpAny_ready (rs := [12]) (by kernel_rfl) (by simp) ?_; refine AllReady.cons rfl (fun K hK => ?_) AllReady.nil; rw [if_pos (by rfl)]
          have HC5 := Lib.hid (HCD.out.below HB5.out HCD.out.lt)
          refine wp_store_mid 217 (.tmp 50) (.tmp 48) rfl g 0 (rowOf .u32 8 (mixF h.s L)) rfl rfl HC5.out.thereS (by rw [rowOf_size]; kernel_rfl) (rowOf_one _ _ _) ?_
          refine hK _ _ ?_
          clear hK K
          try simp only [List.getElem_toArray, List.getElem_cons_succ, List.getElem_cons_zero, Act.put]
          refine wpAny_done (by kernel_rfl) ?_ _
          have HC6 := Lib.hid (HC5.out.setSs (mixF h.s L))
          have HO5 : Only g w4 w5 := Only.of_below HB5.out
          have HO6 := Lib.hid (HO5.trans (Only.setCells g (rowOf .u32 8 (mixF h.s L)).toList 0 w5))
          clear HO5
          generalize w5.setCells g 0 (rowOf .u32 8 (mixF h.s L)).toList = w6 at *
          go_wp2_with (fail)
          have HO36 := HO34.out.trans HO6.out
          replace HO36 := Lib.hid HO36
          go_roundw
          case rel => exact ⟨ys.drop m, ⟨mixF h.s L, L, N⟩, HB3.out.only HO36.out, HC6.out, hN0, hN1.out, hP.out.trans HP.out, HO3.out.trans HO36.out, HO36.out.env HE3.out HG.out⟩
          case measure => simp [lenOfV]; omega
        · rw [if_pos (by rfl)]
          refine wp_load_mid 280 (.tmp 46) rfl g 8 rfl _ _ hRB.out Tryz.underlying280 rfl (by rw [(rowOf_list _ _ _).2]; kernel_rfl) ?_; refine hK _ _ ?_; clear hK K
          refine wpAny_ready (rs := [4]) (by kernel_rfl) (by simp) ?_; refine AllReady.cons rfl (fun K hK => ?_) AllReady.nil; rw [if_pos (by rfl)]
          refine wp_load_mid 217 (.tmp 42) rfl g 0 rfl _ _ hRS.out Tryz.underlying217 rfl (by rw [(rowOf_list _ _ _).2]; kernel_rfl) ?_; refine hK _ _ ?_; clear hK K
          try simp only [List.getElem_toArray, List.getElem_cons_succ, List.getElem_cons_zero, Act.put, List.setIfInBounds_toArray, List.set_cons_zero, List.set_cons_succ, Array.toArray_toList]
          refine wpAny_ready (rs := [9]) (by kernel_rfl) (by simp) ?_; refine AllReady.cons rfl (fun K hK => ?_) AllReady.nil; rw [if_pos (by rfl)]
          try simp only [List.getElem_toArray, List.getElem_cons_succ, List.getElem_cons_zero]
          go_simp
          refine (mix_any h.s L _ HCC.out).mono ?_
          rintro e w5 ⟨rfl, HB5⟩
          replace HB5 := Lib.hid HB5
          refine hK _ _ ?_
          clear hK K
          try simp only [List.getElem_toArray, List.getElem_cons_succ, List.getElem_cons_zero, Act.put, List.setIfInBounds_toArray, List.set_cons_zero, List.set_cons_succ, Array.toArray_toList]
          refine wpAny_take (i := 10) (v := .pointer (some ⟨g, 0, none⟩)) rfl (by kernel_rfl) (by kernel_rfl) (by kernel_rfl) (fun _ _ _ h => h) (Or.inl ⟨by rfl, by intro w; go_simp⟩) ?_
          try simp only [List.getElem_toArray, List.getElem_cons_succ, List.getElem_cons_zero, Act.put, List.setIfInBounds_toArray, List.set_cons_zero, List.set_cons_succ]
          refine wpAny_take (i := 11) (v := .pointer (some ⟨g, 0, none⟩)) rfl (by kernel_rfl) (by kernel_rfl) (by kernel_rfl) (fun _ _ _ h => h) (Or.inl ⟨by rfl, by intro w; go_simp⟩) ?_
          try simp only [List.getElem_toArray, List.getElem_cons_succ, List.getElem_cons_zero, Act.put, List.setIfInBounds_toArray, List.set_cons_zero, List.set_cons_succ]
          refine wpAny_ready (rs := [12]) (by kernel_rfl) (by simp) ?_; refine AllReady.cons rfl (fun K hK => ?_) AllReady.nil; rw [if_pos (by rfl)]
          have HC5 := Lib.hid (HCD.out.below HB5.out HCD.out.lt)
          refine wp_store_mid 217 (.tmp 50) (.tmp 48) rfl g 0 (rowOf .u32 8 (mixF h.s L)) rfl rfl HC5.out.thereS (by rw [rowOf_size]; kernel_rfl) (rowOf_one _ _ _) ?_
          refine hK _ _ ?_
          clear hK K
          try simp only [List.getElem_toArray, List.getElem_cons_succ, List.getElem_cons_zero, Act.put]
          refine wpAny_done (by kernel_rfl) ?_ _
          have HC6 := Lib.hid (HC5.out.setSs (mixF h.s L))
          have HO5 : Only g w4 w5 := Only.of_below HB5.out
          have HO6 := Lib.hid (HO5.trans (Only.setCells g (rowOf .u32 8 (mixF h.s L)).toList 0 w5))
          clear HO5
          generalize w5.setCells g 0 (rowOf .u32 8 (mixF h.s L)).toList = w6 at *
          go_wp2_with (fail)
          have HO36 := HO34.out.trans HO6.out
          replace HO36 := Lib.hid HO36
          go_roundw
          case rel => exact ⟨ys.drop m, ⟨mixF h.s L, L, N⟩, HB3.out.only HO36.out, HC6.out, hN0, hN1.out, hP.out.trans HP.out, HO3.out.trans HO36.out, HO36.out.env HE3.out HG.out⟩
          case measure => simp [lenOfV]; omega
      · obtain ⟨hP, hN0, hN1, htest⟩ := put_next h ys m u h0 HB.out HU.out HML.out (by omega) N hN.out
        have hm0 : 0 < m := by have := HM.out; omega
        rw [decide_eq_false (by omega)] at htest
        replace hP := Lib.hid hP
        replace hN1 := Lib.hid hN1
        go_wp2_with (fail)
        go_roundw
        case rel => exact ⟨ys.drop m, ⟨h.s, lay h.b u (ys.take m), N⟩, HB3.out, HC3.out, hN0, hN1.out, hP.out.trans HP.out, HO3.out, HE3.out⟩
        case measure => simp [lenOfV]; omega
end Go.Proofs.YtejglhlodfhgkaaGreatDoor
namespace Go.Proofs.YtejglhlodfhgkaaGreatDoor
set_option linter.unusedVariables false
set_option linter.unusedSimpArgs false
open Go.RowKit
/-- the bytes of eight words -/
def outF (f : Nat → Int) : Nat → Int := fun i => f (i / 4) / 2 ^ (24 - 8 * (i % 4)) % 256
/-- the first k bytes are there -/
def outK (f : Nat → Int) (k : Nat) : Nat → Int := fun i => if i < k then outF f i else 0
theorem outK_succ (f : Nat → Int) (i j : Nat) (hj : j < 4) : upd (outK f (4 * i + j)) (4 * i + j) (f i / 2 ^ (24 - 8 * j) % 256) = outK f (4 * i + j + 1) := by
  funext x
  unfold upd outK
  by_cases h : x = 4 * i + j
  · subst h
    rw [if_pos rfl, if_pos (by omega)]
    unfold outF
    rw [show (4 * i + j) / 4 = i by omega, show (4 * i + j) % 4 = j by omega]
  · rw [if_neg h]
    by_cases h2 : x < 4 * i + j
    · rw [if_pos h2, if_pos (by omega)]
    · rw [if_neg h2, if_neg (by omega)]
theorem zeros32 : (#[Value.int IntKind.u8 0, Value.int IntKind.u8 0, Value.int IntKind.u8 0, Value.int IntKind.u8 0, Value.int IntKind.u8 0, Value.int IntKind.u8 0, Value.int IntKind.u8 0, Value.int IntKind.u8 0, Value.int IntKind.u8 0, Value.int IntKind.u8 0, Value.int IntKind.u8 0, Value.int IntKind.u8 0, Value.int IntKind.u8 0, Value.int IntKind.u8 0, Value.int IntKind.u8 0, Value.int IntKind.u8 0, Value.int IntKind.u8 0, Value.int IntKind.u8 0, Value.int IntKind.u8 0, Value.int IntKind.u8 0, Value.int IntKind.u8 0, Value.int IntKind.u8 0, Value.int IntKind.u8 0, Value.int IntKind.u8 0, Value.int IntKind.u8 0, Value.int IntKind.u8 0, Value.int IntKind.u8 0, Value.int IntKind.u8 0, Value.int IntKind.u8 0, Value.int IntKind.u8 0, Value.int IntKind.u8 0, Value.int IntKind.u8 0] : Array Value) = rowOf .u8 32 (fun _ => 0) := by rfl
theorem index59 (f : Nat → Int) (i : Nat) (h : i < 8) (w : World) : (Instr.index 217 (.agg (rowOf .u32 8 f)) (.int .i64 (i : Int))).run Tryz.prog w = .ok (.int .u32 (f i)) w := by
  have hs : (sizeOf 215).run Tryz.prog w = .ok 1 w := by kernel_rfl
  have hp : (part 215 (rowOf .u32 8 f) i).run Tryz.prog w = .ok (.int .u32 (f i)) w := by
    have ha : (isAgg 215).run Tryz.prog w = .ok false w := by kernel_rfl
    simp [part, Sem.run_bind, ha, rowOf_get .u32 8 f i h]
  have hi : (0 ≤ (i : Int) ∧ (i : Int) < (8 : Nat)) := by omega
  simp only [Instr.index, asIntOf, Sem.run_bind, Sem.run_pure, Result.andThen_ok, run_underlying Tryz.underlying217, if_pos hi, Int.toNat_natCast, hs, Nat.mul_one, hp]
/-- what Sum of a Hash knows of memory -/
structure SumM (w w' : World) (g : Nat) (s b : Nat → Int) (n : Int) (r u : Nat → Int) : Prop where
  hash : HashAt w' g s b n
  re : RowAt w' w.heap.size .u8 32 53 r
  su : RowAt w' (w.heap.size + 1) .u8 32 53 u
  below : Below w.heap.size w w'
  consts : Consts w'
theorem sum_mem (w : World) (g : Nat) (s b : Nat → Int) (n : Int) (hh : HashAt w g s b n) (hk : Consts w) : SumM w ((w.alloc (.cells (rowOf .u8 32 (fun _ => 0)) 53)).alloc (.cells (rowOf .u8 32 (fun _ => 0)) 53)) g s b n (fun _ => 0) (fun _ => 0) := by
  have hb : Below w.heap.size w ((w.alloc (.cells (rowOf .u8 32 (fun _ => 0)) 53)).alloc (.cells (rowOf .u8 32 (fun _ => 0)) 53)) := (below_alloc w _).trans ((below_alloc _ _).mono (by simp))
  refine ⟨hh.below hb hh.lt, (RowAt.new w _ _ _ _).alloc _, ?_, hb, hk.below hb hk.lt⟩
  have := RowAt.new (w.alloc (.cells (rowOf .u8 32 (fun _ => 0)) 53)) .u8 32 53 (fun _ => 0)
  rw [shSize_alloc] at this; exact this
theorem SumM.calls {w w' w2 : World} {g : Nat} {s b : Nat → Int} {n : Int} {r u : Nat → Int} (h : SumM w w' g s b n r u) (hb : Below w'.heap.size w' w2) : SumM w w2 g s b n r u :=
  ⟨h.hash.below hb h.hash.lt, h.re.below hb h.re.lt, h.su.below hb h.su.lt, h.below.trans (hb.mono h.below.size), h.consts.below hb h.consts.lt⟩
theorem SumM.put {w w' : World} {g : Nat} {s b : Nat → Int} {n : Int} {r F : Nat → Int} {k q : Nat} (h : SumM w w' g s b n r (outK F (4 * k + q))) (hq : q < 4) (hg : g < w.heap.size) (hk : 3 < w.heap.size) :
    SumM w (w'.setCell ⟨w.heap.size + 1, 4 * k + q, none⟩ (.int .u8 (F k / 2 ^ (24 - 8 * q) % 256))) g s b n r (outK F (4 * k + (q + 1))) := by
  have hb : Below w.heap.size w' (w'.setCell ⟨w.heap.size + 1, 4 * k + q, none⟩ (.int .u8 (F k / 2 ^ (24 - 8 * q) % 256))) := (Below.refl _ _).setCell (by show w.heap.size ≤ w.heap.size + 1; omega) _
  refine ⟨h.hash.below hb hg, h.re.other _ _ (by show w.heap.size ≠ w.heap.size + 1; omega), ?_, h.below.trans hb, h.consts.below hb hk⟩
  have := h.su.set (4 * k + q) (F k / 2 ^ (24 - 8 * q) % 256)
  rw [outK_succ F k q hq] at this
  exact this
abbrev SumS (g : Nat) (s b : Nat → Int) (n : Int) (w' : World) : Prop := w'.rangeAt g 8 (rowOf .u8 64 b).toList ∧ w'.cell? ⟨g, 0, none⟩ = some (.int .u32 (s 0)) ∧ w'.cell? ⟨g, 1, none⟩ = some (.int .u32 (s 1)) ∧ w'.cell? ⟨g, 2, none⟩ = some (.int .u32 (s 2)) ∧ w'.cell? ⟨g, 3, none⟩ = some (.int .u32 (s 3)) ∧ w'.cell? ⟨g, 4, none⟩ = some (.int .u32 (s 4)) ∧ w'.cell? ⟨g, 5, none⟩ = some (.int .u32 (s 5)) ∧ w'.cell? ⟨g, 6, none⟩ = some (.int .u32 (s 6)) ∧ w'.cell? ⟨g, 7, none⟩ = some (.int .u32 (s 7)) ∧ w'.cell? ⟨g, 72, none⟩ = some (.int .u64 n)
theorem sumS {w : World} {g : Nat} {s b : Nat → Int} {n : Int} (h : HashAt w g s b n) : SumS g s b n w := ⟨h.rangeB, h.cellS 0 (by omega), h.cellS 1 (by omega), h.cellS 2 (by omega), h.cellS 3 (by omega), h.cellS 4 (by omega), h.cellS 5 (by omega), h.cellS 6 (by omega), h.cellS 7 (by omega), h.cellN⟩
theorem fin_lit (s bl : Nat → Int) (n : Int) (hn0 : 0 ≤ n) (hn1 : n < 18446744073709551616) (w : World) (hk : Consts w) :
    Calls Tryz.prog 201 #[.agg #[.int .u32 (s 0), .int .u32 (s 1), .int .u32 (s 2), .int .u32 (s 3), .int .u32 (s 4), .int .u32 (s 5), .int .u32 (s 6), .int .u32 (s 7)], .agg (rowOf .u8 64 bl), .int .u64 n] w fun e w' => e = .returned (.agg (rowOf .u32 8 (finF s bl n (n % 64).toNat))) ∧ Below w.heap.size w w' :=
  fin_any s bl n hn0 hn1 w hk
set_option maxRecDepth 100000 in
set_option maxHeartbeats 400000 in
theorem sumM_any (g : Nat) (s b : Nat → Int) (n : Int) (w : World) (hh : HashAt w g s b n) (h0 : 0 ≤ n) (h1 : n < 18446744073709551616) (hk : Consts w) :
    Calls Tryz.prog 143 #[.pointer (some ⟨g, 0, none⟩)] w fun e w' => e = .returned (.agg (rowOf .u8 32 (outF (finF s b n (n % 64).toNat)))) ∧ Below w.heap.size w w' := by
  have HH := Lib.hid hh
  have HK := Lib.hid hk
  have HN := Lib.hid (show 0 ≤ n ∧ n < 18446744073709551616 from ⟨h0, h1⟩)
  have HG := Lib.hid hh.lt
  have HC := Lib.hid hk.lt
  clear hh hk h0 h1
  go_enter Tryz.func143, Tryz.ntmps143
  go_upto_region 4 with (fail)
  rw [zeros32]
  have hi64 : (Tryz.prog.info? 280).map (·.size) = some (rowOf .u8 64 b).toList.length := by rw [(rowOf_list _ _ _).2]; kernel_rfl
  have hu64 := Tryz.underlying280
  have M := Lib.hid (sum_mem w g s b n HH.out HK.out)
  generalize (w.alloc (.cells (rowOf .u8 32 (fun _ => 0)) 53)).alloc (.cells (rowOf .u8 32 (fun _ => 0)) 53) = w1 at *
  have hS0 : SumS g s b n w1.drew := sumS M.out.hash
  have HD := Lib.hid (show SumM w w1.drew g s b n (fun _ => 0) (fun _ => 0) from ⟨M.out.hash, M.out.re, M.out.su, M.out.below.drew, M.out.consts⟩)
  clear HH HK M
  go_region_held3 (fun w' => w'.rangeAt g 8 (rowOf .u8 64 b).toList ∧ w'.cell? ⟨g, 0, none⟩ = some (.int .u32 (s 0)) ∧ w'.cell? ⟨g, 1, none⟩ = some (.int .u32 (s 1)) ∧ w'.cell? ⟨g, 2, none⟩ = some (.int .u32 (s 2)) ∧ w'.cell? ⟨g, 3, none⟩ = some (.int .u32 (s 3)) ∧ w'.cell? ⟨g, 4, none⟩ = some (.int .u32 (s 4)) ∧ w'.cell? ⟨g, 5, none⟩ = some (.int .u32 (s 5)) ∧ w'.cell? ⟨g, 6, none⟩ = some (.int .u32 (s 6)) ∧ w'.cell? ⟨g, 7, none⟩ = some (.int .u32 (s 7)) ∧ w'.cell? ⟨g, 72, none⟩ = some (.int .u64 n)) (first | (with_reducible exact hS0) | (with_reducible exact hS5)) (first | (go_at_call 201; (with_reducible refine (fin_lit s b n HN.out.1 HN.out.2 _ HD.out.consts).mono ?_); rintro e w5 ⟨rfl, HB5⟩; have HD5 := Lib.hid (HD.out.calls HB5); have hS5 : SumS g s b n w5 := sumS HD5.out.hash; replace HB5 := Lib.hid HB5))
  clear hS0 hS5 hi64 hu64 HD HB5
  rename_i hH
  clear hH w1
  obtain ⟨F, hF⟩ : ∃ F, F = finF s b n (n % 64).toNat := ⟨_, rfl⟩
  rw [← hF]
  replace hF := Lib.hid hF
  go_wp2_with (fail)
  go_loopw [23] (fun i wr => ∃ k : Nat, k ≤ 8 ∧ i = .int .i64 k ∧ Hid (SumM w wr g s b n (fun _ => 0) (outK F (4 * k)))) (fun i _ => 8 - (intOf i).toNat)
  case atStart => exact ⟨0, by omega, rfl, HD5⟩
  case round =>
    clear HD5
    obtain ⟨k, hk, rfl, H⟩ := hrel
    by_cases hlt : k < 8
    · have hix := index59 F k hlt
      go_wp2_with (fail)
      obtain ⟨wo, rfl⟩ : ∃ wo : World, wo = wr := ⟨_, rfl⟩
      go_loopw [27] (fun i wr => ∃ q : Nat, q ≤ 4 ∧ i = .int .i64 q ∧ Hid (SumM w wr g s b n (fun _ => 0) (outK F (4 * k + q)))) (fun i _ => 4 - (intOf i).toNat)
      case atStart => exact ⟨0, by omega, rfl, H⟩
      case round =>
        clear H
        obtain ⟨q, hq, rfl, H⟩ := hrel
        by_cases hqt : q < 4
        · have c0 := H.out.su.cell (4 * k + q) (by omega)
          have f0 := H.out.su.free (4 * k + q)
          have n0 : (4 * (k : Int) + q).toNat = 4 * k + q := by omega
          have n1 : (24 - 8 * (q : Int)).toNat = 24 - 8 * q := by omega
          go_wp2_with (fail)
          go_roundw
          case rel => exact ⟨q + 1, by omega, by go_num, Lib.hid (H.out.put hqt HG.out HC.out)⟩
          case measure => simp [intOf]; omega
        · replace H : Hid (SumM w wr g s b n (fun _ => 0) (outK F (4 * (k + 1)))) := by rw [show 4 * (k + 1) = 4 * k + q by omega]; exact H
          go_wp2_with (fail)
          go_roundw
          case rel => exact ⟨k + 1, by omega, by go_num, H⟩
          case measure => simp [intOf]; omega
    · replace H : Hid (SumM w wr g s b n (fun _ => 0) (outK F 32)) := by rw [show 32 = 4 * k by omega]; exact H
      go_wp2_with (first
        | (refine wpList_load_row rfl 53 (.tmp 3) rfl (w.heap.size + 1) rfl 53 _ (0, 0) _ H.out.su Tryz.underlying53 rfl (by rw [rowOf_size]; kernel_rfl) ?_)
        | (refine wpList_store_row rfl 53 (.tmp 2) (.tmp 43) rfl w.heap.size _ rfl rfl 53 _ H.out.re (by rw [rowOf_size]; kernel_rfl) (by rw [rowOf_size, rowOf_size]) (rowOf_one _ _ _) ?_))
      refine bodyPost_ret (results_cell_row rfl _ _ w.heap.size 53 (rowOf .u8 32 (outK F 32)) (0, 0) _ rfl (setRow_heap _ _ _ _ _ _ H.out.re) Tryz.underlying53 rfl (by rw [rowOf_size]; kernel_rfl)) rfl ?_
      refine ⟨?_, below_setRow H.out.below (Nat.le_refl _) _⟩
      rw [rowOf_congr .u8 32 (outK F 32) (outF F) (fun i hi => by unfold outK; rw [if_pos hi]), hF.out]
theorem BytesIn.at {w w' : World} {v : Value} {xs : List Int} (h : BytesIn w v xs) {B g : Nat} (hb : Below B w w') (hB : w.heap.size ≤ B) (hg : w.heap.size ≤ g) : BytesAt w' g v xs := by
  obtain ⟨a, cap, rfl, hc, hm, hx⟩ := h
  refine ⟨a, cap, rfl, hc, hm, ?_⟩
  rcases hx with hx | ⟨ab, ao, rfl, hx⟩
  · exact .inl hx
  · by_cases he : xs = []
    · exact .inl he
    · obtain ⟨x, xs', rfl⟩ := List.exists_cons_of_ne_nil he
      have h0 := World.block_lt_of_cell? w _ (hx 0 x rfl)
      have h0' : ab < w.heap.size := h0
      exact .inr ⟨ab, ao, rfl, by omega, fun i y hi => (hb.cell (p := ⟨ab, ao + i, none⟩) (by show ab < B; omega)).trans (hx i y hi)⟩
/-- the empty Hash -/
def h0 : HS := ⟨BT, fun _ => 0, 0⟩
/-- the hash that a Hash answers -/
def hsum (h : HS) : Nat → Int := outF (finF h.s h.b h.n (h.n % 64).toNat)
/-- the hash of bytes -/
def sumF (xs : List Int) : Nat → Int := hsum (putF h0 xs)
set_option maxRecDepth 100000 in
set_option maxHeartbeats 400000 in
theorem shSum_any (v : Value) (xs : List Int) (w : World) (hx : BytesIn w v xs) (he : Env w) :
    Calls Tryz.prog 74 #[v] w fun e w' => e = .returned (.agg (rowOf .u8 32 (sumF xs))) ∧ Below w.heap.size w w' := by
  have HX := Lib.hid hx
  have HE := Lib.hid he
  clear hx he
  go_enter Tryz.func74, Tryz.ntmps74
  go_upto_region 1 with (fail)
  rw [zeros32]
  have HB1 : Below w.heap.size w (w.alloc (.cells (rowOf .u8 32 (fun _ => 0)) 53)) := below_alloc _ _
  have HR := Lib.hid (RowAt.new w .u8 32 53 (fun _ => 0))
  have hsz : w.heap.size < (w.alloc (.cells (rowOf .u8 32 (fun _ => 0)) 53)).heap.size := by simp
  generalize w.alloc (.cells (rowOf .u8 32 (fun _ => 0)) 53) = w1 at *
  have HE1 := Lib.hid (HE.out.below HB1 HE.out.lt)
  go_upto_region 2 with (go_at_call 141; (with_reducible refine (shNew_any _ HE1.out).mono ?_); rintro e w' ⟨rfl, rfl⟩)
  have HB2 : Below w1.heap.size w1 (w1.alloc (.cells (hashCells BT (fun _ => 0) 0) 282)) := below_alloc _ _
  have HH := Lib.hid (show HashAt (w1.alloc (.cells (hashCells BT (fun _ => 0) 0) 282)) w1.heap.size BT (fun _ => 0) 0 from heap_alloc_new w1 _)
  generalize w1.alloc (.cells (hashCells BT (fun _ => 0) 0) 282) = w2 at *
  have HB12 : Below w.heap.size w w2 := HB1.trans (HB2.mono HB1.size)
  have HX2 := Lib.hid (HX.out.at (g := w1.heap.size) HB12 (Nat.le_refl _) (by omega))
  have HE2 := Lib.hid (HE.out.below HB12 HE.out.lt)
  replace HR := Lib.hid (HR.out.below HB2 hsz)
  have Hg : 3 < w1.heap.size := by have := HE.out.lt; have := HB1.size; omega
  replace HB12 := Lib.hid HB12
  replace Hg := Lib.hid Hg
  clear HB1 HB2 HE1 HX HE
  obtain ⟨g, rfl⟩ : ∃ g, g = w1.heap.size := ⟨_, rfl⟩
  generalize w1.heap.size = g at *
  clear w1
  go_upto_region 3 with (go_at_call 142; (with_reducible refine (shWrite_any g _ _ _ xs v _ HH.out (by decide) (by decide) HX2.out HE2.out Hg.out).mono ?_); rintro e w' ⟨rfl, HH3, HO3⟩)
  have hb := putF_bounds h0 (by decide) (by decide) xs
  have HBD := Lib.hid hb
  replace HH3 : Hid (HashAt w' g (putF h0 xs).s (putF h0 xs).b (putF h0 xs).n) := Lib.hid HH3
  have HE3 := Lib.hid (HO3.env HE2.out Hg.out).consts
  have HR3 := Lib.hid (show RowAt w' w.heap.size .u8 32 53 (fun _ => 0) from (HO3.block _ HR.out.lt (by omega)).trans HR.out)
  have HB3 := Lib.hid (HB12.out.trans (HO3.below (Nat.le_of_lt hsz) (Nat.le_of_lt HR.out.lt)))
  clear HO3 HH HX2 HE2 HR HB12 hb
  go_wp2_with (first
    | (go_at_call 143; (with_reducible refine (sumM_any g _ _ _ _ HH3.out HBD.out.1 HBD.out.2 HE3.out).mono ?_); rintro e w4 ⟨rfl, HB4⟩; replace HB4 := Lib.hid HB4)
    | (refine wpList_store_row rfl 53 (.tmp 2) (.tmp 9) rfl w.heap.size _ rfl rfl 53 _ (HR3.out.below HB4.out HR3.out.lt) (by rw [rowOf_size]; kernel_rfl) (by rw [rowOf_size, rowOf_size]) (rowOf_one _ _ _) ?_))
  refine bodyPost_ret (results_cell_row rfl _ _ w.heap.size 53 _ (0, 0) _ rfl (setRow_heap _ _ _ _ _ _ (HR3.out.below HB4.out HR3.out.lt)) Tryz.underlying53 rfl (by rw [rowOf_size]; kernel_rfl)) rfl ?_
  exact ⟨rfl, below_setRow (HB3.out.trans (HB4.out.mono HB3.out.size)) (Nat.le_refl _) _⟩
end Go.Proofs.YtejglhlodfhgkaaGreatDoor
namespace Go.Proofs.YtejglhlodfhgkaaGreatDoor
set_option linter.unusedVariables false
set_option linter.unusedSimpArgs false
open Go.RowKit
/-- a hexadecimal digit -/
def hexd (n : Int) : Int := if n < 10 then 48 + n else 87 + n
/-- the text of a hash, place by place -/
def textF (h : Nat → Int) : Nat → Int := fun i => if i % 2 = 0 then hexd (h (i / 2) / 16) else hexd (h (i / 2) % 16)
def textL (h : Nat → Int) : List Int := (List.range 64).map (textF h)
end Go.Proofs.YtejglhlodfhgkaaGreatDoor
namespace Go.Proofs
set_option linter.unusedVariables false
set_option linter.unusedSimpArgs false
open Go.Shelf
def Tryz.lays137_ren : Go.Shelf.Ren := ⟨fun | 137 => 253 | 217 => 244 | 266 => 257 | n => n, fun | 9 => 9 | 5 => 5 | 3 => 3 | n => n, fun | n => n⟩
theorem Tryz.lays137 : Go.Proofs.Lays.n137 Tryz.prog Tryz.lays137_ren := {
  mixed := by kernel_rfl
  f137 := Tryz.func253.trans (congrArg some (by kernel_rfl))
  f217 := Tryz.func244.trans (congrArg some (by kernel_rfl))
  f266 := Tryz.func257.trans (congrArg some (by kernel_rfl))
  t3 := Tryz.underlying3
  a3 := Tryz.isAgg3
  z3 := Tryz.sizeOf3
  v3 := Tryz.zeroValue3
  t5 := Tryz.underlying5
  a5 := Tryz.isAgg5
  z5 := Tryz.sizeOf5
  v5 := Tryz.zeroValue5
  t9 := Tryz.underlying9
  a9 := Tryz.isAgg9
  z9 := Tryz.sizeOf9
  v9 := Tryz.zeroValue9 }
open Go.RowKit in
theorem Tryz.strings_IndexByte (s : ByteArray) (c : Int) (w : World) :
    Calls Tryz.prog 253 #[.string s, .int .u8 c] w fun e w' => e = .returned (.int .i64 (Lib.indexByte s.data.toList c.toNat.toUInt8)) ∧ w' = w := Any.strings_IndexByte Tryz.lays137 s c w
end Go.Proofs
namespace Go.Proofs.YtejglhlodfhgkaaGreatDoor
set_option linter.unusedVariables false
set_option linter.unusedSimpArgs false
open Go.RowKit
set_option maxRecDepth 100000
/-- the bytes of a string -/
def numsOf (s : ByteArray) : List Int := s.data.toList.map fun b => (b.toNat : Int)
theorem numsOf_length (s : ByteArray) : (numsOf s).length = s.size := by unfold numsOf; rw [List.length_map]; rfl
theorem numsOf_str (xs : List Int) (h : ∀ x ∈ xs, 0 ≤ x ∧ x < 256) : numsOf (strOfNums xs) = xs := by
  unfold numsOf
  rw [strOfNums_data, List.map_map]
  conv => rhs; rw [← List.map_id xs]
  apply List.map_congr_left
  intro x hx
  obtain ⟨h0, h1⟩ := h x hx
  simp only [Function.comp, id]
  rw [show (UInt8.ofNat x.toNat).toNat = x.toNat % 256 from rfl]
  omega
theorem str_numsOf (s : ByteArray) : strOfNums (numsOf s) = s := by
  apply ByteArray.ext
  apply Array.ext'
  rw [strOfNums_data, numsOf, List.map_map]
  conv => rhs; rw [← List.map_id s.data.toList]
  apply List.map_congr_left
  intro b _
  show UInt8.ofNat ((b.toNat : Nat) : Int).toNat = b
  rw [Int.toNat_natCast]; exact UInt8.ofNat_toNat
/-- the world behind []byte(s) -/
def bytesW (w : World) (s : ByteArray) : World := w.drew.alloc (.cells (bytesRow s (grownCap w s.size 0 5)) 5 ((bytesRow s (grownCap w s.size 0 5)).size, (bytesRow s (grownCap w s.size 0 5)).size + 1))
theorem bytesW_in (w : World) (s : ByteArray) (hs : s.size ≤ maxLen) : BytesIn (bytesW w s) (.slice (some ⟨w.heap.size, 0, none⟩) s.size (grownCap w s.size 0 5)) (numsOf s) := by
  refine ⟨_, _, by rw [numsOf_length], by rw [numsOf_length]; exact grownCap_ge _ _ _ _, by rw [numsOf_length]; exact hs, .inr ⟨_, 0, rfl, fun i x hi => ?_⟩⟩
  have hil : i < s.size := by rw [← numsOf_length]; exact (List.getElem?_eq_some_iff.1 hi).1
  unfold bytesW
  rw [Nat.zero_add]
  have := cell_of_row (w.drew.alloc (.cells (bytesRow s (grownCap w s.size 0 5)) 5 ((bytesRow s (grownCap w s.size 0 5)).size, (bytesRow s (grownCap w s.size 0 5)).size + 1))) w.heap.size i _ _ _ (heap_alloc_new w.drew _)
  rw [this]
  unfold bytesRow
  rw [Array.getElem?_append_left (by rw [Array.size_map]; exact hil), Array.getElem?_map]
  simp only [numsOf, List.getElem?_map, Array.getElem?_toList] at hi
  cases hb : s.data[i]? with
  | none => rw [hb] at hi; cases hi
  | some b => rw [hb] at hi; cases hi; rfl
theorem bytesW_below (w : World) (s : ByteArray) : Below w.heap.size w (bytesW w s) := ((Below.refl _ w).drew).alloc (Nat.le_refl _) _
theorem conv_bytes (w : World) (v : Value) (l : List Int) (h : BytesIn w v l) : (convert 25 9 v).run Tryz.prog w = .ok (.string (strOfNums l)) w := by
  obtain ⟨a, c, rfl, hc, hm, hx⟩ := h
  cases a with
  | none =>
    have hn : l = [] := by
      rcases hx with hx | ⟨_, _, h, _⟩
      · exact hx
      · cases h
    subst hn
    exact run_convert_bytes_nil w 25 5 Tryz.underlying25 Tryz.underlying5 _ _ 9 Tryz.underlying9
  | some ad =>
    rcases hx with rfl | ⟨ab, ao, e, hx1⟩
    · rw [List.length_nil, run_convert_bytes_string w 25 9 5 _ 0 c Tryz.underlying25 Tryz.underlying5 Tryz.underlying9, run_bytesToString w ad 0 c [] (run_loadCells_list (P := Tryz.prog) w ad [] (fun j v hj => by simp at hj))]
      rfl
    · injection e with e; subst e
      refine run_convert_bytes_arg w 25 5 Tryz.underlying25 Tryz.underlying5 ab ao l.length c l rfl (fun i hi => ?_) 9 Tryz.underlying9
      rw [List.getD, List.getElem?_eq_getElem hi]
      exact hx1 i _ (List.getElem?_eq_getElem hi)
theorem size_alloc (w : World) (o : Obj) : (w.alloc o).heap.size = w.heap.size + 1 := by simp
end Go.Proofs.YtejglhlodfhgkaaGreatDoor

/- Part 9 of the proof. -/
import Derived.Deep.RegionWith
import Derived.Laws.CopyRow
import Derived.Test.YtadolfacjolbkaaDoorSh8
namespace Go.Proofs.YtadolfacjolbkaaDoor
set_option linter.unusedVariables false
set_option linter.unusedSimpArgs false
open Go.RowKit
def BT (i : Nat) : Int := (([1779033703, 3144134277, 1013904242, 2773480762, 1359893119, 2600822924, 528734635, 1541459225] : List Nat).getD i 0 : Nat)
/-- the two tables lie where start-up laid them -/
structure Env (w : World) : Prop where
  begin : ∀ i, i < 8 → w.cell? ⟨1, i, none⟩ = some (.int .u32 (BT i))
  consts : Consts w
theorem Env.below {w w' : World} {B : Nat} (h : Env w) (hb : Below B w w') (h1 : 2 < B) : Env w' :=
  ⟨fun i hi => (hb.cell (p := ⟨1, i, none⟩) (by show 1 < B; omega)).trans (h.begin i hi), h.consts.below hb h1⟩
theorem Env.lt {w : World} (h : Env w) : 2 < w.heap.size := h.consts.lt
def hashCells (s b : Nat → Int) (n : Int) : Array Value := rowOf .u32 8 s ++ (rowOf .u8 64 b ++ #[.int .u64 n])
/-- block g is a Hash -/
def HashAt (w : World) (g : Nat) (s b : Nat → Int) (n : Int) : Prop := w.heap[g]? = some (.cells (hashCells s b n) 165 (0, 0))
theorem hashCells_size (s b : Nat → Int) (n : Int) : (hashCells s b n).size = 73 := by simp [hashCells, rowOf_size]
theorem hashCells_state (s b : Nat → Int) (n : Int) (i : Nat) (h : i < 8) : (hashCells s b n)[i]? = some (.int .u32 (s i)) := by
  unfold hashCells
  rw [Array.getElem?_append_left (by rw [rowOf_size]; exact h), rowOf_get _ _ _ _ h]
theorem hashCells_block (s b : Nat → Int) (n : Int) (i : Nat) (h : i < 64) : (hashCells s b n)[8 + i]? = some (.int .u8 (b i)) := by
  unfold hashCells
  rw [Array.getElem?_append_right (by rw [rowOf_size]; omega), rowOf_size, show 8 + i - 8 = i by omega, Array.getElem?_append_left (by rw [rowOf_size]; exact h), rowOf_get _ _ _ _ h]
theorem hashCells_count (s b : Nat → Int) (n : Int) : (hashCells s b n)[72]? = some (.int .u64 n) := by
  unfold hashCells
  rw [Array.getElem?_append_right (by rw [rowOf_size]; omega), rowOf_size, Array.getElem?_append_right (by rw [rowOf_size]; omega), rowOf_size]
  rfl
theorem hashCells_one (s b : Nat → Int) (n : Int) : (hashCells s b n).all (·.oneCell') = true := by
  unfold hashCells
  rw [Array.all_append, Array.all_append, rowOf_one, rowOf_one]
  simp [Value.oneCell']
theorem HashAt.lt {w : World} {g : Nat} {s b : Nat → Int} {n : Int} (h : HashAt w g s b n) : g < w.heap.size := (Array.getElem?_eq_some_iff.1 h).1
theorem HashAt.below {w w' : World} {g B : Nat} {s b : Nat → Int} {n : Int} (h : HashAt w g s b n) (hb : Below B w w') (hg : g < B) : HashAt w' g s b n := (hb.block g hg).trans h
theorem HashAt.cellS {w : World} {g : Nat} {s b : Nat → Int} {n : Int} (h : HashAt w g s b n) (i : Nat) (hi : i < 8) : w.cell? ⟨g, i, none⟩ = some (.int .u32 (s i)) := by
  rw [cell_of_row w g i _ _ _ h, hashCells_state _ _ _ _ hi]
theorem HashAt.cellB {w : World} {g : Nat} {s b : Nat → Int} {n : Int} (h : HashAt w g s b n) (i : Nat) (hi : i < 64) : w.cell? ⟨g, 8 + i, none⟩ = some (.int .u8 (b i)) := by
  rw [cell_of_row w g _ _ _ _ h, hashCells_block _ _ _ _ hi]
theorem HashAt.cellN {w : World} {g : Nat} {s b : Nat → Int} {n : Int} (h : HashAt w g s b n) : w.cell? ⟨g, 72, none⟩ = some (.int .u64 n) := by
  rw [cell_of_row w g _ _ _ _ h, hashCells_count]
theorem HashAt.free {w : World} {g : Nat} {s b : Nat → Int} {n : Int} (h : HashAt w g s b n) (i : Nat) : w.frozen? ⟨g, i, none⟩ = false := frozen_of_row w g i _ _ h
theorem rowOf_list (k : IntKind) (n : Nat) (f : Nat → Int) : ((rowOf k n f).toList)[n]? = none ∧ (rowOf k n f).toList.length = n := by
  constructor <;> simp [rowOf]
theorem HashAt.rangeS {w : World} {g : Nat} {s b : Nat → Int} {n : Int} (h : HashAt w g s b n) : w.rangeAt g 0 (rowOf .u32 8 s).toList := fun j v hv => by
  have hj : j < 8 := by have := (List.getElem?_eq_some_iff.1 hv).1; rw [(rowOf_list _ _ _).2] at this; exact this
  rw [Array.getElem?_toList, rowOf_get _ _ _ _ hj] at hv
  rw [Nat.zero_add, h.cellS j hj]; exact hv
theorem HashAt.rangeB {w : World} {g : Nat} {s b : Nat → Int} {n : Int} (h : HashAt w g s b n) : w.rangeAt g 8 (rowOf .u8 64 b).toList := fun j v hv => by
  have hj : j < 64 := by have := (List.getElem?_eq_some_iff.1 hv).1; rw [(rowOf_list _ _ _).2] at this; exact this
  rw [Array.getElem?_toList, rowOf_get _ _ _ _ hj] at hv
  rw [h.cellB j hj]; exact hv
set_option maxRecDepth 100000 in
set_option maxHeartbeats 400000 in
theorem shNew_any (w : World) (hk : Env w) :
    Calls Tryd.prog 64 #[] w fun e w' => e = .returned (.pointer (some ⟨w.heap.size, 0, none⟩)) ∧ w.alloc (.cells (hashCells BT (fun _ => 0) 0) 165) = w' := by
  have hc : ∀ i, i < 8 → w.cell? ⟨1, i, none⟩ = some (.int .u32 (BT i)) := hk.begin
  clear hk
  go_enter Tryd.func64, Tryd.ntmps64
  go_wp2
  go_ret
  exact ⟨rfl, by kernel_rfl⟩
theorem hashCells_setS (s b : Nat → Int) (n : Int) (i : Nat) (v : Int) (h : i < 8) : (hashCells s b n).setIfInBounds i (.int .u32 v) = hashCells (upd s i v) b n := by
  unfold hashCells
  rw [← rowOf_set, Array.setIfInBounds_append_left (by rw [rowOf_size]; exact h)]
theorem hashCells_setN (s b : Nat → Int) (n v : Int) : (hashCells s b n).setIfInBounds 72 (.int .u64 v) = hashCells s b v := by
  unfold hashCells
  rw [Array.setIfInBounds_append_right (by rw [rowOf_size]; omega), rowOf_size, Array.setIfInBounds_append_right (by rw [rowOf_size]; omega), rowOf_size]
  rfl
theorem HashAt.setS {w : World} {g : Nat} {s b : Nat → Int} {n : Int} (h : HashAt w g s b n) (i : Nat) (v : Int) (hi : i < 8) : HashAt (w.setCell ⟨g, i, none⟩ (.int .u32 v)) g (upd s i v) b n := by
  unfold HashAt
  rw [heap_setCell_same w g i _ _ _ h, hashCells_setS _ _ _ _ _ hi]
theorem HashAt.setN {w : World} {g : Nat} {s b : Nat → Int} {n : Int} (h : HashAt w g s b n) (v : Int) : HashAt (w.setCell ⟨g, 72, none⟩ (.int .u64 v)) g s b v := by
  unfold HashAt
  rw [heap_setCell_same w g 72 _ _ _ h, hashCells_setN]
theorem HashAt.congr {w : World} {g : Nat} {s s' b b' : Nat → Int} {n : Int} (h : HashAt w g s b n) (h1 : ∀ i, i < 8 → s i = s' i) (h2 : ∀ i, i < 64 → b i = b' i) : HashAt w g s' b' n := by
  unfold HashAt hashCells at *
  rw [← rowOf_congr _ _ _ _ h1, ← rowOf_congr _ _ _ _ h2]; exact h
end Go.Proofs.YtadolfacjolbkaaDoor
namespace Go.Proofs.YtadolfacjolbkaaDoor
set_option linter.unusedVariables false
set_option linter.unusedSimpArgs false
open Go.RowKit
structure HS where
  s : Nat → Int
  b : Nat → Int
  n : Int
def put1 (h : HS) (x : Int) : HS :=
  if (h.n + 1) % 18446744073709551616 % 64 = 0 then ⟨mixF h.s (upd h.b (h.n % 64).toNat x), upd h.b (h.n % 64).toNat x, (h.n + 1) % 18446744073709551616⟩
  else ⟨h.s, upd h.b (h.n % 64).toNat x, (h.n + 1) % 18446744073709551616⟩
/-- all bytes of a list, one behind the other -/
def putF (h : HS) (xs : List Int) : HS := xs.foldl put1 h
theorem putF_append (h : HS) (xs ys : List Int) : putF h (xs ++ ys) = putF (putF h xs) ys := by unfold putF; rw [List.foldl_append]
/-- a list laid over a block from place u on -/
def lay (b : Nat → Int) : Nat → List Int → Nat → Int
  | _, [] => b
  | u, y :: ys => lay (upd b u y) (u + 1) ys
theorem lay_get : ∀ (ys : List Int) (b : Nat → Int) (u i : Nat), lay b u ys i = if u ≤ i ∧ i < u + ys.length then ys.getD (i - u) 0 else b i
  | [], b, u, i => by rw [if_neg (by simp)]; rfl
  | y :: ys, b, u, i => by
    rw [lay, lay_get ys]
    unfold upd
    by_cases h : i = u
    · subst h
      rw [if_neg (by omega), if_pos rfl, if_pos (by simp)]
      simp
    · by_cases h2 : u + 1 ≤ i ∧ i < u + 1 + ys.length
      · rw [if_pos h2, if_pos (by simp; omega), show i - u = (i - (u + 1)) + 1 by omega]
        simp
      · rw [if_neg h2, if_neg h, if_neg (by simp; omega)]
theorem put_run (s : Nat → Int) : ∀ (ys : List Int) (b : Nat → Int) (n : Int) (u : Nat), 0 ≤ n → n < 18446744073709551616 → n % 64 = u → u + ys.length < 64 →
    putF ⟨s, b, n⟩ ys = ⟨s, lay b u ys, (n + ys.length) % 18446744073709551616⟩
  | [], b, n, u, h0, h1, _, _ => by
    have : n % 18446744073709551616 = n := by omega
    simp [putF, lay, this]
  | y :: ys, b, n, u, h0, h1, hu, hl => by
    simp only [List.length_cons] at hl
    have e : put1 ⟨s, b, n⟩ y = ⟨s, upd b u y, (n + 1) % 18446744073709551616⟩ := by
      unfold put1
      rw [if_neg (by show ¬ (n + 1) % 18446744073709551616 % 64 = 0; omega)]
      show (⟨s, upd b (n % 64).toNat y, _⟩ : HS) = _
      rw [show (n % 64).toNat = u by omega]
    have ih := put_run s ys (upd b u y) ((n + 1) % 18446744073709551616) (u + 1) (by omega) (by omega) (by omega) (by omega)
    unfold putF at ih ⊢
    rw [List.foldl_cons, e, ih, lay]
    congr 1
    simp only [List.length_cons]
    omega
theorem put_full (s : Nat → Int) : ∀ (ys : List Int) (b : Nat → Int) (n : Int) (u : Nat), 0 ≤ n → n < 18446744073709551616 → n % 64 = u → u + ys.length = 64 → u < 64 →
    putF ⟨s, b, n⟩ ys = ⟨mixF s (lay b u ys), lay b u ys, (n + ys.length) % 18446744073709551616⟩
  | [], b, n, u, h0, h1, hu, hl, hlt => by simp at hl; omega
  | y :: ys, b, n, u, h0, h1, hu, hl, hlt => by
    simp only [List.length_cons] at hl
    by_cases hn : ys = []
    · subst hn
      simp at hl
      have e : put1 ⟨s, b, n⟩ y = ⟨mixF s (upd b u y), upd b u y, (n + 1) % 18446744073709551616⟩ := by
        unfold put1
        rw [if_pos (by show (n + 1) % 18446744073709551616 % 64 = 0; omega)]
        show (⟨mixF s (upd b (n % 64).toNat y), upd b (n % 64).toNat y, _⟩ : HS) = _
        rw [show (n % 64).toNat = u by omega]
      unfold putF
      rw [List.foldl_cons, e]
      rfl
    · have hpos : 0 < ys.length := List.length_pos_iff.2 hn
      have e : put1 ⟨s, b, n⟩ y = ⟨s, upd b u y, (n + 1) % 18446744073709551616⟩ := by
        unfold put1
        rw [if_neg (by show ¬ (n + 1) % 18446744073709551616 % 64 = 0; omega)]
        show (⟨s, upd b (n % 64).toNat y, _⟩ : HS) = _
        rw [show (n % 64).toNat = u by omega]
      have ih := put_full s ys (upd b u y) ((n + 1) % 18446744073709551616) (u + 1) (by omega) (by omega) (by omega) (by omega) (by omega)
      unfold putF at ih ⊢
      rw [List.foldl_cons, e, ih, lay]
      congr 1
      simp only [List.length_cons]
      omega
theorem putF_bounds (h : HS) (h0 : 0 ≤ h.n) (h1 : h.n < 18446744073709551616) : ∀ xs : List Int, 0 ≤ (putF h xs).n ∧ (putF h xs).n < 18446744073709551616 := by
  intro xs
  induction xs generalizing h with
  | nil => exact ⟨h0, h1⟩
  | cons x xs ih =>
    unfold putF at *
    rw [List.foldl_cons]
    have e : (put1 h x).n = (h.n + 1) % 18446744073709551616 := by unfold put1; split <;> rfl
    exact ih _ (by rw [e]; omega) (by rw [e]; omega)
/-- a copy into the block of a Hash -/
theorem hashCells_copy (s b : Nat → Int) (n : Int) (u : Nat) (ys : List Int) (h : u + ys.length ≤ 64) :
    ((hashCells s b n).toList.take (8 + u) ++ (byteVals ys ++ (hashCells s b n).toList.drop (8 + u + (byteVals ys).length))).toArray = hashCells s (lay b u ys) n := by
  apply Array.ext_getElem?
  intro i
  have hsz := hashCells_size s b n
  rw [byteVals_length, List.getElem?_toArray, List.getElem?_append, List.getElem?_take, List.getElem?_append, List.getElem?_drop]
  simp only [List.length_take, Array.length_toList, hsz, byteVals_length, Array.getElem?_toList]
  by_cases h1 : i < 8
  · rw [if_pos (by omega), if_pos (by omega), hashCells_state _ _ _ _ h1, hashCells_state _ _ _ _ h1]
  · by_cases h2 : i < 72
    · obtain ⟨j, rfl⟩ : ∃ j, i = 8 + j := ⟨i - 8, by omega⟩
      have hj : j < 64 := by omega
      rw [hashCells_block s (lay b u ys) n j hj, lay_get]
      by_cases h3 : j < u
      · rw [if_pos (by omega), if_pos (by omega), hashCells_block _ _ _ _ hj, if_neg (by omega)]
      · rw [if_neg (by omega)]
        by_cases h4 : j < u + ys.length
        · rw [if_pos (by omega), if_pos (by omega), show 8 + j - min (8 + u) 73 = j - u by omega]
          simp [byteVals, List.getD, (by omega : j - u < ys.length)]
        · rw [if_neg (by omega), if_neg (by omega), show 8 + u + ys.length + (8 + j - min (8 + u) 73 - ys.length) = 8 + j by omega, hashCells_block _ _ _ _ hj]
    · have e : ∀ f : Nat → Int, (hashCells s f n)[i]? = if i = 72 then some (.int .u64 n) else none := fun f => by
        by_cases h3 : i = 72
        · subst h3; rw [if_pos rfl, hashCells_count]
        · rw [if_neg h3, Array.getElem?_eq_none]; rw [hashCells_size]; omega
      rw [if_neg (by omega), if_neg (by omega), show 8 + u + ys.length + (i - min (8 + u) 73 - ys.length) = i by omega, e, e]
theorem HashAt.copy {w : World} {g : Nat} {s b : Nat → Int} {n : Int} (h : HashAt w g s b n) (u : Nat) (ys : List Int) (hl : u + ys.length ≤ 64) :
    HashAt (w.setRow g ((hashCells s b n).toList.take (8 + u) ++ (byteVals ys ++ (hashCells s b n).toList.drop (8 + u + (byteVals ys).length))).toArray) g s (lay b u ys) n := by
  rw [hashCells_copy _ _ _ _ _ hl]
  exact setRow_heap w g _ _ _ _ h
end Go.Proofs.YtadolfacjolbkaaDoor

/- The Hash in memory; New, Clone. -/
import Derived.Test.YteokgklfljhcaaaGreatDoorShFin
import Derived.Deep.RegionWith
namespace Go.Proofs.YteokgklfljhcaaaGreatDoor
open Go.RowKit
def BT (i : Nat) : Int := (([1779033703, 3144134277, 1013904242, 2773480762, 1359893119, 2600822924, 528734635, 1541459225] : List Nat).getD i 0 : Nat)
/-- the two tables lie where start-up laid them -/
structure Env (w : World) : Prop where
  begin : ∀ i, i < 8 → w.cell? ⟨1, i, none⟩ = some (.int .u32 (BT i))
  consts : Consts w
theorem Env.below {w w' : World} {B : Nat} (h : Env w) (hb : Below B w w') (h1 : 2 < B) : Env w' :=
  ⟨fun i hi => (hb.cell (p := ⟨1, i, none⟩) (by show 1 < B; omega)).trans (h.begin i hi), h.consts.below hb h1⟩
theorem Env.lt {w : World} (h : Env w) : 2 < w.heap.size := h.consts.lt
def hashCells (s b : Nat → Int) (n : Int) : Array Value := rowOf .u32 8 s ++ (rowOf .u8 64 b ++ #[.int .u64 n])
/-- block g is a Hash -/
def HashAt (w : World) (g : Nat) (s b : Nat → Int) (n : Int) : Prop := w.heap[g]? = some (.cells (hashCells s b n) 210 (0, 0))
theorem hashCells_size (s b : Nat → Int) (n : Int) : (hashCells s b n).size = 73 := by simp [hashCells, rowOf_size]
theorem hashCells_state (s b : Nat → Int) (n : Int) (i : Nat) (h : i < 8) : (hashCells s b n)[i]? = some (.int .u32 (s i)) := by
  unfold hashCells
  rw [Array.getElem?_append_left (by rw [rowOf_size]; exact h), rowOf_get _ _ _ _ h]
theorem hashCells_block (s b : Nat → Int) (n : Int) (i : Nat) (h : i < 64) : (hashCells s b n)[8 + i]? = some (.int .u8 (b i)) := by
  unfold hashCells
  rw [Array.getElem?_append_right (by rw [rowOf_size]; omega), rowOf_size, show 8 + i - 8 = i by omega, Array.getElem?_append_left (by rw [rowOf_size]; exact h), rowOf_get _ _ _ _ h]
theorem hashCells_count (s b : Nat → Int) (n : Int) : (hashCells s b n)[72]? = some (.int .u64 n) := by
  unfold hashCells
  rw [Array.getElem?_append_right (by rw [rowOf_size]; omega), rowOf_size, Array.getElem?_append_right (by rw [rowOf_size]; omega), rowOf_size]
  rfl
theorem hashCells_one (s b : Nat → Int) (n : Int) : (hashCells s b n).all (·.oneCell') = true := by
  unfold hashCells
  rw [Array.all_append, Array.all_append, rowOf_one, rowOf_one]
  simp [Value.oneCell']
theorem HashAt.lt {w : World} {g : Nat} {s b : Nat → Int} {n : Int} (h : HashAt w g s b n) : g < w.heap.size := (Array.getElem?_eq_some_iff.1 h).1
theorem HashAt.below {w w' : World} {g B : Nat} {s b : Nat → Int} {n : Int} (h : HashAt w g s b n) (hb : Below B w w') (hg : g < B) : HashAt w' g s b n := (hb.block g hg).trans h
theorem HashAt.cellS {w : World} {g : Nat} {s b : Nat → Int} {n : Int} (h : HashAt w g s b n) (i : Nat) (hi : i < 8) : w.cell? ⟨g, i, none⟩ = some (.int .u32 (s i)) := by
  rw [cell_of_row w g i _ _ _ h, hashCells_state _ _ _ _ hi]
theorem HashAt.cellB {w : World} {g : Nat} {s b : Nat → Int} {n : Int} (h : HashAt w g s b n) (i : Nat) (hi : i < 64) : w.cell? ⟨g, 8 + i, none⟩ = some (.int .u8 (b i)) := by
  rw [cell_of_row w g _ _ _ _ h, hashCells_block _ _ _ _ hi]
theorem HashAt.cellN {w : World} {g : Nat} {s b : Nat → Int} {n : Int} (h : HashAt w g s b n) : w.cell? ⟨g, 72, none⟩ = some (.int .u64 n) := by
  rw [cell_of_row w g _ _ _ _ h, hashCells_count]
theorem HashAt.free {w : World} {g : Nat} {s b : Nat → Int} {n : Int} (h : HashAt w g s b n) (i : Nat) : w.frozen? ⟨g, i, none⟩ = false := frozen_of_row w g i _ _ h
theorem rowOf_list (k : IntKind) (n : Nat) (f : Nat → Int) : ((rowOf k n f).toList)[n]? = none ∧ (rowOf k n f).toList.length = n := by
  constructor <;> simp [rowOf]
theorem HashAt.rangeS {w : World} {g : Nat} {s b : Nat → Int} {n : Int} (h : HashAt w g s b n) : w.rangeAt g 0 (rowOf .u32 8 s).toList := fun j v hv => by
  have hj : j < 8 := by have := (List.getElem?_eq_some_iff.1 hv).1; rw [(rowOf_list _ _ _).2] at this; exact this
  rw [Array.getElem?_toList, rowOf_get _ _ _ _ hj] at hv
  rw [Nat.zero_add, h.cellS j hj]; exact hv
theorem HashAt.rangeB {w : World} {g : Nat} {s b : Nat → Int} {n : Int} (h : HashAt w g s b n) : w.rangeAt g 8 (rowOf .u8 64 b).toList := fun j v hv => by
  have hj : j < 64 := by have := (List.getElem?_eq_some_iff.1 hv).1; rw [(rowOf_list _ _ _).2] at this; exact this
  rw [Array.getElem?_toList, rowOf_get _ _ _ _ hj] at hv
  rw [h.cellB j hj]; exact hv
set_option maxRecDepth 100000 in
set_option maxHeartbeats 400000 in
theorem shNew_any (w : World) (hk : Env w) :
    Calls Tryz.prog 98 #[] w fun e w' => e = .returned (.pointer (some ⟨w.heap.size, 0, none⟩)) ∧ w.alloc (.cells (hashCells BT (fun _ => 0) 0) 210) = w' := by
  have hc : ∀ i, i < 8 → w.cell? ⟨1, i, none⟩ = some (.int .u32 (BT i)) := hk.begin
  clear hk
  go_enter Tryz.func98, Tryz.ntmps98
  go_wp2
  go_ret
  exact ⟨rfl, by kernel_rfl⟩
theorem hashCells_setS (s b : Nat → Int) (n : Int) (i : Nat) (v : Int) (h : i < 8) : (hashCells s b n).setIfInBounds i (.int .u32 v) = hashCells (upd s i v) b n := by
  unfold hashCells
  rw [← rowOf_set, Array.setIfInBounds_append_left (by rw [rowOf_size]; exact h)]
theorem hashCells_setN (s b : Nat → Int) (n v : Int) : (hashCells s b n).setIfInBounds 72 (.int .u64 v) = hashCells s b v := by
  unfold hashCells
  rw [Array.setIfInBounds_append_right (by rw [rowOf_size]; omega), rowOf_size, Array.setIfInBounds_append_right (by rw [rowOf_size]; omega), rowOf_size]
  rfl
theorem HashAt.setS {w : World} {g : Nat} {s b : Nat → Int} {n : Int} (h : HashAt w g s b n) (i : Nat) (v : Int) (hi : i < 8) : HashAt (w.setCell ⟨g, i, none⟩ (.int .u32 v)) g (upd s i v) b n := by
  unfold HashAt
  rw [heap_setCell_same w g i _ _ _ h, hashCells_setS _ _ _ _ _ hi]
theorem HashAt.setN {w : World} {g : Nat} {s b : Nat → Int} {n : Int} (h : HashAt w g s b n) (v : Int) : HashAt (w.setCell ⟨g, 72, none⟩ (.int .u64 v)) g s b v := by
  unfold HashAt
  rw [heap_setCell_same w g 72 _ _ _ h, hashCells_setN]
theorem HashAt.congr {w : World} {g : Nat} {s s' b b' : Nat → Int} {n : Int} (h : HashAt w g s b n) (h1 : ∀ i, i < 8 → s i = s' i) (h2 : ∀ i, i < 64 → b i = b' i) : HashAt w g s' b' n := by
  unfold HashAt hashCells at *
  rw [← rowOf_congr _ _ _ _ h1, ← rowOf_congr _ _ _ _ h2]; exact h
end Go.Proofs.YteokgklfljhcaaaGreatDoor

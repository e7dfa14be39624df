/- Clone of a Hash. -/
import Derived.Test.YtbppainejdphpaaDoorShHash
namespace Go.Proofs.YtbppainejdphpaaDoor
open Go.RowKit
set_option maxRecDepth 100000 in
set_option maxHeartbeats 400000 in
theorem shClone_any (w : World) (g : Nat) (s b : Nat → Int) (n : Int) (hh : HashAt w g s b n) :
    Calls Tryd.prog 10 #[.pointer (some ⟨g, 0, none⟩)] w fun e w' => e = .returned (.pointer (some ⟨w.heap.size, 0, none⟩)) ∧ w.alloc (.cells (hashCells s b n) 63) = w' := by
  have HH := Lib.hid hh
  clear hh
  go_enter Tryd.func10, Tryd.ntmps10
  go_wp2_with (first
    | (refine wpList_load_row rfl 63 (.tmp 7) rfl g rfl 63 _ (0, 0) _ HH.out Tryd.underlying63 rfl (by rw [hashCells_size]; kernel_rfl) ?_)
    | (refine wpList_store_row rfl 63 (.tmp 3) (.tmp 8) rfl w.heap.size (hashCells s b n) rfl rfl 63 _ (heap_alloc_new _ _) (by rw [hashCells_size]; kernel_rfl) (by rw [hashCells_size]; rfl) (hashCells_one _ _ _) ?_; rw [World.setRow_alloc_new]))
  go_ret
  exact ⟨rfl, rfl⟩
end Go.Proofs.YtbppainejdphpaaDoor

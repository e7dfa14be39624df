/- The methods of sha on a nil Hash. -/
import Derived.Test.YtbppainejdphpaaDoorShSumM
namespace Go.Proofs.YtbppainejdphpaaDoor
open Go.RowKit
set_option maxRecDepth 100000
theorem nilWrite_any (v : Value) (w : World) : Calls Tryd.prog 7 #[.pointer none, v] w fun e w' => e = .returned (.tuple #[]) ∧ w = w' := by
  go_enter Tryd.func7, Tryd.ntmps7
  go_wp2_with (fail)
  exact bodyPost_ret (results_none rfl _ _ _) rfl ⟨rfl, rfl⟩
theorem nilClone_any (w : World) : Calls Tryd.prog 10 #[.pointer none] w fun e w' => e = .returned (.pointer none) ∧ w = w' := by
  go_enter Tryd.func10, Tryd.ntmps10
  go_wp2_with (fail)
  go_ret
  exact ⟨rfl, rfl⟩
theorem nilSum_any (w : World) : Calls Tryd.prog 9 #[.pointer none] w fun e w' => e = .returned (.agg (rowOf .u8 32 (fun _ => 0))) ∧ Below w.heap.size w w' := by
  have HB := Lib.hid (below_alloc w (.cells (rowOf .u8 32 (fun _ => 0)) 25))
  have HR := Lib.hid (RowAt.new w .u8 32 25 (fun _ => 0))
  go_enter Tryd.func9, Tryd.ntmps9
  go_upto_region 1 with (fail)
  rw [zeros32]
  generalize w.alloc (.cells (rowOf .u8 32 (fun _ => 0)) 25) = w1 at *
  go_wp2_with (refine wpList_store_row rfl 25 (.tmp 2) (.tmp 9) rfl w.heap.size (rowOf .u8 32 (fun _ => 0)) rfl rfl 25 _ HR.out (by rw [rowOf_size]; kernel_rfl) rfl (rowOf_one _ _ _) ?_)
  refine bodyPost_ret (results_cell_row rfl _ _ w.heap.size 25 (rowOf .u8 32 (fun _ => 0)) (0, 0) _ rfl (setRow_heap _ _ _ _ _ _ HR.out) Tryd.underlying25 rfl (by rw [rowOf_size]; kernel_rfl)) rfl ?_
  exact ⟨rfl, below_setRow HB.out (Nat.le_refl _) _⟩
end Go.Proofs.YtbppainejdphpaaDoor

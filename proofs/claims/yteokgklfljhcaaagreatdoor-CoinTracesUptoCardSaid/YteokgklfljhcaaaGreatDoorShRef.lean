/- The document's sum, its parts: turn, constants. -/
import Derived.Test.YteokgklfljhcaaaGreatDoorShMath
import Derived.Test.YteokgklfljhcaaaGreatDoorApp
namespace Go.Proofs.YteokgklfljhcaaaGreatDoor
open Go.RowKit
set_option maxRecDepth 100000
theorem rturn2 (x : Int) (w : World) : Calls Tryz.prog 106 #[.int .u32 x, .int .u64 2] w fun e w' => e = .returned (.int .u32 (rotI x 30)) ∧ w = w' := by
  go_enter Tryz.func106, Tryz.ntmps106
  go_wp2
  go_ret
  refine ⟨?_, rfl⟩
  unfold rotI
  rw [bits_or_comm]
  rfl
theorem rturn6 (x : Int) (w : World) : Calls Tryz.prog 106 #[.int .u32 x, .int .u64 6] w fun e w' => e = .returned (.int .u32 (rotI x 26)) ∧ w = w' := by
  go_enter Tryz.func106, Tryz.ntmps106
  go_wp2
  go_ret
  refine ⟨?_, rfl⟩
  unfold rotI
  rw [bits_or_comm]
  rfl
theorem rturn7 (x : Int) (w : World) : Calls Tryz.prog 106 #[.int .u32 x, .int .u64 7] w fun e w' => e = .returned (.int .u32 (rotI x 25)) ∧ w = w' := by
  go_enter Tryz.func106, Tryz.ntmps106
  go_wp2
  go_ret
  refine ⟨?_, rfl⟩
  unfold rotI
  rw [bits_or_comm]
  rfl
theorem rturn11 (x : Int) (w : World) : Calls Tryz.prog 106 #[.int .u32 x, .int .u64 11] w fun e w' => e = .returned (.int .u32 (rotI x 21)) ∧ w = w' := by
  go_enter Tryz.func106, Tryz.ntmps106
  go_wp2
  go_ret
  refine ⟨?_, rfl⟩
  unfold rotI
  rw [bits_or_comm]
  rfl
theorem rturn13 (x : Int) (w : World) : Calls Tryz.prog 106 #[.int .u32 x, .int .u64 13] w fun e w' => e = .returned (.int .u32 (rotI x 19)) ∧ w = w' := by
  go_enter Tryz.func106, Tryz.ntmps106
  go_wp2
  go_ret
  refine ⟨?_, rfl⟩
  unfold rotI
  rw [bits_or_comm]
  rfl
theorem rturn17 (x : Int) (w : World) : Calls Tryz.prog 106 #[.int .u32 x, .int .u64 17] w fun e w' => e = .returned (.int .u32 (rotI x 15)) ∧ w = w' := by
  go_enter Tryz.func106, Tryz.ntmps106
  go_wp2
  go_ret
  refine ⟨?_, rfl⟩
  unfold rotI
  rw [bits_or_comm]
  rfl
theorem rturn18 (x : Int) (w : World) : Calls Tryz.prog 106 #[.int .u32 x, .int .u64 18] w fun e w' => e = .returned (.int .u32 (rotI x 14)) ∧ w = w' := by
  go_enter Tryz.func106, Tryz.ntmps106
  go_wp2
  go_ret
  refine ⟨?_, rfl⟩
  unfold rotI
  rw [bits_or_comm]
  rfl
theorem rturn19 (x : Int) (w : World) : Calls Tryz.prog 106 #[.int .u32 x, .int .u64 19] w fun e w' => e = .returned (.int .u32 (rotI x 13)) ∧ w = w' := by
  go_enter Tryz.func106, Tryz.ntmps106
  go_wp2
  go_ret
  refine ⟨?_, rfl⟩
  unfold rotI
  rw [bits_or_comm]
  rfl
theorem rturn22 (x : Int) (w : World) : Calls Tryz.prog 106 #[.int .u32 x, .int .u64 22] w fun e w' => e = .returned (.int .u32 (rotI x 10)) ∧ w = w' := by
  go_enter Tryz.func106, Tryz.ntmps106
  go_wp2
  go_ret
  refine ⟨?_, rfl⟩
  unfold rotI
  rw [bits_or_comm]
  rfl
theorem rturn25 (x : Int) (w : World) : Calls Tryz.prog 106 #[.int .u32 x, .int .u64 25] w fun e w' => e = .returned (.int .u32 (rotI x 7)) ∧ w = w' := by
  go_enter Tryz.func106, Tryz.ntmps106
  go_wp2
  go_ret
  refine ⟨?_, rfl⟩
  unfold rotI
  rw [bits_or_comm]
  rfl
theorem results_cell2 {P : Program} {fn : Func} {p q : Tmp} {ty uy : TypeId} (h : fn.results = #[.cell p ty, .cell q uy]) (tmps : Array Value) (w : World) (g g2 : Nat) (t t2 : TypeId) (cs cs2 : Array Value) (fr fr2 : Nat × Nat) (d d2 : TypeDesc)
    (hp : tmps.getD p undef = .pointer (some ⟨g, 0, none⟩)) (hg : w.heap[g]? = some (.cells cs t fr))
    (hu : P.underlying ty = some d) (hd : (match d with | .struct _ | .array _ _ => true | _ => false) = true) (hi : (P.info? ty).map (·.size) = some cs.size)
    (hp2 : tmps.getD q undef = .pointer (some ⟨g2, 0, none⟩)) (hg2 : w.heap[g2]? = some (.cells cs2 t2 fr2))
    (hu2 : P.underlying uy = some d2) (hd2 : (match d2 with | .struct _ | .array _ _ => true | _ => false) = true) (hi2 : (P.info? uy).map (·.size) = some cs2.size) :
    (results fn tmps).run P w = .ok (.tuple #[.agg cs, .agg cs2]) w := by
  have hp' : tmps[p]?.getD undef = .pointer (some ⟨g, 0, none⟩) := by simpa using hp
  have hp2' : tmps[q]?.getD undef = .pointer (some ⟨g2, 0, none⟩) := by simpa using hp2
  simp [results, h, hp', hp2', asAddr, run_loadVar_row w g t ty cs fr d hg hu hd hi, run_loadVar_row w g2 t2 uy cs2 fr2 d2 hg2 hu2 hd2 hi2]
set_option maxHeartbeats 1000000 in
theorem rconsts_any (w : World) : Calls Tryz.prog 105 #[] w fun e w' => e = .returned (.tuple #[.agg (rowOf .u32 64 KT), .agg (rowOf .u32 8 BT)]) ∧ Below w.heap.size w w' := by
  go_enter Tryz.func105, Tryz.ntmps105
  go_upto_region 1 with (fail)
  rw [zeros64, zeros8]
  have h1 := (RowAt.new w .u32 64 148 (fun _ => 0)).alloc (.cells (rowOf .u32 8 (fun _ => 0)) 149)
  have h2 := RowAt.new (w.alloc (.cells (rowOf .u32 64 (fun _ => 0)) 148)) .u32 8 149 (fun _ => 0)
  have hB := (below_alloc w (.cells (rowOf .u32 64 (fun _ => 0)) 148)).trans ((below_alloc _ (.cells (rowOf .u32 8 (fun _ => 0)) 149)).mono (by simp))
  rw [shSize_alloc] at h2
  generalize (w.alloc (.cells (rowOf .u32 64 (fun _ => 0)) 148)).alloc (.cells (rowOf .u32 8 (fun _ => 0)) 149) = w1 at *
  have H1 := Lib.hid h1
  have H2 := Lib.hid h2
  have HB := Lib.hid hB
  clear h1 h2 hB
  go_wp2_with (first
    | (refine wpList_store_row rfl 148 (.tmp 0) (.tmp 2) rfl w.heap.size (rowOf .u32 64 KT) rfl rfl 148 _ H1.out (by rw [rowOf_size]; kernel_rfl) (by rw [rowOf_size, rowOf_size]) (rowOf_one _ _ _) ?_)
    | (refine wpList_store_row rfl 149 (.tmp 1) (.tmp 3) rfl (w.heap.size + 1) (rowOf .u32 8 BT) rfl rfl 149 _ ((setRow_other _ _ _ _ (by omega)).trans H2.out) (by rw [rowOf_size]; kernel_rfl) (by rw [rowOf_size, rowOf_size]) (rowOf_one _ _ _) ?_))
  refine bodyPost_ret (results_cell2 rfl _ _ w.heap.size (w.heap.size + 1) 148 149 (rowOf .u32 64 KT) (rowOf .u32 8 BT) (0, 0) (0, 0) _ _ rfl ((setRow_other _ _ _ _ (by omega)).trans (setRow_heap _ _ _ _ _ _ H1.out)) Tryz.underlying148 rfl (by rw [rowOf_size]; kernel_rfl)
    rfl (setRow_heap _ _ _ _ _ _ ((setRow_other _ _ _ _ (by omega)).trans H2.out)) Tryz.underlying149 rfl (by rw [rowOf_size]; kernel_rfl)) rfl ?_
  exact ⟨rfl, below_setRow (below_setRow HB.out (Nat.le_refl _) _) (by omega) _⟩
end Go.Proofs.YteokgklfljhcaaaGreatDoor

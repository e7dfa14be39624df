/- The reference's Leaf. -/
import Derived.Test.YtbppainejdphpaaDoorShRefS
import Derived.Test.YtbppainejdphpaaDoorApp
namespace Go.Proofs.YtbppainejdphpaaDoor
open Go.RowKit
set_option maxRecDepth 100000
set_option maxHeartbeats 1000000 in
theorem rleaf_any (v : Value) (xs : List Int) (w : World) (hx : BytesIn w v xs) (hl : xs.length + 81 ≤ 140737488355328) :
    Calls Tryd.prog 20 #[v] w fun e w' => e = .returned (.agg (rowOf .u8 32 (sumF (0 :: xs)))) ∧ Below w.heap.size w w' := by
  have HL := Lib.hid hl
  have HB0 := Lib.hid ((below_alloc w (.cells (rowOf .u8 32 (fun _ => 0)) 25)).trans ((below_alloc _ (.cells #[.int .u8 0] 5)).mono (by simp)))
  have HX := Lib.hid (hx.below HB0.out)
  have HR := Lib.hid ((RowAt.new w .u8 32 25 (fun _ => 0)).alloc (.cells #[.int .u8 0] 5))
  have HO := Lib.hid (show ((w.alloc (.cells (rowOf .u8 32 (fun _ => 0)) 25)).alloc (.cells #[.int .u8 0] 5)).ownsRow (w.heap.size + 1) 5 1 (.slice (some ⟨w.heap.size + 1, 0, none⟩) 1 1) 1 [.int .u8 0] by
    have h := World.ownsRow_lit (w := w.alloc (.cells (rowOf .u8 32 (fun _ => 0)) 25)) (base := w.heap.size + 1) (e := 5) (size := 1) #[.int .u8 0] 1 (by simp) (by simp [maxLen]) rfl
    rw [shSize_alloc] at h
    exact h)
  clear hx hl
  go_enter Tryd.func20, Tryd.ntmps20
  go_upto_region 1 with (fail)
  rw [zeros32]
  go_wp2_with (first
    | (at_builtin; refine wpList_append_bytes rfl (.tmp 3) (.tmp 4) rfl rfl (w.heap.size + 1) _ 1 [.int .u8 0] rfl HO.out v xs rfl HX.out (by have := HL.out; omega) (by simp) ?_; intro v' w1 ho hg _; have HX1 := Lib.hid (owns_in (xs := 0 :: xs) (by have h := ho; rw [Nat.add_comm 1 xs.length] at h; exact h) (by have := HL.out; unfold maxLen; simp; omega)); have HB1 := Lib.hid (HB0.out.grown hg HB0.out.size (fun k hk => by have := (HO.out.lt k hk).1; omega)); have HR1 := Lib.hid (show RowAt w1 w.heap.size .u8 32 25 (fun _ => 0) from (hg.block _ HR.out.lt (fun e => by have := (HO.out.lt _ e.symm).1; omega)).trans HR.out); clear ho hg)
    | (go_at_call 5; (with_reducible refine (rsum_any _ _ _ HX1.out (by have := HL.out; simp; omega)).mono ?_); rintro e w2 ⟨rfl, hb⟩; replace HR1 := Lib.hid (HR1.out.below hb HR1.out.lt); replace HB1 := Lib.hid (HB1.out.trans (hb.mono HB1.out.size)); clear hb)
    | (refine wpList_store_row rfl 25 (.tmp 2) (.tmp 6) rfl w.heap.size _ rfl rfl 25 _ HR1.out (by rw [rowOf_size]; kernel_rfl) (by rw [rowOf_size, rowOf_size]) (rowOf_one _ _ _) ?_))
  refine bodyPost_ret (results_cell_row rfl _ _ w.heap.size 25 (rowOf .u8 32 (sumF (0 :: xs))) (0, 0) _ rfl (setRow_heap _ _ _ _ _ _ HR1.out) Tryd.underlying25 rfl (by rw [rowOf_size]; kernel_rfl)) rfl ?_
  exact ⟨rfl, below_setRow HB1.out (Nat.le_refl _) _⟩
end Go.Proofs.YtbppainejdphpaaDoor

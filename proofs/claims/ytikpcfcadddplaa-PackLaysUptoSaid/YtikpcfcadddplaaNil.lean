/- The methods on a nil Writer, where PackLays calls them. -/
import Derived.Test.YtikpcfcadddplaaPart
namespace Go.Proofs.Ytikpcfcadddplaa
open Go.RowKit
set_option maxRecDepth 100000
theorem add_nil (y : Value) (w : World) : Calls Try.prog 31 #[.pointer none, y] w fun e w' => e = .returned (.pointer none) ∧ w' = w := by
  go_enter Try.func31, Try.ntmps31
  go_wp2
  go_ret
  exact ⟨rfl, rfl⟩
theorem done_nil (w : World) : Calls Try.prog 8 #[.pointer none] w fun e w' => e = .returned (.slice none 0 0) ∧ w' = w := by
  go_enter Try.func8, Try.ntmps8
  go_wp2
  go_ret
  exact ⟨rfl, rfl⟩
theorem uint_nil (n : Int) (h0 : 0 ≤ n) (h1 : n < 128) (w : World) : Calls Try.prog 9 #[.pointer none, .int .u64 n] w fun e w' => e = .returned (.pointer none) ∧ Below w.heap.size w w' := by
  have HB := Lib.hid (below_alloc w (.cells (rowOf .u8 10 (fun _ => 0)) 61))
  have HR := Lib.hid (RowAt.new w .u8 10 61 (fun _ => 0))
  have hsl := sliceA10 w.heap.size 1 (by omega)
  have hn : ¬ 128 ≤ n := by omega
  go_enter Try.func9, Try.ntmps9
  go_upto_region 2 with (fail)
  rw [zeros10]
  generalize w.alloc (.cells (rowOf .u8 10 (fun _ => 0)) 61) = w1 at *
  have hc := HR.out.cell 0 (by omega)
  have hf := HR.out.free 0
  go_wp2_with (fail)
  refine wp_loop_rounds 1 ?_
  rw [rounds_succ]
  go_wp2_with (go_at_call 31; (with_reducible refine (add_nil _ _).mono ?_); rintro e w2 ⟨rfl, rfl⟩)
  go_ret
  exact ⟨rfl, HB.out.setCell (p := ⟨w.heap.size, 0, none⟩) (Nat.le_refl _) _⟩
theorem int_nil (w : World) : Calls Try.prog 10 #[.pointer none, .int .i64 1] w fun e w' => e = .returned (.pointer none) ∧ Below w.heap.size w w' := by
  have H := Lib.hid (uint_nil 2 (by decide) (by decide) w)
  go_enter Try.func10, Try.ntmps10
  go_wp2_with (go_at_call 9; (with_reducible refine H.out.mono ?_); rintro e w2 ⟨rfl, hb⟩; replace hb := Lib.hid hb)
  go_ret
  exact ⟨rfl, hb.out⟩
theorem bool_nil (w : World) : Calls Try.prog 13 #[.pointer none, .bool true] w fun e w' => e = .returned (.pointer none) ∧ Below w.heap.size w w' := by
  go_enter Try.func13, Try.ntmps13
  go_wp2_with (go_at_call 31; (with_reducible refine (add_nil _ _).mono ?_); rintro e w2 ⟨rfl, rfl⟩)
  go_ret
  exact ⟨rfl, below_alloc w _⟩
theorem hash_nil (f : Nat → Int) (w : World) : Calls Try.prog 12 #[.pointer none, .agg (rowOf .u8 32 f)] w fun e w' => e = .returned (.pointer none) ∧ Below w.heap.size w w' := by
  go_enter Try.func12, Try.ntmps12
  go_wp2_with (go_at_call 31; (with_reducible refine (add_nil _ _).mono ?_); rintro e w2 ⟨rfl, rfl⟩)
  go_ret
  exact ⟨rfl, below_alloc w _⟩
theorem bytes_nil (a : Option Addr) (c : Nat) (w : World) : Calls Try.prog 15 #[.pointer none, .slice a 1 c] w fun e w' => e = .returned (.pointer none) ∧ Below w.heap.size w w' := by
  have H := Lib.hid (uint_nil 1 (by decide) (by decide) w)
  go_enter Try.func15, Try.ntmps15
  go_wp2_with (first
    | (go_at_call 9; (with_reducible refine H.out.mono ?_); rintro e w2 ⟨rfl, hb⟩; replace hb := Lib.hid hb)
    | (go_at_call 31; (with_reducible refine (add_nil _ _).mono ?_); rintro e w3 ⟨rfl, rfl⟩))
  go_ret
  exact ⟨rfl, hb.out⟩
theorem text_nil (w : World) : Calls Try.prog 11 #[.pointer none, .string { data := #[97] }] w fun e w' => e = .returned (.pointer none) ∧ Below w.heap.size w w' := by
  have HB := Lib.hid (bytesW_below w { data := #[97] })
  have H := Lib.hid (bytes_nil (some ⟨w.heap.size, 0, none⟩) (grownCap w 1 0 5) (bytesW w { data := #[97] }))
  have hcv : ∀ w : World, (convert 9 25 (.string { data := #[97] })).run Try.prog w = .ok (.slice (some ⟨w.heap.size, 0, none⟩) 1 (grownCap w 1 0 5)) (bytesW w { data := #[97] }) :=
    fun w => run_bytes_of_string w 9 25 5 { data := #[97] } Try.underlying9 Try.underlying25 Try.underlying5
  go_enter Try.func11, Try.ntmps11
  go_wp2_with (go_at_call 15; (with_reducible refine H.out.mono ?_); rintro e w2 ⟨rfl, hb⟩; replace hb := Lib.hid hb)
  go_ret
  exact ⟨rfl, HB.out.trans (hb.out.mono HB.out.size)⟩
#print axioms text_nil
end Go.Proofs.Ytikpcfcadddplaa

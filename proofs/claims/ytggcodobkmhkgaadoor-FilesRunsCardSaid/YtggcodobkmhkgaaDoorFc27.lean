/- Part 27 of the proof. -/
import Derived.Test.YtggcodobkmhkgaaDoorFc25
namespace Go.Proofs.YtggcodobkmhkgaaDoor
set_option linter.unusedVariables false
set_option linter.unusedSimpArgs false
open Go.RowKit Go.Maps Go.Proofs
set_option maxRecDepth 100000
set_option maxHeartbeats 4000000 in
theorem read4_any (lv : Value) (r : RSt) (s : ByteArray) (w : World) (hL : FilesIn w lv r.L) (hs : s.size ≤ maxLen) (hz : (getN r s).1.sf.size ≤ 16777216 ∧ (getN r s).1.ls.size ≤ 16777216) :
    Calls Tryd.prog 47 #[rsV lv r, .string s] w fun e w' => e = .returned (.tuple #[.string ((getN r s).1.sf ++ (getN r s).1.ls), .int .i64 ((getN r s).1.sf.size : Int), .int .i64 ((getN r s).2 : Int)]) ∧ Below w.heap.size w w' := by
  have HG := Lib.hid (fun w (h : FilesIn w lv r.L) => get4_any lv r s w h hs)
  obtain ⟨x, c, hxc⟩ : ∃ x c, getN r s = (x, c) := ⟨_, _, rfl⟩
  rw [hxc] at HG hz ⊢
  obtain ⟨xn, xs, xl⟩ := x
  obtain ⟨L, st, ar, lf, dn⟩ := r
  simp only at hL HG hz ⊢
  obtain ⟨a, cap, rfl, _⟩ := hL.lies
  have HL := Lib.hid hL
  unfold rsV rsC RF.v at *
  have hz1 : (xs.size : Int) ≤ 16777216 := by omega
  have hz2 : (xl.size : Int) ≤ 16777216 := by omega
  have hcat : ¬ (9223372036854775807 : Int) < xs.size + xl.size := by omega
  clear hL hs hz hxc
  go_enter Tryd.func47, Tryd.ntmps47
  go_upto_region 2 with (first | (go_at_call 75; (with_reducible refine (HG.out _ (HL.out.below (Below.alloc0 (Below.refl _ _) _))).mono ?_); rintro e w2 ⟨rfl, hb2⟩; have HB2 := Lib.hid ((Below.alloc0 (Below.refl _ _) _).trans (hb2.mono (by simp))); clear hb2))
  have hb3 := Below.alloc0 HB2.out (.cells #[.string xn, .string xs, .string xl] 111)
  have hx3 := heap_alloc_new w2 (.cells #[.string xn, .string xs, .string xl] 111)
  generalize w2.alloc (.cells #[.string xn, .string xs, .string xl] 111) = w3 at *
  obtain ⟨x0, x1, x2, f0, f1, f2⟩ := rf_fields hx3
  have HB3 := Lib.hid hb3
  clear hx3 hb3 HB2
  go_quiet (fail)
  go_wp2_with (fail)
  go_ret3
  have h := HB3.out
  exact ⟨rfl, h.os, h.tape, h.output, h.size, h.block⟩
end Go.Proofs.YtggcodobkmhkgaaDoor

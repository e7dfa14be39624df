/- the law's sure(). -/
import Derived.Test.YtlgjeledcnhmnaaDoorWoFrom
import Derived.Test.YtlgjeledcnhmnaaDoorEq32
import Derived.BigFrame
namespace Go.Proofs.YtlgjeledcnhmnaaDoor
open Go.RowKit
set_option maxRecDepth 100000
theorem wpList_load_row_want {ops : Array Oper} {rest : List Oper} {op : Oper} {a : Act} {w : World} {Q : Exit → Act → World → Prop} (hw : Region.wanted op (yielded ops a.tmps) = true) (ty : TypeId) (x : Operand) (ho : op.op = .load ty x)
    (b : Nat) (hx : a.eval x = .pointer (some ⟨b, 0, none⟩)) (k : IntKind) (n : Nat) (f : Nat → Int) (d : TypeDesc) (R : RowAt w b k n ty f)
    (hu : Tryd.prog.underlying ty = some d) (hd : d.isRow = true) (hi : (Tryd.prog.info? ty).map (·.size) = some n)
    (h : wpList Tryd.prog ops Q rest (a.put op.dst (.agg (rowOf k n f))) w) : wpList Tryd.prog ops Q (op :: rest) a w :=
  BigFrame.wpList_want hw fun _ hK => wp_load_mid ty x ho b 0 hx (rowOf k n f).toList d R.range hu hd (by rw [hi]; simp [rowOf]) (hK _ _ (by simpa using h))
theorem below_drew {w w' : World} {n : Nat} (h : w' = w.drewN n) : Below w.heap.size w w' := by subst h; exact ⟨rfl, rfl, rfl, Nat.le_refl _, fun _ _ => rfl⟩
theorem digF18 : natInts (digF [18]) = [1, 2, 0, 1, 11] := by decide
set_option maxHeartbeats 4000000 in
theorem wsure_any (w : World) (he : Env w) : Calls Tryd.prog 20 #[] w fun e w' => e = .returned (.bool true) ∧ Below w.heap.size w w' := by
  have HE := Lib.hid he
  have B18 := Lib.hid (show bytesOk [18] by intro x hx; simp at hx; omega)
  have HEQ := Lib.hid (from_sign zF 1 [18] B18.out (by decide))
  clear he
  obtain ⟨P, hP⟩ : ∃ P, P = pubF zF 1 1 := ⟨_, rfl⟩
  have HPE := Lib.hid (show fromF (signF zF 1 [18]) 1 [18] = P by rw [hP]; exact HEQ.out)
  replace hP := Lib.hid hP
  have heq := eq32_self P
  go_enter Tryd.func20, Tryd.ntmps20
  go_wp2_with (first
    | (go_at_call 13; rw [zeros32']; refine (wsign_ok zF 1 _ [18] _ (HE.out.below (below_alloc _ _) HE.out.lt) ⟨by decide, by decide⟩ (one_in _ 18) B18.out ⟨by decide, by decide⟩).mono ?_; rintro e w1 ⟨vs, rfl, ho, hb⟩; simp only [errV]; have HS := Lib.hid (owns_in ho (by rw [signF, chainsF_length]; decide)); have HB := Lib.hid ((below_alloc w _).trans (hb.mono (by simp))); replace HE := Lib.hid (HE.out.below HB.out HE.out.lt); clear ho hb)
    | (go_at_call 11; rw [zeros32']; refine (wpublic_ok zF 1 1 _ HE.out ⟨by decide, by decide⟩ ⟨by decide, by decide⟩).mono ?_; rintro e w2 ⟨rfl, hb⟩; simp only [okV, errV, ← hP.out]; replace HS := Lib.hid (HS.out.below hb); replace HE := Lib.hid (HE.out.below hb HE.out.lt); replace HB := Lib.hid (HB.out.trans (hb.mono HB.out.size)); clear hb)
    | (refine wpList_store_row rfl 23 (.tmp 3) (.tmp 16) rfl w2.heap.size (rowOf .u8 32 P) rfl rfl 23 _ (heap_alloc_new _ _) (by rw [rowOf_size]; kernel_rfl) rfl (rowOf_one _ _ _) ?_; rw [World.setRow_alloc_new]; have R1 := Lib.hid (RowAt.new w2 .u8 32 23 P); have hb := below_alloc w2 (.cells (rowOf .u8 32 P) 23); replace HS := Lib.hid (HS.out.below hb); replace HE := Lib.hid (HE.out.below hb HE.out.lt); replace HB := Lib.hid (HB.out.trans (hb.mono HB.out.size)); clear hb; generalize w2.alloc (.cells (rowOf .u8 32 P) 23) = w3 at *)
    | (go_at_call 21; refine (wfrom_ok _ (signF zF 1 [18]) 1 _ [18] _ (HE.out.below (below_alloc _ _) HE.out.lt) ⟨by decide, by decide⟩ (HS.out.below (below_alloc _ _)) (one_in _ 18) B18.out ⟨by decide, by decide⟩ (by rw [signF, chainsF_length]; decide)).mono ?_; rintro e w4 ⟨rfl, hb0⟩; rw [HPE.out]; simp only [okV, errV]; have hb := (below_alloc w3 _).trans (hb0.mono (by simp)); replace R1 := Lib.hid (R1.out.below hb R1.out.lt); replace HE := Lib.hid (HE.out.below hb HE.out.lt); replace HB := Lib.hid (HB.out.trans (hb.mono HB.out.size)); clear hb hb0)
    | (refine wpList_store_row rfl 23 (.tmp 5) (.tmp 22) rfl w4.heap.size (rowOf .u8 32 P) rfl rfl 23 _ (heap_alloc_new _ _) (by rw [rowOf_size]; kernel_rfl) rfl (rowOf_one _ _ _) ?_; rw [World.setRow_alloc_new]; have R2 := Lib.hid (RowAt.new w4 .u8 32 23 P); have hb := below_alloc w4 (.cells (rowOf .u8 32 P) 23); replace R1 := Lib.hid (R1.out.below hb R1.out.lt); replace HE := Lib.hid (HE.out.below hb HE.out.lt); replace HB := Lib.hid (HB.out.trans (hb.mono HB.out.size)); clear hb; generalize w4.alloc (.cells (rowOf .u8 32 P) 23) = w5 at *)
    | (go_at_call 17; refine (wdigits_ok _ [18] _ (one_in _ 18) B18.out (by decide) (by decide)).mono ?_; rintro e w6 ⟨vd, rfl, ho, hb0⟩; rw [digF18] at ho; have hb := (below_alloc w5 _).trans (hb0.mono (by simp)); have HI := Lib.hid (owns_ints ho (by decide)); replace R1 := Lib.hid (R1.out.below hb R1.out.lt); replace R2 := Lib.hid (R2.out.below hb R2.out.lt); replace HB := Lib.hid (HB.out.trans (hb.mono HB.out.size)); clear hb hb0 ho)
    | (go_at_call 16; refine (ints_same _ _ [1, 2, 0, 1, 11] _ (HI.out.below (below_alloc _ _)) (lits_in w6 [1, 2, 0, 1, 11] (by decide)) (by decide)).mono ?_; rintro e w7 ⟨rfl, n7, h7⟩; have hb := (below_alloc w6 _).trans ((below_drew h7).mono (by simp)); replace R1 := Lib.hid (R1.out.below hb R1.out.lt); replace R2 := Lib.hid (R2.out.below hb R2.out.lt); replace HB := Lib.hid (HB.out.trans (hb.mono HB.out.size)); clear hb h7)
    | (refine wpList_load_row_want rfl 23 (.tmp 3) rfl _ rfl .u8 32 P _ R1.out Tryd.underlying23 rfl (by kernel_rfl) ?_)
    | (refine wpList_load_row_want rfl 23 (.tmp 5) rfl _ rfl .u8 32 P _ R2.out Tryd.underlying23 rfl (by kernel_rfl) ?_))
  go_ret
  exact ⟨rfl, HB.out⟩
#print axioms wsure_any
end Go.Proofs.YtlgjeledcnhmnaaDoor

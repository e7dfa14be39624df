/- WotsBack: what lies in memory; the walk where there is no leaf or no digest. -/
import Derived.Test.YtlgjeledcnhmnaaDoorWoSure
import Derived.Test.YtlgjeledcnhmnaaDoorArr
import Derived.Test.YtlgjeledcnhmnaaDoorTwin
import Derived.Test.YtlgjeledcnhmnaaDoorStr
import Derived.Deep.DeepCutAuto
namespace Go.Proofs.YtlgjeledcnhmnaaDoor
open Go.RowKit
set_option maxRecDepth 100000
structure BackM (w w' : World) (F : Nat → Int) (leaf : Int) (v : Value) (xs : List Int) (vo : Value) (ys : List Int) : Prop where
  hc : w'.heap[w.heap.size]? = some (.cells (caseC F leaf v) 26 (0, 0))
  xin : BytesIn w' v xs
  yin : BytesIn w' vo ys
  env : Env w'
  below : Below w.heap.size w w'
variable {w w' : World} {F : Nat → Int} {leaf : Int} {v vo : Value} {xs ys : List Int}
theorem BackM.call {w2 : World} (m : BackM w w' F leaf v xs vo ys) (h : Below w'.heap.size w' w2) : BackM w w2 F leaf v xs vo ys :=
  ⟨(h.block _ (Array.getElem?_eq_some_iff.1 m.hc).1).trans m.hc, m.xin.below h, m.yin.below h, m.env.below h m.env.lt, m.below.trans (h.mono m.below.size)⟩
theorem BackM.seed (m : BackM w w' F leaf v xs vo ys) : w'.rangeAt w.heap.size 0 (rowOf .u8 32 F).toList := fun j u hu => by
  rw [Nat.zero_add, cell_of_row w' _ j _ _ _ m.hc]
  have hj : j < 32 := by have := (List.getElem?_eq_some_iff.1 hu).1; simpa [rowOf] using this
  unfold caseC
  rw [Array.getElem?_append_left (by rw [rowOf_size]; exact hj)]
  simpa using hu
theorem BackM.leafc (m : BackM w w' F leaf v xs vo ys) : w'.cell? ⟨w.heap.size, 32, none⟩ = some (.int .i64 leaf) := by
  rw [cell_of_row w' _ 32 _ _ _ m.hc]
  unfold caseC
  rw [Array.getElem?_append_right (by rw [rowOf_size]; omega), rowOf_size]
  rfl
theorem BackM.digc (m : BackM w w' F leaf v xs vo ys) : w'.cell? ⟨w.heap.size, 33, none⟩ = some v := by
  rw [cell_of_row w' _ 33 _ _ _ m.hc]
  unfold caseC
  rw [Array.getElem?_append_right (by rw [rowOf_size]; omega), rowOf_size]
  rfl
theorem back_start (he : Env w) (hx : BytesIn w v xs) (hy : BytesIn w vo ys) : BackM w (w.alloc (.cells (caseC F leaf v) 26)) F leaf v xs vo ys :=
  ⟨heap_alloc_new w _, hx.below (below_alloc w _), hy.below (below_alloc w _), he.below (below_alloc w _) he.lt, below_alloc w _⟩
theorem row_yields_mid {ops : Array Oper} {S : World → Prop} {op : Oper} {a : Act} (hw : Region.wanted op (yielded ops a.tmps) = true) (ty : TypeId) (x : Operand) (ho : op.op = .load ty x)
    (b o : Nat) (hx : a.eval x = .pointer (some ⟨b, o, none⟩)) (k : IntKind) (n : Nat) (f : Nat → Int) (d : TypeDesc) (hS : ∀ w, S w → w.rangeAt b o (rowOf k n f).toList)
    (hu : Tryd.prog.underlying ty = some d) (hd : d.isRow = true) (hi : (Tryd.prog.info? ty).map (·.size) = some n) : YieldsIf Tryd.prog ops S op (.agg (rowOf k n f)) a := by
  have h := yieldsIf_load_mid (P := Tryd.prog) (S := S) hw ty x ho b o hx (rowOf k n f).toList d hS hu hd (by rw [hi]; simp [rowOf])
  simpa using h
theorem wpList_load_rowmid {ops : Array Oper} {rest : List Oper} {op : Oper} {a : Act} {w : World} {Q : Exit → Act → World → Prop} (hgd : op.guard = none) (ty : TypeId) (x : Operand) (ho : op.op = .load ty x)
    (b o : Nat) (hx : a.eval x = .pointer (some ⟨b, o, none⟩)) (k : IntKind) (n : Nat) (f : Nat → Int) (d : TypeDesc) (hc : w.rangeAt b o (rowOf k n f).toList)
    (hu : Tryd.prog.underlying ty = some d) (hd : d.isRow = true) (hi : (Tryd.prog.info? ty).map (·.size) = some n)
    (h : wpList Tryd.prog ops Q rest (a.put op.dst (.agg (rowOf k n f))) w) : wpList Tryd.prog ops Q (op :: rest) a w :=
  wpList_load_mid hgd ty x ho b o hx (rowOf k n f).toList d hc hu hd (by rw [hi]; simp [rowOf]) (by simpa using h)
set_option maxHeartbeats 4000000 in
theorem back_no (F : Nat → Int) (leaf : Int) (a : Option Addr) (n cap : Nat) (xs : List Int) (vo : Value) (ys : List Int) (w : World) (he : Env w) (hx : BytesIn w (.slice a n cap) xs) (hy : BytesIn w vo ys) (hn : xs.length = n) (hl : n ≤ 140737488355328)
    (h : ¬ (0 ≤ leaf ∧ leaf < 1024 ∧ 1 ≤ n ∧ n ≤ 32)) :
    Calls Tryd.prog 5 #[.agg (caseC F leaf (.slice a n cap)), vo] w fun e w' => e = .returned (.bool true) ∧ Below w.heap.size w w' := by
  have M := Lib.hid (back_start (F := F) (leaf := leaf) he hx hy)
  have HN := Lib.hid hn
  have HL := Lib.hid hl
  have HC := Lib.hid h
  have HCI := Lib.hid (show ¬ (0 ≤ leaf ∧ leaf < 1024 ∧ 1 ≤ (n : Int) ∧ (n : Int) ≤ 32) by omega)
  clear he hx hy hn hl h
  go_enter Tryd.func5, Tryd.ntmps5
  go_upto_region 1 with (fail)
  generalize w.alloc (.cells (caseC F leaf (.slice a n cap)) 26) = w1 at *
  refine wp_region_T (fun w' => BackM w w' F leaf (.slice a n cap) xs vo ys) [1, 3, 5, 6, 7] (by kernel_rfl) ?_
  replace M := Lib.hid (M.out.call (Below.refl _ _).drew)
  generalize w1.drew = w2 at *
  refine anyT_takeY (i := 0) (v := .pointer (some ⟨w.heap.size, 0, none⟩)) rfl (by kernel_rfl) (by kernel_rfl) (by kernel_rfl) (fun _ _ _ h => h) (by kernel_rfl) (Or.inl ⟨by rfl, by intro w; go_simp⟩) ?_
  try simp only [List.getElem_toArray, List.getElem_cons_succ, List.getElem_cons_zero, Act.put, List.setIfInBounds_toArray, List.set_cons_zero, List.set_cons_succ]
  refine anyT_takeY (i := 2) (v := .pointer (some ⟨w.heap.size, 32, none⟩)) rfl (by kernel_rfl) (by kernel_rfl) (by kernel_rfl) (fun _ _ _ h => h) (by kernel_rfl) (Or.inl ⟨by rfl, by intro w; go_simp⟩) ?_
  try simp only [List.getElem_toArray, List.getElem_cons_succ, List.getElem_cons_zero, Act.put, List.setIfInBounds_toArray, List.set_cons_zero, List.set_cons_succ]
  refine anyT_takeY (i := 4) (v := .pointer (some ⟨w.heap.size, 33, none⟩)) rfl (by kernel_rfl) (by kernel_rfl) (by kernel_rfl) (fun _ _ _ h => h) (by kernel_rfl) (Or.inl ⟨by rfl, by intro w; go_simp⟩) ?_
  try simp only [List.getElem_toArray, List.getElem_cons_succ, List.getElem_cons_zero, Act.put, List.setIfInBounds_toArray, List.set_cons_zero, List.set_cons_succ]
  refine anyT_take [7, 8, 9, 10, 11, 12] (i := 1) (v := .agg (rowOf .u8 32 F)) rfl (by kernel_rfl) (by kernel_rfl) (by kernel_rfl) (fun _ _ _ h => h) (by kernel_rfl) (row_yields_mid (by rfl) 23 (.tmp 17) rfl w.heap.size 0 rfl .u8 32 F _ (fun _ h => h.seed) Tryd.underlying23 rfl (by kernel_rfl)) M.out ?_
  try simp only [List.getElem_toArray, List.getElem_cons_succ, List.getElem_cons_zero, Act.put, List.setIfInBounds_toArray, List.set_cons_zero, List.set_cons_succ]
  refine anyT_take [7, 8, 9, 10, 11, 12] (i := 3) (v := .int .i64 leaf) rfl (by kernel_rfl) (by kernel_rfl) (by kernel_rfl) (fun _ _ _ h => h) (by kernel_rfl) (Or.inl ⟨by rfl, fun w' hS => by have c1 := hS.leafc; go_simp⟩) M.out ?_
  try simp only [List.getElem_toArray, List.getElem_cons_succ, List.getElem_cons_zero, Act.put, List.setIfInBounds_toArray, List.set_cons_zero, List.set_cons_succ]
  refine anyT_take [6, 7, 8, 9, 10, 11, 12] (i := 5) (v := .slice a n cap) rfl (by kernel_rfl) (by kernel_rfl) (by kernel_rfl) (fun _ _ _ h => h) (by kernel_rfl) (Or.inl ⟨by rfl, fun w' hS => by have c1 := hS.digc; go_simp⟩) M.out ?_
  try simp only [List.getElem_toArray, List.getElem_cons_succ, List.getElem_cons_zero, Act.put, List.setIfInBounds_toArray, List.set_cons_zero, List.set_cons_succ]
  refine anyT_one (i := 6) (by kernel_rfl) rfl (fun K hK => ?_)
  rw [if_pos (by rfl)]
  try simp only [List.getElem_toArray, List.getElem_cons_succ, List.getElem_cons_zero]
  (go_simp; refine (twin_any _ xs _ M.out.xin (by rw [HN.out]; exact HL.out)).mono ?_; rintro e w3 ⟨vt, rfl, ho, hb⟩; rw [HN.out] at ho; obtain ⟨at_, ct, rfl⟩ := owns_wide ho; replace M := Lib.hid (M.out.call hb); clear ho hb)
  refine hK _ _ (fun _ => M.out) ?_
  clear hK K
  try simp only [List.getElem_toArray, List.getElem_cons_succ, List.getElem_cons_zero, Act.put, List.setIfInBounds_toArray, List.set_cons_zero, List.set_cons_succ]
  refine anyT_one (i := 7) (by kernel_rfl) rfl (fun K hK => ?_)
  rw [if_pos (by rfl)]
  try simp only [List.getElem_toArray, List.getElem_cons_succ, List.getElem_cons_zero]
  (go_simp; refine (wsign_no F leaf at_ n ct _ HC.out).mono ?_; rintro e w4 ⟨rfl, hb⟩; simp only [noB, errV]; replace M := Lib.hid (M.out.call hb); clear hb)
  refine hK _ _ (fun _ => M.out) ?_
  clear hK K
  try simp only [List.getElem_toArray, List.getElem_cons_succ, List.getElem_cons_zero, Act.put, List.setIfInBounds_toArray, List.set_cons_zero, List.set_cons_succ]
  refine anyT_takeY (i := 8) (v := .tuple #[.slice none 0 0, .iface 57 (.int .i64 ((1 : Nat) : Int))]) rfl (by kernel_rfl) (by kernel_rfl) (by kernel_rfl) (fun _ _ _ h => h) (by kernel_rfl) (Or.inl ⟨by rfl, by intro w; go_simp⟩) ?_
  try simp only [List.getElem_toArray, List.getElem_cons_succ, List.getElem_cons_zero, Act.put, List.setIfInBounds_toArray, List.set_cons_zero, List.set_cons_succ]
  refine anyT_takeY (i := 9) (v := .slice none 0 0) rfl (by kernel_rfl) (by kernel_rfl) (by kernel_rfl) (fun _ _ _ h => h) (by kernel_rfl) (Or.inl ⟨by rfl, by intro w; go_simp⟩) ?_
  try simp only [List.getElem_toArray, List.getElem_cons_succ, List.getElem_cons_zero, Act.put, List.setIfInBounds_toArray, List.set_cons_zero, List.set_cons_succ]
  refine anyT_takeY (i := 11) (v := .slice none 0 0) rfl (by kernel_rfl) (by kernel_rfl) (by kernel_rfl) (fun _ _ _ h => h) (by kernel_rfl) (Or.inl ⟨by rfl, by intro w; go_simp⟩) ?_
  try simp only [List.getElem_toArray, List.getElem_cons_succ, List.getElem_cons_zero, Act.put, List.setIfInBounds_toArray, List.set_cons_zero, List.set_cons_succ]
  refine anyT_takeY (i := 10) (v := .iface 57 (.int .i64 ((1 : Nat) : Int))) rfl (by kernel_rfl) (by kernel_rfl) (by kernel_rfl) (fun _ _ _ h => h) (by kernel_rfl) (Or.inl ⟨by rfl, by intro w; go_simp⟩) ?_
  try simp only [List.getElem_toArray, List.getElem_cons_succ, List.getElem_cons_zero, Act.put, List.setIfInBounds_toArray, List.set_cons_zero, List.set_cons_succ]
  refine anyT_takeY (i := 12) (v := .iface 57 (.int .i64 ((1 : Nat) : Int))) rfl (by kernel_rfl) (by kernel_rfl) (by kernel_rfl) (fun _ _ _ h => h) (by kernel_rfl) (Or.inl ⟨by rfl, by intro w; go_simp⟩) ?_
  try simp only [List.getElem_toArray, List.getElem_cons_succ, List.getElem_cons_zero, Act.put, List.setIfInBounds_toArray, List.set_cons_zero, List.set_cons_succ]
  refine anyT_done (by kernel_rfl) ?_ _
  have c1 := M.out.leafc
  have c2 := M.out.digc
  go_upto_region 3 with (first
    | (refine wpList_load_rowmid rfl 23 (.tmp 28) rfl w.heap.size 0 rfl .u8 32 F _ M.out.seed Tryd.underlying23 rfl (by kernel_rfl) ?_)
    | (go_at_call 11; (with_reducible refine (wpublic_no F leaf _ _ HCI.out).mono ?_); rintro e w5 ⟨rfl, hb⟩; simp only [noV, errV]; replace M := Lib.hid (M.out.call hb); clear hb)
    | (refine wpList_store_row rfl 23 (.tmp 7) (.tmp 36) rfl w5.heap.size (rowOf .u8 32 zF) rfl rfl 23 _ (heap_alloc_new _ _) (by rw [rowOf_size]; kernel_rfl) rfl (rowOf_one _ _ _) ?_; rw [World.setRow_alloc_new]; have R7 := Lib.hid (RowAt.new w5 .u8 32 23 zF); replace M := Lib.hid (M.out.call (below_alloc w5 (.cells (rowOf .u8 32 zF) 23))); generalize w5.alloc (.cells (rowOf .u8 32 zF) 23) = w6 at *))
  clear c1 c2
  have heq := eq32_self zF
  have hz := zeros32'
  go_wp2_with (first
    | (refine wpList_load_row_want rfl 23 (.tmp 7) rfl _ rfl .u8 32 zF _ R7.out Tryd.underlying23 rfl (by kernel_rfl) ?_)
    | (go_at_call 20; (with_reducible refine (wsure_any _ M.out.env).mono ?_); rintro e w7 ⟨rfl, hb⟩; replace M := Lib.hid (M.out.call hb); clear hb))
  go_ret
  exact ⟨rfl, M.out.below⟩
end Go.Proofs.YtlgjeledcnhmnaaDoor

/- Part 11 of the proof. -/
import Derived.Great.BuildSlice
import Derived.Test.YteokgklfljhcaaaGreatDoorBd3
import Derived.Test.YteokgklfljhcaaaGreatDoorBd7
import Derived.Test.YteokgklfljhcaaaGreatDoorBd9
import Derived.Test.YteokgklfljhcaaaGreatDoorBd10
namespace Go.Proofs.YteokgklfljhcaaaGreatDoor
set_option linter.unusedVariables false
set_option linter.unusedSimpArgs false
open Go.RowKit
set_option maxRecDepth 100000
set_option linter.unusedSimpArgs false
set_option linter.unusedVariables false
theorem bytes_own11 {w : World} {y : Value} {ys : List Int} (h : BytesIn w y ys) (hn : ys ≠ []) : ∀ k, y.ownBlock = some k → k < w.heap.size := by
  obtain ⟨a, c, rfl, _, _, hx⟩ := h
  intro k hk
  rcases hx with rfl | ⟨ab, ao, rfl, hx⟩
  · exact absurd rfl hn
  · obtain ⟨x, r, rfl⟩ : ∃ x r, ys = x :: r := by
      cases ys with
      | nil => exact absurd rfl hn
      | cons x r => exact ⟨x, r, rfl⟩
    have := World.block_lt_of_cell? _ _ (hx 0 x rfl)
    cases hk
    exact this
theorem apart_of {w0 X : World} {g : Nat} {v' sv : Value} {xs SG : List Int} (h : BytesIn w0 sv SG) (hn : SG ≠ []) (hg : w0.heap.size ≤ g) (hw : WAt X g v' xs) : Apart g v' sv := fun k hk => by
  have h1 := bytes_own11 h hn k hk
  refine ⟨by omega, fun e => ?_⟩
  have h2 := (hw.ne k e.symm).1
  omega
def catL {α : Type} (f : α → List Int) : List α → List Int
  | [] => []
  | x :: r => f x ++ catL f r
theorem catL_snoc {α : Type} (f : α → List Int) (x : α) : ∀ l : List α, catL f (l ++ [x]) = catL f l ++ f x
  | [] => by simp [catL]
  | y :: r => by rw [List.cons_append, catL, catL, catL_snoc f x r, List.append_assoc]
theorem catL_take {α : Type} (f : α → List Int) (l : List α) (k : Nat) (x : α) (h : l[k]? = some x) : catL f (l.take (k + 1)) = catL f (l.take k) ++ f x := by
  rw [List.take_add_one, h]; exact catL_snoc f x _
theorem catL_app {α : Type} (f : α → List Int) : ∀ a b : List α, catL f (a ++ b) = catL f a ++ catL f b
  | [], b => rfl
  | y :: r, b => by rw [List.cons_append, catL, catL, catL_app f r b, List.append_assoc]
theorem catL_room {α : Type} (f : α → List Int) (l : List α) (k : Nat) : (catL f (l.take k)).length ≤ (catL f l).length := by
  have := congrArg List.length (catL_app f (l.take k) (l.drop k))
  rw [List.take_append_drop, List.length_append] at this
  omega
def listL {α : Type} (f : α → List Int) (l : List α) : List Int := varint l.length ++ catL f l
/-- a slice of bytes among others -/
structure Tb where
  bv : Value
  bs : List Int
abbrev TbIn (w : World) (v : Value) (l : List Tb) : Prop := RowsIn 1 (fun t : Tb => [t.bv]) w v l
structure VoFl (v : Vo) : Prop where
  k : -9223372036854775808 ≤ v.kind ∧ v.kind ≤ 9223372036854775807
  h : -9223372036854775808 ≤ v.height ∧ v.height ≤ 9223372036854775807
  r : -9223372036854775808 ≤ v.round ∧ v.round ≤ 9223372036854775807
  vl : -9223372036854775808 ≤ v.val ∧ v.val ≤ 9223372036854775807
def vo1 (t : Vo) : List Int := voL t.kind t.height t.round t.blk t.val t.sign
def tb1 (t : Tb) : List Int := varint t.bs.length ++ t.bs
set_option maxHeartbeats 8000000 in
theorem wvote_any (KI : Int) (HT : Int) (RD : Int) (BK : Nat → Int) (VL : Int) (sv : Value) (SG : List Int) (g : Nat) (v : Value) (XS : List Int) (w : World) (hw : WAt w g v XS) (w0 : World) (hg : w0.heap.size ≤ g) (hB : Below w0.heap.size w0 w) (hsv : BytesIn w0 sv SG) (hKI : -9223372036854775808 ≤ KI ∧ KI ≤ 9223372036854775807) (hHT : -9223372036854775808 ≤ HT ∧ HT ≤ 9223372036854775807) (hRD : -9223372036854775808 ≤ RD ∧ RD ≤ 9223372036854775807) (hVL : -9223372036854775808 ≤ VL ∧ VL ≤ 9223372036854775807) (hl : XS.length + (voL KI HT RD BK VL SG).length + 10 ≤ 140737488355328) :
    Calls Tryz.prog 115 #[.pointer (some ⟨g, 0, none⟩), .agg (voD KI HT RD BK VL sv)] w fun e w' => e = .returned (.tuple #[]) ∧ WsR g v w (XS ++ voL KI HT RD BK VL SG) w' := by
  have HBA := Lib.hid (below_alloc w (.cells (voD KI HT RD BK VL sv) 99))
  have HQ := Lib.hid (show voS w.heap.size KI HT RD BK VL sv (w.alloc (.cells (voD KI HT RD BK VL sv) 99)) from heap_alloc_new w (.cells (voD KI HT RD BK VL sv) 99))
  have HW := Lib.hid (hw.below HBA.out)
  have HS := Lib.hid (WStep.of_below (p := g) (v := v) HBA.out)
  have HNE := Lib.hid (show w.heap.size ≠ g ∧ some w.heap.size ≠ v.ownBlock from ⟨by have := hw.lt; omega, fun e => by have := (hw.ne _ e.symm).2; omega⟩)
  have HQB := Lib.hid (show w.heap.size < (w.alloc (.cells (voD KI HT RD BK VL sv) 99)).heap.size by simp)
  simp only [voL, List.length_append, rowL32, numsOf_length] at hl
  have HL := Lib.hid hl
  have VKI := Lib.hid (glenT (zig_lt hKI.1 hKI.2))
  have IKI := Lib.hid hKI
  have VHT := Lib.hid (glenT (zig_lt hHT.1 hHT.2))
  have IHT := Lib.hid hHT
  have VRD := Lib.hid (glenT (zig_lt hRD.1 hRD.2))
  have IRD := Lib.hid hRD
  have VVL := Lib.hid (glenT (zig_lt hVL.1 hVL.2))
  have IVL := Lib.hid hVL
  have VSG := Lib.hid (glenT (n := SG.length) (by have := HL.out; omega))
  have HB0 := Lib.hid (hB.trans (HBA.out.mono hB.size))
  have HSV0 := Lib.hid hsv
  have HG := Lib.hid hg
  have HW1 := Lib.hid HW.out
  clear hsv hB hg
  clear hKI hHT hRD hVL hl hw HBA
  go_enter Tryz.func115, Tryz.ntmps115
  go_upto_region 1 with (fail)
  obtain ⟨q, hq⟩ : ∃ q, q = w.heap.size := ⟨_, rfl⟩
  rw [← hq] at HQ HNE HQB ⊢
  clear hq
  generalize w.alloc (.cells (voD KI HT RD BK VL sv) 99) = w1 at *
  have HSX := Lib.hid (show ∀ v' X, WStep g v v' w1 X → voS q KI HT RD BK VL sv X from fun v' X hs => (hs.block q HQB.out HNE.out.1 HNE.out.2).trans HQ.out)
  have HZ := Lib.hid (WStep.refl g v w1)
  have HSV := Lib.hid (show ∀ v' X xs, WStep g v v' w1 X → WAt X g v' xs → BytesIn X sv SG ∧ (SG ≠ [] → Apart g v' sv) from fun v' X xs hs hw' => ⟨HSV0.out.below (HB0.out.trans (hs.below HW1.out HG.out)), fun hn => apart_of HSV0.out hn HG.out hw'⟩)
  refine wp_region_T (voS q KI HT RD BK VL sv) [0, 1, 2, 3, 4, 5, 6, 7, 8, 9, 10, 11, 12, 13, 14, 15, 16, 17, 18] (by kernel_rfl) ?_
  replace HW := Lib.hid (HW.out.below (Below.refl _ _).drew)
  replace HS := Lib.hid (HS.out.trans (WStep.of_below (Below.refl _ _).drew))
  replace HZ := Lib.hid (HZ.out.trans (WStep.of_below (Below.refl _ _).drew))
  generalize World.drew _ = d0 at *
  refine anyT_take [] (i := 0) (v := .pointer (some ⟨g, 0, none⟩)) rfl (by kernel_rfl) (by kernel_rfl) (by kernel_rfl) (fun _ _ _ h => h) (by kernel_rfl) (Or.inl ⟨by rfl, fun w' _ => by go_simp⟩) (HSX.out _ _ HZ.out) ?_
  try simp only [List.getElem_toArray, List.getElem_cons_succ, List.getElem_cons_zero, Act.put, List.setIfInBounds_toArray, List.set_cons_zero, List.set_cons_succ]
  refine anyT_take [] (i := 1) (v := .pointer (some ⟨q, 0, none⟩)) rfl (by kernel_rfl) (by kernel_rfl) (by kernel_rfl) (fun _ _ _ h => h) (by kernel_rfl) (Or.inl ⟨by rfl, fun w' _ => by go_simp⟩) (HSX.out _ _ HZ.out) ?_
  try simp only [List.getElem_toArray, List.getElem_cons_succ, List.getElem_cons_zero, Act.put, List.setIfInBounds_toArray, List.set_cons_zero, List.set_cons_succ]
  refine anyT_take [] (i := 4) (v := .pointer (some ⟨q, 1, none⟩)) rfl (by kernel_rfl) (by kernel_rfl) (by kernel_rfl) (fun _ _ _ h => h) (by kernel_rfl) (Or.inl ⟨by rfl, fun w' _ => by go_simp⟩) (HSX.out _ _ HZ.out) ?_
  try simp only [List.getElem_toArray, List.getElem_cons_succ, List.getElem_cons_zero, Act.put, List.setIfInBounds_toArray, List.set_cons_zero, List.set_cons_succ]
  refine anyT_take [] (i := 7) (v := .pointer (some ⟨q, 2, none⟩)) rfl (by kernel_rfl) (by kernel_rfl) (by kernel_rfl) (fun _ _ _ h => h) (by kernel_rfl) (Or.inl ⟨by rfl, fun w' _ => by go_simp⟩) (HSX.out _ _ HZ.out) ?_
  try simp only [List.getElem_toArray, List.getElem_cons_succ, List.getElem_cons_zero, Act.put, List.setIfInBounds_toArray, List.set_cons_zero, List.set_cons_succ]
  refine anyT_take [] (i := 10) (v := .pointer (some ⟨q, 3, none⟩)) rfl (by kernel_rfl) (by kernel_rfl) (by kernel_rfl) (fun _ _ _ h => h) (by kernel_rfl) (Or.inl ⟨by rfl, fun w' _ => by go_simp⟩) (HSX.out _ _ HZ.out) ?_
  try simp only [List.getElem_toArray, List.getElem_cons_succ, List.getElem_cons_zero, Act.put, List.setIfInBounds_toArray, List.set_cons_zero, List.set_cons_succ]
  refine anyT_take [] (i := 13) (v := .pointer (some ⟨q, 35, none⟩)) rfl (by kernel_rfl) (by kernel_rfl) (by kernel_rfl) (fun _ _ _ h => h) (by kernel_rfl) (Or.inl ⟨by rfl, fun w' _ => by go_simp⟩) (HSX.out _ _ HZ.out) ?_
  try simp only [List.getElem_toArray, List.getElem_cons_succ, List.getElem_cons_zero, Act.put, List.setIfInBounds_toArray, List.set_cons_zero, List.set_cons_succ]
  refine anyT_take [] (i := 16) (v := .pointer (some ⟨q, 36, none⟩)) rfl (by kernel_rfl) (by kernel_rfl) (by kernel_rfl) (fun _ _ _ h => h) (by kernel_rfl) (Or.inl ⟨by rfl, fun w' _ => by go_simp⟩) (HSX.out _ _ HZ.out) ?_
  try simp only [List.getElem_toArray, List.getElem_cons_succ, List.getElem_cons_zero, Act.put, List.setIfInBounds_toArray, List.set_cons_zero, List.set_cons_succ]
  refine anyT_take [] (i := 2) (v := .int .i64 KI) rfl (by kernel_rfl) (by kernel_rfl) (by kernel_rfl) (fun _ _ _ h => h) (by kernel_rfl) (Or.inl ⟨by rfl, fun w' hS => by have c := (voD_cells hS).1; go_simp⟩) (HSX.out _ _ HZ.out) ?_
  try simp only [List.getElem_toArray, List.getElem_cons_succ, List.getElem_cons_zero, Act.put, List.setIfInBounds_toArray, List.set_cons_zero, List.set_cons_succ]
  refine anyT_take [] (i := 5) (v := .int .i64 HT) rfl (by kernel_rfl) (by kernel_rfl) (by kernel_rfl) (fun _ _ _ h => h) (by kernel_rfl) (Or.inl ⟨by rfl, fun w' hS => by have c := (voD_cells hS).2.1; go_simp⟩) (HSX.out _ _ HZ.out) ?_
  try simp only [List.getElem_toArray, List.getElem_cons_succ, List.getElem_cons_zero, Act.put, List.setIfInBounds_toArray, List.set_cons_zero, List.set_cons_succ]
  refine anyT_take [] (i := 8) (v := .int .i64 RD) rfl (by kernel_rfl) (by kernel_rfl) (by kernel_rfl) (fun _ _ _ h => h) (by kernel_rfl) (Or.inl ⟨by rfl, fun w' hS => by have c := (voD_cells hS).2.2.1; go_simp⟩) (HSX.out _ _ HZ.out) ?_
  try simp only [List.getElem_toArray, List.getElem_cons_succ, List.getElem_cons_zero, Act.put, List.setIfInBounds_toArray, List.set_cons_zero, List.set_cons_succ]
  refine anyT_take [] (i := 11) (v := .agg (rowOf .u8 32 BK)) rfl (by kernel_rfl) (by kernel_rfl) (by kernel_rfl) (fun _ _ _ h => h) (by kernel_rfl) (rowT_yields (by rfl) 23 (.tmp 14) rfl q 3 rfl _ _ (fun _ h => (voD_cells h).2.2.2.1) Tryz.underlying23 rfl (by rw [rowOf_size]; kernel_rfl)) (HSX.out _ _ HZ.out) ?_
  try simp only [List.getElem_toArray, List.getElem_cons_succ, List.getElem_cons_zero, Act.put, List.setIfInBounds_toArray, List.set_cons_zero, List.set_cons_succ]
  refine anyT_take [] (i := 14) (v := .int .i64 VL) rfl (by kernel_rfl) (by kernel_rfl) (by kernel_rfl) (fun _ _ _ h => h) (by kernel_rfl) (Or.inl ⟨by rfl, fun w' hS => by have c := (voD_cells hS).2.2.2.2.1; go_simp⟩) (HSX.out _ _ HZ.out) ?_
  try simp only [List.getElem_toArray, List.getElem_cons_succ, List.getElem_cons_zero, Act.put, List.setIfInBounds_toArray, List.set_cons_zero, List.set_cons_succ]
  refine anyT_take [] (i := 17) (v := sv) rfl (by kernel_rfl) (by kernel_rfl) (by kernel_rfl) (fun _ _ _ h => h) (by kernel_rfl) (Or.inl ⟨by rfl, fun w' hS => by have c := (voD_cells hS).2.2.2.2.2; go_simp⟩) (HSX.out _ _ HZ.out) ?_
  try simp only [List.getElem_toArray, List.getElem_cons_succ, List.getElem_cons_zero, Act.put, List.setIfInBounds_toArray, List.set_cons_zero, List.set_cons_succ]
  refine anyT_one (i := 3) (by kernel_rfl) rfl (fun K hK => ?_)
  rw [if_pos (by rfl)]
  try simp only [List.getElem_toArray, List.getElem_cons_succ, List.getElem_cons_zero]
  (go_simp; (with_reducible refine (wint_any g _ KI _ d0 HW.out IKI.out.1 IKI.out.2 (by have a := HL.out; have bVKI := VKI.out; have bVHT := VHT.out; have bVRD := VRD.out; have bVVL := VVL.out; have bVSG := VSG.out; (try simp only [List.length_append, rowL32, numsOf_length]); omega)).mono ?_); rintro e w0_0 hp; obtain ⟨rfl, v0_0, hw, hs⟩ := wpS_next hp; replace HW := Lib.hid hw; replace HS := Lib.hid (HS.out.trans hs); replace HZ := Lib.hid (HZ.out.trans hs); clear hp hw hs)
  refine hK _ _ (fun _ => HSX.out _ _ HZ.out) ?_
  clear hK K
  try simp only [List.getElem_toArray, List.getElem_cons_succ, List.getElem_cons_zero, Act.put, List.setIfInBounds_toArray, List.set_cons_zero, List.set_cons_succ]
  refine anyT_one (i := 6) (by kernel_rfl) rfl (fun K hK => ?_)
  rw [if_pos (by rfl)]
  try simp only [List.getElem_toArray, List.getElem_cons_succ, List.getElem_cons_zero]
  (go_simp; (with_reducible refine (wint_any g _ HT _ w0_0 HW.out IHT.out.1 IHT.out.2 (by have a := HL.out; have bVKI := VKI.out; have bVHT := VHT.out; have bVRD := VRD.out; have bVVL := VVL.out; have bVSG := VSG.out; (try simp only [List.length_append, rowL32, numsOf_length]); omega)).mono ?_); rintro e w0_1 hp; obtain ⟨rfl, v0_1, hw, hs⟩ := wpS_next hp; replace HW := Lib.hid hw; replace HS := Lib.hid (HS.out.trans hs); replace HZ := Lib.hid (HZ.out.trans hs); clear hp hw hs)
  refine hK _ _ (fun _ => HSX.out _ _ HZ.out) ?_
  clear hK K
  try simp only [List.getElem_toArray, List.getElem_cons_succ, List.getElem_cons_zero, Act.put, List.setIfInBounds_toArray, List.set_cons_zero, List.set_cons_succ]
  refine anyT_one (i := 9) (by kernel_rfl) rfl (fun K hK => ?_)
  rw [if_pos (by rfl)]
  try simp only [List.getElem_toArray, List.getElem_cons_succ, List.getElem_cons_zero]
  (go_simp; (with_reducible refine (wint_any g _ RD _ w0_1 HW.out IRD.out.1 IRD.out.2 (by have a := HL.out; have bVKI := VKI.out; have bVHT := VHT.out; have bVRD := VRD.out; have bVVL := VVL.out; have bVSG := VSG.out; (try simp only [List.length_append, rowL32, numsOf_length]); omega)).mono ?_); rintro e w0_2 hp; obtain ⟨rfl, v0_2, hw, hs⟩ := wpS_next hp; replace HW := Lib.hid hw; replace HS := Lib.hid (HS.out.trans hs); replace HZ := Lib.hid (HZ.out.trans hs); clear hp hw hs)
  refine hK _ _ (fun _ => HSX.out _ _ HZ.out) ?_
  clear hK K
  try simp only [List.getElem_toArray, List.getElem_cons_succ, List.getElem_cons_zero, Act.put, List.setIfInBounds_toArray, List.set_cons_zero, List.set_cons_succ]
  refine anyT_one (i := 12) (by kernel_rfl) rfl (fun K hK => ?_)
  rw [if_pos (by rfl)]
  try simp only [List.getElem_toArray, List.getElem_cons_succ, List.getElem_cons_zero]
  (go_simp; (with_reducible refine (whash_any g _ _ BK w0_2 HW.out (by have a := HL.out; have bVKI := VKI.out; have bVHT := VHT.out; have bVRD := VRD.out; have bVVL := VVL.out; have bVSG := VSG.out; (try simp only [List.length_append, rowL32, numsOf_length]); omega)).mono ?_); rintro e w0_3 hp; obtain ⟨rfl, v0_3, hw, hs⟩ := wpS_next hp; replace HW := Lib.hid hw; replace HS := Lib.hid (HS.out.trans hs); replace HZ := Lib.hid (HZ.out.trans hs); clear hp hw hs)
  refine hK _ _ (fun _ => HSX.out _ _ HZ.out) ?_
  clear hK K
  try simp only [List.getElem_toArray, List.getElem_cons_succ, List.getElem_cons_zero, Act.put, List.setIfInBounds_toArray, List.set_cons_zero, List.set_cons_succ]
  refine anyT_one (i := 15) (by kernel_rfl) rfl (fun K hK => ?_)
  rw [if_pos (by rfl)]
  try simp only [List.getElem_toArray, List.getElem_cons_succ, List.getElem_cons_zero]
  (go_simp; (with_reducible refine (wint_any g _ VL _ w0_3 HW.out IVL.out.1 IVL.out.2 (by have a := HL.out; have bVKI := VKI.out; have bVHT := VHT.out; have bVRD := VRD.out; have bVVL := VVL.out; have bVSG := VSG.out; (try simp only [List.length_append, rowL32, numsOf_length]); omega)).mono ?_); rintro e w0_4 hp; obtain ⟨rfl, v0_4, hw, hs⟩ := wpS_next hp; replace HW := Lib.hid hw; replace HS := Lib.hid (HS.out.trans hs); replace HZ := Lib.hid (HZ.out.trans hs); clear hp hw hs)
  refine hK _ _ (fun _ => HSX.out _ _ HZ.out) ?_
  clear hK K
  try simp only [List.getElem_toArray, List.getElem_cons_succ, List.getElem_cons_zero, Act.put, List.setIfInBounds_toArray, List.set_cons_zero, List.set_cons_succ]
  refine anyT_one (i := 18) (by kernel_rfl) rfl (fun K hK => ?_)
  rw [if_pos (by rfl)]
  try simp only [List.getElem_toArray, List.getElem_cons_succ, List.getElem_cons_zero]
  (go_simp; (with_reducible refine (wbytes_any g _ sv _ SG w0_4 HW.out (HSV.out _ _ _ HZ.out HW.out).1 (HSV.out _ _ _ HZ.out HW.out).2 (by have a := HL.out; have bVKI := VKI.out; have bVHT := VHT.out; have bVRD := VRD.out; have bVVL := VVL.out; have bVSG := VSG.out; (try simp only [List.length_append, rowL32, numsOf_length]); omega)).mono ?_); rintro e w0_5 hp; obtain ⟨rfl, v0_5, hw, hs⟩ := wpS_next hp; replace HW := Lib.hid hw; replace HS := Lib.hid (HS.out.trans hs); replace HZ := Lib.hid (HZ.out.trans hs); clear hp hw hs)
  refine hK _ _ (fun _ => HSX.out _ _ HZ.out) ?_
  clear hK K
  try simp only [List.getElem_toArray, List.getElem_cons_succ, List.getElem_cons_zero, Act.put, List.setIfInBounds_toArray, List.set_cons_zero, List.set_cons_succ]
  refine anyT_done (by kernel_rfl) ?_ _
  go_wp2_with (fail)
  go_end0
  exact ⟨rfl, _, by have := HW.out; unfold voL; simpa only [List.append_assoc] using this, HS.out⟩
theorem wvoteC_any (t : Vo) (g : Nat) (v : Value) (XS : List Int) (w : World) (hw : WAt w g v XS) (w0 : World) (hg : w0.heap.size ≤ g) (hB : Below w0.heap.size w0 w) (hsv : BytesIn w0 t.sv t.sign) (h : VoFl t) (hl : XS.length + (vo1 t).length + 10 ≤ 140737488355328) :
    Calls Tryz.prog 115 #[.pointer (some ⟨g, 0, none⟩), .agg (voC t)] w fun e w' => e = .returned (.tuple #[]) ∧ WsR g v w (XS ++ vo1 t) w' := by
  rw [voC_D]
  exact wvote_any t.kind t.height t.round t.blk t.val t.sv t.sign g v XS w hw w0 hg hB hsv h.k h.h h.r h.vl hl
theorem wtx_any (g : Nat) (v : Value) (t : Tb) (XS : List Int) (w : World) (hw : WAt w g v XS) (w0 : World) (hg : w0.heap.size ≤ g) (hB : Below w0.heap.size w0 w) (hsv : BytesIn w0 t.bv t.bs) (hl : XS.length + (tb1 t).length + 10 ≤ 140737488355328) :
    Calls Tryz.prog 110 #[.pointer (some ⟨g, 0, none⟩), t.bv] w fun e w' => e = .returned (.tuple #[]) ∧ WsR g v w (XS ++ tb1 t) w' := by
  obtain ⟨bv, bs⟩ := t
  have HC := Lib.hid (wbytes_any g v bv XS bs w hw (hsv.below hB) (fun hn => apart_of hsv hn hg hw) (by simp only [tb1, List.length_append] at hl; omega))
  clear hw hB hsv hl
  go_enter Tryz.func110, Tryz.ntmps110
  go_wp2_with (go_at_call 149; (with_reducible refine HC.out.mono ?_); rintro e w1 hp; obtain ⟨rfl, v1, hw1, hs1⟩ := wpS_next hp; have HW := Lib.hid hw1; have HS := Lib.hid hs1; clear hp hw1 hs1)
  go_end0
  exact ⟨rfl, _, HW.out, HS.out⟩
theorem vlen11 (n : Nat) (h : n < 18446744073709551616) : 0 ≤ (varint n).length ∧ (varint n).length ≤ 10 := ⟨Nat.zero_le _, glenT h⟩
def WlR {α : Type} (f : α → List Int) (g : Nat) (v : Value) (w : World) (Z : List Int) (l : List α) (k : Nat) (wr : World) : Prop := ∃ v', WAt wr g v' (Z ++ catL f (l.take k)) ∧ WStep g v v' w wr
set_option maxHeartbeats 8000000 in
theorem wlistV_any (w0 : World) (g : Nat) (hg : w0.heap.size ≤ g) (l : List Vo) (vv : Value) (hl : VoIn w0 vv l) (hs : ∀ t ∈ l, BytesIn w0 t.sv t.sign) (ho : ∀ t ∈ l, VoFl t) (v : Value) (XS : List Int) (w : World) (hw : WAt w g v XS) (hB : Below w0.heap.size w0 w) (room : XS.length + (listL vo1 l).length + 10 ≤ 140737488355328) :
    Calls Tryz.prog 114 #[.pointer (some ⟨g, 0, none⟩), vv, .func (.func 115) #[] #[]] w fun e w' => e = .returned (.tuple #[]) ∧ WsR g v w (XS ++ listL vo1 l) w' := by
  obtain ⟨la, lc, rfl, -, hlm⟩ := hl.len
  have hl64 : l.length < 18446744073709551616 := by unfold maxLen at hlm; omega
  have HU := Lib.hid (wuint_any g v XS l.length w hw hl64 (by simp only [listL, List.length_append] at room; have := vlen11 l.length hl64; omega))
  have hu : IntKind.u64.wrap (l.length : Int) = (l.length : Int) := IntWalk.u64_in _ (by omega)
  have HLA := Lib.hid hl
  have HG := Lib.hid hg
  have HB := Lib.hid hB
  have HW := Lib.hid hw
  have HY := Lib.hid (show ∀ t ∈ l, VoFl t ∧ (∃ a n c, t.sv = .slice a n c) ∧ BytesIn w0 t.sv t.sign from fun t h => ⟨ho t h, by obtain ⟨a, c, e, _⟩ := hs t h; exact ⟨_, _, _, e⟩, hs t h⟩)
  have HR := Lib.hid room
  obtain ⟨nl, hnl⟩ : ∃ n, n = l.length := ⟨_, rfl⟩
  have HNL := Lib.hid hnl
  rw [← hnl] at hlm hl64 HU hu HLA ⊢
  have hnlI : (nl : Int) ≤ 9223372036854775807 := by unfold maxLen at hlm; omega
  clear hl hg hB hw hs ho room hnl hlm
  go_enter Tryz.func114, Tryz.ntmps114
  go_upto_region 1 with (go_at_call 148; (with_reducible refine HU.out.mono ?_); rintro e w1 hp; obtain ⟨rfl, v1, hw1, hs1⟩ := wpS_next hp; have HM := Lib.hid (show WlR vo1 g v w (XS ++ varint nl) l 0 w1 from ⟨v1, by simpa [catL] using hw1, hs1⟩); clear hp hw1 hs1)
  go_wp2_with (fail)
  go_loopw [15] (fun x wr => ∃ k : Nat, k ≤ nl ∧ x = .int .i64 (k : Int) ∧ Hid (WlR vo1 g v w (XS ++ varint nl) l k wr)) (fun x _ => nl - (intOf x).toNat)
  case atStart => exact ⟨0, Nat.zero_le _, rfl, HM⟩
  case round =>
    clear HM HU
    obtain ⟨k, hkn, rfl, HM⟩ := hrel
    obtain ⟨v2, hw2, hs2⟩ := HM.out
    by_cases hlt : k < nl
    · have hltI : (k : Int) < (nl : Int) := by omega
      obtain ⟨x, hx⟩ : ∃ x, l[k]? = some x := ⟨l[k]'(by have := HNL.out; omega), List.getElem?_eq_getElem _⟩
      have HX := Lib.hid (HY.out x (List.mem_of_getElem? hx))
      have HT := Lib.hid (catL_take vo1 l k x hx)
      have HBr := Lib.hid (HB.out.trans (hs2.below HW.out HG.out))
      have hv := HLA.out.below HBr.out
      rw [HNL.out] at hv
      obtain ⟨ab, ao, rfl, hab, hra⟩ := hv.at hx
      have HWr := Lib.hid hw2
      have HSr := Lib.hid hs2
      have HRM := Lib.hid (show (XS ++ varint nl ++ catL vo1 (l.take k)).length + (vo1 x).length + 10 ≤ 140737488355328 from by
        have h1 := HR.out
        have h2 := catL_room vo1 l (k + 1)
        rw [HT.out] at h2
        rw [List.length_append] at h2
        simp only [listL, List.length_append, ← HNL.out] at h1 ⊢
        omega)
      have HRA := Lib.hid hra
      clear hv hra hx hw2 hs2 HM
      go_upto_region 5 with (first
        | (refine wpList_load_rowT (by rfl) 99 (.tmp 17) rfl ab (ao + k * 37) rfl (voC x) _ HRA.out Tryz.underlying99 rfl (by rw [voC_size]; kernel_rfl) ?_)
        | (refine wpList_store_row rfl 99 (.tmp 7) (.tmp 18) rfl wr.heap.size (voC x) rfl rfl 99 _ (heap_alloc_new _ _) (by rw [voC_size]; kernel_rfl) (by rw [voC_size]; rfl) (voC_one _ HX.out.2.1) ?_; rw [World.setRow_alloc_new]; have HQ := Lib.hid (heap_alloc_new wr (.cells (voC x) 99)); have hb := below_alloc wr (.cells (voC x) 99); replace HWr := Lib.hid (HWr.out.below hb); replace HSr := Lib.hid (HSr.out.trans (WStep.of_below hb)); replace HBr := Lib.hid (HBr.out.trans (hb.mono HBr.out.size)); clear hb; obtain ⟨q, hq⟩ : ∃ q, q = wr.heap.size := ⟨_, rfl⟩; rw [← hq] at HQ ⊢; clear hq; generalize wr.alloc (.cells (voC x) 99) = w3 at *)
        | (refine wpList_load_rowT (by rfl) 99 (.tmp 7) rfl q 0 rfl (voC x) _ (rowT_range HQ.out) Tryz.underlying99 rfl (by rw [voC_size]; kernel_rfl) ?_)
        | (go_at_call 115; (with_reducible refine (wvoteC_any x g v2 _ w3 HWr.out w0 HG.out HBr.out HX.out.2.2 HX.out.1 HRM.out).mono ?_); rintro e w4 ⟨rfl, v4, hw4, hs4⟩; replace HWr := Lib.hid hw4; replace HSr := Lib.hid (HSr.out.trans hs4); clear hw4 hs4))
      go_wp2_with (fail)
      go_roundw
      case rel => exact ⟨k + 1, by omega, by go_num, Lib.hid ⟨v4, by have h := HWr.out; rw [List.append_assoc] at h; rw [HT.out]; exact h, HSr.out⟩⟩
      case measure => simp [intOf]; omega
    · obtain rfl : k = nl := by omega
      go_wp2_with (fail)
      go_end0
      refine ⟨rfl, v2, ?_, hs2⟩
      rw [show listL vo1 l = varint k ++ catL vo1 (l.take k) from by unfold listL; rw [← HNL.out, HNL.out, List.take_length], ← List.append_assoc]
      exact hw2
set_option maxHeartbeats 8000000 in
theorem wlistT_any (w0 : World) (g : Nat) (hg : w0.heap.size ≤ g) (l : List Tb) (vv : Value) (hl : TbIn w0 vv l) (hs : ∀ t ∈ l, BytesIn w0 t.bv t.bs) (v : Value) (XS : List Int) (w : World) (hw : WAt w g v XS) (hB : Below w0.heap.size w0 w) (room : XS.length + (listL tb1 l).length + 10 ≤ 140737488355328) :
    Calls Tryz.prog 109 #[.pointer (some ⟨g, 0, none⟩), vv, .func (.func 110) #[] #[]] w fun e w' => e = .returned (.tuple #[]) ∧ WsR g v w (XS ++ listL tb1 l) w' := by
  obtain ⟨la, lc, rfl, -, hlm⟩ := hl.len
  have hl64 : l.length < 18446744073709551616 := by unfold maxLen at hlm; omega
  have HU := Lib.hid (wuint_any g v XS l.length w hw hl64 (by simp only [listL, List.length_append] at room; have := vlen11 l.length hl64; omega))
  have hu : IntKind.u64.wrap (l.length : Int) = (l.length : Int) := IntWalk.u64_in _ (by omega)
  have HLA := Lib.hid hl
  have HG := Lib.hid hg
  have HB := Lib.hid hB
  have HW := Lib.hid hw
  have HY := Lib.hid (show ∀ t ∈ l, BytesIn w0 t.bv t.bs from hs)
  have HR := Lib.hid room
  obtain ⟨nl, hnl⟩ : ∃ n, n = l.length := ⟨_, rfl⟩
  have HNL := Lib.hid hnl
  rw [← hnl] at hlm hl64 HU hu HLA ⊢
  have hnlI : (nl : Int) ≤ 9223372036854775807 := by unfold maxLen at hlm; omega
  clear hl hg hB hw hs room hnl hlm
  go_enter Tryz.func109, Tryz.ntmps109
  go_upto_region 1 with (go_at_call 148; (with_reducible refine HU.out.mono ?_); rintro e w1 hp; obtain ⟨rfl, v1, hw1, hs1⟩ := wpS_next hp; have HM := Lib.hid (show WlR tb1 g v w (XS ++ varint nl) l 0 w1 from ⟨v1, by simpa [catL] using hw1, hs1⟩); clear hp hw1 hs1)
  go_wp2_with (fail)
  go_loopw [15] (fun x wr => ∃ k : Nat, k ≤ nl ∧ x = .int .i64 (k : Int) ∧ Hid (WlR tb1 g v w (XS ++ varint nl) l k wr)) (fun x _ => nl - (intOf x).toNat)
  case atStart => exact ⟨0, Nat.zero_le _, rfl, HM⟩
  case round =>
    clear HM HU
    obtain ⟨k, hkn, rfl, HM⟩ := hrel
    obtain ⟨v2, hw2, hs2⟩ := HM.out
    by_cases hlt : k < nl
    · have hltI : (k : Int) < (nl : Int) := by omega
      obtain ⟨x, hx⟩ : ∃ x, l[k]? = some x := ⟨l[k]'(by have := HNL.out; omega), List.getElem?_eq_getElem _⟩
      have HX := Lib.hid (HY.out x (List.mem_of_getElem? hx))
      have HT := Lib.hid (catL_take tb1 l k x hx)
      have HBr := Lib.hid (HB.out.trans (hs2.below HW.out HG.out))
      have hv := HLA.out.below HBr.out
      rw [HNL.out] at hv
      obtain ⟨ab, ao, rfl, hab, hra⟩ := hv.at hx
      have HWr := Lib.hid hw2
      have HSr := Lib.hid hs2
      have HRM := Lib.hid (show (XS ++ varint nl ++ catL tb1 (l.take k)).length + (tb1 x).length + 10 ≤ 140737488355328 from by
        have h1 := HR.out
        have h2 := catL_room tb1 l (k + 1)
        rw [HT.out] at h2
        rw [List.length_append] at h2
        simp only [listL, List.length_append, ← HNL.out] at h1 ⊢
        omega)
      have hc : wr.cell? ⟨ab, ao + k, none⟩ = some x.bv := by have := hra 0 _ rfl; rw [Nat.mul_one] at this; exact this
      clear hv hra hx hw2 hs2 HM
      go_upto_region 5 with (first
        | (go_at_call 110; (with_reducible refine (wtx_any g v2 x _ wr HWr.out w0 HG.out HBr.out HX.out HRM.out).mono ?_); rintro e w4 ⟨rfl, v4, hw4, hs4⟩; replace HWr := Lib.hid hw4; replace HSr := Lib.hid (HSr.out.trans hs4); clear hw4 hs4))
      go_wp2_with (fail)
      go_roundw
      case rel => exact ⟨k + 1, by omega, by go_num, Lib.hid ⟨v4, by have h := HWr.out; rw [List.append_assoc] at h; rw [HT.out]; exact h, HSr.out⟩⟩
      case measure => simp [intOf]; omega
    · obtain rfl : k = nl := by omega
      go_wp2_with (fail)
      go_end0
      refine ⟨rfl, v2, ?_, hs2⟩
      rw [show listL tb1 l = varint k ++ catL tb1 (l.take k) from by unfold listL; rw [← HNL.out, HNL.out, List.take_length], ← List.append_assoc]
      exact hw2
end Go.Proofs.YteokgklfljhcaaaGreatDoor
namespace Go.Proofs.YteokgklfljhcaaaGreatDoor
set_option linter.unusedVariables false
set_option linter.unusedSimpArgs false
open Go.RowKit
set_option maxRecDepth 100000
end Go.Proofs.YteokgklfljhcaaaGreatDoor
namespace Go.Proofs.YteokgklfljhcaaaGreatDoor
set_option linter.unusedVariables false
set_option linter.unusedSimpArgs false
open Go.RowKit
set_option maxRecDepth 100000
set_option linter.unusedSimpArgs false
set_option linter.unusedVariables false
/-- behind a vote -/
def vt5 (s : RSt) : RSt := (intS (hashS (intS (intS (intS s).2).2).2).2).2
def vtR (s : RSt) : RSt := (partS (vt5 s) 65536).2
def vtG (s : RSt) : List Int := (partS (vt5 s) 65536).1
def vtV (s : RSt) (sv : Value) : Vo := ⟨(intS s).1, (intS (intS s).2).1, (intS (intS (intS s).2).2).1, (hashS (intS (intS (intS s).2).2).2).1, (intS (hashS (intS (intS (intS s).2).2).2).2).1, sv, vtG s⟩
/-- k votes on -/
def vtN : Nat → RSt → RSt
  | 0, s => s
  | k + 1, s => vtR (vtN k s)
def vtsF : Nat → RSt → List Value → List Vo
  | _, _, [] => []
  | k, s, v :: r => vtV (vtN k s) v :: vtsF (k + 1) s r
/-- the votes read, whose signatures are these slices -/
def vts (s : RSt) (l : List Value) : List Vo := vtsF 0 s l
/-- k slices of bytes on -/
def txN : Nat → RSt → RSt
  | 0, s => s
  | k + 1, s => (partS (txN k s) 65536).2
def txsF : Nat → RSt → List Value → List Tb
  | _, _, [] => []
  | k, s, v :: r => ⟨v, (partS (txN k s) 65536).1⟩ :: txsF (k + 1) s r
def txs (s : RSt) (l : List Value) : List Tb := txsF 0 s l
theorem own_stay11 {w w' : World} {base n m : Nat} {ty : TypeId} {v : Value} {vs : List Value} (h : w.ownsRow base ty n v m vs) (hw : ∀ k, v.ownBlock = some k → w'.heap[k]? = w.heap[k]?) : w'.ownsRow base ty n v m vs := by
  refine ⟨h.1, h.2.imp id ?_⟩
  rintro ⟨g, cap, cur, rfl, hg, hh, h2⟩
  exact ⟨g, cap, cur, rfl, hg, (hw g rfl).trans hh, h2⟩
theorem only_setRow11 (w : World) (q : Nat) (cs : Array Value) : Only q w (w.setRow q cs) := ⟨rfl, rfl, rfl, by simp [World.setRow], fun k hk hg => setRow_other _ _ _ _ hg⟩
theorem RowsIn.only {α : Type} {n : Nat} {C : α → List Value} {w w' : World} {v : Value} {l : List α} {p : Nat} (h : RowsIn n C w v l) (ho : Only p w w') (hn : ∀ k, v.ownBlock = some k → k ≠ p) : RowsIn n C w' v l := by
  obtain ⟨a, cap, rfl, hc, hm, hx⟩ := h
  refine ⟨a, cap, rfl, hc, hm, hx.imp id ?_⟩
  rintro ⟨ab, ao, rfl, hlt, hx⟩
  exact ⟨ab, ao, rfl, Nat.lt_of_lt_of_le hlt ho.size, fun i p hi j u hu => (World.cell?_of_block (ho.block ab hlt (hn ab rfl))).trans (hx i p hi j u hu)⟩
/-- a list of votes, all new from block N on -/
structure VL (w : World) (N : Nat) (vv : Value) (l : List Vo) : Prop where
  rows : VoIn w vv l
  own : ∀ j, vv.ownBlock = some j → N ≤ j
  el : ∀ t ∈ l, BytesIn w t.sv t.sign ∧ ∀ j, t.sv.ownBlock = some j → N ≤ j
theorem VL.only {w w' : World} {N p : Nat} {vv : Value} {l : List Vo} (h : VL w N vv l) (ho : Only p w w') (hp : p < N) : VL w' N vv l :=
  ⟨h.rows.only ho fun k hk => by have := h.own k hk; omega, h.own, fun t ht => ⟨(h.el t ht).1.only ho fun k hk => by have := (h.el t ht).2 k hk; omega, (h.el t ht).2⟩⟩
theorem VL.mono {w : World} {N M : Nat} {vv : Value} {l : List Vo} (h : VL w N vv l) (hm : M ≤ N) : VL w M vv l :=
  ⟨h.rows, fun j hj => Nat.le_trans hm (h.own j hj), fun t ht => ⟨(h.el t ht).1, fun j hj => Nat.le_trans hm ((h.el t ht).2 j hj)⟩⟩
structure TL (w : World) (N : Nat) (vv : Value) (l : List Tb) : Prop where
  rows : TbIn w vv l
  own : ∀ j, vv.ownBlock = some j → N ≤ j
  el : ∀ t ∈ l, BytesIn w t.bv t.bs ∧ ∀ j, t.bv.ownBlock = some j → N ≤ j
theorem TL.only {w w' : World} {N p : Nat} {vv : Value} {l : List Tb} (h : TL w N vv l) (ho : Only p w w') (hp : p < N) : TL w' N vv l :=
  ⟨h.rows.only ho fun k hk => by have := h.own k hk; omega, h.own, fun t ht => ⟨(h.el t ht).1.only ho fun k hk => by have := (h.el t ht).2 k hk; omega, (h.el t ht).2⟩⟩
theorem TL.mono {w : World} {N M : Nat} {vv : Value} {l : List Tb} (h : TL w N vv l) (hm : M ≤ N) : TL w M vv l :=
  ⟨h.rows, fun j hj => Nat.le_trans hm (h.own j hj), fun t ht => ⟨(h.el t ht).1, fun j hj => Nat.le_trans hm ((h.el t ht).2 j hj)⟩⟩
theorem VL.below {w w' : World} {N : Nat} {vv : Value} {l : List Vo} (h : VL w N vv l) (hb : Below w.heap.size w w') : VL w' N vv l :=
  ⟨h.rows.below hb, h.own, fun t ht => ⟨(h.el t ht).1.below hb, (h.el t ht).2⟩⟩
theorem TL.below {w w' : World} {N : Nat} {vv : Value} {l : List Tb} (h : TL w N vv l) (hb : Below w.heap.size w w') : TL w' N vv l :=
  ⟨h.rows.below hb, h.own, fun t ht => ⟨(h.el t ht).1.below hb, (h.el t ht).2⟩⟩
theorem RO.below11 {w w' : World} {p : Nat} {ob : Option Nat} {s : RSt} (h : RO w p ob s) (hb : Below w.heap.size w w') : RO w' p ob s := by
  obtain ⟨y, hy, ho⟩ := h
  exact ⟨y, hy.below hb, ho⟩
theorem RS.below11 {w w' : World} {p : Nat} {s : RSt} (h : RS w p s) (hb : Below w.heap.size w w') : RS w' p s := by
  obtain ⟨y, hy⟩ := h
  exact ⟨y, hy.below hb⟩
theorem RO.lt11 {w : World} {p : Nat} {ob : Option Nat} {s : RSt} (h : RO w p ob s) : p < w.heap.size := by obtain ⟨y, hy, _⟩ := h; exact hy.lt
theorem RS.lt11 {w : World} {p : Nat} {s : RSt} (h : RS w p s) : p < w.heap.size := by obtain ⟨y, hy⟩ := h; exact hy.lt
end Go.Proofs.YteokgklfljhcaaaGreatDoor
namespace Go.Proofs.YteokgklfljhcaaaGreatDoor
set_option linter.unusedVariables false
set_option linter.unusedSimpArgs false
open Go.RowKit
set_option maxRecDepth 100000
set_option linter.unusedSimpArgs false
set_option linter.unusedVariables false
/-- a block's cells -/
def bkD (H : Array Value) (tv : Value) (C : Array Value) : Array Value := H ++ (#[tv] ++ C)
theorem hdD_one11 (CH : ByteArray) (HT TM : Int) (LA AP TX VA NX : Nat → Int) (PR : Int) : (hdD CH HT TM LA AP TX VA NX PR).all (·.oneCell') = true := by
  unfold hdD
  simp only [Array.all_append, rowOf_one]
  simp [Value.oneCell']
theorem cmC_one11 (c : Cm) (a : Option Addr) (n k : Nat) : (cmC c (.slice a n k)).all (·.oneCell') = true := by
  unfold cmC
  simp only [Array.all_append, rowOf_one]
  simp [Value.oneCell']
abbrev voTL (t : Vo) : List Value := (voC t).toList
abbrev tbTL (t : Tb) : List Value := [t.bv]
theorem bkD_size {H C : Array Value} {tv : Value} (h1 : H.size = 164) (h2 : C.size = 35) : (bkD H tv C).size = 200 := by simp [bkD, h1, h2]
structure LVM (w : World) (p : Nat) (ob : Option Nat) (s1 : RSt) (B : Nat) (vv : Value) (svs : List Value) (wr : World) : Prop where
  row : wr.ownsRow B 99 37 vv svs.length ((vts s1 svs).flatMap voTL)
  el : ∀ t ∈ vts s1 svs, BytesIn wr t.sv t.sign ∧ (∀ j, t.sv.ownBlock = some j → B ≤ j ∧ j < wr.heap.size ∧ vv.ownBlock ≠ some j)
  rd : RO wr p ob (vtN svs.length s1)
  only : Only p w wr
  B0 : w.heap.size ≤ B
  B1 : B ≤ wr.heap.size
  pB : p < B
  ob : s1.1 ≠ [] → ∀ k, ob = some k → k < B
theorem LVM.new {w : World} {p : Nat} {ob : Option Nat} {s1 : RSt} {B : Nat} {vv : Value} {svs : List Value} {wr : World} (m : LVM w p ob s1 B vv svs wr) {k : Nat} (h : vv.ownBlock = some k) : B ≤ k ∧ k < wr.heap.size := m.row.lt k h
structure LTM (w : World) (p : Nat) (ob : Option Nat) (s1 : RSt) (B : Nat) (vv : Value) (svs : List Value) (wr : World) : Prop where
  row : wr.ownsRow B 39 1 vv svs.length ((txs s1 svs).flatMap tbTL)
  el : ∀ t ∈ txs s1 svs, BytesIn wr t.bv t.bs ∧ (∀ j, t.bv.ownBlock = some j → B ≤ j ∧ j < wr.heap.size ∧ vv.ownBlock ≠ some j)
  rd : RO wr p ob (txN svs.length s1)
  only : Only p w wr
  B0 : w.heap.size ≤ B
  B1 : B ≤ wr.heap.size
  pB : p < B
  ob : s1.1 ≠ [] → ∀ k, ob = some k → k < B
theorem LTM.new {w : World} {p : Nat} {ob : Option Nat} {s1 : RSt} {B : Nat} {vv : Value} {svs : List Value} {wr : World} (m : LTM w p ob s1 B vv svs wr) {k : Nat} (h : vv.ownBlock = some k) : B ≤ k ∧ k < wr.heap.size := m.row.lt k h
end Go.Proofs.YteokgklfljhcaaaGreatDoor

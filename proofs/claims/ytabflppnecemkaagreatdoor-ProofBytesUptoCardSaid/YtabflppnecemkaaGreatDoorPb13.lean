/- Part 13 of the proof. -/
import Derived.RangeFuncNested
import Derived.RangeFuncBound
import Derived.RangeFuncCalls
import Derived.RangeFuncLeaves
import Derived.Shelf.Abstract
import Derived.Shelf.RegionOpen
import Derived.WalkKit
import Derived.OwnWalkIn
import Derived.TacticsInMore
import Derived.LoopNIn
import Derived.LoopIn
import Derived.RangeFuncBox
import Derived.Maps.AppendAt
import Derived.Test.YtabflppnecemkaaGreatDoorPb11
import Derived.Test.YtabflppnecemkaaGreatDoorPb12
namespace Go.Proofs.YtabflppnecemkaaGreatDoor
set_option linter.unusedVariables false
set_option linter.unusedSimpArgs false
open Go.RowKit
set_option maxRecDepth 100000
set_option linter.unusedSimpArgs false
set_option linter.unusedVariables false
/-- the path from the i-th leaf upwards -/
def AvT.path : AvT → Nat → List AvS
  | .leaf _ _, _ => []
  | .node a b, i => if i < a.many then a.path i ++ [⟨false, (b.many : Int), b.root⟩] else b.path (i - a.many) ++ [⟨true, (a.many : Int), a.root⟩]
def pathO (t : Option AvT) (i : Int) : List AvS × Option Nat := match t with
  | none => ([], some 1)
  | some t => if 0 ≤ i ∧ i < t.many then (t.path i.toNat, none) else ([], some 1)
def PathPost (r : List AvS × Option Nat) (w : World) (e : Ending) (w' : World) : Prop := ∃ v, e = .returned (.tuple #[v, errV r.2]) ∧ StIn w' v r.1 ∧ Below w.heap.size w w'
theorem StIn.nil (w : World) : StIn w (.slice none 0 0) [] := ⟨none, 0, rfl, by simp, by simp [maxLen], .inl rfl⟩
theorem path_no7 (va : Value) (t : Option AvT) (i : Int) (w : World) (ht : TreeO w va t) (h : ¬ (0 ≤ i ∧ i < manyO t)) : Calls Tryz.prog 90 #[va, .int .i64 i] w (PathPost ([], some 1) w) := by
  have HLE := Lib.hid (len_any _ ht)
  obtain ⟨m, hmm⟩ : ∃ m, m = manyO t := ⟨_, rfl⟩
  rw [← hmm] at HLE h
  clear hmm ht
  unfold PathPost
  by_cases h0 : i < 0
  · clear h
    go_enter Tryz.func90, Tryz.ntmps90
    go_wp2_with (fail)
    go_ret2
    exact ⟨_, rfl, StIn.nil _, Below.refl _ _⟩
  · have h1 : (m : Int) ≤ i := by omega
    clear h
    go_enter Tryz.func90, Tryz.ntmps90
    go_wp2_with (go_at_call 69; (with_reducible refine HLE.out.mono ?_); rintro e w' ⟨rfl, rfl⟩)
    go_ret2
    exact ⟨_, rfl, StIn.nil _, Below.refl _ _⟩
set_option maxHeartbeats 4000000 in
theorem path_yes (g : Nat) (t : AvT) (i : Nat) (w : World) (ht : TreeAt w g t) (hi : i < t.many) (hm : t.many ≤ 1099511627776) : Calls Tryz.prog 90 #[.pointer (some ⟨g, 0, none⟩), .int .i64 (i : Int)] w (PathPost (t.path i, none) w) := by
  have HLE := Lib.hid (len_some _ ht)
  have HT := Lib.hid ht
  obtain ⟨P, hP⟩ : ∃ P, P = t.path i := ⟨_, rfl⟩
  have HG := Lib.hid (show P = t.path i ++ ([] : List AvS).reverse by simpa using hP)
  rw [← hP]
  obtain ⟨m, hmm⟩ : ∃ m, m = t.many := ⟨_, rfl⟩
  have HN := Lib.hid (show i < t.many ∧ ([] : List AvS).length + t.many ≤ 1099511627776 from ⟨hi, by simpa using hm⟩)
  rw [← hmm] at HLE hi hm
  have hiI : ¬ (m : Int) ≤ (i : Int) := by omega
  have hiI2 : (i : Int) < (m : Int) := by omega
  have HO := Lib.hid (World.ownsRow_nil w w.heap.size 65 34)
  have HB := Lib.hid (Below.refl w.heap.size w)
  clear hmm ht hP hi hm
  unfold PathPost
  go_enter Tryz.func90, Tryz.ntmps90
  go_upto_region 4 with (go_at_call 69; (with_reducible refine HLE.out.mono ?_); rintro e w' ⟨rfl, rfl⟩)
  clear HLE hiI hiI2
  go_loopw [0, 1, 6] (fun x y v wr => ∃ g' t' acc, ∃ c : Nat, x = .pointer (some ⟨g', 0, none⟩) ∧ y = .int .i64 (c : Int) ∧ Hid (TreeAt w g' t') ∧ Hid (P = t'.path c ++ acc.reverse) ∧ Hid (c < t'.many ∧ acc.length + t'.many ≤ 1099511627776) ∧ Hid (wr.ownsRow w.heap.size 65 34 v acc.length (flatSt acc)) ∧ Hid (Below w.heap.size w wr)) (fun x _ _ _ => ptrN x)
  case atStart => exact ⟨g, t, [], i, rfl, rfl, HT, HG, HN, HO, HB⟩
  case round =>
    clear HT HG HN HO HB
    obtain ⟨g', t', acc, c, rfl, rfl, HT, HG, HN, HO, HB⟩ := hrel
    have HTW := Lib.hid (HT.out.below HB.out)
    have c2 := HTW.out.many
    cases t' with
    | leaf k0 v0 =>
      rw [show ((AvT.leaf k0 v0).many : Int) = 1 from rfl] at c2
      have HF := Lib.hid (show P = acc.reverse from HG.out)
      have HAL := Lib.hid (show acc.length ≤ 1099511627776 by have := HN.out.2; omega)
      clear HG HN
      go_wp2_with (go_at_call 96; (with_reducible refine (revSteps_any w.heap.size _ acc w _ HO.out HB.out HAL.out).mono ?_); rintro e w5 ⟨rfl, hx, hb⟩; have HX := Lib.hid hx; replace HB := Lib.hid hb; clear hx hb)
      go_ret2
      rw [HF.out]
      exact ⟨_, rfl, HX.out, HB.out⟩
    | node a b =>
      obtain ⟨ga, gb, l1, l2, k1, k2, ha, hb⟩ := HTW.out.kidsL
      obtain ⟨ga', gb', l1', l2', k1', k2', ha', hb'⟩ := HT.out.kidsL
      have ega : ga' = ga := by
        have e1 := (HB.out.cell (p := ⟨g', 36, none⟩) HT.out.lt).trans k1'
        rw [k1] at e1; injection e1 with e1; injection e1 with e1; injection e1 with e1; injection e1 with e1; exact e1.symm
      have egb : gb' = gb := by
        have e1 := (HB.out.cell (p := ⟨g', 37, none⟩) HT.out.lt).trans k2'
        rw [k2] at e1; injection e1 with e1; injection e1 with e1; injection e1 with e1; injection e1 with e1; exact e1.symm
      subst ega egb
      have c3 := ha.many
      have c4 := hb.many
      have r3 := ha.rootRange
      have r4 := hb.rootRange
      have h2m : 2 ≤ (AvT.node a b).many := by have := a.many_pos; have := b.many_pos; simp only [AvT.many]; omega
      have hN := HN.out
      have hpa := a.many_pos
      have hpb := b.many_pos
      simp only [AvT.many] at hN
      obtain ⟨m', hmm⟩ : ∃ m, m = (AvT.node a b).many := ⟨_, rfl⟩
      rw [← hmm] at c2 h2m
      have hm1 : (1 : Int) < (m' : Int) := by omega
      have HA := Lib.hid ha'
      have HB' := Lib.hid hb'
      have HACC := Lib.hid (show (acc.length + 1) * 48 ≤ 140737488355328 by omega)
      by_cases hlt : c < a.many
      · have HF := Lib.hid (show P = a.path c ++ (acc ++ [(⟨false, (b.many : Int), b.root⟩ : AvS)]).reverse by rw [HG.out, AvT.path, if_pos hlt]; simp)
        replace HN := Lib.hid (show c < a.many ∧ (acc ++ [(⟨false, (b.many : Int), b.root⟩ : AvS)]).length + a.many ≤ 1099511627776 by rw [List.length_append, List.length_singleton]; omega)
        obtain ⟨ma, hma⟩ : ∃ n, n = a.many := ⟨_, rfl⟩
        obtain ⟨mb, hmb⟩ : ∃ n, n = b.many := ⟨_, rfl⟩
        obtain ⟨rb, hrb⟩ : ∃ n, n = b.root := ⟨_, rfl⟩
        rw [← hma] at c3 hlt hN
        rw [← hmb] at c4 HF HN
        rw [← hrb] at r4 HF HN
        have hltI : (c : Int) < (ma : Int) := by omega
        have HSS := Lib.hid (show wr.cell? ⟨g', 37, none⟩ = some (.pointer (some ⟨gb', 0, none⟩)) ∧ wr.cell? ⟨gb', 2, none⟩ = some (.int .i64 (mb : Int)) ∧ wr.rangeAt gb' 4 (rowOf .u8 32 rb).toList from ⟨k2, c4, r4⟩)
        clear HG hmm ha hb ha' hb' h2m hma hmb hrb hlt hN r3 r4 hpa hpb
        go_upto_region 6 with (fail)
        refine wp_region_T (fun w' => w'.cell? ⟨g', 37, none⟩ = some (.pointer (some ⟨gb', 0, none⟩)) ∧ w'.cell? ⟨gb', 2, none⟩ = some (.int .i64 (mb : Int)) ∧ w'.rangeAt gb' 4 (rowOf .u8 32 rb).toList) [4, 5, 6, 7, 11, 12, 13, 14] (by kernel_rfl) ?_
        replace HSS := Lib.hid (show wr.drew.cell? ⟨g', 37, none⟩ = some (.pointer (some ⟨gb', 0, none⟩)) ∧ wr.drew.cell? ⟨gb', 2, none⟩ = some (.int .i64 (mb : Int)) ∧ wr.drew.rangeAt gb' 4 (rowOf .u8 32 rb).toList from HSS.out)
        replace HO := Lib.hid (show wr.drew.ownsRow w.heap.size 65 34 u6 acc.length (flatSt acc) from HO.out)
        replace HB := Lib.hid (show Below w.heap.size w wr.drew from HB.out.drew)
        clear c2 c3 c4 k1 k2
        generalize wr.drew = w5 at *
        refine anyT_takeY (i := 0) (v := u6) rfl (by kernel_rfl) (by kernel_rfl) (by kernel_rfl) (fun _ _ _ h => h) (by kernel_rfl) (Or.inl ⟨by rfl, by intro w; go_simp⟩) ?_
        try simp only [List.getElem_toArray, List.getElem_cons_succ, List.getElem_cons_zero, Act.put, List.setIfInBounds_toArray, List.set_cons_zero, List.set_cons_succ]
        refine anyT_takeY (i := 1) (v := .pointer (some ⟨g', 0, none⟩)) rfl (by kernel_rfl) (by kernel_rfl) (by kernel_rfl) (fun _ _ _ h => h) (by kernel_rfl) (Or.inl ⟨by rfl, by intro w; go_simp⟩) ?_
        try simp only [List.getElem_toArray, List.getElem_cons_succ, List.getElem_cons_zero, Act.put, List.setIfInBounds_toArray, List.set_cons_zero, List.set_cons_succ]
        refine anyT_takeY (i := 2) (v := .pointer (some ⟨g', 0, none⟩)) rfl (by kernel_rfl) (by kernel_rfl) (by kernel_rfl) (fun _ _ _ h => h) (by kernel_rfl) (Or.inl ⟨by rfl, by intro w; go_simp⟩) ?_
        try simp only [List.getElem_toArray, List.getElem_cons_succ, List.getElem_cons_zero, Act.put, List.setIfInBounds_toArray, List.set_cons_zero, List.set_cons_succ]
        refine anyT_takeY (i := 3) (v := .pointer (some ⟨g', 37, none⟩)) rfl (by kernel_rfl) (by kernel_rfl) (by kernel_rfl) (fun _ _ _ h => h) (by kernel_rfl) (Or.inl ⟨by rfl, by intro w; go_simp⟩) ?_
        try simp only [List.getElem_toArray, List.getElem_cons_succ, List.getElem_cons_zero, Act.put, List.setIfInBounds_toArray, List.set_cons_zero, List.set_cons_succ]
        refine anyT_takeY (i := 8) (v := .pointer (some ⟨g', 0, none⟩)) rfl (by kernel_rfl) (by kernel_rfl) (by kernel_rfl) (fun _ _ _ h => h) (by kernel_rfl) (Or.inl ⟨by rfl, by intro w; go_simp⟩) ?_
        try simp only [List.getElem_toArray, List.getElem_cons_succ, List.getElem_cons_zero, Act.put, List.setIfInBounds_toArray, List.set_cons_zero, List.set_cons_succ]
        refine anyT_takeY (i := 9) (v := .pointer (some ⟨g', 0, none⟩)) rfl (by kernel_rfl) (by kernel_rfl) (by kernel_rfl) (fun _ _ _ h => h) (by kernel_rfl) (Or.inl ⟨by rfl, by intro w; go_simp⟩) ?_
        try simp only [List.getElem_toArray, List.getElem_cons_succ, List.getElem_cons_zero, Act.put, List.setIfInBounds_toArray, List.set_cons_zero, List.set_cons_succ]
        refine anyT_takeY (i := 10) (v := .pointer (some ⟨g', 37, none⟩)) rfl (by kernel_rfl) (by kernel_rfl) (by kernel_rfl) (fun _ _ _ h => h) (by kernel_rfl) (Or.inl ⟨by rfl, by intro w; go_simp⟩) ?_
        try simp only [List.getElem_toArray, List.getElem_cons_succ, List.getElem_cons_zero, Act.put, List.setIfInBounds_toArray, List.set_cons_zero, List.set_cons_succ]
        refine anyT_take [5, 6, 7, 15, 16, 17, 18] (i := 4) (v := .pointer (some ⟨gb', 0, none⟩)) rfl (by kernel_rfl) (by kernel_rfl) (by kernel_rfl) (fun _ _ _ h => h) (by kernel_rfl) (Or.inl ⟨by rfl, fun w' hS => by have c := hS.1; go_simp⟩) HSS.out ?_
        try simp only [List.getElem_toArray, List.getElem_cons_succ, List.getElem_cons_zero, Act.put, List.setIfInBounds_toArray, List.set_cons_zero, List.set_cons_succ]
        refine anyT_take [6, 7, 15, 16, 17, 18] (i := 5) (v := .pointer (some ⟨gb', 0, none⟩)) rfl (by kernel_rfl) (by kernel_rfl) (by kernel_rfl) (fun _ _ _ h => h) (by kernel_rfl) (Or.inl ⟨by rfl, fun w' _ => by go_simp⟩) HSS.out ?_
        try simp only [List.getElem_toArray, List.getElem_cons_succ, List.getElem_cons_zero, Act.put, List.setIfInBounds_toArray, List.set_cons_zero, List.set_cons_succ]
        refine anyT_take [7, 15, 16, 17, 18] (i := 6) (v := .pointer (some ⟨gb', 2, none⟩)) rfl (by kernel_rfl) (by kernel_rfl) (by kernel_rfl) (fun _ _ _ h => h) (by kernel_rfl) (Or.inl ⟨by rfl, fun w' _ => by go_simp⟩) HSS.out ?_
        try simp only [List.getElem_toArray, List.getElem_cons_succ, List.getElem_cons_zero, Act.put, List.setIfInBounds_toArray, List.set_cons_zero, List.set_cons_succ]
        refine anyT_take [15, 16, 17, 18] (i := 7) (v := .int .i64 (mb : Int)) rfl (by kernel_rfl) (by kernel_rfl) (by kernel_rfl) (fun _ _ _ h => h) (by kernel_rfl) (Or.inl ⟨by rfl, fun w' hS => by have c := hS.2.1; go_simp⟩) HSS.out ?_
        try simp only [List.getElem_toArray, List.getElem_cons_succ, List.getElem_cons_zero, Act.put, List.setIfInBounds_toArray, List.set_cons_zero, List.set_cons_succ]
        refine anyT_take [12, 13, 14, 15, 16, 17, 18] (i := 11) (v := .pointer (some ⟨gb', 0, none⟩)) rfl (by kernel_rfl) (by kernel_rfl) (by kernel_rfl) (fun _ _ _ h => h) (by kernel_rfl) (Or.inl ⟨by rfl, fun w' hS => by have c := hS.1; go_simp⟩) HSS.out ?_
        try simp only [List.getElem_toArray, List.getElem_cons_succ, List.getElem_cons_zero, Act.put, List.setIfInBounds_toArray, List.set_cons_zero, List.set_cons_succ]
        refine anyT_take [13, 14, 15, 16, 17, 18] (i := 12) (v := .pointer (some ⟨gb', 0, none⟩)) rfl (by kernel_rfl) (by kernel_rfl) (by kernel_rfl) (fun _ _ _ h => h) (by kernel_rfl) (Or.inl ⟨by rfl, fun w' _ => by go_simp⟩) HSS.out ?_
        try simp only [List.getElem_toArray, List.getElem_cons_succ, List.getElem_cons_zero, Act.put, List.setIfInBounds_toArray, List.set_cons_zero, List.set_cons_succ]
        refine anyT_take [14, 15, 16, 17, 18] (i := 13) (v := .pointer (some ⟨gb', 4, none⟩)) rfl (by kernel_rfl) (by kernel_rfl) (by kernel_rfl) (fun _ _ _ h => h) (by kernel_rfl) (Or.inl ⟨by rfl, fun w' _ => by go_simp⟩) HSS.out ?_
        try simp only [List.getElem_toArray, List.getElem_cons_succ, List.getElem_cons_zero, Act.put, List.setIfInBounds_toArray, List.set_cons_zero, List.set_cons_succ]
        refine anyT_take [15, 16, 17, 18] (i := 14) (v := .agg (rowOf .u8 32 rb)) rfl (by kernel_rfl) (by kernel_rfl) (by kernel_rfl) (fun _ _ _ h => h) (by kernel_rfl) (row_yields_mid (by rfl) 62 (.tmp 43) rfl gb' 4 rfl .u8 32 rb _ (fun _ h => h.2.2) Tryz.underlying62 rfl (by kernel_rfl)) HSS.out ?_
        try simp only [List.getElem_toArray, List.getElem_cons_succ, List.getElem_cons_zero, Act.put, List.setIfInBounds_toArray, List.set_cons_zero, List.set_cons_succ]
        refine anyT_takeY (i := 15) (v := .agg (stC ⟨false, (mb : Int), rb⟩)) rfl (by kernel_rfl) (by kernel_rfl) (by kernel_rfl) (fun _ _ _ h => h) (by kernel_rfl) (build_yields (by rfl) 65 #[(0, .const (.bool false)), (1, .tmp 37), (2, .tmp 44)] rfl (stC ⟨false, (mb : Int), rb⟩) (by refine Eq.trans (congrArg (Tryz.prog.built 65) ?_) (st_built false (mb : Int) rb); kernel_rfl)) ?_
        try simp only [List.getElem_toArray, List.getElem_cons_succ, List.getElem_cons_zero, Act.put, List.setIfInBounds_toArray, List.set_cons_zero, List.set_cons_succ]
        refine anyT_one (i := 16) (by kernel_rfl) rfl (fun K hK => ?_)
        rw [if_pos (by rfl)]
        try simp only [List.getElem_toArray, List.getElem_cons_succ, List.getElem_cons_zero]
        (refine wp_step1 (.tmp 45) rfl ⟨false, (mb : Int), rb⟩ rfl ?_; have hA := heap_alloc_new w5 (.cells (stC ⟨false, (mb : Int), rb⟩) 65); have hbA := below_alloc w5 (.cells (stC ⟨false, (mb : Int), rb⟩) 65); have HO6 := Lib.hid (ownsRow_below HO.out hbA); have HA6 := Lib.hid hA; have HB6 := Lib.hid (HB.out.trans (hbA.mono HB.out.size)); clear hA hbA)
        refine hK _ _ (not_mem rfl) ?_
        clear hK K
        try simp only [List.getElem_toArray, List.getElem_cons_succ, List.getElem_cons_zero, Act.put, List.setIfInBounds_toArray, List.set_cons_zero, List.set_cons_succ]
        refine anyT_one (i := 17) (by kernel_rfl) rfl (fun K hK => ?_)
        rw [if_pos (by rfl)]
        try simp only [List.getElem_toArray, List.getElem_cons_succ, List.getElem_cons_zero]
        (refine wp_append_step (.tmp 30) (.tmp 46) rfl rfl w.heap.size u6 acc rfl HO6.out _ ⟨false, (mb : Int), rb⟩ rfl HA6.out HACC.out HB6.out.size ?_; intro v7 w7 ho7 hg7; have HO7 := Lib.hid ho7; have HB7 := Lib.hid (HB6.out.grown hg7 HB6.out.size (fun k hk => (HO6.out.lt k hk).1)); clear ho7 hg7)
        refine hK _ _ (not_mem rfl) ?_
        clear hK K
        try simp only [List.getElem_toArray, List.getElem_cons_succ, List.getElem_cons_zero, Act.put, List.setIfInBounds_toArray, List.set_cons_zero, List.set_cons_succ]
        refine anyT_takeY (i := 18) (v := v7) rfl (by kernel_rfl) (by kernel_rfl) (by kernel_rfl) (fun _ _ _ h => h) (by kernel_rfl) (Or.inl ⟨by rfl, by intro w; go_simp⟩) ?_
        try simp only [List.getElem_toArray, List.getElem_cons_succ, List.getElem_cons_zero, Act.put, List.setIfInBounds_toArray, List.set_cons_zero, List.set_cons_succ]
        refine anyT_done (by kernel_rfl) ?_ _
        have k1 := (HB7.out.cell (p := ⟨g', 36, none⟩) HT.out.lt).trans k1'
        go_wp2_with (fail)
        go_roundw
        case rel => exact ⟨ga', a, _, c, rfl, rfl, HA, HF, HN, HO7, HB7⟩
        case measure => simp [ptrN]; omega
      · have HF := Lib.hid (show P = b.path (c - a.many) ++ (acc ++ [(⟨true, (a.many : Int), a.root⟩ : AvS)]).reverse by rw [HG.out, AvT.path, if_neg hlt]; simp)
        replace HN := Lib.hid (show c - a.many < b.many ∧ (acc ++ [(⟨true, (a.many : Int), a.root⟩ : AvS)]).length + b.many ≤ 1099511627776 by rw [List.length_append, List.length_singleton]; omega)
        obtain ⟨ma, hma⟩ : ∃ n, n = a.many := ⟨_, rfl⟩
        obtain ⟨mb, hmb⟩ : ∃ n, n = b.many := ⟨_, rfl⟩
        obtain ⟨ra, hra⟩ : ∃ n, n = a.root := ⟨_, rfl⟩
        rw [← hma] at c3 hlt hN HF HN
        rw [← hmb] at c4
        rw [← hra] at r3 HF HN
        have hcm : c ≤ 1099511627776 := by omega
        have hle : (ma : Int) ≤ (c : Int) := by omega
        have hsub : ((c : Int) - (ma : Int)) = ((c - ma : Nat) : Int) := by omega
        have hltI : ¬ (c : Int) < (ma : Int) := by omega
        have hmaH := Lib.hid hma
        have HSS := Lib.hid (show wr.cell? ⟨g', 36, none⟩ = some (.pointer (some ⟨ga', 0, none⟩)) ∧ wr.cell? ⟨ga', 2, none⟩ = some (.int .i64 (ma : Int)) ∧ wr.rangeAt ga' 4 (rowOf .u8 32 ra).toList from ⟨k1, c3, r3⟩)
        clear HG hmm ha hb ha' hb' h2m hma hmb hra hlt hN r3 r4 hpa hpb
        go_upto_region 8 with (fail)
        refine wp_region_T (fun w' => w'.cell? ⟨g', 36, none⟩ = some (.pointer (some ⟨ga', 0, none⟩)) ∧ w'.cell? ⟨ga', 2, none⟩ = some (.int .i64 (ma : Int)) ∧ w'.rangeAt ga' 4 (rowOf .u8 32 ra).toList) [4, 5, 6, 7, 11, 12, 13, 14] (by kernel_rfl) ?_
        replace HSS := Lib.hid (show wr.drew.cell? ⟨g', 36, none⟩ = some (.pointer (some ⟨ga', 0, none⟩)) ∧ wr.drew.cell? ⟨ga', 2, none⟩ = some (.int .i64 (ma : Int)) ∧ wr.drew.rangeAt ga' 4 (rowOf .u8 32 ra).toList from HSS.out)
        replace HO := Lib.hid (show wr.drew.ownsRow w.heap.size 65 34 u6 acc.length (flatSt acc) from HO.out)
        replace HB := Lib.hid (show Below w.heap.size w wr.drew from HB.out.drew)
        clear c2 c3 c4 k1 k2
        generalize wr.drew = w5 at *
        refine anyT_takeY (i := 0) (v := u6) rfl (by kernel_rfl) (by kernel_rfl) (by kernel_rfl) (fun _ _ _ h => h) (by kernel_rfl) (Or.inl ⟨by rfl, by intro w; go_simp⟩) ?_
        try simp only [List.getElem_toArray, List.getElem_cons_succ, List.getElem_cons_zero, Act.put, List.setIfInBounds_toArray, List.set_cons_zero, List.set_cons_succ]
        refine anyT_takeY (i := 1) (v := .pointer (some ⟨g', 0, none⟩)) rfl (by kernel_rfl) (by kernel_rfl) (by kernel_rfl) (fun _ _ _ h => h) (by kernel_rfl) (Or.inl ⟨by rfl, by intro w; go_simp⟩) ?_
        try simp only [List.getElem_toArray, List.getElem_cons_succ, List.getElem_cons_zero, Act.put, List.setIfInBounds_toArray, List.set_cons_zero, List.set_cons_succ]
        refine anyT_takeY (i := 2) (v := .pointer (some ⟨g', 0, none⟩)) rfl (by kernel_rfl) (by kernel_rfl) (by kernel_rfl) (fun _ _ _ h => h) (by kernel_rfl) (Or.inl ⟨by rfl, by intro w; go_simp⟩) ?_
        try simp only [List.getElem_toArray, List.getElem_cons_succ, List.getElem_cons_zero, Act.put, List.setIfInBounds_toArray, List.set_cons_zero, List.set_cons_succ]
        refine anyT_takeY (i := 3) (v := .pointer (some ⟨g', 36, none⟩)) rfl (by kernel_rfl) (by kernel_rfl) (by kernel_rfl) (fun _ _ _ h => h) (by kernel_rfl) (Or.inl ⟨by rfl, by intro w; go_simp⟩) ?_
        try simp only [List.getElem_toArray, List.getElem_cons_succ, List.getElem_cons_zero, Act.put, List.setIfInBounds_toArray, List.set_cons_zero, List.set_cons_succ]
        refine anyT_takeY (i := 8) (v := .pointer (some ⟨g', 0, none⟩)) rfl (by kernel_rfl) (by kernel_rfl) (by kernel_rfl) (fun _ _ _ h => h) (by kernel_rfl) (Or.inl ⟨by rfl, by intro w; go_simp⟩) ?_
        try simp only [List.getElem_toArray, List.getElem_cons_succ, List.getElem_cons_zero, Act.put, List.setIfInBounds_toArray, List.set_cons_zero, List.set_cons_succ]
        refine anyT_takeY (i := 9) (v := .pointer (some ⟨g', 0, none⟩)) rfl (by kernel_rfl) (by kernel_rfl) (by kernel_rfl) (fun _ _ _ h => h) (by kernel_rfl) (Or.inl ⟨by rfl, by intro w; go_simp⟩) ?_
        try simp only [List.getElem_toArray, List.getElem_cons_succ, List.getElem_cons_zero, Act.put, List.setIfInBounds_toArray, List.set_cons_zero, List.set_cons_succ]
        refine anyT_takeY (i := 10) (v := .pointer (some ⟨g', 36, none⟩)) rfl (by kernel_rfl) (by kernel_rfl) (by kernel_rfl) (fun _ _ _ h => h) (by kernel_rfl) (Or.inl ⟨by rfl, by intro w; go_simp⟩) ?_
        try simp only [List.getElem_toArray, List.getElem_cons_succ, List.getElem_cons_zero, Act.put, List.setIfInBounds_toArray, List.set_cons_zero, List.set_cons_succ]
        refine anyT_take [5, 6, 7, 15, 16, 17, 18] (i := 4) (v := .pointer (some ⟨ga', 0, none⟩)) rfl (by kernel_rfl) (by kernel_rfl) (by kernel_rfl) (fun _ _ _ h => h) (by kernel_rfl) (Or.inl ⟨by rfl, fun w' hS => by have c := hS.1; go_simp⟩) HSS.out ?_
        try simp only [List.getElem_toArray, List.getElem_cons_succ, List.getElem_cons_zero, Act.put, List.setIfInBounds_toArray, List.set_cons_zero, List.set_cons_succ]
        refine anyT_take [6, 7, 15, 16, 17, 18] (i := 5) (v := .pointer (some ⟨ga', 0, none⟩)) rfl (by kernel_rfl) (by kernel_rfl) (by kernel_rfl) (fun _ _ _ h => h) (by kernel_rfl) (Or.inl ⟨by rfl, fun w' _ => by go_simp⟩) HSS.out ?_
        try simp only [List.getElem_toArray, List.getElem_cons_succ, List.getElem_cons_zero, Act.put, List.setIfInBounds_toArray, List.set_cons_zero, List.set_cons_succ]
        refine anyT_take [7, 15, 16, 17, 18] (i := 6) (v := .pointer (some ⟨ga', 2, none⟩)) rfl (by kernel_rfl) (by kernel_rfl) (by kernel_rfl) (fun _ _ _ h => h) (by kernel_rfl) (Or.inl ⟨by rfl, fun w' _ => by go_simp⟩) HSS.out ?_
        try simp only [List.getElem_toArray, List.getElem_cons_succ, List.getElem_cons_zero, Act.put, List.setIfInBounds_toArray, List.set_cons_zero, List.set_cons_succ]
        refine anyT_take [15, 16, 17, 18] (i := 7) (v := .int .i64 (ma : Int)) rfl (by kernel_rfl) (by kernel_rfl) (by kernel_rfl) (fun _ _ _ h => h) (by kernel_rfl) (Or.inl ⟨by rfl, fun w' hS => by have c := hS.2.1; go_simp⟩) HSS.out ?_
        try simp only [List.getElem_toArray, List.getElem_cons_succ, List.getElem_cons_zero, Act.put, List.setIfInBounds_toArray, List.set_cons_zero, List.set_cons_succ]
        refine anyT_take [12, 13, 14, 15, 16, 17, 18] (i := 11) (v := .pointer (some ⟨ga', 0, none⟩)) rfl (by kernel_rfl) (by kernel_rfl) (by kernel_rfl) (fun _ _ _ h => h) (by kernel_rfl) (Or.inl ⟨by rfl, fun w' hS => by have c := hS.1; go_simp⟩) HSS.out ?_
        try simp only [List.getElem_toArray, List.getElem_cons_succ, List.getElem_cons_zero, Act.put, List.setIfInBounds_toArray, List.set_cons_zero, List.set_cons_succ]
        refine anyT_take [13, 14, 15, 16, 17, 18] (i := 12) (v := .pointer (some ⟨ga', 0, none⟩)) rfl (by kernel_rfl) (by kernel_rfl) (by kernel_rfl) (fun _ _ _ h => h) (by kernel_rfl) (Or.inl ⟨by rfl, fun w' _ => by go_simp⟩) HSS.out ?_
        try simp only [List.getElem_toArray, List.getElem_cons_succ, List.getElem_cons_zero, Act.put, List.setIfInBounds_toArray, List.set_cons_zero, List.set_cons_succ]
        refine anyT_take [14, 15, 16, 17, 18] (i := 13) (v := .pointer (some ⟨ga', 4, none⟩)) rfl (by kernel_rfl) (by kernel_rfl) (by kernel_rfl) (fun _ _ _ h => h) (by kernel_rfl) (Or.inl ⟨by rfl, fun w' _ => by go_simp⟩) HSS.out ?_
        try simp only [List.getElem_toArray, List.getElem_cons_succ, List.getElem_cons_zero, Act.put, List.setIfInBounds_toArray, List.set_cons_zero, List.set_cons_succ]
        refine anyT_take [15, 16, 17, 18] (i := 14) (v := .agg (rowOf .u8 32 ra)) rfl (by kernel_rfl) (by kernel_rfl) (by kernel_rfl) (fun _ _ _ h => h) (by kernel_rfl) (row_yields_mid (by rfl) 62 (.tmp 65) rfl ga' 4 rfl .u8 32 ra _ (fun _ h => h.2.2) Tryz.underlying62 rfl (by kernel_rfl)) HSS.out ?_
        try simp only [List.getElem_toArray, List.getElem_cons_succ, List.getElem_cons_zero, Act.put, List.setIfInBounds_toArray, List.set_cons_zero, List.set_cons_succ]
        refine anyT_takeY (i := 15) (v := .agg (stC ⟨true, (ma : Int), ra⟩)) rfl (by kernel_rfl) (by kernel_rfl) (by kernel_rfl) (fun _ _ _ h => h) (by kernel_rfl) (build_yields (by rfl) 65 #[(0, .const (.bool true)), (1, .tmp 59), (2, .tmp 66)] rfl (stC ⟨true, (ma : Int), ra⟩) (by refine Eq.trans (congrArg (Tryz.prog.built 65) ?_) (st_built true (ma : Int) ra); kernel_rfl)) ?_
        try simp only [List.getElem_toArray, List.getElem_cons_succ, List.getElem_cons_zero, Act.put, List.setIfInBounds_toArray, List.set_cons_zero, List.set_cons_succ]
        refine anyT_one (i := 16) (by kernel_rfl) rfl (fun K hK => ?_)
        rw [if_pos (by rfl)]
        try simp only [List.getElem_toArray, List.getElem_cons_succ, List.getElem_cons_zero]
        (refine wp_step1 (.tmp 67) rfl ⟨true, (ma : Int), ra⟩ rfl ?_; have hA := heap_alloc_new w5 (.cells (stC ⟨true, (ma : Int), ra⟩) 65); have hbA := below_alloc w5 (.cells (stC ⟨true, (ma : Int), ra⟩) 65); have HO6 := Lib.hid (ownsRow_below HO.out hbA); have HA6 := Lib.hid hA; have HB6 := Lib.hid (HB.out.trans (hbA.mono HB.out.size)); clear hA hbA)
        refine hK _ _ (not_mem rfl) ?_
        clear hK K
        try simp only [List.getElem_toArray, List.getElem_cons_succ, List.getElem_cons_zero, Act.put, List.setIfInBounds_toArray, List.set_cons_zero, List.set_cons_succ]
        refine anyT_one (i := 17) (by kernel_rfl) rfl (fun K hK => ?_)
        rw [if_pos (by rfl)]
        try simp only [List.getElem_toArray, List.getElem_cons_succ, List.getElem_cons_zero]
        (refine wp_append_step (.tmp 52) (.tmp 68) rfl rfl w.heap.size u6 acc rfl HO6.out _ ⟨true, (ma : Int), ra⟩ rfl HA6.out HACC.out HB6.out.size ?_; intro v7 w7 ho7 hg7; have HO7 := Lib.hid ho7; have HB7 := Lib.hid (HB6.out.grown hg7 HB6.out.size (fun k hk => (HO6.out.lt k hk).1)); clear ho7 hg7)
        refine hK _ _ (not_mem rfl) ?_
        clear hK K
        try simp only [List.getElem_toArray, List.getElem_cons_succ, List.getElem_cons_zero, Act.put, List.setIfInBounds_toArray, List.set_cons_zero, List.set_cons_succ]
        refine anyT_takeY (i := 18) (v := v7) rfl (by kernel_rfl) (by kernel_rfl) (by kernel_rfl) (fun _ _ _ h => h) (by kernel_rfl) (Or.inl ⟨by rfl, by intro w; go_simp⟩) ?_
        try simp only [List.getElem_toArray, List.getElem_cons_succ, List.getElem_cons_zero, Act.put, List.setIfInBounds_toArray, List.set_cons_zero, List.set_cons_succ]
        refine anyT_done (by kernel_rfl) ?_ _
        have k1 := (HB7.out.cell (p := ⟨g', 36, none⟩) HT.out.lt).trans k1'
        have k2 := (HB7.out.cell (p := ⟨g', 37, none⟩) HT.out.lt).trans k2'
        have c3 := (HA.out.below HB7.out).many
        rw [← hmaH.out] at c3
        go_wp2_with (fail)
        go_roundw
        case rel => exact ⟨gb', b, _, c - ma, rfl, by first | rfl | go_num, HB', HF, HN, HO7, HB7⟩
        case measure => simp [ptrN]; omega
theorem path_any7 (va : Value) (t : Option AvT) (i : Int) (w : World) (ht : TreeO w va t) (hm : manyO t ≤ 1099511627776) : Calls Tryz.prog 90 #[va, .int .i64 i] w (PathPost (pathO t i) w) := by
  cases t with
  | none => exact path_no7 va none i w ht (by rw [show manyO none = 0 from rfl]; omega)
  | some t =>
    unfold pathO
    dsimp only
    split
    · rename_i h
      obtain ⟨k, rfl⟩ : ∃ k : Nat, i = (k : Int) := ⟨i.toNat, by omega⟩
      obtain ⟨g, rfl, ht⟩ := ht
      exact path_yes g t k w ht (by omega) hm
    · rename_i h
      exact path_no7 va (some t) i w ht h
end Go.Proofs.YtabflppnecemkaaGreatDoor
namespace Go.Proofs.YtabflppnecemkaaGreatDoor
set_option linter.unusedVariables false
set_option linter.unusedSimpArgs false
open Go.RowKit Go.Shelf
set_option maxRecDepth 100000
set_option linter.unusedSimpArgs false
set_option linter.unusedVariables false
attribute [local go_sem] Oper.semAt_some
theorem round_wide {m m' : Nat} {P : Program} {l : Nat} {args : Array Value} {W : World} {R : Ending → World → Prop} (h : YieldAt Fence.wide m P l args W R) : YieldAt Fence.wide m' P l args W R := by
  obtain ⟨fn, tmps, assign, body, hy, hF, hr⟩ := h
  exact ⟨fn, tmps, assign, body, hy, hF, fun c cs _ => hr c cs fun d hd => by cases hd⟩
theorem TreeAt.belowN {w w' : World} {N : Nat} : ∀ {t : AvT} {g : Nat}, TreeAt w g t → g < N → Below N w w' → TreeAt w' g t
  | .leaf k v, g, h, hg, hb => (hb.block g hg).trans h
  | .node a b, g, h, hg, hb => by
    obtain ⟨ga, gb, hl, h, h1, h2⟩ := h
    exact ⟨ga, gb, hl, (hb.block g hg).trans h, h1.belowN (by omega) hb, h2.belowN (by omega) hb⟩
theorem grown_of_below {w w' : World} (h : Below w.heap.size w w') : w.grownBy w' none := ⟨h.os, h.tape, h.output, h.size, fun k hk _ => h.block k hk⟩
theorem below_le {w w' : World} {A B : Nat} (h : Below A w w') (hB : B ≤ A) : Below B w w' := ⟨h.os, h.tape, h.output, h.size, fun k hk => h.block k (by omega)⟩
/-- what a round of the loop answers the iterator -/
def GoesOn (n₀ : Nat) (J Jx : List KV → World → Prop) (pre : List KV) (x : KV) (W : World) (e : Ending) (W' : World) : Prop :=
  (e = .returned (.bool true) ∧ J (pre ++ [x]) W' ∧ Below n₀ W W') ∨ (e = .returned (.bool false) ∧ Jx (pre ++ [x]) W')
/-- what visit answers -/
def Visited (n₀ : Nat) (J Jx : List KV → World → Prop) (pre xs : List KV) (W : World) (e : Ending) (W' : World) : Prop :=
  (e = .returned (.bool true) ∧ J (pre ++ xs) W' ∧ Below n₀ W W') ∨ (e = .returned (.bool false) ∧ ∃ q, q <+: xs ∧ Jx (pre ++ q) W')
end Go.Proofs.YtabflppnecemkaaGreatDoor
namespace Go.Proofs.YtabflppnecemkaaGreatDoor
set_option linter.unusedVariables false
set_option linter.unusedSimpArgs false
open Go.RowKit Go.Shelf
set_option maxRecDepth 100000
set_option linter.unusedSimpArgs false
set_option linter.unusedVariables false
attribute [local go_sem] Oper.semAt_some
/-- below the end, or no end at all -/
def upTo (hi : ByteArray) (p : KV) : Bool := hi.toList.isEmpty || bl p.1 hi
def rangeO (t : Option AvT) (k hi : ByteArray) : List KV := ((t.map (AvT.vis k)).getD []).takeWhile (upTo hi)
theorem upTo_all {hi : ByteArray} {l : List KV} (h : ∀ p ∈ l, upTo hi p = true) : l.takeWhile (upTo hi) = l := by
  induction l with
  | nil => rfl
  | cons x l ih => rw [List.takeWhile_cons, if_pos (h x (by simp)), ih fun p hp => h p (by simp [hp])]
theorem upTo_stop {hi : ByteArray} {l q : List KV} {x : KV} (h : ∀ p ∈ q, upTo hi p = true) (hx : upTo hi x = false) (hp : q ++ [x] <+: l) : l.takeWhile (upTo hi) = q := by
  obtain ⟨r, rfl⟩ := hp
  induction q with
  | nil => simp [hx]
  | cons y q ih =>
    rw [List.cons_append, List.cons_append, List.takeWhile_cons, if_pos (h y (by simp)), ih fun p hp => h p (by simp [hp])]
end Go.Proofs.YtabflppnecemkaaGreatDoor
namespace Go.Proofs.YtabflppnecemkaaGreatDoor
set_option linter.unusedVariables false
set_option linter.unusedSimpArgs false
open Go.RowKit
set_option maxRecDepth 100000
set_option linter.unusedSimpArgs false
set_option linter.unusedVariables false
theorem eBA_list : eBA.toList = [] := by
  unfold eBA ByteArray.toList ByteArray.toList.loop
  simp [ByteArray.size]
theorem bl_eBA (a : ByteArray) : bl a eBA = false := by
  rw [Bool.eq_false_iff]
  intro h
  rw [bl_lt, eBA_list] at h
  exact absurd h (by simp)
theorem visO_eq {t : Option AvT} (h : Srt (pairsO t)) (k : ByteArray) : (t.map (AvT.vis k)).getD [] = (pairsO t).filter fun p => !bl p.1 k := by
  cases t with
  | none => rfl
  | some t => exact vis_eq k t h
theorem take_srt (hi : ByteArray) : ∀ l : List KV, Srt l → l.takeWhile (upTo hi) = l.filter (upTo hi)
  | [], _ => rfl
  | p :: l, h => by
    obtain ⟨h1, h2⟩ := List.pairwise_cons.1 h
    cases e : upTo hi p with
    | true => rw [List.takeWhile_cons, if_pos e, List.filter_cons, if_pos e, take_srt hi l h2]
    | false =>
      rw [List.takeWhile_cons, if_neg (by rw [e]; simp), List.filter_cons, if_neg (by rw [e]; simp)]
      refine (filter_no fun q hq => ?_).symm
      unfold upTo at e ⊢
      simp only [Bool.or_eq_false_iff] at e ⊢
      refine ⟨e.1, Bool.eq_false_iff.2 fun hq2 => ?_⟩
      have := bl_trans (h1 q hq) hq2
      rw [e.2] at this; cases this
theorem range_eq {t : Option AvT} (h : Srt (pairsO t)) (k hi : ByteArray) : rangeO t k hi = (pairsO t).filter fun p => !bl p.1 k && upTo hi p := by
  unfold rangeO
  rw [visO_eq h, take_srt hi _ (h.filter _), List.filter_filter]
  congr 1
  funext p
  rw [Bool.and_comm]
theorem range_full {t : Option AvT} (h : Srt (pairsO t)) : rangeO t eBA eBA = pairsO t := by
  rw [range_eq h]
  refine filter_all fun p _ => ?_
  rw [bl_eBA]
  unfold upTo
  rw [eBA_list]
  rfl
theorem manyO_eq (t : Option AvT) : (pairsO t).length = manyO t := by
  cases t with
  | none => rfl
  | some t => exact AvT.many_eq t
theorem getO_mem {t : Option AvT} (h : Srt (pairsO t)) (k v : ByteArray) : getO t k = some v ↔ (k, v) ∈ pairsO t := by
  cases t with
  | none => simp [getO, pairsO]
  | some t => exact get_mem k t h v
theorem getO_drop {t : Option AvT} (h : Srt (pairsO t)) (k : ByteArray) : getO (dropO t k) k = none := by
  cases e : getO (dropO t k) k with
  | none => rfl
  | some v =>
    have := (getO_mem (dropO_srt h k) k v).1 e
    rw [dropO_pairs h] at this
    have := (List.mem_filter.1 this).2
    simp at this
theorem drop_count (k : ByteArray) : ∀ l : List KV, Srt l → (l.filter fun p => !decide (p.1 = k)).length + (if l.any (fun p => decide (p.1 = k)) then 1 else 0) = l.length
  | [], _ => rfl
  | p :: l, h => by
    obtain ⟨h1, h2⟩ := List.pairwise_cons.1 h
    have ih := drop_count k l h2
    by_cases e : p.1 = k
    · have hn : ∀ q ∈ l, (!decide (q.1 = k)) = true := fun q hq => by
        have := bl_ne (h1 q hq)
        rw [e] at this
        simpa using fun e' => this e'.symm
      rw [List.filter_cons, if_neg (by simp [e]), filter_all hn, List.any_cons]
      simp [e]
    · rw [List.filter_cons, if_pos (by simp [e]), List.any_cons]
      simp only [e, decide_false, Bool.false_or, List.length_cons]
      omega
theorem manyO_drop {t : Option AvT} (h : Srt (pairsO t)) (k : ByteArray) : manyO (dropO t k) + (if (getO t k).isSome then 1 else 0) = manyO t := by
  rw [← manyO_eq, ← manyO_eq, dropO_pairs h]
  have := drop_count k (pairsO t) h
  have e : (getO t k).isSome = (pairsO t).any fun p => decide (p.1 = k) := by
    rw [Bool.eq_iff_iff, Option.isSome_iff_exists, List.any_eq_true]
    constructor
    · rintro ⟨v, hv⟩
      exact ⟨(k, v), (getO_mem h k v).1 hv, by simp⟩
    · rintro ⟨⟨k', v⟩, hv, he⟩
      have he : k' = k := by simpa using he
      subst he
      exact ⟨v, (getO_mem h k' v).2 hv⟩
  rw [e]; exact this
theorem find_place {t : Option AvT} (h : Srt (pairsO t)) {i : Nat} {p : KV} (hi : (pairsO t)[i]? = some p) : findO t p.1 = i ∧ getO t p.1 = some p.2 := by
  refine ⟨?_, (getO_mem h p.1 p.2).2 (List.mem_of_getElem? hi)⟩
  cases t with
  | none => simp [pairsO] at hi
  | some t =>
    show t.find p.1 = i
    rw [find_eq p.1 t h]
    exact srt_place _ h i p hi
end Go.Proofs.YtabflppnecemkaaGreatDoor

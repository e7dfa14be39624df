/- Part 11 of the proof. -/
import Derived.Maps.AppendAt
import Derived.Test.YtabflppnecemkaaGreatDoorPb2
import Derived.Test.YtabflppnecemkaaGreatDoorPb6
import Derived.Test.YtabflppnecemkaaGreatDoorPb8
import Derived.Test.YtabflppnecemkaaGreatDoorPb10
namespace Go.Proofs.YtabflppnecemkaaGreatDoor
set_option linter.unusedVariables false
set_option linter.unusedSimpArgs false
open Go.RowKit
set_option maxRecDepth 100000
set_option linter.unusedSimpArgs false
set_option linter.unusedVariables false
def ptrN : Value → Nat
  | .pointer (some a) => a.block
  | _ => 0
def strO (o : Option ByteArray) : ByteArray := o.getD eBA
theorem get_nil (k : ByteArray) (w : World) : Calls Tryz.prog 75 #[.pointer none, .string k] w fun e w' => e = .returned (.tuple #[.string (strO none), .bool false]) ∧ w = w' := by
  go_enter Tryz.func75, Tryz.ntmps75
  go_upto_region 1 with (fail)
  go_loop [0] (fun x => x = .pointer none) (fun _ => 0)
  case atStart => rfl
  case round =>
    subst hrel
    go_wp2_with (go_at_call 69; (with_reducible refine (len_nil _).mono ?_); rintro e w' ⟨rfl, rfl⟩)
    go_ret2
    exact ⟨rfl, rfl⟩
set_option maxHeartbeats 2000000 in
theorem get_some (k : ByteArray) (t : AvT) (g : Nat) (w : World) (ht : TreeAt w g t) : Calls Tryz.prog 75 #[.pointer (some ⟨g, 0, none⟩), .string k] w fun e w' => e = .returned (.tuple #[.string (strO (t.get k)), .bool (t.get k).isSome]) ∧ w = w' := by
  obtain ⟨G, hG⟩ : ∃ G, G = t.get k := ⟨_, rfl⟩
  have HG := Lib.hid hG
  have HT := Lib.hid ht
  rw [← hG]
  clear hG ht
  go_enter Tryz.func75, Tryz.ntmps75
  go_upto_region 1 with (fail)
  go_loop [0] (fun x => ∃ g' t', x = .pointer (some ⟨g', 0, none⟩) ∧ Hid (TreeAt w g' t') ∧ Hid (G = t'.get k)) (fun x => ptrN x)
  case atStart => exact ⟨g, t, rfl, HT, HG⟩
  case round =>
    clear HT HG
    obtain ⟨g', t', rfl, HT, HG⟩ := hrel
    cases t' with
    | leaf k0 v0 =>
      have HLE := Lib.hid (len_some w HT.out)
      have c0 := HT.out.least
      have c1 := HT.out.value
      rw [show (AvT.leaf k0 v0).least = k0 from rfl] at c0
      rw [show (AvT.leaf k0 v0).value = v0 from rfl] at c1
      by_cases h1 : k0 = k
      · have hk : (k0.toList == k.toList) = true := by rw [beqL]; simp [h1]
        have HF := Lib.hid (show G = some v0 by rw [HG.out, AvT.get, if_pos h1])
        clear h1 HG
        go_wp2_with (first
          | (go_at_call 69; (with_reducible refine HLE.out.mono ?_); rw [show ((AvT.leaf k0 v0).many : Int) = 1 from rfl]; rintro e w' ⟨rfl, rfl⟩))
        go_ret2
        rw [HF.out]
        exact ⟨rfl, rfl⟩
      · have hk : (k0.toList == k.toList) = false := by rw [beqL]; simp [h1]
        have HF := Lib.hid (show G = none by rw [HG.out, AvT.get, if_neg h1])
        clear h1 HG
        go_wp2_with (first
          | (go_at_call 69; (with_reducible refine HLE.out.mono ?_); rw [show ((AvT.leaf k0 v0).many : Int) = 1 from rfl]; rintro e w' ⟨rfl, rfl⟩))
        go_ret2
        rw [HF.out]
        exact ⟨rfl, rfl⟩
    | node a b =>
      have HLE := Lib.hid (len_some w HT.out)
      obtain ⟨ga, gb, l1, l2, k1, k2, ha, hb⟩ := HT.out.kidsL
      have c0 := hb.least
      have h2m : 2 ≤ (AvT.node a b).many := by have := a.many_pos; have := b.many_pos; simp only [AvT.many]; omega
      obtain ⟨m, hmm⟩ : ∃ m, m = (AvT.node a b).many := ⟨_, rfl⟩
      rw [← hmm] at HLE h2m
      have hm1 : (1 : Int) < (m : Int) := by omega
      have HA := Lib.hid ha
      have HB := Lib.hid hb
      obtain ⟨lk, hlk⟩ : ∃ l, l = b.least := ⟨_, rfl⟩
      cases h2 : bl k b.least with
      | true =>
        have HF := Lib.hid (show G = a.get k by rw [HG.out, AvT.get, if_pos h2])
        rw [← hlk] at h2 c0
        have hl : Op.bytesLess k.toList lk.toList = true := h2
        clear h2 HG hmm hlk ha hb h2m
        go_wp2_with (first
          | (go_at_call 69; (with_reducible refine HLE.out.mono ?_); rintro e w' ⟨rfl, rfl⟩))
        go_round
        case rel => exact ⟨ga, a, rfl, HA, HF⟩
        case measure => simp [ptrN]; omega
      | false =>
        have HF := Lib.hid (show G = b.get k by rw [HG.out, AvT.get, if_neg (by rw [h2]; simp)])
        rw [← hlk] at h2 c0
        have hl : Op.bytesLess k.toList lk.toList = false := h2
        clear h2 HG hmm hlk ha hb h2m
        go_wp2_with (first
          | (go_at_call 69; (with_reducible refine HLE.out.mono ?_); rintro e w' ⟨rfl, rfl⟩))
        go_round
        case rel => exact ⟨gb, b, rfl, HB, HF⟩
        case measure => simp [ptrN]; omega
theorem get_any (va : Value) (k : ByteArray) (t : Option AvT) (w : World) (ht : TreeO w va t) : Calls Tryz.prog 75 #[va, .string k] w fun e w' => e = .returned (.tuple #[.string (strO (getO t k)), .bool (getO t k).isSome]) ∧ w = w' := by
  cases t with
  | none => cases ht; exact get_nil k w
  | some t => obtain ⟨g, rfl, ht⟩ := ht; exact get_some k t g w ht
theorem TreeAt.toO {w : World} {g : Nat} {t : AvT} (h : TreeAt w g t) : TreeO w (.pointer (some ⟨g, 0, none⟩)) (some t) := ⟨g, rfl, h⟩
def NewO (t : Option AvT) (w : World) (e : Ending) (w' : World) : Prop := ∃ v, e = .returned v ∧ TreeO w' v t ∧ Below w.heap.size w w'
end Go.Proofs.YtabflppnecemkaaGreatDoor
namespace Go.Proofs.YtabflppnecemkaaGreatDoor
set_option linter.unusedVariables false
set_option linter.unusedSimpArgs false
open Go.RowKit
set_option maxRecDepth 100000
set_option linter.unusedSimpArgs false
set_option linter.unusedVariables false
def kvC (p : KV) : Array Value := #[.string p.1, .string p.2]
theorem kvC_one (p : KV) : (kvC p).all (·.oneCell') = true := by simp [kvC, Value.oneCell']
set_option maxHeartbeats 1000000 in
theorem pair_any (g : Nat) (t : AvT) (w : World) (ht : TreeAt w g t) : Calls Tryz.prog 95 #[.pointer (some ⟨g, 0, none⟩)] w fun e w' => e = .returned (.agg (kvC (t.least, t.value))) ∧ Below w.heap.size w w' := by
  have HB := Lib.hid (below_alloc w (.cells #[.string { data := #[] }, .string { data := #[] }] 169))
  have HP := Lib.hid (heap_alloc_new w (.cells #[.string { data := #[] }, .string { data := #[] }] 169))
  have HT := Lib.hid (ht.below HB.out)
  obtain ⟨k, hk⟩ : ∃ k, k = t.least := ⟨_, rfl⟩
  obtain ⟨v, hv⟩ : ∃ v, v = t.value := ⟨_, rfl⟩
  have c0 := HT.out.least
  have c1 := HT.out.value
  rw [← hk] at c0 ⊢
  rw [← hv] at c1 ⊢
  have HC := Lib.hid (show World.cell? _ ⟨g, 0, none⟩ = _ ∧ World.cell? _ ⟨g, 1, none⟩ = _ from ⟨c0, c1⟩)
  clear hk hv ht HT c0 c1
  go_enter Tryz.func95, Tryz.ntmps95
  go_upto_region 1 with (fail)
  generalize w.alloc (.cells #[.string { data := #[] }, .string { data := #[] }] 169) = w1 at *
  refine wp_region_T (fun w' => w'.cell? ⟨g, 0, none⟩ = some (.string k) ∧ w'.cell? ⟨g, 1, none⟩ = some (.string v)) [3, 7] (by kernel_rfl) ?_
  have HS := Lib.hid (show w1.drew.cell? ⟨g, 0, none⟩ = some (.string k) ∧ w1.drew.cell? ⟨g, 1, none⟩ = some (.string v) from HC.out)
  replace HB := Lib.hid (show Below w.heap.size w w1.drew from HB.out.drew)
  replace HP := Lib.hid (show w1.drew.heap[w.heap.size]? = _ from HP.out)
  generalize w1.drew = w2 at *
  refine anyT_takeY (i := 0) (v := .pointer (some ⟨g, 0, none⟩)) rfl (by kernel_rfl) (by kernel_rfl) (by kernel_rfl) (fun _ _ _ h => h) (by kernel_rfl) (Or.inl ⟨by rfl, by intro w; go_simp⟩) ?_
  try simp only [List.getElem_toArray, List.getElem_cons_succ, List.getElem_cons_zero, Act.put, List.setIfInBounds_toArray, List.set_cons_zero, List.set_cons_succ]
  refine anyT_takeY (i := 1) (v := .pointer (some ⟨g, 0, none⟩)) rfl (by kernel_rfl) (by kernel_rfl) (by kernel_rfl) (fun _ _ _ h => h) (by kernel_rfl) (Or.inl ⟨by rfl, by intro w; go_simp⟩) ?_
  try simp only [List.getElem_toArray, List.getElem_cons_succ, List.getElem_cons_zero, Act.put, List.setIfInBounds_toArray, List.set_cons_zero, List.set_cons_succ]
  refine anyT_takeY (i := 2) (v := .pointer (some ⟨g, 0, none⟩)) rfl (by kernel_rfl) (by kernel_rfl) (by kernel_rfl) (fun _ _ _ h => h) (by kernel_rfl) (Or.inl ⟨by rfl, by intro w; go_simp⟩) ?_
  try simp only [List.getElem_toArray, List.getElem_cons_succ, List.getElem_cons_zero, Act.put, List.setIfInBounds_toArray, List.set_cons_zero, List.set_cons_succ]
  refine anyT_takeY (i := 4) (v := .pointer (some ⟨g, 0, none⟩)) rfl (by kernel_rfl) (by kernel_rfl) (by kernel_rfl) (fun _ _ _ h => h) (by kernel_rfl) (Or.inl ⟨by rfl, by intro w; go_simp⟩) ?_
  try simp only [List.getElem_toArray, List.getElem_cons_succ, List.getElem_cons_zero, Act.put, List.setIfInBounds_toArray, List.set_cons_zero, List.set_cons_succ]
  refine anyT_takeY (i := 5) (v := .pointer (some ⟨g, 0, none⟩)) rfl (by kernel_rfl) (by kernel_rfl) (by kernel_rfl) (fun _ _ _ h => h) (by kernel_rfl) (Or.inl ⟨by rfl, by intro w; go_simp⟩) ?_
  try simp only [List.getElem_toArray, List.getElem_cons_succ, List.getElem_cons_zero, Act.put, List.setIfInBounds_toArray, List.set_cons_zero, List.set_cons_succ]
  refine anyT_takeY (i := 6) (v := .pointer (some ⟨g, 1, none⟩)) rfl (by kernel_rfl) (by kernel_rfl) (by kernel_rfl) (fun _ _ _ h => h) (by kernel_rfl) (Or.inl ⟨by rfl, by intro w; go_simp⟩) ?_
  try simp only [List.getElem_toArray, List.getElem_cons_succ, List.getElem_cons_zero, Act.put, List.setIfInBounds_toArray, List.set_cons_zero, List.set_cons_succ]
  refine anyT_take [8, 9] (i := 3) (v := .string k) rfl (by kernel_rfl) (by kernel_rfl) (by kernel_rfl) (fun _ _ _ h => h) (by kernel_rfl) (Or.inl ⟨by rfl, fun w' hS => by have c := hS.1; go_simp⟩) HS.out ?_
  try simp only [List.getElem_toArray, List.getElem_cons_succ, List.getElem_cons_zero, Act.put, List.setIfInBounds_toArray, List.set_cons_zero, List.set_cons_succ]
  refine anyT_take [8, 9] (i := 7) (v := .string v) rfl (by kernel_rfl) (by kernel_rfl) (by kernel_rfl) (fun _ _ _ h => h) (by kernel_rfl) (Or.inl ⟨by rfl, fun w' hS => by have c := hS.2; go_simp⟩) HS.out ?_
  try simp only [List.getElem_toArray, List.getElem_cons_succ, List.getElem_cons_zero, Act.put, List.setIfInBounds_toArray, List.set_cons_zero, List.set_cons_succ]
  refine anyT_takeY (i := 8) (v := .agg (kvC (k, v))) rfl (by kernel_rfl) (by kernel_rfl) (by kernel_rfl) (fun _ _ _ h => h) (by kernel_rfl) (Or.inl ⟨by rfl, by intro w; go_simp; rfl⟩) ?_
  try simp only [List.getElem_toArray, List.getElem_cons_succ, List.getElem_cons_zero, Act.put, List.setIfInBounds_toArray, List.set_cons_zero, List.set_cons_succ]
  refine anyT_one (i := 9) (by kernel_rfl) rfl (fun K hK => ?_)
  rw [if_pos (by rfl)]
  try simp only [List.getElem_toArray, List.getElem_cons_succ, List.getElem_cons_zero]
  (refine wp_store_row 169 (.tmp 2) (.tmp 11) rfl w.heap.size (kvC (k, v)) rfl rfl 169 _ HP.out (by kernel_rfl) rfl (kvC_one _) ?_)
  refine hK _ _ (not_mem rfl) ?_
  clear hK K
  try simp only [List.getElem_toArray, List.getElem_cons_succ, List.getElem_cons_zero, Act.put, List.setIfInBounds_toArray, List.set_cons_zero, List.set_cons_succ]
  refine anyT_done (by kernel_rfl) ?_ _
  go_wp2_with (fail)
  refine bodyPost_ret (results_cell_row rfl _ _ w.heap.size 169 (kvC (k, v)) (0, 0) _ rfl (setRow_heap _ _ _ _ _ _ HP.out) Tryz.underlying169 rfl (by kernel_rfl)) rfl ?_
  exact ⟨rfl, below_setRow HB.out (Nat.le_refl _) _⟩
def rootO (t : Option AvT) : Nat → Int := match t with
  | none => sumF []
  | some t => t.root
theorem root_nil (w : World) (he : Env w) : Calls Tryz.prog 51 #[.pointer none] w fun e w' => e = .returned (.agg (rowOf .u8 32 (sumF []))) ∧ Below w.heap.size w w' := by
  have HB := Lib.hid (below_alloc w (.cells (rowOf .u8 32 (fun _ => 0)) 62))
  have HR := Lib.hid (RowAt.new w .u8 32 62 (fun _ => 0))
  have HE := Lib.hid (he.below HB.out he.lt)
  clear he
  go_enter Tryz.func51, Tryz.ntmps51
  go_upto_region 1 with (fail)
  rw [zeros32]
  generalize w.alloc (.cells (rowOf .u8 32 (fun _ => 0)) 62) = w1 at *
  go_wp2_with (first
    | (go_at_call 69; (with_reducible refine (len_nil _).mono ?_); rintro e w' ⟨rfl, rfl⟩)
    | (go_at_call 77; (with_reducible refine (shSum_any _ [] _ (nil_in _) HE.out).mono ?_); rintro e w9 ⟨rfl, hb⟩; replace HR := Lib.hid (HR.out.below hb HR.out.lt); replace HB := Lib.hid (HB.out.trans (hb.mono HB.out.size)); clear hb)
    | (refine wpList_store_row rfl 62 (.tmp 2) (.tmp 6) rfl w.heap.size _ rfl rfl 62 _ HR.out (by rw [rowOf_size]; kernel_rfl) (by rw [rowOf_size, rowOf_size]) (rowOf_one _ _ _) ?_))
  refine bodyPost_ret (results_cell_row rfl _ _ w.heap.size 62 _ (0, 0) _ rfl (setRow_heap _ _ _ _ _ _ HR.out) Tryz.underlying62 rfl (by rw [rowOf_size]; kernel_rfl)) rfl ?_
  exact ⟨rfl, below_setRow HB.out (Nat.le_refl _) _⟩
theorem TreeAt.rootRange {w : World} {g : Nat} {t : AvT} (h : TreeAt w g t) : w.rangeAt g 4 (rowOf .u8 32 t.root).toList := by
  obtain ⟨p, q, h⟩ := h.cells
  exact (t_cells h).2.2.2.2.2.2
set_option maxHeartbeats 1000000 in
theorem root_some (g : Nat) (t : AvT) (w : World) (ht : TreeAt w g t) : Calls Tryz.prog 51 #[.pointer (some ⟨g, 0, none⟩)] w fun e w' => e = .returned (.agg (rowOf .u8 32 t.root)) ∧ Below w.heap.size w w' := by
  have HB := Lib.hid (below_alloc w (.cells (rowOf .u8 32 (fun _ => 0)) 62))
  have HR := Lib.hid (RowAt.new w .u8 32 62 (fun _ => 0))
  have HT := Lib.hid (ht.below HB.out)
  have HLE := Lib.hid (len_some _ HT.out)
  have HRG := Lib.hid HT.out.rootRange
  have hm := t.many_pos
  obtain ⟨m, hmm⟩ : ∃ m, m = t.many := ⟨_, rfl⟩
  rw [← hmm] at HLE hm
  have hm0 : ((m : Int) == 0) = false := by rw [beq_eq_false_iff_ne]; omega
  obtain ⟨R, hR⟩ : ∃ R, R = t.root := ⟨_, rfl⟩
  rw [← hR] at HRG ⊢
  clear ht hmm hm hR HT
  go_enter Tryz.func51, Tryz.ntmps51
  go_upto_region 1 with (fail)
  rw [zeros32]
  generalize w.alloc (.cells (rowOf .u8 32 (fun _ => 0)) 62) = w1 at *
  go_wp2_with (first
    | (go_at_call 69; (with_reducible refine HLE.out.mono ?_); rintro e w' ⟨rfl, rfl⟩)
    | (refine wpList_load_mid rfl 62 (.tmp 9) rfl g 4 rfl _ _ HRG.out Tryz.underlying62 rfl (by rw [(rowOf_list _ _ _).2]; kernel_rfl) ?_; rw [Array.toArray_toList])
    | (refine wpList_store_row rfl 62 (.tmp 2) (.tmp 10) rfl w.heap.size _ rfl rfl 62 _ HR.out (by rw [rowOf_size]; kernel_rfl) (by rw [rowOf_size, rowOf_size]) (rowOf_one _ _ _) ?_))
  refine bodyPost_ret (results_cell_row rfl _ _ w.heap.size 62 _ (0, 0) _ rfl (setRow_heap _ _ _ _ _ _ HR.out) Tryz.underlying62 rfl (by rw [rowOf_size]; kernel_rfl)) rfl ?_
  exact ⟨rfl, below_setRow HB.out (Nat.le_refl _) _⟩
theorem root_any (va : Value) (t : Option AvT) (w : World) (he : Env w) (ht : TreeO w va t) : Calls Tryz.prog 51 #[va] w fun e w' => e = .returned (.agg (rowOf .u8 32 (rootO t))) ∧ Below w.heap.size w w' := by
  cases t with
  | none => cases ht; exact root_nil w he
  | some t => obtain ⟨g, rfl, ht⟩ := ht; exact root_some g t w ht
def findO (t : Option AvT) (k : ByteArray) : Nat := match t with
  | none => 0
  | some t => t.find k
theorem find_nil (k : ByteArray) (w : World) : Calls Tryz.prog 74 #[.pointer none, .string k] w fun e w' => e = .returned (.int .i64 0) ∧ w = w' := by
  go_enter Tryz.func74, Tryz.ntmps74
  go_upto_region 2 with (fail)
  go_loop [0, 5] (fun x y => x = .pointer none ∧ y = .int .i64 0) (fun _ _ => 0)
  case atStart => exact ⟨rfl, rfl⟩
  case round =>
    obtain ⟨rfl, rfl⟩ := hrel
    go_wp2_with (go_at_call 69; (with_reducible refine (len_nil _).mono ?_); rintro e w' ⟨rfl, rfl⟩)
    go_ret
    exact ⟨rfl, rfl⟩
theorem find_le (k : ByteArray) : ∀ t : AvT, t.find k ≤ t.many
  | .leaf k0 v0 => by unfold AvT.find; simp only [AvT.many]; split <;> omega
  | .node a b => by
    have := find_le k a
    have := find_le k b
    unfold AvT.find; simp only [AvT.many]; split <;> omega
set_option maxHeartbeats 2000000 in
theorem find_some (k : ByteArray) (t : AvT) (g : Nat) (w : World) (ht : TreeAt w g t) (hm : t.many ≤ 4611686018427387904) : Calls Tryz.prog 74 #[.pointer (some ⟨g, 0, none⟩), .string k] w fun e w' => e = .returned (.int .i64 (t.find k : Int)) ∧ w = w' := by
  obtain ⟨G, hG⟩ : ∃ G, G = t.find k := ⟨_, rfl⟩
  obtain ⟨N, hN⟩ : ∃ N, N = t.many := ⟨_, rfl⟩
  have HG := Lib.hid (show G = 0 + t.find k by omega)
  have HN := Lib.hid (show 0 + t.many ≤ N by omega)
  have HNB := Lib.hid (show N ≤ 4611686018427387904 by omega)
  have HT := Lib.hid ht
  rw [← hG]
  clear hG ht hN hm
  go_enter Tryz.func74, Tryz.ntmps74
  go_upto_region 2 with (fail)
  go_loop [0, 5] (fun x y => ∃ g' t', ∃ c : Nat, x = .pointer (some ⟨g', 0, none⟩) ∧ y = .int .i64 (c : Int) ∧ Hid (TreeAt w g' t') ∧ Hid (G = c + t'.find k) ∧ Hid (c + t'.many ≤ N)) (fun x _ => ptrN x)
  case atStart => exact ⟨g, t, 0, rfl, rfl, HT, HG, HN⟩
  case round =>
    clear HT HG HN
    obtain ⟨g', t', c, rfl, rfl, HT, HG, HN⟩ := hrel
    have hcb : c ≤ 4611686018427387904 := by have := HN.out; have := HNB.out; omega
    cases t' with
    | leaf k0 v0 =>
      have HLE := Lib.hid (len_some w HT.out)
      have c0 := HT.out.least
      rw [show (AvT.leaf k0 v0).least = k0 from rfl] at c0
      cases h1 : bl k0 k with
      | true =>
        have hk : Op.bytesLess k0.toList k.toList = true := h1
        have HF := Lib.hid (show G = c + 1 by rw [HG.out, AvT.find, if_pos h1])
        clear h1 HG
        go_wp2_with (first
          | (go_at_call 69; (with_reducible refine HLE.out.mono ?_); rw [show ((AvT.leaf k0 v0).many : Int) = 1 from rfl]; rintro e w' ⟨rfl, rfl⟩))
        go_ret
        rw [HF.out]
        exact ⟨rfl, rfl⟩
      | false =>
        have hk : Op.bytesLess k0.toList k.toList = false := h1
        have HF := Lib.hid (show G = c by rw [HG.out, AvT.find, if_neg (by rw [h1]; simp)]; rfl)
        clear h1 HG
        go_wp2_with (first
          | (go_at_call 69; (with_reducible refine HLE.out.mono ?_); rw [show ((AvT.leaf k0 v0).many : Int) = 1 from rfl]; rintro e w' ⟨rfl, rfl⟩))
        go_ret
        rw [HF.out]
        exact ⟨rfl, rfl⟩
    | node a b =>
      have HLE := Lib.hid (len_some w HT.out)
      obtain ⟨ga, gb, l1, l2, k1, k2, ha, hb⟩ := HT.out.kidsL
      have c0 := hb.least
      have c2 := ha.many
      have h2m : 2 ≤ (AvT.node a b).many := by have := a.many_pos; have := b.many_pos; simp only [AvT.many]; omega
      obtain ⟨m, hmm⟩ : ∃ m, m = (AvT.node a b).many := ⟨_, rfl⟩
      rw [← hmm] at HLE h2m
      have hm1 : (1 : Int) < (m : Int) := by omega
      have HA := Lib.hid ha
      have HB := Lib.hid hb
      obtain ⟨lk, hlk⟩ : ∃ l, l = b.least := ⟨_, rfl⟩
      have hsum : a.many + b.many + c ≤ N := by have := HN.out; simp only [AvT.many] at this; omega
      cases h2 : bl k b.least with
      | true =>
        have HF := Lib.hid (show G = c + a.find k by rw [HG.out, AvT.find, if_pos h2])
        replace HN := Lib.hid (show c + a.many ≤ N by omega)
        rw [← hlk] at h2 c0
        have hl : Op.bytesLess k.toList lk.toList = true := h2
        clear h2 HG hmm hlk ha hb h2m c2 hsum
        go_wp2_with (first
          | (go_at_call 69; (with_reducible refine HLE.out.mono ?_); rintro e w' ⟨rfl, rfl⟩))
        go_round
        case rel => exact ⟨ga, a, c, rfl, rfl, HA, HF, HN⟩
        case measure => simp [ptrN]; omega
      | false =>
        obtain ⟨ma, hma⟩ : ∃ n, n = a.many := ⟨_, rfl⟩
        rw [← hma] at c2 hsum
        have HF := Lib.hid (show G = c + ma + b.find k by rw [HG.out, AvT.find, if_neg (by rw [h2]; simp), hma]; omega)
        have hcb2 : c + ma ≤ 4611686018427387904 := by have := HNB.out; omega
        replace HN := Lib.hid (show c + ma + b.many ≤ N by omega)
        rw [← hlk] at h2 c0
        have hl : Op.bytesLess k.toList lk.toList = false := h2
        clear h2 HG hmm hlk ha hb h2m hma hsum
        go_wp2_with (first
          | (go_at_call 69; (with_reducible refine HLE.out.mono ?_); rintro e w' ⟨rfl, rfl⟩))
        go_round
        case rel => exact ⟨gb, b, c + ma, rfl, by go_num, HB, HF, HN⟩
        case measure => simp [ptrN]; omega
theorem find_any (va : Value) (k : ByteArray) (t : Option AvT) (w : World) (ht : TreeO w va t) (hm : manyO t ≤ 4611686018427387904) : Calls Tryz.prog 74 #[va, .string k] w fun e w' => e = .returned (.int .i64 (findO t k : Int)) ∧ w = w' := by
  cases t with
  | none => cases ht; exact find_nil k w
  | some t => obtain ⟨g, rfl, ht⟩ := ht; exact find_some k t g w ht hm
/-- At in all cases -/
def atO (t : Option AvT) (i : Int) : KV × Option Nat := match t with
  | none => ((eBA, eBA), some 1)
  | some t => if 0 ≤ i ∧ i < t.many then (t.at? i.toNat, none) else ((eBA, eBA), some 1)
def AtPost (r : KV × Option Nat) (w : World) (e : Ending) (w' : World) : Prop := e = .returned (.tuple #[.agg (kvC r.1), errV r.2]) ∧ Below w.heap.size w w'
set_option maxHeartbeats 1000000 in
theorem at_no (va : Value) (t : Option AvT) (i : Int) (w : World) (ht : TreeO w va t) (h : ¬ (0 ≤ i ∧ i < manyO t)) : Calls Tryz.prog 89 #[va, .int .i64 i] w (AtPost ((eBA, eBA), some 1) w) := by
  have HB := Lib.hid (below_alloc w (.cells #[.string { data := #[] }, .string { data := #[] }] 169))
  have HP := Lib.hid (heap_alloc_new w (.cells #[.string { data := #[] }, .string { data := #[] }] 169))
  have HLE := Lib.hid (len_any _ (ht.below HB.out))
  obtain ⟨m, hmm⟩ : ∃ m, m = manyO t := ⟨_, rfl⟩
  rw [← hmm] at HLE h
  clear hmm ht
  unfold AtPost
  by_cases h0 : i < 0
  · clear h
    go_enter Tryz.func89, Tryz.ntmps89
    go_upto_region 1 with (fail)
    generalize w.alloc (.cells #[.string { data := #[] }, .string { data := #[] }] 169) = w1 at *
    go_wp2_with (first
      | (refine wpList_store_row rfl 169 (.tmp 4) (.tmp 14) rfl w.heap.size (kvC (eBA, eBA)) rfl rfl 169 _ HP.out (by kernel_rfl) rfl (kvC_one _) ?_))
    refine bodyPost_ret (results_cell_tmp_row rfl _ _ w.heap.size 169 (kvC (eBA, eBA)) (0, 0) _ rfl (setRow_heap _ _ _ _ _ _ HP.out) Tryz.underlying169 rfl (by kernel_rfl)) rfl ?_
    exact ⟨rfl, below_setRow HB.out (Nat.le_refl _) _⟩
  · have h1 : (m : Int) ≤ i := by omega
    clear h
    go_enter Tryz.func89, Tryz.ntmps89
    go_upto_region 1 with (fail)
    generalize w.alloc (.cells #[.string { data := #[] }, .string { data := #[] }] 169) = w1 at *
    go_wp2_with (first
      | (go_at_call 69; (with_reducible refine HLE.out.mono ?_); rintro e w' ⟨rfl, rfl⟩)
      | (refine wpList_store_row rfl 169 (.tmp 4) (.tmp 14) rfl w.heap.size (kvC (eBA, eBA)) rfl rfl 169 _ HP.out (by kernel_rfl) rfl (kvC_one _) ?_))
    refine bodyPost_ret (results_cell_tmp_row rfl _ _ w.heap.size 169 (kvC (eBA, eBA)) (0, 0) _ rfl (setRow_heap _ _ _ _ _ _ HP.out) Tryz.underlying169 rfl (by kernel_rfl)) rfl ?_
    exact ⟨rfl, below_setRow HB.out (Nat.le_refl _) _⟩
set_option maxHeartbeats 2000000 in
theorem at_yes (g : Nat) (t : AvT) (i : Nat) (w : World) (ht : TreeAt w g t) (hi : i < t.many) (hm : t.many ≤ 4611686018427387904) : Calls Tryz.prog 89 #[.pointer (some ⟨g, 0, none⟩), .int .i64 (i : Int)] w (AtPost (t.at? i, none) w) := by
  have HB := Lib.hid (below_alloc w (.cells #[.string { data := #[] }, .string { data := #[] }] 169))
  have HP := Lib.hid (heap_alloc_new w (.cells #[.string { data := #[] }, .string { data := #[] }] 169))
  have HT := Lib.hid (ht.below HB.out)
  have HLE := Lib.hid (len_some _ HT.out)
  obtain ⟨P, hP⟩ : ∃ P, P = t.at? i := ⟨_, rfl⟩
  have HG := Lib.hid hP
  rw [← hP]
  obtain ⟨m, hmm⟩ : ∃ m, m = t.many := ⟨_, rfl⟩
  have HN := Lib.hid (show i < t.many ∧ t.many ≤ 4611686018427387904 from ⟨hi, hm⟩)
  rw [← hmm] at HLE hi hm
  have hiI : ¬ (m : Int) ≤ (i : Int) := by omega
  have hiI2 : (i : Int) < (m : Int) := by omega
  clear hmm ht hP hi hm
  unfold AtPost
  go_enter Tryz.func89, Tryz.ntmps89
  go_upto_region 1 with (fail)
  generalize w.alloc (.cells #[.string { data := #[] }, .string { data := #[] }] 169) = w1 at *
  go_upto_region 3 with (go_at_call 69; (with_reducible refine HLE.out.mono ?_); rintro e w' ⟨rfl, rfl⟩)
  clear HLE hiI hiI2
  go_loop [0, 1] (fun x y => ∃ g' t', ∃ c : Nat, x = .pointer (some ⟨g', 0, none⟩) ∧ y = .int .i64 (c : Int) ∧ Hid (TreeAt w1 g' t') ∧ Hid (P = t'.at? c) ∧ Hid (c < t'.many ∧ t'.many ≤ 4611686018427387904)) (fun x _ => ptrN x)
  case atStart => exact ⟨g, t, i, rfl, rfl, HT, HG, HN⟩
  case round =>
    clear HT HG HN
    obtain ⟨g', t', c, rfl, rfl, HT, HG, HN⟩ := hrel
    have c2 := HT.out.many
    cases t' with
    | leaf k0 v0 =>
      rw [show ((AvT.leaf k0 v0).many : Int) = 1 from rfl] at c2
      have HPA := Lib.hid (pair_any g' _ w1 HT.out)
      rw [show ((AvT.leaf k0 v0).least, (AvT.leaf k0 v0).value) = P from HG.out.symm] at HPA
      clear HG HN
      go_wp2_with (first
        | (go_at_call 95; (with_reducible refine HPA.out.mono ?_); rintro e w5 ⟨rfl, hb⟩; replace HP := Lib.hid ((hb.block _ (Array.getElem?_eq_some_iff.1 HP.out).1).trans HP.out); replace HB := Lib.hid (HB.out.trans (hb.mono HB.out.size)); clear hb)
        | (refine wpList_store_row rfl 169 (.tmp 4) (.tmp 48) rfl w.heap.size (kvC P) rfl rfl 169 _ HP.out (by kernel_rfl) rfl (kvC_one _) ?_))
      refine bodyPost_ret (results_cell_tmp_row rfl _ _ w.heap.size 169 (kvC P) (0, 0) _ rfl (setRow_heap _ _ _ _ _ _ HP.out) Tryz.underlying169 rfl (by kernel_rfl)) rfl ?_
      exact ⟨rfl, below_setRow HB.out (Nat.le_refl _) _⟩
    | node a b =>
      obtain ⟨ga, gb, l1, l2, k1, k2, ha, hb⟩ := HT.out.kidsL
      have c3 := ha.many
      have h2m : 2 ≤ (AvT.node a b).many := by have := a.many_pos; have := b.many_pos; simp only [AvT.many]; omega
      have hN := HN.out
      simp only [AvT.many] at hN
      obtain ⟨m', hmm⟩ : ∃ m, m = (AvT.node a b).many := ⟨_, rfl⟩
      rw [← hmm] at c2 h2m
      have hm1 : (1 : Int) < (m' : Int) := by omega
      have HA := Lib.hid ha
      have HB' := Lib.hid hb
      by_cases hlt : c < a.many
      · have HF := Lib.hid (show P = a.at? c by rw [HG.out, AvT.at?, if_pos hlt])
        replace HN := Lib.hid (show c < a.many ∧ a.many ≤ 4611686018427387904 by omega)
        obtain ⟨ma, hma⟩ : ∃ n, n = a.many := ⟨_, rfl⟩
        rw [← hma] at c3 hlt hN
        have hltI : (c : Int) < (ma : Int) := by omega
        clear HG hmm ha hb h2m hma hlt hN
        go_wp2_with (fail)
        go_round
        case rel => exact ⟨ga, a, c, rfl, rfl, HA, HF, HN⟩
        case measure => simp [ptrN]; omega
      · have HF := Lib.hid (show P = b.at? (c - a.many) by rw [HG.out, AvT.at?, if_neg hlt])
        replace HN := Lib.hid (show c - a.many < b.many ∧ b.many ≤ 4611686018427387904 by omega)
        obtain ⟨ma, hma⟩ : ∃ n, n = a.many := ⟨_, rfl⟩
        rw [← hma] at c3 hlt hN HF HN
        have hltI : ¬ (c : Int) < (ma : Int) := by omega
        have hcb : c ≤ 4611686018427387904 := by omega
        have hle : (ma : Int) ≤ (c : Int) := by omega
        have hsub : ((c : Int) - (ma : Int)) = ((c - ma : Nat) : Int) := by omega
        clear HG hmm ha hb h2m hma hlt hN
        go_wp2_with (fail)
        go_round
        case rel => exact ⟨gb, b, c - ma, rfl, by first | rfl | go_num, HB', HF, HN⟩
        case measure => simp [ptrN]; omega
theorem at_any (va : Value) (t : Option AvT) (i : Int) (w : World) (ht : TreeO w va t) (hm : manyO t ≤ 4611686018427387904) : Calls Tryz.prog 89 #[va, .int .i64 i] w (AtPost (atO t i) w) := by
  cases t with
  | none => exact at_no va none i w ht (by rw [show manyO none = 0 from rfl]; omega)
  | some t =>
    unfold atO
    dsimp only
    split
    · rename_i h
      obtain ⟨k, rfl⟩ : ∃ k : Nat, i = (k : Int) := ⟨i.toNat, by omega⟩
      obtain ⟨g, rfl, ht⟩ := ht
      exact at_yes g t k w ht (by omega) hm
    · rename_i h
      exact at_no va (some t) i w ht h
end Go.Proofs.YtabflppnecemkaaGreatDoor
namespace Go.Proofs.YtabflppnecemkaaGreatDoor
set_option linter.unusedVariables false
set_option linter.unusedSimpArgs false
open Go.RowKit
set_option maxRecDepth 100000
set_option linter.unusedSimpArgs false
set_option linter.unusedVariables false
theorem range_below {w w' : World} {B b o : Nat} {cs : List Value} (h : w.rangeAt b o cs) (hb : Below B w w') (hB : b < B) : w'.rangeAt b o cs := fun j v hv => (hb.cell (p := ⟨b, o + j, none⟩) hB).trans (h j v hv)
theorem ownsRow_below {w w' : World} {B : Nat} {t : TypeId} {n m : Nat} {v : Value} {xs : List Value} (h : w.ownsRow B t n v m xs) (hb : Below w.heap.size w w') : w'.ownsRow B t n v m xs :=
  ⟨h.1, h.2.imp id fun ⟨g, cap, cur, e, h0, hg, r⟩ => ⟨g, cap, cur, e, h0, (hb.block g (Array.getElem?_eq_some_iff.1 hg).1).trans hg, r⟩⟩
theorem ownsRow_base {w : World} {B B' : Nat} {t : TypeId} {n m : Nat} {v : Value} {xs : List Value} (h : w.ownsRow B t n v m xs) (hB : B' ≤ B) : w.ownsRow B' t n v m xs :=
  ⟨h.1, h.2.imp id fun ⟨g, cap, cur, h1, h2, r⟩ => ⟨g, cap, cur, h1, Nat.le_trans hB h2, r⟩⟩
def flatKV (l : List KV) : List Value := l.flatMap fun p => [Value.string p.1, Value.string p.2]
theorem flatKV_length (l : List KV) : (flatKV l).length = l.length * 2 := by
  induction l with
  | nil => rfl
  | cons p l ih =>
    show (Value.string p.1 :: Value.string p.2 :: flatKV l).length = _
    simp only [List.length_cons, ih]; omega
theorem flatKV_append (a b : List KV) : flatKV (a ++ b) = flatKV a ++ flatKV b := List.flatMap_append
theorem flatKV_get : ∀ (l : List KV) (i : Nat) (p : KV), l[i]? = some p → (flatKV l)[i * 2]? = some (.string p.1) ∧ (flatKV l)[i * 2 + 1]? = some (.string p.2)
  | [], i, p, h => by simp at h
  | q :: l, 0, p, h => by
    injection h with h; subst h
    exact ⟨rfl, rfl⟩
  | q :: l, i + 1, p, h => by
    obtain ⟨h1, h2⟩ := flatKV_get l i p (by simpa using h)
    show (Value.string q.1 :: Value.string q.2 :: flatKV l)[_]? = _ ∧ (Value.string q.1 :: Value.string q.2 :: flatKV l)[_]? = _
    rw [show (i + 1) * 2 = i * 2 + 1 + 1 by omega, List.getElem?_cons_succ, List.getElem?_cons_succ, List.getElem?_cons_succ, List.getElem?_cons_succ]
    exact ⟨h1, h2⟩
theorem flatKV_one (l : List KV) : ∀ u ∈ flatKV l, u.oneCell' = true := by
  intro u hu
  simp only [flatKV, List.mem_flatMap] at hu
  obtain ⟨p, _, hp⟩ := hu
  simp at hp
  rcases hp with rfl | rfl <;> rfl
theorem infoKV : (Tryz.prog.info? 169).map (fun i => (i.zero, i.size, i.bytes)) = some (some (.agg #[.string { data := #[] }, .string { data := #[] }]), 2, 32) := by kernel_rfl
/-- v is a slice of the pairs l -/
def KVIn (w : World) (v : Value) (l : List KV) : Prop :=
  ∃ a cap, v = .slice a l.length cap ∧ l.length ≤ cap ∧ l.length ≤ maxLen ∧ (l = [] ∨ ∃ ab ao, a = some ⟨ab, ao, none⟩ ∧ ab < w.heap.size ∧ ∀ i p, l[i]? = some p → w.cell? ⟨ab, ao + i * 2, none⟩ = some (.string p.1) ∧ w.cell? ⟨ab, ao + i * 2 + 1, none⟩ = some (.string p.2))
theorem KVIn.below {w w' : World} {v : Value} {l : List KV} (h : KVIn w v l) (hb : Below w.heap.size w w') : KVIn w' v l := by
  obtain ⟨a, cap, rfl, hc, hm, hx⟩ := h
  refine ⟨a, cap, rfl, hc, hm, ?_⟩
  rcases hx with hx | ⟨ab, ao, rfl, hlt, hx⟩
  · exact .inl hx
  · exact .inr ⟨ab, ao, rfl, Nat.lt_of_lt_of_le hlt hb.size, fun i p hi => ⟨(hb.cell (p := ⟨ab, ao + i * 2, none⟩) hlt).trans (hx i p hi).1, (hb.cell (p := ⟨ab, ao + i * 2 + 1, none⟩) hlt).trans (hx i p hi).2⟩⟩
theorem KVIn.of_own {w : World} {B : Nat} {v : Value} {l : List KV} (h : w.ownsRow B 169 2 v l.length (flatKV l)) : KVIn w v l := by
  rcases h.2 with ⟨rfl, h0⟩ | ⟨tb, cap, cur, rfl, _, hh, hc, hm, _⟩
  · exact ⟨none, 0, by rw [h0], by omega, by simp [maxLen]; omega, .inl (List.eq_nil_of_length_eq_zero h0)⟩
  · refine ⟨_, cap, rfl, hc, Nat.le_trans hc hm, .inr ⟨tb, 0, rfl, (Array.getElem?_eq_some_iff.1 hh).1, fun i p hi => ?_⟩⟩
    obtain ⟨h1, h2⟩ := flatKV_get l i p hi
    have e1 := h.cells (g := tb) rfl _ _ h1
    have e2 := h.cells (g := tb) rfl _ _ h2
    rw [Addr.add_mid] at e1 e2
    exact ⟨e1, by rw [Nat.add_assoc]; exact e2⟩
theorem KVIn.len {w : World} {v : Value} {l : List KV} (h : KVIn w v l) : ∃ a cap, v = .slice a l.length cap := by
  obtain ⟨a, cap, e, _⟩ := h
  exact ⟨a, cap, e⟩
theorem KVIn.at {w : World} {a : Option Addr} {n cap : Nat} {l : List KV} (h : KVIn w (.slice a n cap) l) (i : Nat) (p : KV) (hi : l[i]? = some p) :
    ∃ ab ao, a = some ⟨ab, ao, none⟩ ∧ ab < w.heap.size ∧ w.cell? ⟨ab, ao + i * 2, none⟩ = some (.string p.1) ∧ w.cell? ⟨ab, ao + i * 2 + 1, none⟩ = some (.string p.2) := by
  obtain ⟨a', cap', e, hc, hm, hx⟩ := h
  injection e with e1 e2 e3
  subst e1
  rcases hx with rfl | ⟨ab, ao, rfl, hlt, hx⟩
  · simp at hi
  · exact ⟨ab, ao, rfl, hlt, hx i p hi⟩
theorem kv_new (w : World) (p : KV) : w.alloc (.cells #[.string p.1, .string p.2] 169) |>.ownsRow w.heap.size 169 2 (.slice (some ⟨w.heap.size, 0, none⟩) 1 1) 1 (flatKV [p]) := by
  refine ⟨rfl, .inr ⟨w.heap.size, 1, #[.string p.1, .string p.2], rfl, Nat.le_refl _, heap_alloc_new _ _, by omega, by simp [maxLen], by simp, rfl⟩⟩
end Go.Proofs.YtabflppnecemkaaGreatDoor

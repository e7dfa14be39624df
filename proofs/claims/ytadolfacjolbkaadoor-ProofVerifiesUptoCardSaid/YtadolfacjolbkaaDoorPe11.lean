/- Part 11 of the proof. -/
import Derived.Test.YtadolfacjolbkaaDoorPe10
namespace Go.Proofs.YtadolfacjolbkaaDoor
set_option linter.unusedVariables false
set_option linter.unusedSimpArgs false
open Go.RowKit
set_option maxRecDepth 100000
set_option linter.unusedSimpArgs false
set_option linter.unusedVariables false
def ptrN : Value → Nat
  | .pointer (some a) => a.block
  | _ => 0
def strO (o : Option ByteArray) : ByteArray := o.getD eBA
theorem get_nil (k : ByteArray) (w : World) : Calls Tryd.prog 26 #[.pointer none, .string k] w fun e w' => e = .returned (.tuple #[.string (strO none), .bool false]) ∧ w = w' := by
  go_enter Tryd.func26, Tryd.ntmps26
  go_upto_region 1 with (fail)
  go_loop [0] (fun x => x = .pointer none) (fun _ => 0)
  case atStart => rfl
  case round =>
    subst hrel
    go_wp2_with (go_at_call 14; (with_reducible refine (len_nil _).mono ?_); rintro e w' ⟨rfl, rfl⟩)
    go_ret2
    exact ⟨rfl, rfl⟩
set_option maxHeartbeats 2000000 in
theorem get_some (k : ByteArray) (t : AvT) (g : Nat) (w : World) (ht : TreeAt w g t) : Calls Tryd.prog 26 #[.pointer (some ⟨g, 0, none⟩), .string k] w fun e w' => e = .returned (.tuple #[.string (strO (t.get k)), .bool (t.get k).isSome]) ∧ w = w' := by
  obtain ⟨G, hG⟩ : ∃ G, G = t.get k := ⟨_, rfl⟩
  have HG := Lib.hid hG
  have HT := Lib.hid ht
  rw [← hG]
  clear hG ht
  go_enter Tryd.func26, Tryd.ntmps26
  go_upto_region 1 with (fail)
  go_loop [0] (fun x => ∃ g' t', x = .pointer (some ⟨g', 0, none⟩) ∧ Hid (TreeAt w g' t') ∧ Hid (G = t'.get k)) (fun x => ptrN x)
  case atStart => exact ⟨g, t, rfl, HT, HG⟩
  case round =>
    clear HT HG
    obtain ⟨g', t', rfl, HT, HG⟩ := hrel
    cases t' with
    | leaf k0 v0 =>
      have HLE := Lib.hid (len_some w HT.out)
      have c0 := HT.out.least
      have c1 := HT.out.value
      rw [show (AvT.leaf k0 v0).least = k0 from rfl] at c0
      rw [show (AvT.leaf k0 v0).value = v0 from rfl] at c1
      by_cases h1 : k0 = k
      · have hk : (k0.toList == k.toList) = true := by rw [beqL]; simp [h1]
        have HF := Lib.hid (show G = some v0 by rw [HG.out, AvT.get, if_pos h1])
        clear h1 HG
        go_wp2_with (first
          | (go_at_call 14; (with_reducible refine HLE.out.mono ?_); rw [show ((AvT.leaf k0 v0).many : Int) = 1 from rfl]; rintro e w' ⟨rfl, rfl⟩))
        go_ret2
        rw [HF.out]
        exact ⟨rfl, rfl⟩
      · have hk : (k0.toList == k.toList) = false := by rw [beqL]; simp [h1]
        have HF := Lib.hid (show G = none by rw [HG.out, AvT.get, if_neg h1])
        clear h1 HG
        go_wp2_with (first
          | (go_at_call 14; (with_reducible refine HLE.out.mono ?_); rw [show ((AvT.leaf k0 v0).many : Int) = 1 from rfl]; rintro e w' ⟨rfl, rfl⟩))
        go_ret2
        rw [HF.out]
        exact ⟨rfl, rfl⟩
    | node a b =>
      have HLE := Lib.hid (len_some w HT.out)
      obtain ⟨ga, gb, l1, l2, k1, k2, ha, hb⟩ := HT.out.kidsL
      have c0 := hb.least
      have h2m : 2 ≤ (AvT.node a b).many := by have := a.many_pos; have := b.many_pos; simp only [AvT.many]; omega
      obtain ⟨m, hmm⟩ : ∃ m, m = (AvT.node a b).many := ⟨_, rfl⟩
      rw [← hmm] at HLE h2m
      have hm1 : (1 : Int) < (m : Int) := by omega
      have HA := Lib.hid ha
      have HB := Lib.hid hb
      obtain ⟨lk, hlk⟩ : ∃ l, l = b.least := ⟨_, rfl⟩
      cases h2 : bl k b.least with
      | true =>
        have HF := Lib.hid (show G = a.get k by rw [HG.out, AvT.get, if_pos h2])
        rw [← hlk] at h2 c0
        have hl : Op.bytesLess k.toList lk.toList = true := h2
        clear h2 HG hmm hlk ha hb h2m
        go_wp2_with (first
          | (go_at_call 14; (with_reducible refine HLE.out.mono ?_); rintro e w' ⟨rfl, rfl⟩))
        go_round
        case rel => exact ⟨ga, a, rfl, HA, HF⟩
        case measure => simp [ptrN]; omega
      | false =>
        have HF := Lib.hid (show G = b.get k by rw [HG.out, AvT.get, if_neg (by rw [h2]; simp)])
        rw [← hlk] at h2 c0
        have hl : Op.bytesLess k.toList lk.toList = false := h2
        clear h2 HG hmm hlk ha hb h2m
        go_wp2_with (first
          | (go_at_call 14; (with_reducible refine HLE.out.mono ?_); rintro e w' ⟨rfl, rfl⟩))
        go_round
        case rel => exact ⟨gb, b, rfl, HB, HF⟩
        case measure => simp [ptrN]; omega
theorem get_any (va : Value) (k : ByteArray) (t : Option AvT) (w : World) (ht : TreeO w va t) : Calls Tryd.prog 26 #[va, .string k] w fun e w' => e = .returned (.tuple #[.string (strO (getO t k)), .bool (getO t k).isSome]) ∧ w = w' := by
  cases t with
  | none => cases ht; exact get_nil k w
  | some t => obtain ⟨g, rfl, ht⟩ := ht; exact get_some k t g w ht
theorem TreeAt.toO {w : World} {g : Nat} {t : AvT} (h : TreeAt w g t) : TreeO w (.pointer (some ⟨g, 0, none⟩)) (some t) := ⟨g, rfl, h⟩
def NewO (t : Option AvT) (w : World) (e : Ending) (w' : World) : Prop := ∃ v, e = .returned v ∧ TreeO w' v t ∧ Below w.heap.size w w'
theorem without_leaf (g : Nat) (k0 v0 k : ByteArray) (w : World) (ht : TreeAt w g (.leaf k0 v0)) : Calls Tryd.prog 53 #[.pointer (some ⟨g, 0, none⟩), .string k] w (NewO ((AvT.leaf k0 v0).without k) w) := by
  have HLE := Lib.hid (len_some w ht)
  clear ht
  unfold NewO
  go_enter Tryd.func53, Tryd.ntmps53
  go_wp2_with (go_at_call 14; (with_reducible refine HLE.out.mono ?_); rw [show ((AvT.leaf k0 v0).many : Int) = 1 from rfl]; rintro e w' ⟨rfl, rfl⟩)
  go_ret
  exact ⟨_, rfl, rfl, Below.refl _ _⟩
set_option maxHeartbeats 2000000 in
theorem without_node (g : Nat) (a b : AvT) (k : ByteArray) (w : World) (he : Env w) (ht : TreeAt w g (.node a b)) (hm : a.many + b.many ≤ 4611686018427387904)
    (iha : ∀ (w : World) (g : Nat), Env w → TreeAt w g a → Calls Tryd.prog 53 #[.pointer (some ⟨g, 0, none⟩), .string k] w (NewO (a.without k) w))
    (ihb : ∀ (w : World) (g : Nat), Env w → TreeAt w g b → Calls Tryd.prog 53 #[.pointer (some ⟨g, 0, none⟩), .string k] w (NewO (b.without k) w)) :
    Calls Tryd.prog 53 #[.pointer (some ⟨g, 0, none⟩), .string k] w (NewO ((AvT.node a b).without k) w) := by
  have HLE := Lib.hid (fun w h => len_some (g := g) (t := .node a b) w h)
  obtain ⟨ga, gb, k1, k2, ha, hb⟩ := ht.kids
  have c0 := hb.least
  have h2m : 2 ≤ (AvT.node a b).many := by have := a.many_pos; have := b.many_pos; simp only [AvT.many]; omega
  obtain ⟨m, hmm⟩ : ∃ m, m = (AvT.node a b).many := ⟨_, rfl⟩
  rw [← hmm] at HLE h2m
  have hm1 : ((m : Int) == 1) = false := by rw [beq_eq_false_iff_ne]; omega
  have M := Lib.hid (show TM w w [(g, .node a b), (ga, a), (gb, b)] from ⟨Below.refl _ _, he, fun z hz => by simp at hz; rcases hz with rfl | rfl | rfl <;> assumption⟩)
  have HK := Lib.hid (show Kids g ga gb w from ⟨k1, k2⟩)
  have HIA := Lib.hid iha
  have HIB := Lib.hid ihb
  have HMA := Lib.hid (show manyO (a.without k) + manyO (some b) ≤ 4611686018427387904 by have := without_many k a; rw [show manyO (some b) = b.many from rfl]; omega)
  have HMB := Lib.hid (show manyO (some a) + manyO (b.without k) ≤ 4611686018427387904 by have := without_many k b; rw [show manyO (some a) = a.many from rfl]; omega)
  obtain ⟨lk, hlk⟩ : ∃ l, l = b.least := ⟨_, rfl⟩
  cases h2 : bl k b.least with
  | true =>
    have HF := Lib.hid (show (AvT.node a b).without k = joinO (a.without k) (some b) by rw [AvT.without, if_pos h2])
    obtain ⟨A, hA⟩ : ∃ A, A = a.without k := ⟨_, rfl⟩
    rw [← hA] at HIA HMA HF
    rw [← hlk] at h2 c0
    have hl : Op.bytesLess k.toList lk.toList = true := h2
    clear h2 ht he hm hmm k1 ha hb hlk hA iha ihb HIB HMB h2m
    unfold NewO
    go_enter Tryd.func53, Tryd.ntmps53
    go_upto_region 4 with (go_at_call 14; (with_reducible refine (HLE.out _ M.out.hd).mono ?_); rintro e w' ⟨rfl, rfl⟩)
    replace M := Lib.hid (M.out.call (Below.refl _ w).drew)
    replace HK := Lib.hid (HK.out.below (Below.refl _ w).drew)
    have hS0 := HK.out
    clear c0 k2
    go_region_held3 (fun w' => w'.cell? ⟨g, 36, none⟩ = some (.pointer (some ⟨ga, 0, none⟩)) ∧ w'.cell? ⟨g, 37, none⟩ = some (.pointer (some ⟨gb, 0, none⟩)))
      (first | (with_reducible exact hS0) | (with_reducible exact hS1) | (with_reducible exact hS2))
      (first
        | (go_at_call 53; (with_reducible refine (HIA.out _ ga M.out.env (M.out.trees (ga, a) (by simp))).mono ?_); rintro e w5 ⟨v5, rfl, ht, hb⟩; replace M := Lib.hid (M.out.call hb); have HO := Lib.hid ht; replace HK := Lib.hid (HK.out.below hb); have hS1 := HK.out; clear ht hb)
        | (go_at_call 52; (with_reducible refine (join_any v5 (.pointer (some ⟨gb, 0, none⟩)) A (some b) _ M.out.env HO.out (TreeAt.toO (M.out.trees (gb, b) (by simp))) HMA.out).mono ?_); rintro e w6 ⟨v6, rfl, ht, hb⟩; replace M := Lib.hid (M.out.call hb); replace HO := Lib.hid ht; replace HK := Lib.hid (HK.out.below hb); have hS2 := HK.out; clear ht hb))
    go_wp2_with (fail)
    go_ret
    rw [HF.out]
    exact ⟨v6, rfl, HO.out, M.out.below⟩
  | false =>
    have HF := Lib.hid (show (AvT.node a b).without k = joinO (some a) (b.without k) by rw [AvT.without, if_neg (by rw [h2]; simp)])
    obtain ⟨B, hB⟩ : ∃ B, B = b.without k := ⟨_, rfl⟩
    rw [← hB] at HIB HMB HF
    rw [← hlk] at h2 c0
    have hl : Op.bytesLess k.toList lk.toList = false := h2
    clear h2 ht he hm hmm k1 ha hb hlk hB iha ihb HIA HMA h2m
    unfold NewO
    go_enter Tryd.func53, Tryd.ntmps53
    go_upto_region 5 with (go_at_call 14; (with_reducible refine (HLE.out _ M.out.hd).mono ?_); rintro e w' ⟨rfl, rfl⟩)
    replace M := Lib.hid (M.out.call (Below.refl _ w).drew)
    replace HK := Lib.hid (HK.out.below (Below.refl _ w).drew)
    have hS0 := HK.out
    clear c0 k2
    go_region_held3 (fun w' => w'.cell? ⟨g, 36, none⟩ = some (.pointer (some ⟨ga, 0, none⟩)) ∧ w'.cell? ⟨g, 37, none⟩ = some (.pointer (some ⟨gb, 0, none⟩)))
      (first | (with_reducible exact hS0) | (with_reducible exact hS1) | (with_reducible exact hS2))
      (first
        | (go_at_call 53; (with_reducible refine (HIB.out _ gb M.out.env (M.out.trees (gb, b) (by simp))).mono ?_); rintro e w5 ⟨v5, rfl, ht, hb⟩; replace M := Lib.hid (M.out.call hb); have HO := Lib.hid ht; replace HK := Lib.hid (HK.out.below hb); have hS1 := HK.out; clear ht hb)
        | (go_at_call 52; (with_reducible refine (join_any (.pointer (some ⟨ga, 0, none⟩)) v5 (some a) B _ M.out.env (TreeAt.toO (M.out.trees (ga, a) (by simp))) HO.out HMB.out).mono ?_); rintro e w6 ⟨v6, rfl, ht, hb⟩; replace M := Lib.hid (M.out.call hb); replace HO := Lib.hid ht; replace HK := Lib.hid (HK.out.below hb); have hS2 := HK.out; clear ht hb))
    go_wp2_with (fail)
    go_ret
    rw [HF.out]
    exact ⟨v6, rfl, HO.out, M.out.below⟩
theorem without_some (k : ByteArray) : ∀ (t : AvT) (w : World) (g : Nat), t.many ≤ 4611686018427387904 → Env w → TreeAt w g t → Calls Tryd.prog 53 #[.pointer (some ⟨g, 0, none⟩), .string k] w (NewO (t.without k) w)
  | .leaf k0 v0, w, g, _, he, ht => without_leaf g k0 v0 k w ht
  | .node a b, w, g, hm, he, ht => by
    simp only [AvT.many] at hm
    exact without_node g a b k w he ht hm (fun w g he h => without_some k a w g (by omega) he h) (fun w g he h => without_some k b w g (by omega) he h)
theorem drop_any (va : Value) (t : Option AvT) (k : ByteArray) (w : World) (he : Env w) (ht : TreeO w va t) (hm : manyO t ≤ 4611686018427387904) :
    Calls Tryd.prog 28 #[va, .string k] w (NewO (dropO t k) w) := by
  have HG := Lib.hid (get_any va k t w ht)
  have HT := Lib.hid ht
  cases hg : getO t k with
  | none =>
    have HF := Lib.hid (show dropO t k = t by
      cases t with
      | none => rfl
      | some t => unfold dropO; dsimp only; rw [show t.get k = none from hg]; rfl)
    rw [hg] at HG
    clear he ht hg
    unfold NewO
    go_enter Tryd.func28, Tryd.ntmps28
    go_wp2_with (go_at_call 26; (with_reducible refine HG.out.mono ?_); rintro e w' ⟨rfl, rfl⟩)
    go_ret
    rw [HF.out]
    exact ⟨_, rfl, HT.out, Below.refl _ _⟩
  | some v =>
    cases t with
    | none => cases hg
    | some t =>
      have HF := Lib.hid (show dropO (some t) k = t.without k by unfold dropO; dsimp only; rw [show t.get k = some v from hg]; rfl)
      obtain ⟨g, rfl, ht⟩ := ht
      have HW := Lib.hid (without_some k t w g hm he ht)
      rw [hg] at HG
      clear he ht hg
      unfold NewO at *
      go_enter Tryd.func28, Tryd.ntmps28
      go_wp2_with (first
        | (go_at_call 26; (with_reducible refine HG.out.mono ?_); rintro e w' ⟨rfl, rfl⟩)
        | (go_at_call 53; (with_reducible refine HW.out.mono ?_); rintro e w5 ⟨v5, rfl, ht, hb⟩; have HO := Lib.hid ht; have HB := Lib.hid hb; clear ht hb))
      go_ret
      rw [HF.out]
      exact ⟨v5, rfl, HO.out, HB.out⟩
end Go.Proofs.YtadolfacjolbkaaDoor
namespace Go.Proofs.YtadolfacjolbkaaDoor
set_option linter.unusedVariables false
set_option linter.unusedSimpArgs false
open Go.RowKit
set_option maxRecDepth 100000
set_option linter.unusedSimpArgs false
set_option linter.unusedVariables false
def kvC (p : KV) : Array Value := #[.string p.1, .string p.2]
theorem kvC_one (p : KV) : (kvC p).all (·.oneCell') = true := by simp [kvC, Value.oneCell']
set_option maxHeartbeats 1000000 in
theorem pair_any (g : Nat) (t : AvT) (w : World) (ht : TreeAt w g t) : Calls Tryd.prog 86 #[.pointer (some ⟨g, 0, none⟩)] w fun e w' => e = .returned (.agg (kvC (t.least, t.value))) ∧ Below w.heap.size w w' := by
  have HB := Lib.hid (below_alloc w (.cells #[.string { data := #[] }, .string { data := #[] }] 87))
  have HP := Lib.hid (heap_alloc_new w (.cells #[.string { data := #[] }, .string { data := #[] }] 87))
  have HT := Lib.hid (ht.below HB.out)
  obtain ⟨k, hk⟩ : ∃ k, k = t.least := ⟨_, rfl⟩
  obtain ⟨v, hv⟩ : ∃ v, v = t.value := ⟨_, rfl⟩
  have c0 := HT.out.least
  have c1 := HT.out.value
  rw [← hk] at c0 ⊢
  rw [← hv] at c1 ⊢
  have HC := Lib.hid (show World.cell? _ ⟨g, 0, none⟩ = _ ∧ World.cell? _ ⟨g, 1, none⟩ = _ from ⟨c0, c1⟩)
  clear hk hv ht HT c0 c1
  go_enter Tryd.func86, Tryd.ntmps86
  go_upto_region 1 with (fail)
  generalize w.alloc (.cells #[.string { data := #[] }, .string { data := #[] }] 87) = w1 at *
  refine wp_region_T (fun w' => w'.cell? ⟨g, 0, none⟩ = some (.string k) ∧ w'.cell? ⟨g, 1, none⟩ = some (.string v)) [3, 7] (by kernel_rfl) ?_
  have HS := Lib.hid (show w1.drew.cell? ⟨g, 0, none⟩ = some (.string k) ∧ w1.drew.cell? ⟨g, 1, none⟩ = some (.string v) from HC.out)
  replace HB := Lib.hid (show Below w.heap.size w w1.drew from HB.out.drew)
  replace HP := Lib.hid (show w1.drew.heap[w.heap.size]? = _ from HP.out)
  generalize w1.drew = w2 at *
  refine anyT_takeY (i := 0) (v := .pointer (some ⟨g, 0, none⟩)) rfl (by kernel_rfl) (by kernel_rfl) (by kernel_rfl) (fun _ _ _ h => h) (by kernel_rfl) (Or.inl ⟨by rfl, by intro w; go_simp⟩) ?_
  try simp only [List.getElem_toArray, List.getElem_cons_succ, List.getElem_cons_zero, Act.put, List.setIfInBounds_toArray, List.set_cons_zero, List.set_cons_succ]
  refine anyT_takeY (i := 1) (v := .pointer (some ⟨g, 0, none⟩)) rfl (by kernel_rfl) (by kernel_rfl) (by kernel_rfl) (fun _ _ _ h => h) (by kernel_rfl) (Or.inl ⟨by rfl, by intro w; go_simp⟩) ?_
  try simp only [List.getElem_toArray, List.getElem_cons_succ, List.getElem_cons_zero, Act.put, List.setIfInBounds_toArray, List.set_cons_zero, List.set_cons_succ]
  refine anyT_takeY (i := 2) (v := .pointer (some ⟨g, 0, none⟩)) rfl (by kernel_rfl) (by kernel_rfl) (by kernel_rfl) (fun _ _ _ h => h) (by kernel_rfl) (Or.inl ⟨by rfl, by intro w; go_simp⟩) ?_
  try simp only [List.getElem_toArray, List.getElem_cons_succ, List.getElem_cons_zero, Act.put, List.setIfInBounds_toArray, List.set_cons_zero, List.set_cons_succ]
  refine anyT_takeY (i := 4) (v := .pointer (some ⟨g, 0, none⟩)) rfl (by kernel_rfl) (by kernel_rfl) (by kernel_rfl) (fun _ _ _ h => h) (by kernel_rfl) (Or.inl ⟨by rfl, by intro w; go_simp⟩) ?_
  try simp only [List.getElem_toArray, List.getElem_cons_succ, List.getElem_cons_zero, Act.put, List.setIfInBounds_toArray, List.set_cons_zero, List.set_cons_succ]
  refine anyT_takeY (i := 5) (v := .pointer (some ⟨g, 0, none⟩)) rfl (by kernel_rfl) (by kernel_rfl) (by kernel_rfl) (fun _ _ _ h => h) (by kernel_rfl) (Or.inl ⟨by rfl, by intro w; go_simp⟩) ?_
  try simp only [List.getElem_toArray, List.getElem_cons_succ, List.getElem_cons_zero, Act.put, List.setIfInBounds_toArray, List.set_cons_zero, List.set_cons_succ]
  refine anyT_takeY (i := 6) (v := .pointer (some ⟨g, 1, none⟩)) rfl (by kernel_rfl) (by kernel_rfl) (by kernel_rfl) (fun _ _ _ h => h) (by kernel_rfl) (Or.inl ⟨by rfl, by intro w; go_simp⟩) ?_
  try simp only [List.getElem_toArray, List.getElem_cons_succ, List.getElem_cons_zero, Act.put, List.setIfInBounds_toArray, List.set_cons_zero, List.set_cons_succ]
  refine anyT_take [8, 9] (i := 3) (v := .string k) rfl (by kernel_rfl) (by kernel_rfl) (by kernel_rfl) (fun _ _ _ h => h) (by kernel_rfl) (Or.inl ⟨by rfl, fun w' hS => by have c := hS.1; go_simp⟩) HS.out ?_
  try simp only [List.getElem_toArray, List.getElem_cons_succ, List.getElem_cons_zero, Act.put, List.setIfInBounds_toArray, List.set_cons_zero, List.set_cons_succ]
  refine anyT_take [8, 9] (i := 7) (v := .string v) rfl (by kernel_rfl) (by kernel_rfl) (by kernel_rfl) (fun _ _ _ h => h) (by kernel_rfl) (Or.inl ⟨by rfl, fun w' hS => by have c := hS.2; go_simp⟩) HS.out ?_
  try simp only [List.getElem_toArray, List.getElem_cons_succ, List.getElem_cons_zero, Act.put, List.setIfInBounds_toArray, List.set_cons_zero, List.set_cons_succ]
  refine anyT_takeY (i := 8) (v := .agg (kvC (k, v))) rfl (by kernel_rfl) (by kernel_rfl) (by kernel_rfl) (fun _ _ _ h => h) (by kernel_rfl) (Or.inl ⟨by rfl, by intro w; go_simp; rfl⟩) ?_
  try simp only [List.getElem_toArray, List.getElem_cons_succ, List.getElem_cons_zero, Act.put, List.setIfInBounds_toArray, List.set_cons_zero, List.set_cons_succ]
  refine anyT_one (i := 9) (by kernel_rfl) rfl (fun K hK => ?_)
  rw [if_pos (by rfl)]
  try simp only [List.getElem_toArray, List.getElem_cons_succ, List.getElem_cons_zero]
  (refine wp_store_row 87 (.tmp 2) (.tmp 11) rfl w.heap.size (kvC (k, v)) rfl rfl 87 _ HP.out (by kernel_rfl) rfl (kvC_one _) ?_)
  refine hK _ _ (not_mem rfl) ?_
  clear hK K
  try simp only [List.getElem_toArray, List.getElem_cons_succ, List.getElem_cons_zero, Act.put, List.setIfInBounds_toArray, List.set_cons_zero, List.set_cons_succ]
  refine anyT_done (by kernel_rfl) ?_ _
  go_wp2_with (fail)
  refine bodyPost_ret (results_cell_row rfl _ _ w.heap.size 87 (kvC (k, v)) (0, 0) _ rfl (setRow_heap _ _ _ _ _ _ HP.out) Tryd.underlying87 rfl (by kernel_rfl)) rfl ?_
  exact ⟨rfl, below_setRow HB.out (Nat.le_refl _) _⟩
def rootO (t : Option AvT) : Nat → Int := match t with
  | none => sumF []
  | some t => t.root
theorem root_nil (w : World) (he : Env w) : Calls Tryd.prog 13 #[.pointer none] w fun e w' => e = .returned (.agg (rowOf .u8 32 (sumF []))) ∧ Below w.heap.size w w' := by
  have HB := Lib.hid (below_alloc w (.cells (rowOf .u8 32 (fun _ => 0)) 43))
  have HR := Lib.hid (RowAt.new w .u8 32 43 (fun _ => 0))
  have HE := Lib.hid (he.below HB.out he.lt)
  clear he
  go_enter Tryd.func13, Tryd.ntmps13
  go_upto_region 1 with (fail)
  rw [zeros32]
  generalize w.alloc (.cells (rowOf .u8 32 (fun _ => 0)) 43) = w1 at *
  go_wp2_with (first
    | (go_at_call 14; (with_reducible refine (len_nil _).mono ?_); rintro e w' ⟨rfl, rfl⟩)
    | (go_at_call 39; (with_reducible refine (shSum_any _ [] _ (nil_in _) HE.out).mono ?_); rintro e w9 ⟨rfl, hb⟩; replace HR := Lib.hid (HR.out.below hb HR.out.lt); replace HB := Lib.hid (HB.out.trans (hb.mono HB.out.size)); clear hb)
    | (refine wpList_store_row rfl 43 (.tmp 2) (.tmp 6) rfl w.heap.size _ rfl rfl 43 _ HR.out (by rw [rowOf_size]; kernel_rfl) (by rw [rowOf_size, rowOf_size]) (rowOf_one _ _ _) ?_))
  refine bodyPost_ret (results_cell_row rfl _ _ w.heap.size 43 _ (0, 0) _ rfl (setRow_heap _ _ _ _ _ _ HR.out) Tryd.underlying43 rfl (by rw [rowOf_size]; kernel_rfl)) rfl ?_
  exact ⟨rfl, below_setRow HB.out (Nat.le_refl _) _⟩
theorem TreeAt.rootRange {w : World} {g : Nat} {t : AvT} (h : TreeAt w g t) : w.rangeAt g 4 (rowOf .u8 32 t.root).toList := by
  obtain ⟨p, q, h⟩ := h.cells
  exact (t_cells h).2.2.2.2.2.2
set_option maxHeartbeats 1000000 in
theorem root_some (g : Nat) (t : AvT) (w : World) (ht : TreeAt w g t) : Calls Tryd.prog 13 #[.pointer (some ⟨g, 0, none⟩)] w fun e w' => e = .returned (.agg (rowOf .u8 32 t.root)) ∧ Below w.heap.size w w' := by
  have HB := Lib.hid (below_alloc w (.cells (rowOf .u8 32 (fun _ => 0)) 43))
  have HR := Lib.hid (RowAt.new w .u8 32 43 (fun _ => 0))
  have HT := Lib.hid (ht.below HB.out)
  have HLE := Lib.hid (len_some _ HT.out)
  have HRG := Lib.hid HT.out.rootRange
  have hm := t.many_pos
  obtain ⟨m, hmm⟩ : ∃ m, m = t.many := ⟨_, rfl⟩
  rw [← hmm] at HLE hm
  have hm0 : ((m : Int) == 0) = false := by rw [beq_eq_false_iff_ne]; omega
  obtain ⟨R, hR⟩ : ∃ R, R = t.root := ⟨_, rfl⟩
  rw [← hR] at HRG ⊢
  clear ht hmm hm hR HT
  go_enter Tryd.func13, Tryd.ntmps13
  go_upto_region 1 with (fail)
  rw [zeros32]
  generalize w.alloc (.cells (rowOf .u8 32 (fun _ => 0)) 43) = w1 at *
  go_wp2_with (first
    | (go_at_call 14; (with_reducible refine HLE.out.mono ?_); rintro e w' ⟨rfl, rfl⟩)
    | (refine wpList_load_mid rfl 43 (.tmp 9) rfl g 4 rfl _ _ HRG.out Tryd.underlying43 rfl (by rw [(rowOf_list _ _ _).2]; kernel_rfl) ?_; rw [Array.toArray_toList])
    | (refine wpList_store_row rfl 43 (.tmp 2) (.tmp 10) rfl w.heap.size _ rfl rfl 43 _ HR.out (by rw [rowOf_size]; kernel_rfl) (by rw [rowOf_size, rowOf_size]) (rowOf_one _ _ _) ?_))
  refine bodyPost_ret (results_cell_row rfl _ _ w.heap.size 43 _ (0, 0) _ rfl (setRow_heap _ _ _ _ _ _ HR.out) Tryd.underlying43 rfl (by rw [rowOf_size]; kernel_rfl)) rfl ?_
  exact ⟨rfl, below_setRow HB.out (Nat.le_refl _) _⟩
theorem root_any (va : Value) (t : Option AvT) (w : World) (he : Env w) (ht : TreeO w va t) : Calls Tryd.prog 13 #[va] w fun e w' => e = .returned (.agg (rowOf .u8 32 (rootO t))) ∧ Below w.heap.size w w' := by
  cases t with
  | none => cases ht; exact root_nil w he
  | some t => obtain ⟨g, rfl, ht⟩ := ht; exact root_some g t w ht
def findO (t : Option AvT) (k : ByteArray) : Nat := match t with
  | none => 0
  | some t => t.find k
theorem find_nil (k : ByteArray) (w : World) : Calls Tryd.prog 77 #[.pointer none, .string k] w fun e w' => e = .returned (.int .i64 0) ∧ w = w' := by
  go_enter Tryd.func77, Tryd.ntmps77
  go_upto_region 2 with (fail)
  go_loop [0, 5] (fun x y => x = .pointer none ∧ y = .int .i64 0) (fun _ _ => 0)
  case atStart => exact ⟨rfl, rfl⟩
  case round =>
    obtain ⟨rfl, rfl⟩ := hrel
    go_wp2_with (go_at_call 14; (with_reducible refine (len_nil _).mono ?_); rintro e w' ⟨rfl, rfl⟩)
    go_ret
    exact ⟨rfl, rfl⟩
theorem find_le (k : ByteArray) : ∀ t : AvT, t.find k ≤ t.many
  | .leaf k0 v0 => by unfold AvT.find; simp only [AvT.many]; split <;> omega
  | .node a b => by
    have := find_le k a
    have := find_le k b
    unfold AvT.find; simp only [AvT.many]; split <;> omega
set_option maxHeartbeats 2000000 in
theorem find_some (k : ByteArray) (t : AvT) (g : Nat) (w : World) (ht : TreeAt w g t) (hm : t.many ≤ 4611686018427387904) : Calls Tryd.prog 77 #[.pointer (some ⟨g, 0, none⟩), .string k] w fun e w' => e = .returned (.int .i64 (t.find k : Int)) ∧ w = w' := by
  obtain ⟨G, hG⟩ : ∃ G, G = t.find k := ⟨_, rfl⟩
  obtain ⟨N, hN⟩ : ∃ N, N = t.many := ⟨_, rfl⟩
  have HG := Lib.hid (show G = 0 + t.find k by omega)
  have HN := Lib.hid (show 0 + t.many ≤ N by omega)
  have HNB := Lib.hid (show N ≤ 4611686018427387904 by omega)
  have HT := Lib.hid ht
  rw [← hG]
  clear hG ht hN hm
  go_enter Tryd.func77, Tryd.ntmps77
  go_upto_region 2 with (fail)
  go_loop [0, 5] (fun x y => ∃ g' t', ∃ c : Nat, x = .pointer (some ⟨g', 0, none⟩) ∧ y = .int .i64 (c : Int) ∧ Hid (TreeAt w g' t') ∧ Hid (G = c + t'.find k) ∧ Hid (c + t'.many ≤ N)) (fun x _ => ptrN x)
  case atStart => exact ⟨g, t, 0, rfl, rfl, HT, HG, HN⟩
  case round =>
    clear HT HG HN
    obtain ⟨g', t', c, rfl, rfl, HT, HG, HN⟩ := hrel
    have hcb : c ≤ 4611686018427387904 := by have := HN.out; have := HNB.out; omega
    cases t' with
    | leaf k0 v0 =>
      have HLE := Lib.hid (len_some w HT.out)
      have c0 := HT.out.least
      rw [show (AvT.leaf k0 v0).least = k0 from rfl] at c0
      cases h1 : bl k0 k with
      | true =>
        have hk : Op.bytesLess k0.toList k.toList = true := h1
        have HF := Lib.hid (show G = c + 1 by rw [HG.out, AvT.find, if_pos h1])
        clear h1 HG
        go_wp2_with (first
          | (go_at_call 14; (with_reducible refine HLE.out.mono ?_); rw [show ((AvT.leaf k0 v0).many : Int) = 1 from rfl]; rintro e w' ⟨rfl, rfl⟩))
        go_ret
        rw [HF.out]
        exact ⟨rfl, rfl⟩
      | false =>
        have hk : Op.bytesLess k0.toList k.toList = false := h1
        have HF := Lib.hid (show G = c by rw [HG.out, AvT.find, if_neg (by rw [h1]; simp)]; rfl)
        clear h1 HG
        go_wp2_with (first
          | (go_at_call 14; (with_reducible refine HLE.out.mono ?_); rw [show ((AvT.leaf k0 v0).many : Int) = 1 from rfl]; rintro e w' ⟨rfl, rfl⟩))
        go_ret
        rw [HF.out]
        exact ⟨rfl, rfl⟩
    | node a b =>
      have HLE := Lib.hid (len_some w HT.out)
      obtain ⟨ga, gb, l1, l2, k1, k2, ha, hb⟩ := HT.out.kidsL
      have c0 := hb.least
      have c2 := ha.many
      have h2m : 2 ≤ (AvT.node a b).many := by have := a.many_pos; have := b.many_pos; simp only [AvT.many]; omega
      obtain ⟨m, hmm⟩ : ∃ m, m = (AvT.node a b).many := ⟨_, rfl⟩
      rw [← hmm] at HLE h2m
      have hm1 : (1 : Int) < (m : Int) := by omega
      have HA := Lib.hid ha
      have HB := Lib.hid hb
      obtain ⟨lk, hlk⟩ : ∃ l, l = b.least := ⟨_, rfl⟩
      have hsum : a.many + b.many + c ≤ N := by have := HN.out; simp only [AvT.many] at this; omega
      cases h2 : bl k b.least with
      | true =>
        have HF := Lib.hid (show G = c + a.find k by rw [HG.out, AvT.find, if_pos h2])
        replace HN := Lib.hid (show c + a.many ≤ N by omega)
        rw [← hlk] at h2 c0
        have hl : Op.bytesLess k.toList lk.toList = true := h2
        clear h2 HG hmm hlk ha hb h2m c2 hsum
        go_wp2_with (first
          | (go_at_call 14; (with_reducible refine HLE.out.mono ?_); rintro e w' ⟨rfl, rfl⟩))
        go_round
        case rel => exact ⟨ga, a, c, rfl, rfl, HA, HF, HN⟩
        case measure => simp [ptrN]; omega
      | false =>
        obtain ⟨ma, hma⟩ : ∃ n, n = a.many := ⟨_, rfl⟩
        rw [← hma] at c2 hsum
        have HF := Lib.hid (show G = c + ma + b.find k by rw [HG.out, AvT.find, if_neg (by rw [h2]; simp), hma]; omega)
        have hcb2 : c + ma ≤ 4611686018427387904 := by have := HNB.out; omega
        replace HN := Lib.hid (show c + ma + b.many ≤ N by omega)
        rw [← hlk] at h2 c0
        have hl : Op.bytesLess k.toList lk.toList = false := h2
        clear h2 HG hmm hlk ha hb h2m hma hsum
        go_wp2_with (first
          | (go_at_call 14; (with_reducible refine HLE.out.mono ?_); rintro e w' ⟨rfl, rfl⟩))
        go_round
        case rel => exact ⟨gb, b, c + ma, rfl, by go_num, HB, HF, HN⟩
        case measure => simp [ptrN]; omega
theorem find_any (va : Value) (k : ByteArray) (t : Option AvT) (w : World) (ht : TreeO w va t) (hm : manyO t ≤ 4611686018427387904) : Calls Tryd.prog 77 #[va, .string k] w fun e w' => e = .returned (.int .i64 (findO t k : Int)) ∧ w = w' := by
  cases t with
  | none => cases ht; exact find_nil k w
  | some t => obtain ⟨g, rfl, ht⟩ := ht; exact find_some k t g w ht hm
/-- At in all cases -/
def atO (t : Option AvT) (i : Int) : KV × Option Nat := match t with
  | none => ((eBA, eBA), some 1)
  | some t => if 0 ≤ i ∧ i < t.many then (t.at? i.toNat, none) else ((eBA, eBA), some 1)
def AtPost (r : KV × Option Nat) (w : World) (e : Ending) (w' : World) : Prop := e = .returned (.tuple #[.agg (kvC r.1), errV r.2]) ∧ Below w.heap.size w w'
set_option maxHeartbeats 1000000 in
theorem at_no (va : Value) (t : Option AvT) (i : Int) (w : World) (ht : TreeO w va t) (h : ¬ (0 ≤ i ∧ i < manyO t)) : Calls Tryd.prog 92 #[va, .int .i64 i] w (AtPost ((eBA, eBA), some 1) w) := by
  have HB := Lib.hid (below_alloc w (.cells #[.string { data := #[] }, .string { data := #[] }] 87))
  have HP := Lib.hid (heap_alloc_new w (.cells #[.string { data := #[] }, .string { data := #[] }] 87))
  have HLE := Lib.hid (len_any _ (ht.below HB.out))
  obtain ⟨m, hmm⟩ : ∃ m, m = manyO t := ⟨_, rfl⟩
  rw [← hmm] at HLE h
  clear hmm ht
  unfold AtPost
  by_cases h0 : i < 0
  · clear h
    go_enter Tryd.func92, Tryd.ntmps92
    go_upto_region 1 with (fail)
    generalize w.alloc (.cells #[.string { data := #[] }, .string { data := #[] }] 87) = w1 at *
    go_wp2_with (first
      | (refine wpList_store_row rfl 87 (.tmp 4) (.tmp 14) rfl w.heap.size (kvC (eBA, eBA)) rfl rfl 87 _ HP.out (by kernel_rfl) rfl (kvC_one _) ?_))
    refine bodyPost_ret (results_cell_tmp_row rfl _ _ w.heap.size 87 (kvC (eBA, eBA)) (0, 0) _ rfl (setRow_heap _ _ _ _ _ _ HP.out) Tryd.underlying87 rfl (by kernel_rfl)) rfl ?_
    exact ⟨rfl, below_setRow HB.out (Nat.le_refl _) _⟩
  · have h1 : (m : Int) ≤ i := by omega
    clear h
    go_enter Tryd.func92, Tryd.ntmps92
    go_upto_region 1 with (fail)
    generalize w.alloc (.cells #[.string { data := #[] }, .string { data := #[] }] 87) = w1 at *
    go_wp2_with (first
      | (go_at_call 14; (with_reducible refine HLE.out.mono ?_); rintro e w' ⟨rfl, rfl⟩)
      | (refine wpList_store_row rfl 87 (.tmp 4) (.tmp 14) rfl w.heap.size (kvC (eBA, eBA)) rfl rfl 87 _ HP.out (by kernel_rfl) rfl (kvC_one _) ?_))
    refine bodyPost_ret (results_cell_tmp_row rfl _ _ w.heap.size 87 (kvC (eBA, eBA)) (0, 0) _ rfl (setRow_heap _ _ _ _ _ _ HP.out) Tryd.underlying87 rfl (by kernel_rfl)) rfl ?_
    exact ⟨rfl, below_setRow HB.out (Nat.le_refl _) _⟩
set_option maxHeartbeats 2000000 in
theorem at_yes (g : Nat) (t : AvT) (i : Nat) (w : World) (ht : TreeAt w g t) (hi : i < t.many) (hm : t.many ≤ 4611686018427387904) : Calls Tryd.prog 92 #[.pointer (some ⟨g, 0, none⟩), .int .i64 (i : Int)] w (AtPost (t.at? i, none) w) := by
  have HB := Lib.hid (below_alloc w (.cells #[.string { data := #[] }, .string { data := #[] }] 87))
  have HP := Lib.hid (heap_alloc_new w (.cells #[.string { data := #[] }, .string { data := #[] }] 87))
  have HT := Lib.hid (ht.below HB.out)
  have HLE := Lib.hid (len_some _ HT.out)
  obtain ⟨P, hP⟩ : ∃ P, P = t.at? i := ⟨_, rfl⟩
  have HG := Lib.hid hP
  rw [← hP]
  obtain ⟨m, hmm⟩ : ∃ m, m = t.many := ⟨_, rfl⟩
  have HN := Lib.hid (show i < t.many ∧ t.many ≤ 4611686018427387904 from ⟨hi, hm⟩)
  rw [← hmm] at HLE hi hm
  have hiI : ¬ (m : Int) ≤ (i : Int) := by omega
  have hiI2 : (i : Int) < (m : Int) := by omega
  clear hmm ht hP hi hm
  unfold AtPost
  go_enter Tryd.func92, Tryd.ntmps92
  go_upto_region 1 with (fail)
  generalize w.alloc (.cells #[.string { data := #[] }, .string { data := #[] }] 87) = w1 at *
  go_upto_region 3 with (go_at_call 14; (with_reducible refine HLE.out.mono ?_); rintro e w' ⟨rfl, rfl⟩)
  clear HLE hiI hiI2
  go_loop [0, 1] (fun x y => ∃ g' t', ∃ c : Nat, x = .pointer (some ⟨g', 0, none⟩) ∧ y = .int .i64 (c : Int) ∧ Hid (TreeAt w1 g' t') ∧ Hid (P = t'.at? c) ∧ Hid (c < t'.many ∧ t'.many ≤ 4611686018427387904)) (fun x _ => ptrN x)
  case atStart => exact ⟨g, t, i, rfl, rfl, HT, HG, HN⟩
  case round =>
    clear HT HG HN
    obtain ⟨g', t', c, rfl, rfl, HT, HG, HN⟩ := hrel
    have c2 := HT.out.many
    cases t' with
    | leaf k0 v0 =>
      rw [show ((AvT.leaf k0 v0).many : Int) = 1 from rfl] at c2
      have HPA := Lib.hid (pair_any g' _ w1 HT.out)
      rw [show ((AvT.leaf k0 v0).least, (AvT.leaf k0 v0).value) = P from HG.out.symm] at HPA
      clear HG HN
      go_wp2_with (first
        | (go_at_call 86; (with_reducible refine HPA.out.mono ?_); rintro e w5 ⟨rfl, hb⟩; replace HP := Lib.hid ((hb.block _ (Array.getElem?_eq_some_iff.1 HP.out).1).trans HP.out); replace HB := Lib.hid (HB.out.trans (hb.mono HB.out.size)); clear hb)
        | (refine wpList_store_row rfl 87 (.tmp 4) (.tmp 48) rfl w.heap.size (kvC P) rfl rfl 87 _ HP.out (by kernel_rfl) rfl (kvC_one _) ?_))
      refine bodyPost_ret (results_cell_tmp_row rfl _ _ w.heap.size 87 (kvC P) (0, 0) _ rfl (setRow_heap _ _ _ _ _ _ HP.out) Tryd.underlying87 rfl (by kernel_rfl)) rfl ?_
      exact ⟨rfl, below_setRow HB.out (Nat.le_refl _) _⟩
    | node a b =>
      obtain ⟨ga, gb, l1, l2, k1, k2, ha, hb⟩ := HT.out.kidsL
      have c3 := ha.many
      have h2m : 2 ≤ (AvT.node a b).many := by have := a.many_pos; have := b.many_pos; simp only [AvT.many]; omega
      have hN := HN.out
      simp only [AvT.many] at hN
      obtain ⟨m', hmm⟩ : ∃ m, m = (AvT.node a b).many := ⟨_, rfl⟩
      rw [← hmm] at c2 h2m
      have hm1 : (1 : Int) < (m' : Int) := by omega
      have HA := Lib.hid ha
      have HB' := Lib.hid hb
      by_cases hlt : c < a.many
      · have HF := Lib.hid (show P = a.at? c by rw [HG.out, AvT.at?, if_pos hlt])
        replace HN := Lib.hid (show c < a.many ∧ a.many ≤ 4611686018427387904 by omega)
        obtain ⟨ma, hma⟩ : ∃ n, n = a.many := ⟨_, rfl⟩
        rw [← hma] at c3 hlt hN
        have hltI : (c : Int) < (ma : Int) := by omega
        clear HG hmm ha hb h2m hma hlt hN
        go_wp2_with (fail)
        go_round
        case rel => exact ⟨ga, a, c, rfl, rfl, HA, HF, HN⟩
        case measure => simp [ptrN]; omega
      · have HF := Lib.hid (show P = b.at? (c - a.many) by rw [HG.out, AvT.at?, if_neg hlt])
        replace HN := Lib.hid (show c - a.many < b.many ∧ b.many ≤ 4611686018427387904 by omega)
        obtain ⟨ma, hma⟩ : ∃ n, n = a.many := ⟨_, rfl⟩
        rw [← hma] at c3 hlt hN HF HN
        have hltI : ¬ (c : Int) < (ma : Int) := by omega
        have hcb : c ≤ 4611686018427387904 := by omega
        have hle : (ma : Int) ≤ (c : Int) := by omega
        have hsub : ((c : Int) - (ma : Int)) = ((c - ma : Nat) : Int) := by omega
        clear HG hmm ha hb h2m hma hlt hN
        go_wp2_with (fail)
        go_round
        case rel => exact ⟨gb, b, c - ma, rfl, by first | rfl | go_num, HB', HF, HN⟩
        case measure => simp [ptrN]; omega
theorem at_any (va : Value) (t : Option AvT) (i : Int) (w : World) (ht : TreeO w va t) (hm : manyO t ≤ 4611686018427387904) : Calls Tryd.prog 92 #[va, .int .i64 i] w (AtPost (atO t i) w) := by
  cases t with
  | none => exact at_no va none i w ht (by rw [show manyO none = 0 from rfl]; omega)
  | some t =>
    unfold atO
    dsimp only
    split
    · rename_i h
      obtain ⟨k, rfl⟩ : ∃ k : Nat, i = (k : Int) := ⟨i.toNat, by omega⟩
      obtain ⟨g, rfl, ht⟩ := ht
      exact at_yes g t k w ht (by omega) hm
    · rename_i h
      exact at_no va (some t) i w ht h
end Go.Proofs.YtadolfacjolbkaaDoor

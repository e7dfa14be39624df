/- Part 22 of the proof. -/
import Derived.Test.YtadolfacjolbkaaDoorSh20
namespace Go.Proofs.YtadolfacjolbkaaDoor
set_option linter.unusedVariables false
set_option linter.unusedSimpArgs false
open Go.RowKit
set_option maxRecDepth 100000
set_option linter.unusedSimpArgs false
set_option linter.unusedVariables false
def ptrN : Value → Nat
  | .pointer (some a) => a.block
  | _ => 0
def strO (o : Option ByteArray) : ByteArray := o.getD eBA
theorem get_nil (k : ByteArray) (w : World) : Calls Tryd.prog 26 #[.pointer none, .string k] w fun e w' => e = .returned (.tuple #[.string (strO none), .bool false]) ∧ w = w' := by
  go_enter Tryd.func26, Tryd.ntmps26
  go_upto_region 1 with (fail)
  go_loop [0] (fun x => x = .pointer none) (fun _ => 0)
  case atStart => rfl
  case round =>
    subst hrel
    go_wp2_with (go_at_call 14; (with_reducible refine (len_nil _).mono ?_); rintro e w' ⟨rfl, rfl⟩)
    go_ret2
    exact ⟨rfl, rfl⟩
set_option maxHeartbeats 2000000 in
theorem get_some (k : ByteArray) (t : AvT) (g : Nat) (w : World) (ht : TreeAt w g t) : Calls Tryd.prog 26 #[.pointer (some ⟨g, 0, none⟩), .string k] w fun e w' => e = .returned (.tuple #[.string (strO (t.get k)), .bool (t.get k).isSome]) ∧ w = w' := by
  obtain ⟨G, hG⟩ : ∃ G, G = t.get k := ⟨_, rfl⟩
  have HG := Lib.hid hG
  have HT := Lib.hid ht
  rw [← hG]
  clear hG ht
  go_enter Tryd.func26, Tryd.ntmps26
  go_upto_region 1 with (fail)
  go_loop [0] (fun x => ∃ g' t', x = .pointer (some ⟨g', 0, none⟩) ∧ Hid (TreeAt w g' t') ∧ Hid (G = t'.get k)) (fun x => ptrN x)
  case atStart => exact ⟨g, t, rfl, HT, HG⟩
  case round =>
    clear HT HG
    obtain ⟨g', t', rfl, HT, HG⟩ := hrel
    cases t' with
    | leaf k0 v0 =>
      have HLE := Lib.hid (len_some w HT.out)
      have c0 := HT.out.least
      have c1 := HT.out.value
      rw [show (AvT.leaf k0 v0).least = k0 from rfl] at c0
      rw [show (AvT.leaf k0 v0).value = v0 from rfl] at c1
      by_cases h1 : k0 = k
      · have hk : (k0.toList == k.toList) = true := by rw [beqL]; simp [h1]
        have HF := Lib.hid (show G = some v0 by rw [HG.out, AvT.get, if_pos h1])
        clear h1 HG
        go_wp2_with (first
          | (go_at_call 14; (with_reducible refine HLE.out.mono ?_); rw [show ((AvT.leaf k0 v0).many : Int) = 1 from rfl]; rintro e w' ⟨rfl, rfl⟩))
        go_ret2
        rw [HF.out]
        exact ⟨rfl, rfl⟩
      · have hk : (k0.toList == k.toList) = false := by rw [beqL]; simp [h1]
        have HF := Lib.hid (show G = none by rw [HG.out, AvT.get, if_neg h1])
        clear h1 HG
        go_wp2_with (first
          | (go_at_call 14; (with_reducible refine HLE.out.mono ?_); rw [show ((AvT.leaf k0 v0).many : Int) = 1 from rfl]; rintro e w' ⟨rfl, rfl⟩))
        go_ret2
        rw [HF.out]
        exact ⟨rfl, rfl⟩
    | node a b =>
      have HLE := Lib.hid (len_some w HT.out)
      obtain ⟨ga, gb, l1, l2, k1, k2, ha, hb⟩ := HT.out.kidsL
      have c0 := hb.least
      have h2m : 2 ≤ (AvT.node a b).many := by have := a.many_pos; have := b.many_pos; simp only [AvT.many]; omega
      obtain ⟨m, hmm⟩ : ∃ m, m = (AvT.node a b).many := ⟨_, rfl⟩
      rw [← hmm] at HLE h2m
      have hm1 : (1 : Int) < (m : Int) := by omega
      have HA := Lib.hid ha
      have HB := Lib.hid hb
      obtain ⟨lk, hlk⟩ : ∃ l, l = b.least := ⟨_, rfl⟩
      cases h2 : bl k b.least with
      | true =>
        have HF := Lib.hid (show G = a.get k by rw [HG.out, AvT.get, if_pos h2])
        rw [← hlk] at h2 c0
        have hl : Op.bytesLess k.toList lk.toList = true := h2
        clear h2 HG hmm hlk ha hb h2m
        go_wp2_with (first
          | (go_at_call 14; (with_reducible refine HLE.out.mono ?_); rintro e w' ⟨rfl, rfl⟩))
        go_round
        case rel => exact ⟨ga, a, rfl, HA, HF⟩
        case measure => simp [ptrN]; omega
      | false =>
        have HF := Lib.hid (show G = b.get k by rw [HG.out, AvT.get, if_neg (by rw [h2]; simp)])
        rw [← hlk] at h2 c0
        have hl : Op.bytesLess k.toList lk.toList = false := h2
        clear h2 HG hmm hlk ha hb h2m
        go_wp2_with (first
          | (go_at_call 14; (with_reducible refine HLE.out.mono ?_); rintro e w' ⟨rfl, rfl⟩))
        go_round
        case rel => exact ⟨gb, b, rfl, HB, HF⟩
        case measure => simp [ptrN]; omega
theorem get_any (va : Value) (k : ByteArray) (t : Option AvT) (w : World) (ht : TreeO w va t) : Calls Tryd.prog 26 #[va, .string k] w fun e w' => e = .returned (.tuple #[.string (strO (getO t k)), .bool (getO t k).isSome]) ∧ w = w' := by
  cases t with
  | none => cases ht; exact get_nil k w
  | some t => obtain ⟨g, rfl, ht⟩ := ht; exact get_some k t g w ht
theorem TreeAt.toO {w : World} {g : Nat} {t : AvT} (h : TreeAt w g t) : TreeO w (.pointer (some ⟨g, 0, none⟩)) (some t) := ⟨g, rfl, h⟩
def NewO (t : Option AvT) (w : World) (e : Ending) (w' : World) : Prop := ∃ v, e = .returned v ∧ TreeO w' v t ∧ Below w.heap.size w w'
theorem without_leaf (g : Nat) (k0 v0 k : ByteArray) (w : World) (ht : TreeAt w g (.leaf k0 v0)) : Calls Tryd.prog 53 #[.pointer (some ⟨g, 0, none⟩), .string k] w (NewO ((AvT.leaf k0 v0).without k) w) := by
  have HLE := Lib.hid (len_some w ht)
  clear ht
  unfold NewO
  go_enter Tryd.func53, Tryd.ntmps53
  go_wp2_with (go_at_call 14; (with_reducible refine HLE.out.mono ?_); rw [show ((AvT.leaf k0 v0).many : Int) = 1 from rfl]; rintro e w' ⟨rfl, rfl⟩)
  go_ret
  exact ⟨_, rfl, rfl, Below.refl _ _⟩
set_option maxHeartbeats 2000000 in
theorem without_node (g : Nat) (a b : AvT) (k : ByteArray) (w : World) (he : Env w) (ht : TreeAt w g (.node a b)) (hm : a.many + b.many ≤ 4611686018427387904)
    (iha : ∀ (w : World) (g : Nat), Env w → TreeAt w g a → Calls Tryd.prog 53 #[.pointer (some ⟨g, 0, none⟩), .string k] w (NewO (a.without k) w))
    (ihb : ∀ (w : World) (g : Nat), Env w → TreeAt w g b → Calls Tryd.prog 53 #[.pointer (some ⟨g, 0, none⟩), .string k] w (NewO (b.without k) w)) :
    Calls Tryd.prog 53 #[.pointer (some ⟨g, 0, none⟩), .string k] w (NewO ((AvT.node a b).without k) w) := by
  have HLE := Lib.hid (fun w h => len_some (g := g) (t := .node a b) w h)
  obtain ⟨ga, gb, k1, k2, ha, hb⟩ := ht.kids
  have c0 := hb.least
  have h2m : 2 ≤ (AvT.node a b).many := by have := a.many_pos; have := b.many_pos; simp only [AvT.many]; omega
  obtain ⟨m, hmm⟩ : ∃ m, m = (AvT.node a b).many := ⟨_, rfl⟩
  rw [← hmm] at HLE h2m
  have hm1 : ((m : Int) == 1) = false := by rw [beq_eq_false_iff_ne]; omega
  have M := Lib.hid (show TM w w [(g, .node a b), (ga, a), (gb, b)] from ⟨Below.refl _ _, he, fun z hz => by simp at hz; rcases hz with rfl | rfl | rfl <;> assumption⟩)
  have HK := Lib.hid (show Kids g ga gb w from ⟨k1, k2⟩)
  have HIA := Lib.hid iha
  have HIB := Lib.hid ihb
  have HMA := Lib.hid (show manyO (a.without k) + manyO (some b) ≤ 4611686018427387904 by have := without_many k a; rw [show manyO (some b) = b.many from rfl]; omega)
  have HMB := Lib.hid (show manyO (some a) + manyO (b.without k) ≤ 4611686018427387904 by have := without_many k b; rw [show manyO (some a) = a.many from rfl]; omega)
  obtain ⟨lk, hlk⟩ : ∃ l, l = b.least := ⟨_, rfl⟩
  cases h2 : bl k b.least with
  | true =>
    have HF := Lib.hid (show (AvT.node a b).without k = joinO (a.without k) (some b) by rw [AvT.without, if_pos h2])
    obtain ⟨A, hA⟩ : ∃ A, A = a.without k := ⟨_, rfl⟩
    rw [← hA] at HIA HMA HF
    rw [← hlk] at h2 c0
    have hl : Op.bytesLess k.toList lk.toList = true := h2
    clear h2 ht he hm hmm k1 ha hb hlk hA iha ihb HIB HMB h2m
    unfold NewO
    go_enter Tryd.func53, Tryd.ntmps53
    go_upto_region 4 with (go_at_call 14; (with_reducible refine (HLE.out _ M.out.hd).mono ?_); rintro e w' ⟨rfl, rfl⟩)
    replace M := Lib.hid (M.out.call (Below.refl _ w).drew)
    replace HK := Lib.hid (HK.out.below (Below.refl _ w).drew)
    have hS0 := HK.out
    clear c0 k2
    go_region_held3 (fun w' => w'.cell? ⟨g, 36, none⟩ = some (.pointer (some ⟨ga, 0, none⟩)) ∧ w'.cell? ⟨g, 37, none⟩ = some (.pointer (some ⟨gb, 0, none⟩)))
      (first | (with_reducible exact hS0) | (with_reducible exact hS1) | (with_reducible exact hS2))
      (first
        | (go_at_call 53; (with_reducible refine (HIA.out _ ga M.out.env (M.out.trees (ga, a) (by simp))).mono ?_); rintro e w5 ⟨v5, rfl, ht, hb⟩; replace M := Lib.hid (M.out.call hb); have HO := Lib.hid ht; replace HK := Lib.hid (HK.out.below hb); have hS1 := HK.out; clear ht hb)
        | (go_at_call 52; (with_reducible refine (join_any v5 (.pointer (some ⟨gb, 0, none⟩)) A (some b) _ M.out.env HO.out (TreeAt.toO (M.out.trees (gb, b) (by simp))) HMA.out).mono ?_); rintro e w6 ⟨v6, rfl, ht, hb⟩; replace M := Lib.hid (M.out.call hb); replace HO := Lib.hid ht; replace HK := Lib.hid (HK.out.below hb); have hS2 := HK.out; clear ht hb))
    go_wp2_with (fail)
    go_ret
    rw [HF.out]
    exact ⟨v6, rfl, HO.out, M.out.below⟩
  | false =>
    have HF := Lib.hid (show (AvT.node a b).without k = joinO (some a) (b.without k) by rw [AvT.without, if_neg (by rw [h2]; simp)])
    obtain ⟨B, hB⟩ : ∃ B, B = b.without k := ⟨_, rfl⟩
    rw [← hB] at HIB HMB HF
    rw [← hlk] at h2 c0
    have hl : Op.bytesLess k.toList lk.toList = false := h2
    clear h2 ht he hm hmm k1 ha hb hlk hB iha ihb HIA HMA h2m
    unfold NewO
    go_enter Tryd.func53, Tryd.ntmps53
    go_upto_region 5 with (go_at_call 14; (with_reducible refine (HLE.out _ M.out.hd).mono ?_); rintro e w' ⟨rfl, rfl⟩)
    replace M := Lib.hid (M.out.call (Below.refl _ w).drew)
    replace HK := Lib.hid (HK.out.below (Below.refl _ w).drew)
    have hS0 := HK.out
    clear c0 k2
    go_region_held3 (fun w' => w'.cell? ⟨g, 36, none⟩ = some (.pointer (some ⟨ga, 0, none⟩)) ∧ w'.cell? ⟨g, 37, none⟩ = some (.pointer (some ⟨gb, 0, none⟩)))
      (first | (with_reducible exact hS0) | (with_reducible exact hS1) | (with_reducible exact hS2))
      (first
        | (go_at_call 53; (with_reducible refine (HIB.out _ gb M.out.env (M.out.trees (gb, b) (by simp))).mono ?_); rintro e w5 ⟨v5, rfl, ht, hb⟩; replace M := Lib.hid (M.out.call hb); have HO := Lib.hid ht; replace HK := Lib.hid (HK.out.below hb); have hS1 := HK.out; clear ht hb)
        | (go_at_call 52; (with_reducible refine (join_any (.pointer (some ⟨ga, 0, none⟩)) v5 (some a) B _ M.out.env (TreeAt.toO (M.out.trees (ga, a) (by simp))) HO.out HMB.out).mono ?_); rintro e w6 ⟨v6, rfl, ht, hb⟩; replace M := Lib.hid (M.out.call hb); replace HO := Lib.hid ht; replace HK := Lib.hid (HK.out.below hb); have hS2 := HK.out; clear ht hb))
    go_wp2_with (fail)
    go_ret
    rw [HF.out]
    exact ⟨v6, rfl, HO.out, M.out.below⟩
theorem without_some (k : ByteArray) : ∀ (t : AvT) (w : World) (g : Nat), t.many ≤ 4611686018427387904 → Env w → TreeAt w g t → Calls Tryd.prog 53 #[.pointer (some ⟨g, 0, none⟩), .string k] w (NewO (t.without k) w)
  | .leaf k0 v0, w, g, _, he, ht => without_leaf g k0 v0 k w ht
  | .node a b, w, g, hm, he, ht => by
    simp only [AvT.many] at hm
    exact without_node g a b k w he ht hm (fun w g he h => without_some k a w g (by omega) he h) (fun w g he h => without_some k b w g (by omega) he h)
theorem drop_any (va : Value) (t : Option AvT) (k : ByteArray) (w : World) (he : Env w) (ht : TreeO w va t) (hm : manyO t ≤ 4611686018427387904) :
    Calls Tryd.prog 28 #[va, .string k] w (NewO (dropO t k) w) := by
  have HG := Lib.hid (get_any va k t w ht)
  have HT := Lib.hid ht
  cases hg : getO t k with
  | none =>
    have HF := Lib.hid (show dropO t k = t by
      cases t with
      | none => rfl
      | some t => unfold dropO; dsimp only; rw [show t.get k = none from hg]; rfl)
    rw [hg] at HG
    clear he ht hg
    unfold NewO
    go_enter Tryd.func28, Tryd.ntmps28
    go_wp2_with (go_at_call 26; (with_reducible refine HG.out.mono ?_); rintro e w' ⟨rfl, rfl⟩)
    go_ret
    rw [HF.out]
    exact ⟨_, rfl, HT.out, Below.refl _ _⟩
  | some v =>
    cases t with
    | none => cases hg
    | some t =>
      have HF := Lib.hid (show dropO (some t) k = t.without k by unfold dropO; dsimp only; rw [show t.get k = some v from hg]; rfl)
      obtain ⟨g, rfl, ht⟩ := ht
      have HW := Lib.hid (without_some k t w g hm he ht)
      rw [hg] at HG
      clear he ht hg
      unfold NewO at *
      go_enter Tryd.func28, Tryd.ntmps28
      go_wp2_with (first
        | (go_at_call 26; (with_reducible refine HG.out.mono ?_); rintro e w' ⟨rfl, rfl⟩)
        | (go_at_call 53; (with_reducible refine HW.out.mono ?_); rintro e w5 ⟨v5, rfl, ht, hb⟩; have HO := Lib.hid ht; have HB := Lib.hid hb; clear ht hb))
      go_ret
      rw [HF.out]
      exact ⟨v5, rfl, HO.out, HB.out⟩
end Go.Proofs.YtadolfacjolbkaaDoor

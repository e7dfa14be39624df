/- Part 20 of the proof. -/
import Derived.Test.YtadolfacjolbkaaDoorSh19
namespace Go.Proofs.YtadolfacjolbkaaDoor
set_option linter.unusedVariables false
set_option linter.unusedSimpArgs false
open Go.RowKit
set_option maxRecDepth 100000
set_option linter.unusedSimpArgs false
set_option linter.unusedVariables false
theorem joinN_many (a b : AvT) : (joinN a b).many = a.many + b.many := by
  rw [← AvT.many_eq, joinN_pairs, List.length_append, AvT.many_eq, AvT.many_eq]
theorem set_many (k v : ByteArray) : ∀ t : AvT, (t.set k v).many ≤ t.many + 1
  | .leaf k0 v0 => by
    unfold AvT.set
    split
    · simp [AvT.many]
    · split <;> simp [AvT.many]
  | .node a b => by
    unfold AvT.set
    have := set_many k v a
    have := set_many k v b
    split <;> rw [joinN_many] <;> simp only [AvT.many] <;> omega
theorem joinO_many (a b : Option AvT) : manyO (joinO a b) = manyO a + manyO b := by
  cases a with
  | none => simp [joinO, manyO]
  | some a =>
    cases b with
    | none => simp [joinO, manyO]
    | some b => exact joinN_many a b
theorem without_many (k : ByteArray) : ∀ t : AvT, manyO (t.without k) ≤ t.many
  | .leaf k0 v0 => by simp [AvT.without, manyO]
  | .node a b => by
    unfold AvT.without
    have := without_many k a
    have := without_many k b
    have e : ∀ t : AvT, manyO (some t) = t.many := fun _ => rfl
    split <;> rw [joinO_many, e] <;> simp only [AvT.many] <;> omega
theorem set_nil (k v : ByteArray) (w : World) (he : Env w) (hs : k.size + v.size ≤ 140737488351232) : Calls Tryd.prog 25 #[.pointer none, .string k, .string v] w (NewT (.leaf k v) w) := by
  have HL := Lib.hid (mkLeaf_new k v w he hs)
  clear he hs
  unfold NewT
  go_enter Tryd.func25, Tryd.ntmps25
  go_wp2_with (first
    | (go_at_call 14; (with_reducible refine (len_nil _).mono ?_); rintro e w' ⟨rfl, rfl⟩)
    | (go_at_call 34; (with_reducible refine HL.out.mono ?_); rintro e w4 ⟨g4, rfl, ht, hb⟩; have HT := Lib.hid ht; have HB := Lib.hid hb; clear ht hb))
  go_ret
  exact ⟨g4, rfl, HT.out, HB.out⟩
set_option maxHeartbeats 2000000 in
theorem set_leaf (g : Nat) (k0 v0 k v : ByteArray) (w : World) (he : Env w) (ht : TreeAt w g (.leaf k0 v0)) (hs : k.size + v.size ≤ 140737488351232) : Calls Tryd.prog 25 #[.pointer (some ⟨g, 0, none⟩), .string k, .string v] w (NewT ((AvT.leaf k0 v0).set k v) w) := by
  have HLE := Lib.hid (fun w h => len_some (g := g) (t := .leaf k0 v0) w h)
  have HL := Lib.hid (mkLeaf_new k v w he hs)
  have M := Lib.hid (show TM w w [(g, .leaf k0 v0)] from ⟨Below.refl _ _, he, fun z hz => by simp at hz; rcases hz with rfl; assumption⟩)
  have c0 := ht.least
  rw [show (AvT.leaf k0 v0).least = k0 from rfl] at c0
  by_cases h1 : k = k0
  · have HF := Lib.hid (show (AvT.leaf k0 v0).set k v = .leaf k v by unfold AvT.set; rw [if_pos h1])
    have hk : (k.toList == k0.toList) = true := by rw [beqL]; simp [h1]
    clear h1 ht he hs
    unfold NewT
    go_enter Tryd.func25, Tryd.ntmps25
    go_wp2_with (first
      | (go_at_call 14; (with_reducible refine (HLE.out _ M.out.hd).mono ?_); rw [show ((AvT.leaf k0 v0).many : Int) = 1 from rfl]; rintro e w' ⟨rfl, rfl⟩)
      | (go_at_call 34; (with_reducible refine HL.out.mono ?_); rintro e w4 ⟨g4, rfl, ht, hb⟩; replace M := Lib.hid (M.out.add ht hb); clear ht hb))
    go_ret
    rw [HF.out]
    exact ⟨g4, rfl, M.out.hd, M.out.below⟩
  · have hk : (k.toList == k0.toList) = false := by rw [beqL]; simp [h1]
    cases h2 : bl k k0 with
    | true =>
      have HF := Lib.hid (show (AvT.leaf k0 v0).set k v = .node (.leaf k v) (.leaf k0 v0) by unfold AvT.set; rw [if_neg h1, if_pos h2])
      have hl : Op.bytesLess k.toList k0.toList = true := h2
      clear h1 h2 ht he hs
      unfold NewT
      go_enter Tryd.func25, Tryd.ntmps25
      go_wp2_with (first
        | (go_at_call 14; (with_reducible refine (HLE.out _ M.out.hd).mono ?_); rw [show ((AvT.leaf k0 v0).many : Int) = 1 from rfl]; rintro e w' ⟨rfl, rfl⟩)
        | (go_at_call 34; (with_reducible refine HL.out.mono ?_); rintro e w4 ⟨g4, rfl, ht, hb⟩; replace M := Lib.hid (M.out.add ht hb); clear ht hb)
        | (go_at_call 36; (with_reducible refine (mkNode_new g4 g (.leaf k v) (.leaf k0 v0) _ M.out.env (M.out.trees (g4, AvT.leaf k v) (by simp)) (M.out.trees (g, AvT.leaf k0 v0) (by simp)) (by simp [AvT.many])).mono ?_); rintro e w5 ⟨g5, rfl, ht, hb⟩; replace M := Lib.hid (M.out.add ht hb); clear ht hb))
      go_ret
      rw [HF.out]
      exact ⟨g5, rfl, M.out.hd, M.out.below⟩
    | false =>
      have HF := Lib.hid (show (AvT.leaf k0 v0).set k v = .node (.leaf k0 v0) (.leaf k v) by unfold AvT.set; rw [if_neg h1, if_neg (by rw [h2]; simp)])
      have hl : Op.bytesLess k.toList k0.toList = false := h2
      clear h1 h2 ht he hs
      unfold NewT
      go_enter Tryd.func25, Tryd.ntmps25
      go_wp2_with (first
        | (go_at_call 14; (with_reducible refine (HLE.out _ M.out.hd).mono ?_); rw [show ((AvT.leaf k0 v0).many : Int) = 1 from rfl]; rintro e w' ⟨rfl, rfl⟩)
        | (go_at_call 34; (with_reducible refine HL.out.mono ?_); rintro e w4 ⟨g4, rfl, ht, hb⟩; replace M := Lib.hid (M.out.add ht hb); clear ht hb)
        | (go_at_call 36; (with_reducible refine (mkNode_new g g4 (.leaf k0 v0) (.leaf k v) _ M.out.env (M.out.trees (g, AvT.leaf k0 v0) (by simp)) (M.out.trees (g4, AvT.leaf k v) (by simp)) (by simp [AvT.many])).mono ?_); rintro e w5 ⟨g5, rfl, ht, hb⟩; replace M := Lib.hid (M.out.add ht hb); clear ht hb))
      go_ret
      rw [HF.out]
      exact ⟨g5, rfl, M.out.hd, M.out.below⟩
set_option maxHeartbeats 2000000 in
theorem set_node (g : Nat) (a b : AvT) (k v : ByteArray) (w : World) (he : Env w) (ht : TreeAt w g (.node a b)) (hm : a.many + b.many + 1 ≤ 4611686018427387904)
    (iha : ∀ (w : World) (g : Nat), Env w → TreeAt w g a → Calls Tryd.prog 25 #[.pointer (some ⟨g, 0, none⟩), .string k, .string v] w (NewT (a.set k v) w))
    (ihb : ∀ (w : World) (g : Nat), Env w → TreeAt w g b → Calls Tryd.prog 25 #[.pointer (some ⟨g, 0, none⟩), .string k, .string v] w (NewT (b.set k v) w)) :
    Calls Tryd.prog 25 #[.pointer (some ⟨g, 0, none⟩), .string k, .string v] w (NewT ((AvT.node a b).set k v) w) := by
  have HLE := Lib.hid (fun w h => len_some (g := g) (t := .node a b) w h)
  obtain ⟨ga, gb, k1, k2, ha, hb⟩ := ht.kids
  have c0 := hb.least
  have h2m : 2 ≤ (AvT.node a b).many := by have := a.many_pos; have := b.many_pos; simp only [AvT.many]; omega
  obtain ⟨m, hmm⟩ : ∃ m, m = (AvT.node a b).many := ⟨_, rfl⟩
  rw [← hmm] at HLE h2m
  have hm0 : ((m : Int) == 0) = false := by rw [beq_eq_false_iff_ne]; omega
  have hm1 : ((m : Int) == 1) = false := by rw [beq_eq_false_iff_ne]; omega
  have M := Lib.hid (show TM w w [(g, .node a b), (ga, a), (gb, b)] from ⟨Below.refl _ _, he, fun z hz => by simp at hz; rcases hz with rfl | rfl | rfl <;> assumption⟩)
  have HK := Lib.hid (show Kids g ga gb w from ⟨k1, k2⟩)
  have HIA := Lib.hid iha
  have HIB := Lib.hid ihb
  have HMA := Lib.hid (show (a.set k v).many + b.many ≤ 4611686018427387904 by have := set_many k v a; omega)
  have HMB := Lib.hid (show a.many + (b.set k v).many ≤ 4611686018427387904 by have := set_many k v b; omega)
  obtain ⟨lk, hlk⟩ : ∃ l, l = b.least := ⟨_, rfl⟩
  cases h2 : bl k b.least with
  | true =>
    have HF := Lib.hid (show (AvT.node a b).set k v = joinN (a.set k v) b by rw [AvT.set, if_pos h2])
    obtain ⟨A, hA⟩ : ∃ A, A = a.set k v := ⟨_, rfl⟩
    rw [← hA] at HIA HMA HF
    rw [← hlk] at h2 c0
    have hl : Op.bytesLess k.toList lk.toList = true := h2
    clear h2 ht he hm hmm k1 ha hb hlk hA iha ihb HIB HMB h2m
    unfold NewT
    go_enter Tryd.func25, Tryd.ntmps25
    go_upto_region 8 with (go_at_call 14; (with_reducible refine (HLE.out _ M.out.hd).mono ?_); rintro e w' ⟨rfl, rfl⟩)
    replace M := Lib.hid (M.out.call (Below.refl _ w).drew)
    replace HK := Lib.hid (HK.out.below (Below.refl _ w).drew)
    have hS0 := HK.out
    clear c0 k2
    go_region_held3 (fun w' => w'.cell? ⟨g, 36, none⟩ = some (.pointer (some ⟨ga, 0, none⟩)) ∧ w'.cell? ⟨g, 37, none⟩ = some (.pointer (some ⟨gb, 0, none⟩)))
      (first | (with_reducible exact hS0) | (with_reducible exact hS1) | (with_reducible exact hS2))
      (first
        | (go_at_call 25; (with_reducible refine (HIA.out _ ga M.out.env (M.out.trees (ga, a) (by simp))).mono ?_); rintro e w5 ⟨g5, rfl, ht, hb⟩; replace M := Lib.hid (M.out.add ht hb); replace HK := Lib.hid (HK.out.below hb); have hS1 := HK.out; clear ht hb)
        | (go_at_call 52; (with_reducible refine (join_new g5 gb A b _ M.out.env (M.out.trees (g5, A) (by simp)) (M.out.trees (gb, b) (by simp)) HMA.out).mono ?_); rintro e w6 ⟨g6, rfl, ht, hb⟩; replace M := Lib.hid (M.out.add ht hb); replace HK := Lib.hid (HK.out.below hb); have hS2 := HK.out; clear ht hb))
    go_wp2_with (fail)
    go_ret
    rw [HF.out]
    exact ⟨g6, rfl, M.out.hd, M.out.below⟩
  | false =>
    have HF := Lib.hid (show (AvT.node a b).set k v = joinN a (b.set k v) by rw [AvT.set, if_neg (by rw [h2]; simp)])
    obtain ⟨B, hB⟩ : ∃ B, B = b.set k v := ⟨_, rfl⟩
    rw [← hB] at HIB HMB HF
    rw [← hlk] at h2 c0
    have hl : Op.bytesLess k.toList lk.toList = false := h2
    clear h2 ht he hm hmm k1 ha hb hlk hB iha ihb HIA HMA h2m
    unfold NewT
    go_enter Tryd.func25, Tryd.ntmps25
    go_upto_region 9 with (go_at_call 14; (with_reducible refine (HLE.out _ M.out.hd).mono ?_); rintro e w' ⟨rfl, rfl⟩)
    replace M := Lib.hid (M.out.call (Below.refl _ w).drew)
    replace HK := Lib.hid (HK.out.below (Below.refl _ w).drew)
    have hS0 := HK.out
    clear c0 k2
    go_region_held3 (fun w' => w'.cell? ⟨g, 36, none⟩ = some (.pointer (some ⟨ga, 0, none⟩)) ∧ w'.cell? ⟨g, 37, none⟩ = some (.pointer (some ⟨gb, 0, none⟩)))
      (first | (with_reducible exact hS0) | (with_reducible exact hS1) | (with_reducible exact hS2))
      (first
        | (go_at_call 25; (with_reducible refine (HIB.out _ gb M.out.env (M.out.trees (gb, b) (by simp))).mono ?_); rintro e w5 ⟨g5, rfl, ht, hb⟩; replace M := Lib.hid (M.out.add ht hb); replace HK := Lib.hid (HK.out.below hb); have hS1 := HK.out; clear ht hb)
        | (go_at_call 52; (with_reducible refine (join_new ga g5 a B _ M.out.env (M.out.trees (ga, a) (by simp)) (M.out.trees (g5, B) (by simp)) HMB.out).mono ?_); rintro e w6 ⟨g6, rfl, ht, hb⟩; replace M := Lib.hid (M.out.add ht hb); replace HK := Lib.hid (HK.out.below hb); have hS2 := HK.out; clear ht hb))
    go_wp2_with (fail)
    go_ret
    rw [HF.out]
    exact ⟨g6, rfl, M.out.hd, M.out.below⟩
theorem set_some (k v : ByteArray) (hs : k.size + v.size ≤ 140737488351232) : ∀ (t : AvT) (w : World) (g : Nat), t.many + 1 ≤ 4611686018427387904 → Env w → TreeAt w g t → Calls Tryd.prog 25 #[.pointer (some ⟨g, 0, none⟩), .string k, .string v] w (NewT (t.set k v) w)
  | .leaf k0 v0, w, g, _, he, ht => set_leaf g k0 v0 k v w he ht hs
  | .node a b, w, g, hm, he, ht => by
    simp only [AvT.many] at hm
    exact set_node g a b k v w he ht hm (fun w g he h => set_some k v hs a w g (by omega) he h) (fun w g he h => set_some k v hs b w g (by omega) he h)
theorem set_any (va : Value) (t : Option AvT) (k v : ByteArray) (w : World) (he : Env w) (ht : TreeO w va t) (hs : k.size + v.size ≤ 140737488351232) (hm : manyO t + 1 ≤ 4611686018427387904) :
    Calls Tryd.prog 25 #[va, .string k, .string v] w (NewT (setO t k v) w) := by
  cases t with
  | none => cases ht; exact set_nil k v w he hs
  | some t => obtain ⟨g, rfl, ht⟩ := ht; exact set_some k v hs t w g hm he ht
end Go.Proofs.YtadolfacjolbkaaDoor

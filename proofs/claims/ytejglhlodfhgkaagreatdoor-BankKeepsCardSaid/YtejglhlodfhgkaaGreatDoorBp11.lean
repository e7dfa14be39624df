/- Part 11 of the proof. -/
import Derived.Test.YtejglhlodfhgkaaGreatDoorBp7
import Derived.Test.YtejglhlodfhgkaaGreatDoorBp10
namespace Go.Proofs.YtejglhlodfhgkaaGreatDoor
set_option linter.unusedVariables false
set_option linter.unusedSimpArgs false
open Go.RowKit
set_option maxRecDepth 100000
set_option linter.unusedSimpArgs false
set_option linter.unusedVariables false
def ptrN : Value → Nat
  | .pointer (some a) => a.block
  | _ => 0
def strO (o : Option ByteArray) : ByteArray := o.getD eBA
theorem get_nil (k : ByteArray) (w : World) : Calls Tryz.prog 91 #[.pointer none, .string k] w fun e w' => e = .returned (.tuple #[.string (strO none), .bool false]) ∧ w = w' := by
  go_enter Tryz.func91, Tryz.ntmps91
  go_upto_region 1 with (fail)
  go_loop [0] (fun x => x = .pointer none) (fun _ => 0)
  case atStart => rfl
  case round =>
    subst hrel
    go_wp2_with (go_at_call 86; (with_reducible refine (len_nil _).mono ?_); rintro e w' ⟨rfl, rfl⟩)
    go_ret2
    exact ⟨rfl, rfl⟩
set_option maxHeartbeats 2000000 in
theorem get_some (k : ByteArray) (t : AvT) (g : Nat) (w : World) (ht : TreeAt w g t) : Calls Tryz.prog 91 #[.pointer (some ⟨g, 0, none⟩), .string k] w fun e w' => e = .returned (.tuple #[.string (strO (t.get k)), .bool (t.get k).isSome]) ∧ w = w' := by
  obtain ⟨G, hG⟩ : ∃ G, G = t.get k := ⟨_, rfl⟩
  have HG := Lib.hid hG
  have HT := Lib.hid ht
  rw [← hG]
  clear hG ht
  go_enter Tryz.func91, Tryz.ntmps91
  go_upto_region 1 with (fail)
  go_loop [0] (fun x => ∃ g' t', x = .pointer (some ⟨g', 0, none⟩) ∧ Hid (TreeAt w g' t') ∧ Hid (G = t'.get k)) (fun x => ptrN x)
  case atStart => exact ⟨g, t, rfl, HT, HG⟩
  case round =>
    clear HT HG
    obtain ⟨g', t', rfl, HT, HG⟩ := hrel
    cases t' with
    | leaf k0 v0 =>
      have HLE := Lib.hid (len_some w HT.out)
      have c0 := HT.out.least
      have c1 := HT.out.value
      rw [show (AvT.leaf k0 v0).least = k0 from rfl] at c0
      rw [show (AvT.leaf k0 v0).value = v0 from rfl] at c1
      by_cases h1 : k0 = k
      · have hk : (k0.toList == k.toList) = true := by rw [beqL]; simp [h1]
        have HF := Lib.hid (show G = some v0 by rw [HG.out, AvT.get, if_pos h1])
        clear h1 HG
        go_wp2_with (first
          | (go_at_call 86; (with_reducible refine HLE.out.mono ?_); rw [show ((AvT.leaf k0 v0).many : Int) = 1 from rfl]; rintro e w' ⟨rfl, rfl⟩))
        go_ret2
        rw [HF.out]
        exact ⟨rfl, rfl⟩
      · have hk : (k0.toList == k.toList) = false := by rw [beqL]; simp [h1]
        have HF := Lib.hid (show G = none by rw [HG.out, AvT.get, if_neg h1])
        clear h1 HG
        go_wp2_with (first
          | (go_at_call 86; (with_reducible refine HLE.out.mono ?_); rw [show ((AvT.leaf k0 v0).many : Int) = 1 from rfl]; rintro e w' ⟨rfl, rfl⟩))
        go_ret2
        rw [HF.out]
        exact ⟨rfl, rfl⟩
    | node a b =>
      have HLE := Lib.hid (len_some w HT.out)
      obtain ⟨ga, gb, l1, l2, k1, k2, ha, hb⟩ := HT.out.kidsL
      have c0 := hb.least
      have h2m : 2 ≤ (AvT.node a b).many := by have := a.many_pos; have := b.many_pos; simp only [AvT.many]; omega
      obtain ⟨m, hmm⟩ : ∃ m, m = (AvT.node a b).many := ⟨_, rfl⟩
      rw [← hmm] at HLE h2m
      have hm1 : (1 : Int) < (m : Int) := by omega
      have HA := Lib.hid ha
      have HB := Lib.hid hb
      obtain ⟨lk, hlk⟩ : ∃ l, l = b.least := ⟨_, rfl⟩
      cases h2 : bl k b.least with
      | true =>
        have HF := Lib.hid (show G = a.get k by rw [HG.out, AvT.get, if_pos h2])
        rw [← hlk] at h2 c0
        have hl : Op.bytesLess k.toList lk.toList = true := h2
        clear h2 HG hmm hlk ha hb h2m
        go_wp2_with (first
          | (go_at_call 86; (with_reducible refine HLE.out.mono ?_); rintro e w' ⟨rfl, rfl⟩))
        go_round
        case rel => exact ⟨ga, a, rfl, HA, HF⟩
        case measure => simp [ptrN]; omega
      | false =>
        have HF := Lib.hid (show G = b.get k by rw [HG.out, AvT.get, if_neg (by rw [h2]; simp)])
        rw [← hlk] at h2 c0
        have hl : Op.bytesLess k.toList lk.toList = false := h2
        clear h2 HG hmm hlk ha hb h2m
        go_wp2_with (first
          | (go_at_call 86; (with_reducible refine HLE.out.mono ?_); rintro e w' ⟨rfl, rfl⟩))
        go_round
        case rel => exact ⟨gb, b, rfl, HB, HF⟩
        case measure => simp [ptrN]; omega
theorem get_any (va : Value) (k : ByteArray) (t : Option AvT) (w : World) (ht : TreeO w va t) : Calls Tryz.prog 91 #[va, .string k] w fun e w' => e = .returned (.tuple #[.string (strO (getO t k)), .bool (getO t k).isSome]) ∧ w = w' := by
  cases t with
  | none => cases ht; exact get_nil k w
  | some t => obtain ⟨g, rfl, ht⟩ := ht; exact get_some k t g w ht
theorem TreeAt.toO {w : World} {g : Nat} {t : AvT} (h : TreeAt w g t) : TreeO w (.pointer (some ⟨g, 0, none⟩)) (some t) := ⟨g, rfl, h⟩
def NewO (t : Option AvT) (w : World) (e : Ending) (w' : World) : Prop := ∃ v, e = .returned v ∧ TreeO w' v t ∧ Below w.heap.size w w'
theorem without_leaf (g : Nat) (k0 v0 k : ByteArray) (w : World) (ht : TreeAt w g (.leaf k0 v0)) : Calls Tryz.prog 225 #[.pointer (some ⟨g, 0, none⟩), .string k] w (NewO ((AvT.leaf k0 v0).without k) w) := by
  have HLE := Lib.hid (len_some w ht)
  clear ht
  unfold NewO
  go_enter Tryz.func225, Tryz.ntmps225
  go_wp2_with (go_at_call 86; (with_reducible refine HLE.out.mono ?_); rw [show ((AvT.leaf k0 v0).many : Int) = 1 from rfl]; rintro e w' ⟨rfl, rfl⟩)
  go_ret
  exact ⟨_, rfl, rfl, Below.refl _ _⟩
set_option maxHeartbeats 2000000 in
theorem without_node (g : Nat) (a b : AvT) (k : ByteArray) (w : World) (he : Env w) (ht : TreeAt w g (.node a b)) (hm : a.many + b.many ≤ 4611686018427387904)
    (iha : ∀ (w : World) (g : Nat), Env w → TreeAt w g a → Calls Tryz.prog 225 #[.pointer (some ⟨g, 0, none⟩), .string k] w (NewO (a.without k) w))
    (ihb : ∀ (w : World) (g : Nat), Env w → TreeAt w g b → Calls Tryz.prog 225 #[.pointer (some ⟨g, 0, none⟩), .string k] w (NewO (b.without k) w)) :
    Calls Tryz.prog 225 #[.pointer (some ⟨g, 0, none⟩), .string k] w (NewO ((AvT.node a b).without k) w) := by
  have HLE := Lib.hid (fun w h => len_some (g := g) (t := .node a b) w h)
  obtain ⟨ga, gb, k1, k2, ha, hb⟩ := ht.kids
  have c0 := hb.least
  have h2m : 2 ≤ (AvT.node a b).many := by have := a.many_pos; have := b.many_pos; simp only [AvT.many]; omega
  obtain ⟨m, hmm⟩ : ∃ m, m = (AvT.node a b).many := ⟨_, rfl⟩
  rw [← hmm] at HLE h2m
  have hm1 : ((m : Int) == 1) = false := by rw [beq_eq_false_iff_ne]; omega
  have M := Lib.hid (show TM w w [(g, .node a b), (ga, a), (gb, b)] from ⟨Below.refl _ _, he, fun z hz => by simp at hz; rcases hz with rfl | rfl | rfl <;> assumption⟩)
  have HK := Lib.hid (show Kids g ga gb w from ⟨k1, k2⟩)
  have HIA := Lib.hid iha
  have HIB := Lib.hid ihb
  have HMA := Lib.hid (show manyO (a.without k) + manyO (some b) ≤ 4611686018427387904 by have := without_many k a; rw [show manyO (some b) = b.many from rfl]; omega)
  have HMB := Lib.hid (show manyO (some a) + manyO (b.without k) ≤ 4611686018427387904 by have := without_many k b; rw [show manyO (some a) = a.many from rfl]; omega)
  obtain ⟨lk, hlk⟩ : ∃ l, l = b.least := ⟨_, rfl⟩
  cases h2 : bl k b.least with
  | true =>
    have HF := Lib.hid (show (AvT.node a b).without k = joinO (a.without k) (some b) by rw [AvT.without, if_pos h2])
    obtain ⟨A, hA⟩ : ∃ A, A = a.without k := ⟨_, rfl⟩
    rw [← hA] at HIA HMA HF
    rw [← hlk] at h2 c0
    have hl : Op.bytesLess k.toList lk.toList = true := h2
    clear h2 ht he hm hmm k1 ha hb hlk hA iha ihb HIB HMB h2m
    unfold NewO
    go_enter Tryz.func225, Tryz.ntmps225
    go_upto_region 4 with (go_at_call 86; (with_reducible refine (HLE.out _ M.out.hd).mono ?_); rintro e w' ⟨rfl, rfl⟩)
    replace M := Lib.hid (M.out.call (Below.refl _ w).drew)
    replace HK := Lib.hid (HK.out.below (Below.refl _ w).drew)
    have hS0 := HK.out
    clear c0 k2
    go_region_held3 (fun w' => w'.cell? ⟨g, 36, none⟩ = some (.pointer (some ⟨ga, 0, none⟩)) ∧ w'.cell? ⟨g, 37, none⟩ = some (.pointer (some ⟨gb, 0, none⟩)))
      (first | (with_reducible exact hS0) | (with_reducible exact hS1) | (with_reducible exact hS2))
      (first
        | (go_at_call 225; (with_reducible refine (HIA.out _ ga M.out.env (M.out.trees (ga, a) (by simp))).mono ?_); rintro e w5 ⟨v5, rfl, ht, hb⟩; replace M := Lib.hid (M.out.call hb); have HO := Lib.hid ht; replace HK := Lib.hid (HK.out.below hb); have hS1 := HK.out; clear ht hb)
        | (go_at_call 161; (with_reducible refine (join_any v5 (.pointer (some ⟨gb, 0, none⟩)) A (some b) _ M.out.env HO.out (TreeAt.toO (M.out.trees (gb, b) (by simp))) HMA.out).mono ?_); rintro e w6 ⟨v6, rfl, ht, hb⟩; replace M := Lib.hid (M.out.call hb); replace HO := Lib.hid ht; replace HK := Lib.hid (HK.out.below hb); have hS2 := HK.out; clear ht hb))
    go_wp2_with (fail)
    go_ret
    rw [HF.out]
    exact ⟨v6, rfl, HO.out, M.out.below⟩
  | false =>
    have HF := Lib.hid (show (AvT.node a b).without k = joinO (some a) (b.without k) by rw [AvT.without, if_neg (by rw [h2]; simp)])
    obtain ⟨B, hB⟩ : ∃ B, B = b.without k := ⟨_, rfl⟩
    rw [← hB] at HIB HMB HF
    rw [← hlk] at h2 c0
    have hl : Op.bytesLess k.toList lk.toList = false := h2
    clear h2 ht he hm hmm k1 ha hb hlk hB iha ihb HIA HMA h2m
    unfold NewO
    go_enter Tryz.func225, Tryz.ntmps225
    go_upto_region 5 with (go_at_call 86; (with_reducible refine (HLE.out _ M.out.hd).mono ?_); rintro e w' ⟨rfl, rfl⟩)
    replace M := Lib.hid (M.out.call (Below.refl _ w).drew)
    replace HK := Lib.hid (HK.out.below (Below.refl _ w).drew)
    have hS0 := HK.out
    clear c0 k2
    go_region_held3 (fun w' => w'.cell? ⟨g, 36, none⟩ = some (.pointer (some ⟨ga, 0, none⟩)) ∧ w'.cell? ⟨g, 37, none⟩ = some (.pointer (some ⟨gb, 0, none⟩)))
      (first | (with_reducible exact hS0) | (with_reducible exact hS1) | (with_reducible exact hS2))
      (first
        | (go_at_call 225; (with_reducible refine (HIB.out _ gb M.out.env (M.out.trees (gb, b) (by simp))).mono ?_); rintro e w5 ⟨v5, rfl, ht, hb⟩; replace M := Lib.hid (M.out.call hb); have HO := Lib.hid ht; replace HK := Lib.hid (HK.out.below hb); have hS1 := HK.out; clear ht hb)
        | (go_at_call 161; (with_reducible refine (join_any (.pointer (some ⟨ga, 0, none⟩)) v5 (some a) B _ M.out.env (TreeAt.toO (M.out.trees (ga, a) (by simp))) HO.out HMB.out).mono ?_); rintro e w6 ⟨v6, rfl, ht, hb⟩; replace M := Lib.hid (M.out.call hb); replace HO := Lib.hid ht; replace HK := Lib.hid (HK.out.below hb); have hS2 := HK.out; clear ht hb))
    go_wp2_with (fail)
    go_ret
    rw [HF.out]
    exact ⟨v6, rfl, HO.out, M.out.below⟩
theorem without_some (k : ByteArray) : ∀ (t : AvT) (w : World) (g : Nat), t.many ≤ 4611686018427387904 → Env w → TreeAt w g t → Calls Tryz.prog 225 #[.pointer (some ⟨g, 0, none⟩), .string k] w (NewO (t.without k) w)
  | .leaf k0 v0, w, g, _, he, ht => without_leaf g k0 v0 k w ht
  | .node a b, w, g, hm, he, ht => by
    simp only [AvT.many] at hm
    exact without_node g a b k w he ht hm (fun w g he h => without_some k a w g (by omega) he h) (fun w g he h => without_some k b w g (by omega) he h)
theorem drop_any (va : Value) (t : Option AvT) (k : ByteArray) (w : World) (he : Env w) (ht : TreeO w va t) (hm : manyO t ≤ 4611686018427387904) :
    Calls Tryz.prog 175 #[va, .string k] w (NewO (dropO t k) w) := by
  have HG := Lib.hid (get_any va k t w ht)
  have HT := Lib.hid ht
  cases hg : getO t k with
  | none =>
    have HF := Lib.hid (show dropO t k = t by
      cases t with
      | none => rfl
      | some t => unfold dropO; dsimp only; rw [show t.get k = none from hg]; rfl)
    rw [hg] at HG
    clear he ht hg
    unfold NewO
    go_enter Tryz.func175, Tryz.ntmps175
    go_wp2_with (go_at_call 91; (with_reducible refine HG.out.mono ?_); rintro e w' ⟨rfl, rfl⟩)
    go_ret
    rw [HF.out]
    exact ⟨_, rfl, HT.out, Below.refl _ _⟩
  | some v =>
    cases t with
    | none => cases hg
    | some t =>
      have HF := Lib.hid (show dropO (some t) k = t.without k by unfold dropO; dsimp only; rw [show t.get k = some v from hg]; rfl)
      obtain ⟨g, rfl, ht⟩ := ht
      have HW := Lib.hid (without_some k t w g hm he ht)
      rw [hg] at HG
      clear he ht hg
      unfold NewO at *
      go_enter Tryz.func175, Tryz.ntmps175
      go_wp2_with (first
        | (go_at_call 91; (with_reducible refine HG.out.mono ?_); rintro e w' ⟨rfl, rfl⟩)
        | (go_at_call 225; (with_reducible refine HW.out.mono ?_); rintro e w5 ⟨v5, rfl, ht, hb⟩; have HO := Lib.hid ht; have HB := Lib.hid hb; clear ht hb))
      go_ret
      rw [HF.out]
      exact ⟨v5, rfl, HO.out, HB.out⟩
end Go.Proofs.YtejglhlodfhgkaaGreatDoor
namespace Go.Proofs.YtejglhlodfhgkaaGreatDoor
set_option linter.unusedVariables false
set_option linter.unusedSimpArgs false
open Go.RowKit
set_option maxRecDepth 100000
/-- what the groups' check answers: the number, how many bytes, the error -/
def chk (n : Nat) (size last most : Nat) : Nat × Nat × Option Nat :=
  if (1 < size ∧ last = 0) ∨ (size = 10 ∧ 1 < last) then (0, 0, some 3) else if most < n then (0, 0, some 4) else (n, size, none)
/-- what varint answers from byte i on -/
def rdFrom (xs : List Int) (most : Nat) : Nat → Nat → Nat × Nat × Option Nat
  | 0, _ => if xs.length < 10 then (0, 0, some 12) else (0, 0, some 3)
  | k + 1, i => if (xs.getD i 0) < 128 then chk (accF xs (i + 1)) (i + 1) (xs.getD i 0).toNat most else rdFrom xs most k (i + 1)
def rdF (xs : List Int) (most : Nat) : Nat × Nat × Option Nat := rdFrom xs most (min xs.length 10) 0
def tripV (r : Nat × Nat × Option Nat) : Value := .tuple #[.int .u64 (r.1 : Int), .int .i64 (r.2.1 : Int), errV r.2.2]
set_option maxRecDepth 100000 in
set_option maxHeartbeats 400000 in
theorem checked_any (n most : Nat) (ab ao size cap : Nat) (last : Nat) (w : World) (hs0 : 0 < size) (hs : size ≤ 10) (hl : last < 256) (hc : w.cell? ⟨ab, ao + (size - 1), none⟩ = some (.int .u8 (last : Int))) :
    Calls Tryz.prog 243 #[.int .u64 (n : Int), .slice (some ⟨ab, ao, none⟩) size cap, .int .u64 (most : Int)] w fun e w' => e = .returned (tripV (chk n size last most)) ∧ w' = w := by
  obtain ⟨s, rfl⟩ : ∃ s, size = s + 1 := ⟨size - 1, by omega⟩
  rw [Nat.add_sub_cancel] at hc
  go_enter Tryz.func243, Tryz.ntmps243
  go_wp2_with (fail)
  all_goals go_ret3
  all_goals refine ⟨?_, rfl⟩
  all_goals (try simp only [beq_eq_false_iff_ne, beq_iff_eq, ne_eq] at *)
  all_goals first
    | (rw [show chk n (s + 1) last most = (0, 0, some 3) by unfold chk; rw [if_pos (by omega)]]; rfl)
    | (rw [show chk n (s + 1) last most = (0, 0, some 4) by unfold chk; rw [if_neg (by omega), if_pos (by omega)]]; rfl)
    | (rw [show chk n (s + 1) last most = (n, s + 1, none) by unfold chk; rw [if_neg (by omega), if_neg (by omega)]]; first | rfl | (have e : s = 9 := (by omega); subst e; rfl))
theorem and128 (b : Nat) (h : b < 256) : bits .andNot .u8 (b : Int) 128 = ((b % 128 : Nat) : Int) := by
  have : ∀ b : Fin 256, bits .andNot .u8 (b.val : Int) 128 = ((b.val % 128 : Nat) : Int) := by decide +kernel
  exact this ⟨b, h⟩
/-- the groups so far, and the next one -/
theorem or_group (a g k : Nat) (ha : a < 128 ^ k) (hk : k ≤ 9) :
    bits .or .u64 (a : Int) ((g * 128 ^ k % 18446744073709551616 : Nat) : Int) = ((a + g * 128 ^ k % 18446744073709551616 : Nat) : Int) := by
  have hp : (128 : Nat) ^ k ≤ 128 ^ 9 := Nat.pow_le_pow_right (by decide) hk
  have h9 : (128 : Nat) ^ 9 = 9223372036854775808 := by decide
  rw [bits_or_u64_nat _ _ (by omega) (by omega)]
  congr 1
  have e : (128 : Nat) ^ k = 2 ^ (7 * k) := by rw [Nat.pow_mul]
  have h64 : (18446744073709551616 : Nat) = 2 ^ (7 * k) * 2 ^ (64 - 7 * k) := by
    rw [← Nat.pow_add, show 7 * k + (64 - 7 * k) = 64 by omega]
  have e2 : g * 128 ^ k % 18446744073709551616 = 2 ^ (7 * k) * (g % 2 ^ (64 - 7 * k)) := by
    rw [h64, e, Nat.mul_comm g, Nat.mul_mod_mul_left]
  rw [e2, Nat.or_comm, Nat.add_comm]
  rw [e] at ha
  exact (Nat.two_pow_add_eq_or_of_lt ha _).symm
theorem acc_step (xs : List Int) (k b : Nat) (hk : k ≤ 9) (hb : xs.getD k 0 = (b : Int)) :
    bits .or .u64 ((accF xs k : Nat) : Int) (IntKind.u64.wrap ((b : Int) % 128 * 2 ^ (7 * k))) = ((accF xs (k + 1) : Nat) : Int) := by
  have h := or_group (accF xs k) (b % 128) k (accF_lt xs k hk) hk
  have e : IntKind.u64.wrap ((b : Int) % 128 * 2 ^ (7 * k)) = ((b % 128 * 128 ^ k % 18446744073709551616 : Nat) : Int) := by
    have e1 : (2 : Int) ^ (7 * k) = ((128 ^ k : Nat) : Int) := by
      rw [Int.pow_mul, Int.natCast_pow]; rfl
    rw [IntKind.wrap_u64, e1, show (b : Int) % 128 = ((b % 128 : Nat) : Int) by omega, ← Int.natCast_mul]
    generalize b % 128 * 128 ^ k = X
    omega
  rw [e, h]
  show _ = ((accF xs k + (xs.getD k 0).toNat % 128 * 128 ^ k % 18446744073709551616 : Nat) : Int)
  rw [hb, Int.toNat_natCast]
theorem rd_step (xs : List Int) (most k b : Nat) (hk : k < min xs.length 10) (hb : xs.getD k 0 = (b : Int)) :
    rdFrom xs most (min xs.length 10 - k) k = if b < 128 then chk (accF xs (k + 1)) (k + 1) b most else rdFrom xs most (min xs.length 10 - (k + 1)) (k + 1) := by
  rw [show min xs.length 10 - k = (min xs.length 10 - (k + 1)) + 1 by omega, rdFrom, hb, Int.toNat_natCast]
  by_cases h : b < 128
  · rw [if_pos h, if_pos (by omega)]
  · rw [if_neg h, if_neg (by omega)]
theorem sliceB_first (ab ao n c q : Nat) (hq : q ≤ c) (w : World) : (Instr.slice 25 (.slice (some ⟨ab, ao, none⟩) n c) none (some (.int .i64 (q : Int))) none).run Tryz.prog w = .ok (.slice (some ⟨ab, ao, none⟩) q c) w := by
  rw [sliceBhi _ _ _ _ hq]
  unfold cutA
  split
  · rfl
  · show Result.ok (Value.slice (some (Addr.add ⟨ab, ao, none⟩ 0)) _ _) w = _
    rw [Addr.add_mid]; rfl
set_option maxRecDepth 100000 in
set_option maxHeartbeats 400000 in
theorem varint_any (v : Value) (xs : List Int) (most : Nat) (w : World) (hx : BytesIn w v xs) (hb : bytesOk xs) :
    Calls Tryz.prog 220 #[v, .int .u64 (most : Int)] w fun e w' => e = .returned (tripV (rdF xs most)) ∧ w' = w := by
  obtain ⟨a, c, rfl, hc, hm, hx⟩ := hx
  have HX := Lib.hid hx
  have HB := Lib.hid hb
  have HC := Lib.hid hc
  have HM := Lib.hid hm
  clear hx hb hc hm
  obtain ⟨m, hm⟩ : ∃ m, m = min xs.length 10 := ⟨_, rfl⟩
  have hmin : ((min xs.length 10 : Nat) : Int) = min (xs.length : Int) 10 := by omega
  have HMM := Lib.hid hm
  clear hm
  go_enter Tryz.func220, Tryz.ntmps220
  go_upto_region 2 with (fail)
  all_goals clear hmin
  all_goals go_loopw [4, 11] (fun n i wr => ∃ k : Nat, k ≤ min xs.length 10 ∧ n = .int .u64 ((accF xs k : Nat) : Int) ∧ i = .int .i64 k ∧ wr = w ∧ rdF xs most = rdFrom xs most (min xs.length 10 - k) k) (fun _ i _ => 10 - (intOf i).toNat)
  case atStart => exact ⟨0, by omega, rfl, rfl, rfl, rfl⟩
  try (case atStart => exact ⟨0, by omega, rfl, rfl, rfl, rfl⟩)
  all_goals obtain ⟨k, hk, rfl, rfl, rfl, hrd⟩ := hrel
  all_goals
    by_cases hlt : k < min xs.length 10
    · obtain ⟨ab, ao, rfl, hcell⟩ := HX.out.resolve_left (by rintro rfl; simp at hlt)
      obtain ⟨b, hb⟩ : ∃ b : Nat, xs[k]? = some (b : Int) ∧ b < 256 := by
        have hk1 : k < xs.length := by omega
        have := HB.out xs[k] (List.getElem_mem hk1)
        exact ⟨xs[k].toNat, by rw [List.getElem?_eq_getElem hk1]; congr 1; omega, by omega⟩
      have hc := hcell k _ hb.1
      have ha := and128 b hb.2
      have hk1 : (k : Int) < xs.length := by omega
      have hk2 : (k : Int) < 10 := by omega
      have hgd : xs.getD k 0 = (b : Int) := by rw [List.getD, hb.1]; rfl
      have hor := acc_step xs k b (by omega) hgd
      have hst := rd_step xs most k b hlt hgd
      have HC' := HC.out
      have hsl := sliceB_first ab ao xs.length c (k + 1) (by omega)
      rw [show ((k + 1 : Nat) : Int) = (k : Int) + 1 by omega] at hsl
      have hck := checked_any (accF xs (k + 1)) most ab ao (k + 1) c b wr (by omega) (by omega) hb.2 (by rw [Nat.add_sub_cancel]; exact hc)
      replace hck := Lib.hid hck
      have HST := Lib.hid (hrd.trans hst)
      clear hst hrd hgd hcell HC'
      have hb2 := hb.2
      clear hb
      generalize hacc : accF xs (k + 1) = acc1 at *
      replace hacc := Lib.hid hacc
      by_cases h128 : b < 128
      · have HR := HST.out
        rw [if_pos h128] at HR
        replace HR := Lib.hid HR
        clear HST
        go_wp2_with (go_at_call 243; (with_reducible refine hck.out.mono ?_); rintro e w2 ⟨rfl, rfl⟩; simp only [tripV])
        go_ret3
        exact ⟨by rw [HR.out]; rfl, rfl⟩
      · have HR := HST.out
        rw [if_neg h128] at HR
        replace HR := Lib.hid HR
        clear HST
        go_wp2_with (fail)
        go_roundw
        case rel => exact ⟨k + 1, by omega, by rw [hacc.out], rfl, trivial, HR.out⟩
        case measure => simp [intOf]; omega
    · have hk1 : ¬ (k : Int) < min (xs.length : Int) 10 := by omega
      have HRD := Lib.hid (show rdF xs most = if xs.length < 10 then (0, 0, some 12) else (0, 0, some 3) by rw [hrd, show min xs.length 10 - k = 0 by omega]; rfl)
      clear hrd HX
      go_wp2_with (fail)
      all_goals go_ret3
      all_goals rw [HRD.out]
      all_goals first
        | (rw [if_pos (by omega)]; exact ⟨rfl, rfl⟩)
        | (rw [if_neg (by omega)]; exact ⟨rfl, rfl⟩)
end Go.Proofs.YtejglhlodfhgkaaGreatDoor
namespace Go.Proofs.YtejglhlodfhgkaaGreatDoor
set_option linter.unusedVariables false
set_option linter.unusedSimpArgs false
open Go.RowKit
set_option maxRecDepth 100000
/-- block p is a Reader: y are the bytes ys that are left, e its error -/
structure RAt (w : World) (p : Nat) (y : Value) (ys : List Int) (e : Option Nat) : Prop where
  at_ : w.heap[p]? = some (.cells #[y, errV e] 204 (0, 0))
  in_ : BytesIn w y ys
  ok : bytesOk ys
  le : ys.length ≤ 140737488355328
  ne : ∀ k, y.ownBlock = some k → k ≠ p
theorem RAt.lt {w : World} {p : Nat} {y : Value} {ys : List Int} {e : Option Nat} (h : RAt w p y ys e) : p < w.heap.size := (Array.getElem?_eq_some_iff.1 h.at_).1
theorem BytesIn.only {w w' : World} {y : Value} {ys : List Int} {p : Nat} (h : BytesIn w y ys) (ho : Only p w w') (hn : ∀ k, y.ownBlock = some k → k ≠ p) : BytesIn w' y ys := by
  obtain ⟨a, c, rfl, hc, hm, hx⟩ := h
  refine ⟨a, c, rfl, hc, hm, hx.imp id ?_⟩
  rintro ⟨ab, ao, rfl, hx1⟩
  exact ⟨ab, ao, rfl, fun i x hi => ho.cell (hx1 i x hi) (hn ab rfl)⟩
theorem RAt.below {w w' : World} {p : Nat} {y : Value} {ys : List Int} {e : Option Nat} (h : RAt w p y ys e) (hb : Below w.heap.size w w') : RAt w' p y ys e :=
  ⟨(hb.block p h.lt).trans h.at_, h.in_.below hb, h.ok, h.le, h.ne⟩
theorem RAt.cell0 {w : World} {p : Nat} {y : Value} {ys : List Int} {e : Option Nat} (h : RAt w p y ys e) : w.cell? ⟨p, 0, none⟩ = some y := by rw [cell_of_row w p 0 _ _ _ h.at_]; rfl
theorem RAt.cell1 {w : World} {p : Nat} {y : Value} {ys : List Int} {e : Option Nat} (h : RAt w p y ys e) : w.cell? ⟨p, 1, none⟩ = some (errV e) := by rw [cell_of_row w p 1 _ _ _ h.at_]; rfl
theorem RAt.free {w : World} {p : Nat} {y : Value} {ys : List Int} {e : Option Nat} (h : RAt w p y ys e) (i : Nat) : w.frozen? ⟨p, i, none⟩ = false := frozen_of_row w p i _ _ h.at_
theorem RAt.wide {w : World} {p : Nat} {y : Value} {ys : List Int} {e : Option Nat} (h : RAt w p y ys e) : ∃ a c, y = .slice a ys.length c ∧ ys.length ≤ c := by
  obtain ⟨a, c, rfl, hc, _⟩ := h.in_; exact ⟨a, c, rfl, hc⟩
theorem RAt.keep {w w' : World} {p : Nat} {y : Value} {ys : List Int} {e : Option Nat} (h : RAt w p y ys e) (hp : w'.heap[p]? = w.heap[p]?) (hk : ys ≠ [] → ∀ k, y.ownBlock = some k → w'.heap[k]? = w.heap[k]?) : RAt w' p y ys e := by
  refine ⟨hp.trans h.at_, ?_, h.ok, h.le, h.ne⟩
  obtain ⟨a, c, rfl, hc, hm, hx⟩ := h.in_
  refine ⟨a, c, rfl, hc, hm, ?_⟩
  by_cases hn : ys = []
  · exact .inl hn
  · obtain ⟨ab, ao, rfl, hx1⟩ := hx.resolve_left hn
    exact .inr ⟨ab, ao, rfl, fun i x hi => (World.cell?_of_block (w := w) (hk hn ab rfl)).trans (hx1 i x hi)⟩
/-- bytes lie in memory -/
theorem RAt.own_lt {w : World} {p : Nat} {y : Value} {ys : List Int} {e : Option Nat} (h : RAt w p y ys e) (hn : ys ≠ []) : ∀ k, y.ownBlock = some k → k < w.heap.size := by
  intro k hk
  obtain ⟨a, c, rfl, hc, hm, hx⟩ := h.in_
  obtain ⟨ab, ao, rfl, hx1⟩ := hx.resolve_left hn
  obtain ⟨b, r, rfl⟩ := List.exists_cons_of_ne_nil hn
  simp only [Value.ownBlock, Option.some.injEq] at hk
  subst hk
  exact World.block_lt_of_cell? w _ (hx1 0 b rfl)
/-- its error is set -/
theorem RAt.err {w : World} {p : Nat} {y : Value} {ys : List Int} {e : Option Nat} (h : RAt w p y ys e) (e' : Option Nat) : RAt (w.setCell ⟨p, 1, none⟩ (errV e')) p y ys e' :=
  ⟨by rw [heap_setCell_same w p 1 _ _ _ h.at_]; rfl, h.in_.only (Only.setCell w ⟨p, 1, none⟩ _) h.ne, h.ok, h.le, h.ne⟩
theorem own_cut (a : Option Addr) (c k n m : Nat) : (Value.slice (cutA a c k) n m).ownBlock = (Value.slice a n m).ownBlock := by
  unfold cutA
  split
  · rfl
  · cases a with
    | none => rfl
    | some ad => show some (Addr.add ad k).block = some ad.block; unfold Addr.add; split <;> rfl
theorem own_len (a : Option Addr) (n m n' m' : Nat) : (Value.slice a n m).ownBlock = (Value.slice a n' m').ownBlock := by cases a <;> rfl
theorem bytesOk_drop {xs : List Int} (h : bytesOk xs) (k : Nat) : bytesOk (xs.drop k) := fun x hx => h x (List.mem_of_mem_drop hx)
/-- bytes are taken off -/
theorem RAt.took {w : World} {p : Nat} {a : Option Addr} {c : Nat} {ys : List Int} {e : Option Nat} (h : RAt w p (.slice a ys.length c) ys e) (k : Nat) (hk : k ≤ ys.length) :
    RAt (w.setCell ⟨p, 0, none⟩ (.slice (cutA a c k) (ys.length - k) (c - k))) p (.slice (cutA a c k) (ys.length - k) (c - k)) (ys.drop k) e := by
  have hn : ∀ j, (Value.slice (cutA a c k) (ys.length - k) (c - k)).ownBlock = some j → j ≠ p := fun j hj => h.ne j (by rw [own_cut] at hj; rw [← hj]; exact own_len _ _ _ _ _)
  have hb := h.in_.cut k ys.length hk (Nat.le_refl _)
  rw [List.take_length] at hb
  exact ⟨by rw [heap_setCell_same w p 0 _ _ _ h.at_]; rfl, hb.only (Only.setCell w ⟨p, 0, none⟩ _) hn, bytesOk_drop h.ok k, by rw [List.length_drop]; have := h.le; omega, hn⟩
theorem read_any (v : Value) (ys : List Int) (w : World) (hy : BytesIn w v ys) (ho : bytesOk ys) (hl : ys.length ≤ 140737488355328) :
    Calls Tryz.prog 66 #[v] w fun e w' => ∃ p y, e = .returned (.pointer (some ⟨p, 0, none⟩)) ∧ w.heap.size ≤ p ∧ RAt w' p y ys none ∧ Below w.heap.size w w' := by
  have HC := Lib.hid (clone_any v ys w hy hl)
  have HO := Lib.hid ho
  clear hy ho
  go_enter Tryz.func66, Tryz.ntmps66
  go_wp2_with (go_at_call 121; (with_reducible refine HC.out.mono ?_); rintro e w1 ⟨v', rfl, ho, hb⟩; obtain ⟨a, c, rfl⟩ := owns_wide ho; have H := Lib.hid ho; have HB := Lib.hid hb; clear ho hb)
  go_ret
  have h1 := H.out
  have hin := owns_in h1 (by unfold maxLen; omega)
  refine ⟨_, _, rfl, HB.out.size, ⟨heap_alloc_new w1 _, hin.below (below_alloc w1 _), HO.out, hl, fun k hk => ?_⟩, HB.out.alloc HB.out.size _⟩
  have := (h1.lt k hk).2
  omega
theorem err_any (p : Nat) (y : Value) (ys : List Int) (e : Option Nat) (w : World) (h : RAt w p y ys e) :
    Calls Tryz.prog 137 #[.pointer (some ⟨p, 0, none⟩)] w fun r w' => r = .returned (errV e) ∧ w' = w := by
  have hc := h.cell1
  cases e
  · simp only [errV] at hc ⊢
    go_enter Tryz.func137, Tryz.ntmps137
    go_wp2_with (fail)
    go_ret
    exact ⟨rfl, rfl⟩
  · simp only [errV] at hc ⊢
    go_enter Tryz.func137, Tryz.ntmps137
    go_wp2_with (fail)
    go_ret
    exact ⟨rfl, rfl⟩
theorem left_any (p : Nat) (y : Value) (ys : List Int) (e : Option Nat) (w : World) (h : RAt w p y ys e) :
    Calls Tryz.prog 138 #[.pointer (some ⟨p, 0, none⟩)] w fun r w' => r = .returned (.int .i64 (ys.length : Int)) ∧ w' = w := by
  have hc := h.cell0
  obtain ⟨a, c, rfl, _⟩ := h.wide
  go_enter Tryz.func138, Tryz.ntmps138
  go_wp2_with (fail)
  go_ret
  exact ⟨rfl, rfl⟩
set_option maxRecDepth 100000 in
set_option maxHeartbeats 400000 in
theorem take_any (p : Nat) (y : Value) (ys : List Int) (e : Option Nat) (k : Nat) (w : World) (h : RAt w p y ys e) (hk : k ≤ ys.length) :
    Calls Tryz.prog 167 #[.pointer (some ⟨p, 0, none⟩), .int .i64 (k : Int)] w fun r w' => ∃ a c y', r = .returned (.slice a k c) ∧ BytesIn w' (.slice a k c) (ys.take k) ∧ (∀ j, (Value.slice a k c).ownBlock = some j → j ≠ p) ∧ RAt w' p y' (ys.drop k) e ∧ Only p w w' ∧ y'.ownBlock = y.ownBlock := by
  obtain ⟨a, c, rfl, hle⟩ := h.wide
  have HR := Lib.hid h
  have hc := h.cell0
  have hf := h.free 0
  have hs1 := sliceBhi a ys.length c k (by omega)
  have hs2 := sliceBlo a ys.length c k hk
  have HK := Lib.hid hk
  clear h hk hle
  go_enter Tryz.func167, Tryz.ntmps167
  go_wp2_with (fail)
  go_ret
  have hn : ∀ j, (Value.slice (cutA a c 0) k c).ownBlock = some j → j ≠ p := fun j hj => HR.out.ne j (by rw [own_cut] at hj; rw [← hj]; exact own_len _ _ _ _ _)
  refine ⟨cutA a c 0, c, _, rfl, ?_, hn, HR.out.took k HK.out, Only.setCell w ⟨p, 0, none⟩ _, by rw [own_cut]; exact own_len _ _ _ _ _⟩
  have := (HR.out.in_.cut0 k HK.out).only (Only.setCell w ⟨p, 0, none⟩ (.slice (cutA a c k) (ys.length - k) (c - k))) hn
  rw [List.drop_zero] at this
  exact this
end Go.Proofs.YtejglhlodfhgkaaGreatDoor
namespace Go.Proofs.YtejglhlodfhgkaaGreatDoor
set_option linter.unusedVariables false
set_option linter.unusedSimpArgs false
open Go.RowKit
set_option maxRecDepth 100000
/-- the bytes that are left, and the error -/
abbrev RSt := List Int × Option Nat
/-- block p is a Reader in this state -/
def RS (w : World) (p : Nat) (s : RSt) : Prop := ∃ y, RAt w p y s.1 s.2
theorem chk_ok {n size last most : Nat} (h : (chk n size last most).2.2 = none) : (chk n size last most) = (n, size, none) ∧ n ≤ most ∧ ¬ ((1 < size ∧ last = 0) ∨ (size = 10 ∧ 1 < last)) := by
  unfold chk at *
  by_cases h1 : (1 < size ∧ last = 0) ∨ (size = 10 ∧ 1 < last)
  · rw [if_pos h1] at h; cases h
  · rw [if_neg h1] at h ⊢
    by_cases h2 : most < n
    · rw [if_pos h2] at h; cases h
    · rw [if_neg h2]; exact ⟨rfl, by omega, h1⟩
theorem accF_lt64 (xs : List Int) (i : Nat) (h : i ≤ 10) : accF xs i < 18446744073709551616 := by
  rcases Nat.lt_or_ge i 10 with h1 | h1
  · have := accF_lt xs i (by omega)
    have h2 : (128 : Nat) ^ i ≤ 128 ^ 9 := Nat.pow_le_pow_right (by decide) (by omega)
    have h3 : (128 : Nat) ^ 9 = 9223372036854775808 := by decide
    omega
  · obtain rfl : i = 10 := by omega
    have := accF_lt xs 9 (by omega)
    have h3 : (128 : Nat) ^ 9 = 9223372036854775808 := by decide
    rw [h3] at this
    show accF xs 9 + (xs.getD 9 0).toNat % 128 * 128 ^ 9 % 18446744073709551616 < _
    rw [h3]
    omega
theorem rdFrom_ok (xs : List Int) (most : Nat) : ∀ k i, i + k ≤ xs.length → i + k ≤ 10 → (rdFrom xs most k i).2.2 = none →
    (rdFrom xs most k i).2.1 ≤ xs.length ∧ (rdFrom xs most k i).1 < 18446744073709551616 ∧ (rdFrom xs most k i).1 ≤ most
  | 0, i, _, _, h => by
    unfold rdFrom at h
    split at h <;> cases h
  | k + 1, i, h1, h2, h => by
    unfold rdFrom at h ⊢
    by_cases hb : xs.getD i 0 < 128
    · rw [if_pos hb] at h ⊢
      obtain ⟨e, hm, _⟩ := chk_ok h
      rw [e]
      exact ⟨by show i + 1 ≤ _; omega, accF_lt64 xs (i + 1) (by omega), hm⟩
    · rw [if_neg hb] at h ⊢
      exact rdFrom_ok xs most k (i + 1) (by omega) (by omega) h
theorem rdF_ok {xs : List Int} {most : Nat} (h : (rdF xs most).2.2 = none) : (rdF xs most).2.1 ≤ xs.length ∧ (rdF xs most).1 < 18446744073709551616 ∧ (rdF xs most).1 ≤ most :=
  rdFrom_ok xs most _ 0 (by omega) (by omega) h
/-- Uint -/
def uintS (s : RSt) (most : Nat) : Nat × RSt :=
  match s.2 with
  | some _ => (0, s)
  | none => match (rdF s.1 most).2.2 with
    | some x => (0, s.1, some x)
    | none => ((rdF s.1 most).1, s.1.drop (rdF s.1 most).2.1, none)
theorem uintS_err (ys : List Int) (x most : Nat) : uintS (ys, some x) most = (0, ys, some x) := rfl
theorem uintS_bad {ys : List Int} {x most : Nat} (h : (rdF ys most).2.2 = some x) : uintS (ys, none) most = (0, ys, some x) := by
  unfold uintS; simp only [h]
theorem uintS_good {ys : List Int} {most : Nat} (h : (rdF ys most).2.2 = none) : uintS (ys, none) most = ((rdF ys most).1, ys.drop (rdF ys most).2.1, none) := by
  unfold uintS; simp only [h]
theorem uintS_lt (s : RSt) (most : Nat) : (uintS s most).1 < 18446744073709551616 := by
  obtain ⟨ys, e⟩ := s
  cases e with
  | some x => rw [uintS_err]; show (0 : Nat) < _; decide
  | none =>
    cases h : (rdF ys most).2.2 with
    | some x => rw [uintS_bad h]; show (0 : Nat) < _; decide
    | none => rw [uintS_good h]; exact (rdF_ok h).2.1
theorem tripV_of (r : Nat × Nat × Option Nat) (e : Option Nat) (h : r.2.2 = e) : tripV r = .tuple #[.int .u64 (r.1 : Int), .int .i64 (r.2.1 : Int), errV e] := by unfold tripV; rw [h]
set_option maxRecDepth 100000 in
set_option maxHeartbeats 400000 in
theorem uint_any (p : Nat) (s : RSt) (most : Nat) (w : World) (h : RS w p s) :
    Calls Tryz.prog 168 #[.pointer (some ⟨p, 0, none⟩), .int .u64 (most : Int)] w fun r w' => r = .returned (.int .u64 ((uintS s most).1 : Int)) ∧ RS w' p (uintS s most).2 ∧ Only p w w' := by
  obtain ⟨ys, e⟩ := s
  obtain ⟨y, h⟩ := h
  have HE := Lib.hid (err_any p y ys e w h)
  have HR := Lib.hid h
  have hc0 := h.cell0
  have hc1 := h.cell1
  have hf := h.free 1
  obtain ⟨a, c, rfl, hle⟩ := h.wide
  clear hle
  cases e with
  | some x =>
    rw [uintS_err]
    simp only [errV] at HE hc1
    go_enter Tryz.func168, Tryz.ntmps168
    go_wp2_with (go_at_call 137; (with_reducible refine HE.out.mono ?_); rintro e w2 ⟨rfl, rfl⟩)
    go_ret
    exact ⟨rfl, ⟨_, HR.out⟩, Only.refl _ _⟩
  | none =>
    simp only [errV] at HE hc1
    have HV := varint_any (.slice a ys.length c) ys most w h.in_ h.ok
    cases hx : (rdF ys most).2.2 with
    | some x =>
      rw [uintS_bad hx]
      rw [tripV_of _ _ hx] at HV
      replace HV := Lib.hid HV
      have HW := Lib.hid (h.err (some x))
      simp only [errV] at HV HW
      clear h
      go_enter Tryz.func168, Tryz.ntmps168
      go_wp2_with (first
        | (go_at_call 137; (with_reducible refine HE.out.mono ?_); rintro e w2 ⟨rfl, rfl⟩)
        | (go_at_call 220; (with_reducible refine HV.out.mono ?_); rintro e w2 ⟨rfl, rfl⟩))
      go_ret
      exact ⟨rfl, ⟨_, HW.out⟩, Only.setCell _ ⟨p, 1, none⟩ _⟩
    | none =>
      rw [uintS_good hx]
      have ht := take_any p _ ys none (rdF ys most).2.1 w h (rdF_ok hx).1
      rw [tripV_of _ _ hx] at HV
      replace HV := Lib.hid HV
      replace ht := Lib.hid ht
      simp only [errV] at HV
      clear h
      generalize (rdF ys most).2.1 = size at *
      generalize (rdF ys most).1 = n at *
      go_enter Tryz.func168, Tryz.ntmps168
      go_wp2_with (first
        | (go_at_call 137; (with_reducible refine HE.out.mono ?_); rintro e w2 ⟨rfl, rfl⟩)
        | (go_at_call 220; (with_reducible refine HV.out.mono ?_); rintro e w2 ⟨rfl, rfl⟩)
        | (go_at_call 167; (with_reducible refine ht.out.mono ?_); rintro e w3 ⟨a1, c1, y1, rfl, _, _, hr1, ho1, _⟩; replace hr1 := Lib.hid hr1; replace ho1 := Lib.hid ho1))
      go_ret
      exact ⟨rfl, ⟨_, hr1.out⟩, ho1.out⟩
/-- the number with a sign -/
def unzig (n : Nat) : Int := if n % 2 = 1 then -((n / 2 : Nat) : Int) - 1 else ((n / 2 : Nat) : Int)
theorem unzig_zig (n : Int) : unzig (zig n) = n := by
  unfold unzig zig
  by_cases h : n < 0
  · rw [if_pos h, if_pos (by omega)]; omega
  · rw [if_neg h, if_neg (by omega)]; omega
def intS (s : RSt) : Int × RSt := (unzig (uintS s 18446744073709551615).1, (uintS s 18446744073709551615).2)
set_option maxRecDepth 100000 in
set_option maxHeartbeats 400000 in
theorem int_any (p : Nat) (s : RSt) (w : World) (h : RS w p s) :
    Calls Tryz.prog 93 #[.pointer (some ⟨p, 0, none⟩)] w fun r w' => r = .returned (.int .i64 (intS s).1) ∧ RS w' p (intS s).2 ∧ Only p w w' := by
  have H0 := uint_any p s 18446744073709551615 w h
  rw [show ((18446744073709551615 : Nat) : Int) = 18446744073709551615 from rfl] at H0
  have H := Lib.hid H0
  clear H0
  have hl := uintS_lt s 18446744073709551615
  unfold intS
  generalize uintS s 18446744073709551615 = r at *
  obtain ⟨n, s'⟩ := r
  simp only at hl H ⊢
  have hm : (n : Int).tmod 2 = ((n % 2 : Nat) : Int) := by rw [Int.tmod_eq_emod_of_nonneg (by omega)]; omega
  have hq : (n : Int).tdiv 2 = ((n / 2 : Nat) : Int) := by rw [Int.tdiv_eq_ediv_of_nonneg (by omega)]; omega
  by_cases h1 : n % 2 = 1
  · have hx := not_i64 ((n / 2 : Nat) : Int) (by omega) (by omega)
    rw [h1] at hm
    go_enter Tryz.func93, Tryz.ntmps93
    go_wp2_with (go_at_call 168; (with_reducible refine H.out.mono ?_); rintro e w2 ⟨rfl, hr, ho⟩; replace hr := Lib.hid hr; replace ho := Lib.hid ho)
    go_ret
    refine ⟨?_, hr.out, ho.out⟩
    unfold unzig
    rw [if_pos h1]
    show Ending.returned (Value.int .i64 (bits .xor .i64 (-1) ((n : Int) / 2))) = _
    rw [show (n : Int) / 2 = ((n / 2 : Nat) : Int) by omega, hx]
  · have h2 : n % 2 = 0 := by omega
    rw [h2] at hm
    go_enter Tryz.func93, Tryz.ntmps93
    go_wp2_with (go_at_call 168; (with_reducible refine H.out.mono ?_); rintro e w2 ⟨rfl, hr, ho⟩; replace hr := Lib.hid hr; replace ho := Lib.hid ho)
    go_ret
    refine ⟨?_, hr.out, ho.out⟩
    unfold unzig
    rw [if_neg h1]
    show Ending.returned (Value.int .i64 ((n : Int) / 2)) = _
    rw [show (n : Int) / 2 = ((n / 2 : Nat) : Int) by omega]
/-- Done -/
def doneE (s : RSt) : Option Nat :=
  match s.2 with
  | some x => some x
  | none => if 0 < s.1.length then some 3 else none
set_option maxRecDepth 100000 in
set_option maxHeartbeats 400000 in
theorem rdone_any (p : Nat) (s : RSt) (w : World) (h : RS w p s) :
    Calls Tryz.prog 68 #[.pointer (some ⟨p, 0, none⟩)] w fun r w' => r = .returned (errV (doneE s)) ∧ w' = w := by
  obtain ⟨ys, e⟩ := s
  obtain ⟨y, h⟩ := h
  have HE := Lib.hid (err_any p y ys e w h)
  have HL := Lib.hid (left_any p y ys e w h)
  clear h
  cases e with
  | some x =>
    simp only [doneE, errV] at HE ⊢
    go_enter Tryz.func68, Tryz.ntmps68
    go_wp2_with (go_at_call 137; (with_reducible refine HE.out.mono ?_); rintro e w2 ⟨rfl, rfl⟩)
    go_ret
    exact ⟨rfl, rfl⟩
  | none =>
    simp only [doneE, errV] at HE ⊢
    by_cases h0 : 0 < ys.length
    · rw [if_pos h0]
      have h1 : (0 : Int) < (ys.length : Int) := by omega
      go_enter Tryz.func68, Tryz.ntmps68
      go_wp2_with (first
        | (go_at_call 137; (with_reducible refine HE.out.mono ?_); rintro e w2 ⟨rfl, rfl⟩)
        | (go_at_call 138; (with_reducible refine HL.out.mono ?_); rintro e w2 ⟨rfl, rfl⟩))
      go_ret
      exact ⟨rfl, rfl⟩
    · rw [if_neg h0]
      have h1 : ¬ (0 : Int) < (ys.length : Int) := by omega
      go_enter Tryz.func68, Tryz.ntmps68
      go_wp2_with (first
        | (go_at_call 137; (with_reducible refine HE.out.mono ?_); rintro e w2 ⟨rfl, rfl⟩)
        | (go_at_call 138; (with_reducible refine HL.out.mono ?_); rintro e w2 ⟨rfl, rfl⟩))
      go_ret
      exact ⟨rfl, rfl⟩
end Go.Proofs.YtejglhlodfhgkaaGreatDoor

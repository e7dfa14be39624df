/- Part 36 of the proof. -/
import Derived.Test.YtejglhlodfhgkaaGreatDoorXv1
import Derived.Test.YtejglhlodfhgkaaGreatDoorXv5
import Derived.Test.YtejglhlodfhgkaaGreatDoorXv6
import Derived.Test.YtejglhlodfhgkaaGreatDoorXv32
import Derived.Test.YtejglhlodfhgkaaGreatDoorXv34
import Derived.Test.YtejglhlodfhgkaaGreatDoorXv35
namespace Go.Proofs.YtejglhlodfhgkaaGreatDoor
set_option linter.unusedVariables false
set_option linter.unusedSimpArgs false
open Go.RowKit
set_option maxRecDepth 100000
/-- is it a signature? -/
def verR (root : Nat → Int) (D E : Int) (text sign : List Int) : Option Nat :=
  if kOk D E then
    (match (decS sign).2 with
    | some x => some x
    | none => if (signerR (decS sign).1 D E text).2 = none ∧ eqB (signerR (decS sign).1 D E text).1 root = true then none else some 21)
  else some 20
theorem neq32 (f g : Nat → Int) (w : World) : (binOp .neq 53 (.agg (rowOf .u8 32 f)) (.agg (rowOf .u8 32 g))).run Tryz.prog w = .ok (.bool (!eqB f g)) w := by
  rw [run_neq_struct, eqIn32]
  rfl
structure KvM (w w' : World) (F : Nat → Int) (D E : Int) : Prop where
  below : Below w.heap.size w w'
  row : RowAt w' w.heap.size .u8 32 53 F
  par : w'.heap[w.heap.size + 1]? = some (.cells (parC D E) 57 (0, 0))
  env : Env w'
theorem KvM.call {w w' w2 : World} {F : Nat → Int} {D E : Int} (m : KvM w w' F D E) (h : Below w'.heap.size w' w2) : KvM w w2 F D E :=
  ⟨m.below.trans (h.mono m.below.size), m.row.below h m.row.lt, (h.block _ (heap_lt' m.par)).trans m.par, m.env.below h m.env.lt⟩
def verW (w : World) (F : Nat → Int) (D E : Int) : World := (w.alloc (.cells (rowOf .u8 32 F) 53)).alloc (.cells (parC D E) 57)
theorem kvM_start (w : World) (F : Nat → Int) (D E : Int) (he : Env w) : KvM w (verW w F D E) F D E := by
  obtain ⟨h1, h2, h3⟩ := key_start w F D E
  exact ⟨h1, h2, h3, he.below h1 he.lt⟩
theorem kverify_no (F : Nat → Int) (D E : Int) (vt vs : Value) (w : World) (he : Env w) (h : ¬ kOk D E) :
    Calls Tryz.prog 79 #[.agg (rowOf .u8 32 F), .agg (parC D E), vt, vs] w fun e w' => e = .returned (errV (some 20)) ∧ Below w.heap.size w w' := by
  have HC := Lib.hid (show ∀ w, Calls Tryz.prog 149 #[.agg (parC D E)] w fun e w' => e = .returned (.iface 107 (.int .i64 20)) ∧ Below w.heap.size w w' from fun w => by
    have h2 := kcheck_any D E w; rw [show ckR D E = some 20 by unfold ckR; rw [if_neg h]] at h2; exact h2)
  have M := Lib.hid (kvM_start w F D E he)
  clear h he
  go_enter Tryz.func79, Tryz.ntmps79
  go_upto_region 1 with (fail)
  have e0 : (w.alloc (.cells (rowOf .u8 32 F) 53)).alloc (.cells (parC D E) 57) = verW w F D E := rfl
  rw [e0]; clear e0
  generalize verW w F D E = w1 at *
  go_wp2_with (first
    | (refine wpList_load_row rfl 57 (.tmp 5) rfl (w.heap.size + 1) rfl 57 _ (0, 0) _ M.out.par Tryz.underlying57 rfl (by kernel_rfl) ?_)
    | (go_at_call 149; (with_reducible refine (HC.out _).mono ?_); rintro e w2 ⟨rfl, hb⟩; replace M := Lib.hid (M.out.call hb); clear hb))
  go_ret
  exact ⟨rfl, M.out.below⟩
set_option maxHeartbeats 2000000 in
theorem kverify_ok (F : Nat → Int) (D : Int) (k : Nat) (vt vs : Value) (text sign : List Int) (w : World) (he : Env w) (hD : 1 ≤ D ∧ D ≤ 32) (hk : k ≤ 10) (ht : BytesIn w vt text) (hs : BytesIn w vs sign) (hb : bytesOk sign) (hl : sign.length ≤ 140737488355328) :
    Calls Tryz.prog 79 #[.agg (rowOf .u8 32 F), .agg (parC D k), vt, vs] w fun e w' => e = .returned (errV (verR F D k text sign)) ∧ Below w.heap.size w w' := by
  have hok : kOk D (k : Int) := by unfold kOk; omega
  have HC := Lib.hid (show ∀ w, Calls Tryz.prog 149 #[.agg (parC D k)] w fun e w' => e = .returned .nilIface ∧ Below w.heap.size w w' from fun w => by
    have h2 := kcheck_any D k w; rw [show ckR D k = none by unfold ckR; rw [if_pos hok]] at h2; exact h2)
  have HV := Lib.hid (show verR F D k text sign = match (decS sign).2 with
    | some x => some x
    | none => if (signerR (decS sign).1 D k text).2 = none ∧ eqB (signerR (decS sign).1 D k text).1 F = true then none else some 21 by unfold verR; rw [if_pos hok])
  have M := Lib.hid (kvM_start w F D k he)
  have HT := Lib.hid ht
  have HS := Lib.hid hs
  have HSB := Lib.hid hb
  have HSL := Lib.hid hl
  have HDD := Lib.hid hD
  have HKK := Lib.hid hk
  have HDC := Lib.hid (fun w h => kdecode_any vs sign w h hb hl)
  clear he ht hs hb hl hok
  obtain ⟨sg, er, hsg⟩ : ∃ sg er, decS sign = (sg, er) := ⟨_, _, rfl⟩
  rw [hsg] at HV HDC
  clear hsg
  go_enter Tryz.func79, Tryz.ntmps79
  go_upto_region 1 with (fail)
  have e0 : (w.alloc (.cells (rowOf .u8 32 F) 53)).alloc (.cells (parC D k) 57) = verW w F D k := rfl
  rw [e0]; clear e0
  generalize verW w F D k = w1 at *
  cases er with
  | some x =>
    go_wp2_with (first
      | (refine wpList_load_row rfl 57 (.tmp 5) rfl (w.heap.size + 1) rfl 57 _ (0, 0) _ M.out.par Tryz.underlying57 rfl (by kernel_rfl) ?_)
      | (go_at_call 149; (with_reducible refine (HC.out _).mono ?_); rintro e w2 ⟨rfl, hb⟩; replace M := Lib.hid (M.out.call hb); clear hb)
      | (go_at_call 150; (with_reducible refine (HDC.out _ (HS.out.below M.out.below)).mono ?_); rintro e w3 ⟨vo, vp, rfl, ho, hp, hb⟩; rw [show errV (some x) = Value.iface 107 (.int .i64 (x : Int)) from rfl]; have HW := Lib.hid (sg_all sg.leaf ho hp); replace M := Lib.hid (M.out.call hb); clear ho hp hb)
      | (refine wpList_store_row rfl 226 (.tmp 10) (.tmp 22) rfl w3.heap.size (sgC sg.leaf vo vp) rfl rfl 226 _ (heap_alloc_new _ _) (by kernel_rfl) (by rfl) HW.out ?_; rw [World.setRow_alloc_new]; replace M := Lib.hid (M.out.call (below_alloc w3 (.cells (sgC sg.leaf vo vp) 226))); generalize w3.alloc (.cells (sgC sg.leaf vo vp) 226) = w4 at *))
    go_ret
    rw [HV.out]
    exact ⟨rfl, M.out.below⟩
  | none =>
    obtain ⟨RF, e2, hsr⟩ : ∃ RF e2, signerR sg D k text = (RF, e2) := ⟨_, _, rfl⟩
    have HSN := Lib.hid (show ∀ w vo vp, Env w → BytesIn w vo sg.once → HashesIn w vp sg.path → BytesIn w vt text → Calls Tryz.prog 151 #[.agg (sgC sg.leaf vo vp), .agg (parC D k), vt] w fun e w' => e = .returned (.tuple #[.agg (rowOf .u8 32 RF), errV e2]) ∧ Below w.heap.size w w' from fun w vo vp h1 h2 h3 h4 => by
      have h := ksigner_ok sg vo vp vt text D k w h1 h2 h3 h4 HDD.out HKK.out; rw [hsr] at h; exact h)
    have HV2 := Lib.hid (show verR F D k text sign = if e2 = none ∧ eqB RF F = true then none else some 21 by rw [HV.out]; simp only; rw [hsr])
    clear hsr HV
    go_upto_region 7 with (first
      | (refine wpList_load_row rfl 57 (.tmp 5) rfl (w.heap.size + 1) rfl 57 _ (0, 0) _ M.out.par Tryz.underlying57 rfl (by kernel_rfl) ?_)
      | (go_at_call 149; (with_reducible refine (HC.out _).mono ?_); rintro e w2 ⟨rfl, hb⟩; replace M := Lib.hid (M.out.call hb); clear hb)
      | (go_at_call 150; (with_reducible refine (HDC.out _ (HS.out.below M.out.below)).mono ?_); rintro e w3 ⟨vo, vp, rfl, ho, hp, hb⟩; rw [show errV none = Value.nilIface from rfl]; have HW := Lib.hid (sg_all sg.leaf ho hp); replace M := Lib.hid (M.out.call hb); have HO := Lib.hid ho; have HP := Lib.hid hp; clear ho hp hb)
      | (refine wpList_store_row rfl 226 (.tmp 10) (.tmp 22) rfl w3.heap.size (sgC sg.leaf vo vp) rfl rfl 226 _ (heap_alloc_new _ _) (by kernel_rfl) (by rfl) HW.out ?_; rw [World.setRow_alloc_new]; have HA := Lib.hid (below_alloc w3 (.cells (sgC sg.leaf vo vp) 226)); have SG := Lib.hid (heap_alloc_new w3 (.cells (sgC sg.leaf vo vp) 226)); replace M := Lib.hid (M.out.call HA.out); replace HO := Lib.hid (HO.out.below HA.out); replace HP := Lib.hid (HP.out.below HA.out); clear HA; generalize w3.alloc (.cells (sgC sg.leaf vo vp) 226) = w4 at *))
    obtain ⟨g, hg⟩ : ∃ g, g = w3.heap.size := ⟨_, rfl⟩
    rw [← hg] at SG ⊢
    clear hg
    cases e2 with
    | some x =>
      go_wp2_with (first
        | (refine wpList_load_row rfl 57 (.tmp 5) rfl (w.heap.size + 1) rfl 57 _ (0, 0) _ M.out.par Tryz.underlying57 rfl (by kernel_rfl) ?_)
        | (refine wpList_load_row rfl 226 (.tmp 10) rfl g rfl 226 _ (0, 0) _ SG.out Tryz.underlying226 rfl (by kernel_rfl) ?_)
        | (go_at_call 151; (with_reducible refine (HSN.out _ vo vp M.out.env HO.out HP.out (HT.out.below M.out.below)).mono ?_); rintro e w5 ⟨rfl, hb⟩; rw [show errV (some x) = Value.iface 107 (.int .i64 (x : Int)) from rfl]; replace M := Lib.hid (M.out.call hb); clear hb HO HP SG)
        | (refine wpList_store_row rfl 53 (.tmp 12) (.tmp 32) rfl w5.heap.size (rowOf .u8 32 RF) rfl rfl 53 _ (heap_alloc_new _ _) (by rw [rowOf_size]; kernel_rfl) (by rw [rowOf_size]; rfl) (rowOf_one _ _ _) ?_; rw [World.setRow_alloc_new]; replace M := Lib.hid (M.out.call (below_alloc w5 (.cells (rowOf .u8 32 RF) 53))); generalize w5.alloc (.cells (rowOf .u8 32 RF) 53) = w6 at *))
      go_ret
      rw [HV2.out, if_neg (by simp)]
      exact ⟨rfl, M.out.below⟩
    | none =>
      obtain ⟨b, hb⟩ : ∃ b, eqB RF F = b := ⟨_, rfl⟩
      have hneq : ∀ w, (binOp .neq 53 (.agg (rowOf .u8 32 RF)) (.agg (rowOf .u8 32 F))).run Tryz.prog w = .ok (.bool (!b)) w := fun w => by rw [← hb]; exact neq32 RF F w
      rw [hb] at HV2
      clear hb
      cases b with
      | true =>
        simp only [Bool.not_true] at hneq
        go_wp2_with (first
          | (refine wpList_load_row rfl 57 (.tmp 5) rfl (w.heap.size + 1) rfl 57 _ (0, 0) _ M.out.par Tryz.underlying57 rfl (by kernel_rfl) ?_)
          | (refine wpList_load_row rfl 226 (.tmp 10) rfl g rfl 226 _ (0, 0) _ SG.out Tryz.underlying226 rfl (by kernel_rfl) ?_)
          | (go_at_call 151; (with_reducible refine (HSN.out _ vo vp M.out.env HO.out HP.out (HT.out.below M.out.below)).mono ?_); rintro e w5 ⟨rfl, hb⟩; rw [show errV none = Value.nilIface from rfl]; replace M := Lib.hid (M.out.call hb); clear hb HO HP SG)
          | (refine wpList_store_row rfl 53 (.tmp 12) (.tmp 32) rfl w5.heap.size (rowOf .u8 32 RF) rfl rfl 53 _ (heap_alloc_new _ _) (by rw [rowOf_size]; kernel_rfl) (by rw [rowOf_size]; rfl) (rowOf_one _ _ _) ?_; rw [World.setRow_alloc_new]; replace M := Lib.hid (M.out.call (below_alloc w5 (.cells (rowOf .u8 32 RF) 53))); have PU := Lib.hid (RowAt.new w5 .u8 32 53 RF); generalize w5.alloc (.cells (rowOf .u8 32 RF) 53) = w6 at *)
          | (refine wpList_load_row_want rfl 53 (.tmp 12) rfl _ rfl .u8 32 RF _ PU.out Tryz.underlying53 rfl (by kernel_rfl) ?_)
          | (refine wpList_load_row_want rfl 53 (.tmp 4) rfl _ rfl .u8 32 F _ M.out.row Tryz.underlying53 rfl (by kernel_rfl) ?_))
        go_ret
        rw [HV2.out, if_pos (by simp)]
        exact ⟨rfl, M.out.below⟩
      | false =>
        simp only [Bool.not_false] at hneq
        go_wp2_with (first
          | (refine wpList_load_row rfl 57 (.tmp 5) rfl (w.heap.size + 1) rfl 57 _ (0, 0) _ M.out.par Tryz.underlying57 rfl (by kernel_rfl) ?_)
          | (refine wpList_load_row rfl 226 (.tmp 10) rfl g rfl 226 _ (0, 0) _ SG.out Tryz.underlying226 rfl (by kernel_rfl) ?_)
          | (go_at_call 151; (with_reducible refine (HSN.out _ vo vp M.out.env HO.out HP.out (HT.out.below M.out.below)).mono ?_); rintro e w5 ⟨rfl, hb⟩; rw [show errV none = Value.nilIface from rfl]; replace M := Lib.hid (M.out.call hb); clear hb HO HP SG)
          | (refine wpList_store_row rfl 53 (.tmp 12) (.tmp 32) rfl w5.heap.size (rowOf .u8 32 RF) rfl rfl 53 _ (heap_alloc_new _ _) (by rw [rowOf_size]; kernel_rfl) (by rw [rowOf_size]; rfl) (rowOf_one _ _ _) ?_; rw [World.setRow_alloc_new]; replace M := Lib.hid (M.out.call (below_alloc w5 (.cells (rowOf .u8 32 RF) 53))); have PU := Lib.hid (RowAt.new w5 .u8 32 53 RF); generalize w5.alloc (.cells (rowOf .u8 32 RF) 53) = w6 at *)
          | (refine wpList_load_row_want rfl 53 (.tmp 12) rfl _ rfl .u8 32 RF _ PU.out Tryz.underlying53 rfl (by kernel_rfl) ?_)
          | (refine wpList_load_row_want rfl 53 (.tmp 4) rfl _ rfl .u8 32 F _ M.out.row Tryz.underlying53 rfl (by kernel_rfl) ?_))
        go_ret
        rw [HV2.out, if_neg (by simp)]
        exact ⟨rfl, M.out.below⟩
theorem kverify_any (F : Nat → Int) (D E : Int) (vt vs : Value) (text sign : List Int) (w : World) (he : Env w) (ht : BytesIn w vt text) (hs : BytesIn w vs sign) (hb : bytesOk sign) (hl : sign.length ≤ 140737488355328) :
    Calls Tryz.prog 79 #[.agg (rowOf .u8 32 F), .agg #[.int .i64 D, .int .i64 E], vt, vs] w fun e w' => e = .returned (errV (verR F D E text sign)) ∧ Below w.heap.size w w' := by
  by_cases h : kOk D E
  · have h2 := h
    unfold kOk at h2
    obtain ⟨k, rfl⟩ : ∃ k : Nat, E = (k : Int) := ⟨E.toNat, by omega⟩
    exact kverify_ok F D k vt vs text sign w he (by omega) (by omega) ht hs hb hl
  · have e : verR F D E text sign = some 20 := by unfold verR; rw [if_neg h]
    rw [e]
    exact kverify_no F D E vt vs w he h
end Go.Proofs.YtejglhlodfhgkaaGreatDoor
namespace Go.Proofs.YtejglhlodfhgkaaGreatDoor
set_option linter.unusedVariables false
set_option linter.unusedSimpArgs false
open Go.RowKit
set_option maxRecDepth 100000
def dgt (xs : List Int) (i : Nat) : Nat := (xs.getD i 0).toNat % 128
/-- what the first i groups add up to -/
def accN (xs : List Int) : Nat → Nat
  | 0 => 0
  | i + 1 => accN xs i + dgt xs i * 128 ^ i
/-- what m groups from place j on add up to, the first the least -/
def hor (xs : List Int) : Nat → Nat → Nat
  | 0, _ => 0
  | m + 1, j => dgt xs j + 128 * hor xs m (j + 1)
theorem dgt_lt (xs : List Int) (i : Nat) : dgt xs i < 128 := Nat.mod_lt _ (by decide)
theorem accN_hor (xs : List Int) : ∀ m j, accN xs (j + m) = accN xs j + 128 ^ j * hor xs m j
  | 0, j => by simp [hor]
  | m + 1, j => by
    rw [show j + (m + 1) = (j + 1) + m by omega, accN_hor xs m (j + 1)]
    simp only [accN, hor, Nat.pow_succ, Nat.mul_add]
    rw [Nat.mul_comm (dgt xs j), Nat.mul_assoc, Nat.add_assoc]
theorem accN_lt (xs : List Int) : ∀ i, accN xs i < 128 ^ i
  | 0 => by simp [accN]
  | i + 1 => by
    have h1 := accN_lt xs i
    have h2 : dgt xs i * 128 ^ i ≤ 127 * 128 ^ i := Nat.mul_le_mul_right _ (by have := dgt_lt xs i; omega)
    simp only [accN, Nat.pow_succ]
    omega
theorem accF_accN (xs : List Int) : ∀ i, i ≤ 9 → accF xs i = accN xs i
  | 0, _ => rfl
  | i + 1, h => by
    have hp : (128 : Nat) ^ i ≤ 128 ^ 8 := Nat.pow_le_pow_right (by decide) (by omega)
    have h8 : (128 : Nat) ^ 8 = 72057594037927936 := by decide
    have h2 : dgt xs i * 128 ^ i ≤ 127 * 128 ^ i := Nat.mul_le_mul_right _ (by have := dgt_lt xs i; omega)
    show accF xs i + (dgt xs i * 128 ^ i) % 18446744073709551616 = accN xs i + dgt xs i * 128 ^ i
    rw [accF_accN xs i (by omega), Nat.mod_eq_of_lt (by omega)]
/-- a number of at most ten groups, the tenth of which is 0 or 1 -/
theorem acc_ok (xs : List Int) (i : Nat) (hi : i ≤ 9) (h : i = 9 → dgt xs i ≤ 1) : accF xs (i + 1) = accN xs (i + 1) ∧ accN xs (i + 1) < 18446744073709551616 := by
  have hl := accN_lt xs (i + 1)
  rcases Nat.lt_or_ge i 9 with h9 | h9
  · have hp : (128 : Nat) ^ (i + 1) ≤ 128 ^ 9 := Nat.pow_le_pow_right (by decide) (by omega)
    have e9 : (128 : Nat) ^ 9 = 9223372036854775808 := by decide
    exact ⟨accF_accN xs (i + 1) (by omega), by omega⟩
  · obtain rfl : i = 9 := by omega
    have h1 := h rfl
    have hn := accN_lt xs 9
    have e9 : (128 : Nat) ^ 9 = 9223372036854775808 := by decide
    have hd : dgt xs 9 * 128 ^ 9 ≤ 1 * 128 ^ 9 := Nat.mul_le_mul_right _ h1
    have e : accN xs (9 + 1) = accN xs 9 + dgt xs 9 * 128 ^ 9 := rfl
    refine ⟨?_, by omega⟩
    show accF xs 9 + (dgt xs 9 * 128 ^ 9) % 18446744073709551616 = accN xs (9 + 1)
    rw [accF_accN xs 9 (by omega), Nat.mod_eq_of_lt (by omega), e]
theorem hor_le (xs : List Int) (m j : Nat) : hor xs m j ≤ accN xs (j + m) := by
  rw [accN_hor]
  have : 1 ≤ (128 : Nat) ^ j := Nat.one_le_pow _ _ (by decide)
  have := Nat.mul_le_mul_right (hor xs m j) this
  omega
theorem hor_all (xs : List Int) (m : Nat) : hor xs m 0 = accN xs m := by
  have := accN_hor xs m 0
  simp [accN] at this
  exact this.symm
end Go.Proofs.YtejglhlodfhgkaaGreatDoor
namespace Go.Proofs.YtejglhlodfhgkaaGreatDoor
set_option linter.unusedVariables false
set_option linter.unusedSimpArgs false
open Go.RowKit
set_option maxRecDepth 100000
def rdC (v : Value) (e : Int) : Array Value := #[v, .int .i64 e]
theorem rd_cells {w : World} {q : Nat} {v : Value} {e : Int} (h : w.heap[q]? = some (.cells (rdC v e) 129 (0, 0))) : w.cell? ⟨q, 0, none⟩ = some v ∧ w.cell? ⟨q, 1, none⟩ = some (.int .i64 e) ∧ ∀ i, w.frozen? ⟨q, i, none⟩ = false :=
  ⟨by rw [cell_of_row _ _ _ _ _ _ h]; rfl, by rw [cell_of_row _ _ _ _ _ _ h]; rfl, fun i => frozen_of_row _ _ _ _ _ h⟩
theorem rd_one (a : Option Addr) (n c : Nat) (e : Int) : (rdC (.slice a n c) e).all (·.oneCell') = true := by simp [rdC, Value.oneCell']
/-- two Readers: the argument's and the result's -/
structure R2M (w w' : World) (v : Value) (e : Int) : Prop where
  below : Below w.heap.size w w'
  arg : w'.heap[w.heap.size]? = some (.cells (rdC v e) 129 (0, 0))
  res : w'.heap[w.heap.size + 1]? = some (.cells (rdC (.slice none 0 0) 0) 129 (0, 0))
theorem r2M_start (w : World) (v : Value) (e : Int) : R2M w ((w.alloc (.cells (rdC v e) 129)).alloc (.cells (rdC (.slice none 0 0) 0) 129)) v e := by
  have h1 := heap_alloc_new w (.cells (rdC v e) 129)
  have hb := below_alloc (w.alloc (.cells (rdC v e) 129)) (.cells (rdC (.slice none 0 0) 0) 129)
  refine ⟨(below_alloc w _).trans (hb.mono (by simp)), (hb.block _ (by simp)).trans h1, ?_⟩
  have h2 := heap_alloc_new (w.alloc (.cells (rdC v e) 129)) (.cells (rdC (.slice none 0 0) 0) 129)
  rw [show (w.alloc (.cells (rdC v e) 129)).heap.size = w.heap.size + 1 by simp] at h2
  exact h2
theorem R2M.call {w w' w2 : World} {v : Value} {e : Int} (m : R2M w w' v e) (h : Below w'.heap.size w' w2) : R2M w w2 v e :=
  ⟨m.below.trans (h.mono m.below.size), (h.block _ (Array.getElem?_eq_some_iff.1 m.arg).1).trans m.arg, (h.block _ (Array.getElem?_eq_some_iff.1 m.res).1).trans m.res⟩
/-- the argument's error or its slice is written -/
theorem R2M.set {w w' : World} {v v' : Value} {e e' : Int} (m : R2M w w' v e) (i : Nat) (x : Value) (hx : (rdC v e).setIfInBounds i x = rdC v' e') : R2M w (w'.setCell ⟨w.heap.size, i, none⟩ x) v' e' := by
  have hO := Only.setCell w' ⟨w.heap.size, i, none⟩ x
  exact ⟨m.below.trans (hO.below (Nat.le_refl _) m.below.size), by rw [heap_setCell_same w' _ i _ _ _ m.arg, hx], (hO.block _ (Array.getElem?_eq_some_iff.1 m.res).1 (by show _ ≠ w.heap.size; omega)).trans m.res⟩
theorem rfail_any (a : Option Addr) (n c : Nat) (e x : Int) (w : World) : Calls Tryz.prog 139 #[.agg (rdC (.slice a n c) e), .int .i64 x] w fun r w' => r = .returned (.agg (rdC (.slice a n c) (if e = 0 then x else e))) ∧ Below w.heap.size w w' := by
  have M := Lib.hid (r2M_start w (.slice a n c) e)
  by_cases h0 : e = 0
  · rw [if_pos h0]
    have he : (e == 0) = true := by simpa using h0
    clear h0
    go_enter Tryz.func139, Tryz.ntmps139
    go_upto_region 1 with (fail)
    have e0 : (w.alloc (.cells (rdC (.slice a n c) e) 129)).alloc (.cells (rdC (.slice none 0 0) 0) 129) = (w.alloc (.cells (rdC (.slice a n c) e) 129)).alloc (.cells #[.slice none 0 0, .int .i64 0] 129) := rfl
    rw [← e0]; clear e0
    generalize (w.alloc (.cells (rdC (.slice a n c) e) 129)).alloc (.cells (rdC (.slice none 0 0) 0) 129) = w1 at *
    obtain ⟨c0, c1, cf⟩ := rd_cells M.out.arg
    have f1 := cf 1
    go_upto_region 3 with (fail)
    replace M := Lib.hid (M.out.set 1 (.int .i64 x) (v' := .slice a n c) (e' := x) rfl)
    clear c0 c1 cf f1
    generalize w1.setCell ⟨w.heap.size, 1, none⟩ (.int .i64 x) = w2 at *
    go_wp2_with (first
      | (refine wpList_load_row rfl 129 (.tmp 2) rfl w.heap.size rfl 129 _ (0, 0) _ M.out.arg Tryz.underlying129 rfl (by kernel_rfl) ?_)
      | (refine wpList_store_row rfl 129 (.tmp 4) (.tmp 10) rfl (w.heap.size + 1) _ rfl rfl 129 _ M.out.res (by kernel_rfl) (by rfl) (rd_one _ _ _ _) ?_))
    refine bodyPost_ret (results_cell_row rfl _ _ (w.heap.size + 1) 129 (rdC (.slice a n c) x) (0, 0) _ rfl (setRow_heap _ _ _ _ _ _ M.out.res) Tryz.underlying129 rfl (by kernel_rfl)) rfl ?_
    exact ⟨rfl, below_setRow M.out.below (by omega) _⟩
  · rw [if_neg h0]
    have he : (e == 0) = false := by simpa using h0
    clear h0
    go_enter Tryz.func139, Tryz.ntmps139
    go_upto_region 1 with (fail)
    have e0 : (w.alloc (.cells (rdC (.slice a n c) e) 129)).alloc (.cells (rdC (.slice none 0 0) 0) 129) = (w.alloc (.cells (rdC (.slice a n c) e) 129)).alloc (.cells #[.slice none 0 0, .int .i64 0] 129) := rfl
    rw [← e0]; clear e0
    generalize (w.alloc (.cells (rdC (.slice a n c) e) 129)).alloc (.cells (rdC (.slice none 0 0) 0) 129) = w1 at *
    obtain ⟨c0, c1, cf⟩ := rd_cells M.out.arg
    go_wp2_with (first
      | (refine wpList_load_row rfl 129 (.tmp 2) rfl w.heap.size rfl 129 _ (0, 0) _ M.out.arg Tryz.underlying129 rfl (by kernel_rfl) ?_)
      | (refine wpList_store_row rfl 129 (.tmp 4) (.tmp 10) rfl (w.heap.size + 1) _ rfl rfl 129 _ M.out.res (by kernel_rfl) (by rfl) (rd_one _ _ _ _) ?_))
    refine bodyPost_ret (results_cell_row rfl _ _ (w.heap.size + 1) 129 (rdC (.slice a n c) e) (0, 0) _ rfl (setRow_heap _ _ _ _ _ _ M.out.res) Tryz.underlying129 rfl (by kernel_rfl)) rfl ?_
    exact ⟨rfl, below_setRow M.out.below (by omega) _⟩
end Go.Proofs.YtejglhlodfhgkaaGreatDoor
namespace Go.Proofs.YtejglhlodfhgkaaGreatDoor
set_option linter.unusedVariables false
set_option linter.unusedSimpArgs false
open Go.RowKit
set_option maxRecDepth 100000
def iV : Nat → Int
  | 0 => -1
  | s + 1 => (s : Int)
def RuPost (r : Nat × RSt) (w : World) (e : Ending) (w' : World) : Prop :=
  ∃ v', e = .returned (.tuple #[.agg (rdC v' (numE r.2.2)), .int .u64 (r.1 : Int)]) ∧ BytesIn w' v' r.2.1 ∧ Below w.heap.size w w'
theorem r2_zero : (rdC (.slice none 0 0) 0) = #[.slice none 0 0, .int .i64 0] := rfl
theorem rruint_err (v : Value) (ys : List Int) (x most : Nat) (hx0 : 0 < x) (w : World) (hy : BytesIn w v ys) : Calls Tryz.prog 140 #[.agg (rdC v (x : Int)), .int .u64 (most : Int)] w (RuPost (uintS (ys, some x) most) w) := by
  obtain ⟨a, c, rfl, -⟩ := id hy
  have M := Lib.hid (r2M_start w (.slice a ys.length c) (x : Int))
  have HY := Lib.hid hy
  have he : ((x : Int) == 0) = false := by simp; omega
  have hne : ((x : Int) != 0) = true := by simp; omega
  clear hy
  go_enter Tryz.func140, Tryz.ntmps140
  go_upto_region 1 with (fail)
  rw [← r2_zero]
  generalize (w.alloc (.cells (rdC (.slice a ys.length c) (x : Int)) 129)).alloc (.cells (rdC (.slice none 0 0) 0) 129) = w1 at *
  obtain ⟨c0, c1, -⟩ := rd_cells M.out.arg
  go_wp2_with (first
    | (refine wpList_load_row rfl 129 (.tmp 2) rfl w.heap.size rfl 129 _ (0, 0) _ M.out.arg Tryz.underlying129 rfl (by kernel_rfl) ?_)
    | (refine wpList_store_row rfl 129 (.tmp 4) (.tmp 12) rfl (w.heap.size + 1) _ rfl rfl 129 _ M.out.res (by kernel_rfl) (by rfl) (rd_one _ _ _ _) ?_))
  refine bodyPost_ret (results_cell_tmp_row rfl _ _ (w.heap.size + 1) 129 (rdC (.slice a ys.length c) (x : Int)) (0, 0) _ rfl (setRow_heap _ _ _ _ _ _ M.out.res) Tryz.underlying129 rfl (by kernel_rfl)) rfl ?_
  have hb := below_setRow M.out.below (Nat.le_succ _) (rdC (.slice a ys.length c) (x : Int))
  exact ⟨_, rfl, HY.out.below hb, hb⟩
set_option maxHeartbeats 4000000 in
theorem rruint_ok (v : Value) (ys : List Int) (most : Nat) (hm : most < 18446744073709551616) (w : World) (hy : BytesIn w v ys) (hb : bytesOk ys) (hl : ys.length ≤ 140737488355328) : Calls Tryz.prog 140 #[.agg (rdC v 0), .int .u64 (most : Int)] w (RuPost (uintS (ys, none) most) w) := by
  obtain ⟨a, c, rfl, hc, hcm, hx⟩ := id hy
  have M := Lib.hid (r2M_start w (.slice a ys.length c) 0)
  have HY := Lib.hid hy
  have HBY := Lib.hid hb
  have HX := Lib.hid hx
  have HMO := Lib.hid hm
  have hlI : (ys.length : Int) ≤ 140737488355328 := by omega
  clear hy hb hx hm
  go_enter Tryz.func140, Tryz.ntmps140
  go_upto_region 1 with (fail)
  rw [← r2_zero]
  generalize (w.alloc (.cells (rdC (.slice a ys.length c) 0) 129)).alloc (.cells (rdC (.slice none 0 0) 0) 129) = w1 at *
  obtain ⟨c0, c1, cf⟩ := rd_cells M.out.arg
  have HF := Lib.hid (show ∀ a (x : Int) w, Calls Tryz.prog 139 #[.agg (rdC (.slice a ys.length c) 0), .int .i64 x] w fun r w' => r = .returned (.agg (rdC (.slice a ys.length c) x)) ∧ Below w.heap.size w w' from fun a x w => by
    have h := rfail_any a ys.length c 0 x w
    rw [if_pos rfl] at h
    exact h)
  go_wp2_with (fail)
  go_loopw [6] (fun i wr => ∃ j : Nat, i = .int .i64 (j : Int) ∧ j ≤ min ys.length 10 ∧ wr = w1 ∧ Hid (rdF ys most = rdFrom ys most (min ys.length 10 - j) j)) (fun i _ => 10 - (intOf i).toNat)
  case atStart => exact ⟨0, rfl, Nat.zero_le _, rfl, Lib.hid rfl⟩
  case round =>
    obtain ⟨j, rfl, hj, rfl, HR⟩ := hrel
    by_cases hin : j < ys.length ∧ j < 10
    · obtain ⟨h1, h2⟩ := hin
      obtain ⟨ab, ao, rfl, hcell⟩ := HX.out.resolve_left (fun e => by rw [e] at h1; simp at h1)
      obtain ⟨b, hbj, hb256⟩ : ∃ b : Nat, ys[j]? = some (b : Int) ∧ b < 256 := by
        have h3 := HBY.out ys[j] (List.getElem_mem h1)
        exact ⟨ys[j].toNat, by rw [List.getElem?_eq_getElem h1]; congr 1; omega, by omega⟩
      have hgd : ys.getD j 0 = (b : Int) := by rw [List.getD_eq_getElem?_getD, hbj]; rfl
      have HST := Lib.hid (HR.out.trans (rd_step ys most j b (by omega) hgd))
      have cb : wr.cell? ⟨ab, ao + j, none⟩ = some (.int .u8 (b : Int)) := (M.out.below.cell (p := ⟨ab, ao + j, none⟩) (World.block_lt_of_cell? w _ (hcell j _ hbj))).trans (hcell j _ hbj)
      have hj1 : (j : Int) < (ys.length : Int) := by omega
      have hj2 : (j : Int) < 10 := by omega
      have HGD := Lib.hid hgd
      clear hgd hbj
      by_cases hb128 : 128 ≤ b
      · have hd : decide ((128 : Int) ≤ (b : Int)) = true := by simp; omega
        have hd2 : decide (128 ≤ b) = true := by simpa using hb128
        rw [if_neg (by omega)] at HST
        clear hb128
        go_wp2_with (fail)
        go_roundw
        case rel => exact ⟨j + 1, by go_num, by omega, trivial, HST⟩
        case measure => simp [intOf]; omega
      · have hd : decide ((128 : Int) ≤ (b : Int)) = false := by simp; omega
        have hd2 : decide (128 ≤ b) = false := by simp; omega
        rw [if_pos (by omega)] at HST
        have hb128' : b < 128 := by omega
        clear hb128
        have hj10 : ((j : Int) == 10) = false := by simp; omega
        have hjl : ((j : Int) == (ys.length : Int)) = false := by simp; omega
        by_cases hbad : (1 < j + 1 ∧ b = 0) ∨ (j + 1 = 10 ∧ 1 < b)
        · have HE := Lib.hid (show (rdF ys most).2.2 = some 3 by rw [HST.out]; unfold chk; rw [if_pos hbad])
          rcases (by omega : (j = 9 ∧ 1 < b) ∨ (j = 9 ∧ b = 0) ∨ (0 < j ∧ j ≠ 9 ∧ b = 0)) with ⟨rfl, hb1⟩ | ⟨rfl, rfl⟩ | ⟨hj0, hj9, rfl⟩
          · have q1 : decide ((1 : Int) < (b : Int)) = true := by simp; omega
            have q2 : decide (1 < b) = true := by simpa using hb1
            clear hbad hb1 HST HR
            go_wp2_with (first
              | (refine wpList_load_row rfl 129 (.tmp 2) rfl w.heap.size rfl 129 _ (0, 0) _ M.out.arg Tryz.underlying129 rfl (by kernel_rfl) ?_)
              | (go_at_call 139; (with_reducible refine (HF.out _ _ _).mono ?_); rintro e w2 ⟨rfl, hb⟩; replace M := Lib.hid (M.out.call hb); clear hb)
              | (refine wpList_store_row rfl 129 (.tmp 4) (.tmp 69) rfl (w.heap.size + 1) _ rfl rfl 129 _ M.out.res (by kernel_rfl) (by rfl) (rd_one _ _ _ _) ?_))
            refine bodyPost_ret (results_cell_tmp_row rfl _ _ (w.heap.size + 1) 129 (rdC _ 3) (0, 0) _ rfl (setRow_heap _ _ _ _ _ _ M.out.res) Tryz.underlying129 rfl (by kernel_rfl)) rfl ?_
            rw [uintS_bad (x := 3) HE.out]
            exact ⟨_, rfl, HY.out.below (below_setRow M.out.below (Nat.le_succ _) _), below_setRow M.out.below (Nat.le_succ _) _⟩
          · clear hbad HST HR
            go_wp2_with (first
              | (refine wpList_load_row rfl 129 (.tmp 2) rfl w.heap.size rfl 129 _ (0, 0) _ M.out.arg Tryz.underlying129 rfl (by kernel_rfl) ?_)
              | (go_at_call 139; (with_reducible refine (HF.out _ _ _).mono ?_); rintro e w2 ⟨rfl, hb⟩; replace M := Lib.hid (M.out.call hb); clear hb)
              | (refine wpList_store_row rfl 129 (.tmp 4) (.tmp 69) rfl (w.heap.size + 1) _ rfl rfl 129 _ M.out.res (by kernel_rfl) (by rfl) (rd_one _ _ _ _) ?_))
            refine bodyPost_ret (results_cell_tmp_row rfl _ _ (w.heap.size + 1) 129 (rdC _ 3) (0, 0) _ rfl (setRow_heap _ _ _ _ _ _ M.out.res) Tryz.underlying129 rfl (by kernel_rfl)) rfl ?_
            rw [uintS_bad (x := 3) HE.out]
            exact ⟨_, rfl, HY.out.below (below_setRow M.out.below (Nat.le_succ _) _), below_setRow M.out.below (Nat.le_succ _) _⟩
          · have q1 : ((j : Int) == 9) = false := by simp; omega
            have q3 : decide ((0 : Int) < (j : Int)) = true := by simp; omega
            have q4 : decide (0 < j) = true := by simpa using hj0
            clear hbad hj0 hj9 HST HR
            go_wp2_with (first
              | (refine wpList_load_row rfl 129 (.tmp 2) rfl w.heap.size rfl 129 _ (0, 0) _ M.out.arg Tryz.underlying129 rfl (by kernel_rfl) ?_)
              | (go_at_call 139; (with_reducible refine (HF.out _ _ _).mono ?_); rintro e w2 ⟨rfl, hb⟩; replace M := Lib.hid (M.out.call hb); clear hb)
              | (refine wpList_store_row rfl 129 (.tmp 4) (.tmp 69) rfl (w.heap.size + 1) _ rfl rfl 129 _ M.out.res (by kernel_rfl) (by rfl) (rd_one _ _ _ _) ?_))
            refine bodyPost_ret (results_cell_tmp_row rfl _ _ (w.heap.size + 1) 129 (rdC _ 3) (0, 0) _ rfl (setRow_heap _ _ _ _ _ _ M.out.res) Tryz.underlying129 rfl (by kernel_rfl)) rfl ?_
            rw [uintS_bad (x := 3) HE.out]
            exact ⟨_, rfl, HY.out.below (below_setRow M.out.below (Nat.le_succ _) _), below_setRow M.out.below (Nat.le_succ _) _⟩
        · have HST2 := Lib.hid (show rdF ys most = if most < accF ys (j + 1) then (0, 0, some 4) else (accF ys (j + 1), j + 1, none) by rw [HST.out]; unfold chk; rw [if_neg hbad])
          have hdj : dgt ys j = b % 128 := by unfold dgt; rw [HGD.out]; rfl
          obtain ⟨hac, hac2⟩ := acc_ok ys j (by omega) (fun h => by rw [hdj]; omega)
          have HACC := Lib.hid hac
          have HOR := Lib.hid (show ∀ s, s ≤ j → hor ys (j + 1 - s) s = dgt ys s + 128 * hor ys (j + 1 - (s + 1)) (s + 1) ∧ dgt ys s + 128 * hor ys (j + 1 - (s + 1)) (s + 1) < 18446744073709551616 from fun s hs => by
            have e : hor ys (j + 1 - s) s = dgt ys s + 128 * hor ys (j + 1 - (s + 1)) (s + 1) := by rw [show j + 1 - s = (j + 1 - (s + 1)) + 1 by omega]; rfl
            refine ⟨e, ?_⟩
            show dgt ys s + _ < _
            rw [← e]
            have := hor_le ys (j + 1 - s) s
            rw [show s + (j + 1 - s) = j + 1 by omega] at this
            omega)
          clear hac hac2 hdj HST HR
          rcases (by omega : (j = 9 ∧ b = 1) ∨ (0 < j ∧ j ≠ 9 ∧ 0 < b) ∨ j = 0) with ⟨hj9, hb1⟩ | ⟨hj0, hj9, hb0⟩ | hj0
          · have q1 : ((j : Int) == 9) = true := by simp; omega
            have q3 : decide ((0 : Int) < (j : Int)) = true := by simp; omega
            have q4 : decide (0 < j) = true := by simp; omega
            have q2 : decide ((1 : Int) < (b : Int)) = false := by simp; omega
            have q22 : decide (1 < b) = false := by simp; omega
            have q5 : ((b : Int) == 0) = false := by simp; omega
            clear hbad hj9 hb1
            go_wp2_with (fail)
            go_loopw [7, 8] (fun n i w2 => ∃ t : Nat, t ≤ j + 1 ∧ n = .int .u64 ((hor ys (j + 1 - t) t : Nat) : Int) ∧ i = .int .i64 (iV t) ∧ w2 = wr) (fun _ i _ => (intOf i + 1).toNat)
            case atStart => exact ⟨j + 1, Nat.le_refl _, by rw [Nat.sub_self]; rfl, rfl, rfl⟩
            case round =>
              obtain ⟨t, ht, rfl, rfl, rfl⟩ := hrel
              cases t with
              | succ s =>
                obtain ⟨b2, hb2, hb22⟩ : ∃ b2 : Nat, ys[s]? = some (b2 : Int) ∧ b2 < 256 := by
                  have h3 := HBY.out ys[s] (List.getElem_mem (by omega))
                  exact ⟨ys[s].toNat, by rw [List.getElem?_eq_getElem (by omega)]; congr 1; omega, by omega⟩
                have c2 : wr.cell? ⟨ab, ao + s, none⟩ = some (.int .u8 (b2 : Int)) := (M.out.below.cell (p := ⟨ab, ao + s, none⟩) (World.block_lt_of_cell? w _ (hcell s _ hb2))).trans (hcell s _ hb2)
                have hdg : dgt ys s = b2 % 128 := by unfold dgt; rw [List.getD_eq_getElem?_getD, hb2]; rfl
                have hH := HOR.out s (by omega)
                rw [hdg] at hH
                have HH := Lib.hid hH
                obtain ⟨H, hHd⟩ : ∃ H, H = hor ys (j + 1 - (s + 1)) (s + 1) := ⟨_, rfl⟩
                rw [← hHd] at HH ⊢
                have hsI : (s : Int) < (ys.length : Int) := by omega
                have hs0 : (0 : Int) ≤ (s : Int) := by omega
                clear hH hdg hb2 hHd
                simp only [iV]
                go_wp2_with (fail)
                go_roundw
                case rel => exact ⟨s, by omega, by rw [HH.out.1]; have h2 := HH.out.2; rw [IntWalk.u64_in ((H : Int) * 128) (by omega), IntWalk.u64_in _ (by omega)]; congr 1; omega, by cases s <;> simp, trivial⟩
                case measure => first | (simp [intOf]; done) | (simp [intOf]; omega)
              | zero =>
                have hN : hor ys (j + 1 - 0) 0 = accF ys (j + 1) := by rw [Nat.sub_zero, hor_all]; exact HACC.out.symm
                rw [hN]
                simp only [iV]
                clear hN
                obtain ⟨N, hNN⟩ : ∃ N, N = accF ys (j + 1) := ⟨_, rfl⟩
                rw [← hNN] at HST2 ⊢
                clear hNN HACC HOR
                by_cases hgt : most < N
                · rw [if_pos hgt] at HST2
                  have HE := Lib.hid (show (rdF ys most).2.2 = some 4 by rw [HST2.out])
                  have q6 : decide ((most : Int) < (N : Int)) = true := by simp; omega
                  have q7 : decide (most < N) = true := by simpa using hgt
                  clear hgt
                  go_wp2_with (first
                    | (refine wpList_load_row rfl 129 (.tmp 2) rfl w.heap.size rfl 129 _ (0, 0) _ M.out.arg Tryz.underlying129 rfl (by kernel_rfl) ?_)
                    | (go_at_call 139; (with_reducible refine (HF.out _ _ _).mono ?_); rintro e w3 ⟨rfl, hb⟩; replace M := Lib.hid (M.out.call hb); clear hb)
                    | (refine wpList_store_row rfl 129 (.tmp 4) (.tmp 89) rfl (w.heap.size + 1) _ rfl rfl 129 _ M.out.res (by kernel_rfl) (by rfl) (rd_one _ _ _ _) ?_))
                  refine bodyPost_ret (results_cell_tmp_row rfl _ _ (w.heap.size + 1) 129 (rdC _ 4) (0, 0) _ rfl (setRow_heap _ _ _ _ _ _ M.out.res) Tryz.underlying129 rfl (by kernel_rfl)) rfl ?_
                  rw [uintS_bad (x := 4) HE.out]
                  exact ⟨_, rfl, HY.out.below (below_setRow M.out.below (Nat.le_succ _) _), below_setRow M.out.below (Nat.le_succ _) _⟩
                · rw [if_neg hgt] at HST2
                  have HE := Lib.hid (show uintS (ys, none) most = (N, ys.drop (j + 1), none) by rw [uintS_good (by rw [HST2.out]), HST2.out])
                  have q6 : decide ((most : Int) < (N : Int)) = false := by simp; omega
                  have q7 : decide (most < N) = false := by simpa using hgt
                  clear hgt
                  have hsl := sliceBlo (some ⟨ab, ao, none⟩) ys.length c (j + 1) h1
                  rw [show ((j + 1 : Nat) : Int) = (j : Int) + 1 by omega] at hsl
                  have HYD := Lib.hid (HY.out.from (j + 1) h1)
                  have HLD := Lib.hid (show ys.length - (j + 1) = (ys.drop (j + 1)).length by rw [List.length_drop])
                  have f0 := cf 0
                  obtain ⟨a2, ha2⟩ : ∃ a2, a2 = cutA (some ⟨ab, ao, none⟩) c (j + 1) := ⟨_, rfl⟩
                  rw [← ha2] at hsl HYD
                  clear ha2 cb
                  go_upto_region 20 with (fail)
                  replace M := Lib.hid (M.out.set 0 (.slice a2 (ys.length - (j + 1)) (c - (j + 1))) (v' := .slice a2 (ys.length - (j + 1)) (c - (j + 1))) (e' := 0) rfl)
                  clear c0 c1 cf f0 hsl
                  generalize World.setCell _ ⟨w.heap.size, 0, none⟩ (.slice a2 (ys.length - (j + 1)) (c - (j + 1))) = w4 at *
                  go_wp2_with (first
                    | (refine wpList_load_row rfl 129 (.tmp 2) rfl w.heap.size rfl 129 _ (0, 0) _ M.out.arg Tryz.underlying129 rfl (by kernel_rfl) ?_)
                    | (refine wpList_store_row rfl 129 (.tmp 4) (.tmp 96) rfl (w.heap.size + 1) _ rfl rfl 129 _ M.out.res (by kernel_rfl) (by rfl) (rd_one _ _ _ _) ?_))
                  refine bodyPost_ret (results_cell_tmp_row rfl _ _ (w.heap.size + 1) 129 (rdC _ 0) (0, 0) _ rfl (setRow_heap _ _ _ _ _ _ M.out.res) Tryz.underlying129 rfl (by kernel_rfl)) rfl ?_
                  rw [HE.out]
                  exact ⟨_, rfl, HYD.out.below (below_setRow M.out.below (Nat.le_succ _) _), below_setRow M.out.below (Nat.le_succ _) _⟩
          · have q1 : ((j : Int) == 9) = false := by simp; omega
            have q3 : decide ((0 : Int) < (j : Int)) = true := by simp; omega
            have q4 : decide (0 < j) = true := by simpa using hj0
            have q5 : ((b : Int) == 0) = false := by simp; omega
            clear hbad hb0 hj0 hj9
            go_wp2_with (fail)
            go_loopw [7, 8] (fun n i w2 => ∃ t : Nat, t ≤ j + 1 ∧ n = .int .u64 ((hor ys (j + 1 - t) t : Nat) : Int) ∧ i = .int .i64 (iV t) ∧ w2 = wr) (fun _ i _ => (intOf i + 1).toNat)
            case atStart => exact ⟨j + 1, Nat.le_refl _, by rw [Nat.sub_self]; rfl, rfl, rfl⟩
            case round =>
              obtain ⟨t, ht, rfl, rfl, rfl⟩ := hrel
              cases t with
              | succ s =>
                obtain ⟨b2, hb2, hb22⟩ : ∃ b2 : Nat, ys[s]? = some (b2 : Int) ∧ b2 < 256 := by
                  have h3 := HBY.out ys[s] (List.getElem_mem (by omega))
                  exact ⟨ys[s].toNat, by rw [List.getElem?_eq_getElem (by omega)]; congr 1; omega, by omega⟩
                have c2 : wr.cell? ⟨ab, ao + s, none⟩ = some (.int .u8 (b2 : Int)) := (M.out.below.cell (p := ⟨ab, ao + s, none⟩) (World.block_lt_of_cell? w _ (hcell s _ hb2))).trans (hcell s _ hb2)
                have hdg : dgt ys s = b2 % 128 := by unfold dgt; rw [List.getD_eq_getElem?_getD, hb2]; rfl
                have hH := HOR.out s (by omega)
                rw [hdg] at hH
                have HH := Lib.hid hH
                obtain ⟨H, hHd⟩ : ∃ H, H = hor ys (j + 1 - (s + 1)) (s + 1) := ⟨_, rfl⟩
                rw [← hHd] at HH ⊢
                have hsI : (s : Int) < (ys.length : Int) := by omega
                have hs0 : (0 : Int) ≤ (s : Int) := by omega
                clear hH hdg hb2 hHd
                simp only [iV]
                go_wp2_with (fail)
                go_roundw
                case rel => exact ⟨s, by omega, by rw [HH.out.1]; have h2 := HH.out.2; rw [IntWalk.u64_in ((H : Int) * 128) (by omega), IntWalk.u64_in _ (by omega)]; congr 1; omega, by cases s <;> simp, trivial⟩
                case measure => first | (simp [intOf]; done) | (simp [intOf]; omega)
              | zero =>
                have hN : hor ys (j + 1 - 0) 0 = accF ys (j + 1) := by rw [Nat.sub_zero, hor_all]; exact HACC.out.symm
                rw [hN]
                simp only [iV]
                clear hN
                obtain ⟨N, hNN⟩ : ∃ N, N = accF ys (j + 1) := ⟨_, rfl⟩
                rw [← hNN] at HST2 ⊢
                clear hNN HACC HOR
                by_cases hgt : most < N
                · rw [if_pos hgt] at HST2
                  have HE := Lib.hid (show (rdF ys most).2.2 = some 4 by rw [HST2.out])
                  have q6 : decide ((most : Int) < (N : Int)) = true := by simp; omega
                  have q7 : decide (most < N) = true := by simpa using hgt
                  clear hgt
                  go_wp2_with (first
                    | (refine wpList_load_row rfl 129 (.tmp 2) rfl w.heap.size rfl 129 _ (0, 0) _ M.out.arg Tryz.underlying129 rfl (by kernel_rfl) ?_)
                    | (go_at_call 139; (with_reducible refine (HF.out _ _ _).mono ?_); rintro e w3 ⟨rfl, hb⟩; replace M := Lib.hid (M.out.call hb); clear hb)
                    | (refine wpList_store_row rfl 129 (.tmp 4) (.tmp 89) rfl (w.heap.size + 1) _ rfl rfl 129 _ M.out.res (by kernel_rfl) (by rfl) (rd_one _ _ _ _) ?_))
                  refine bodyPost_ret (results_cell_tmp_row rfl _ _ (w.heap.size + 1) 129 (rdC _ 4) (0, 0) _ rfl (setRow_heap _ _ _ _ _ _ M.out.res) Tryz.underlying129 rfl (by kernel_rfl)) rfl ?_
                  rw [uintS_bad (x := 4) HE.out]
                  exact ⟨_, rfl, HY.out.below (below_setRow M.out.below (Nat.le_succ _) _), below_setRow M.out.below (Nat.le_succ _) _⟩
                · rw [if_neg hgt] at HST2
                  have HE := Lib.hid (show uintS (ys, none) most = (N, ys.drop (j + 1), none) by rw [uintS_good (by rw [HST2.out]), HST2.out])
                  have q6 : decide ((most : Int) < (N : Int)) = false := by simp; omega
                  have q7 : decide (most < N) = false := by simpa using hgt
                  clear hgt
                  have hsl := sliceBlo (some ⟨ab, ao, none⟩) ys.length c (j + 1) h1
                  rw [show ((j + 1 : Nat) : Int) = (j : Int) + 1 by omega] at hsl
                  have HYD := Lib.hid (HY.out.from (j + 1) h1)
                  have HLD := Lib.hid (show ys.length - (j + 1) = (ys.drop (j + 1)).length by rw [List.length_drop])
                  have f0 := cf 0
                  obtain ⟨a2, ha2⟩ : ∃ a2, a2 = cutA (some ⟨ab, ao, none⟩) c (j + 1) := ⟨_, rfl⟩
                  rw [← ha2] at hsl HYD
                  clear ha2 cb
                  go_upto_region 20 with (fail)
                  replace M := Lib.hid (M.out.set 0 (.slice a2 (ys.length - (j + 1)) (c - (j + 1))) (v' := .slice a2 (ys.length - (j + 1)) (c - (j + 1))) (e' := 0) rfl)
                  clear c0 c1 cf f0 hsl
                  generalize World.setCell _ ⟨w.heap.size, 0, none⟩ (.slice a2 (ys.length - (j + 1)) (c - (j + 1))) = w4 at *
                  go_wp2_with (first
                    | (refine wpList_load_row rfl 129 (.tmp 2) rfl w.heap.size rfl 129 _ (0, 0) _ M.out.arg Tryz.underlying129 rfl (by kernel_rfl) ?_)
                    | (refine wpList_store_row rfl 129 (.tmp 4) (.tmp 96) rfl (w.heap.size + 1) _ rfl rfl 129 _ M.out.res (by kernel_rfl) (by rfl) (rd_one _ _ _ _) ?_))
                  refine bodyPost_ret (results_cell_tmp_row rfl _ _ (w.heap.size + 1) 129 (rdC _ 0) (0, 0) _ rfl (setRow_heap _ _ _ _ _ _ M.out.res) Tryz.underlying129 rfl (by kernel_rfl)) rfl ?_
                  rw [HE.out]
                  exact ⟨_, rfl, HYD.out.below (below_setRow M.out.below (Nat.le_succ _) _), below_setRow M.out.below (Nat.le_succ _) _⟩
          · have q1 : ((j : Int) == 9) = false := by simp; omega
            have q3 : decide ((0 : Int) < (j : Int)) = false := by simp; omega
            have q4 : decide (0 < j) = false := by simp; omega
            clear hbad hj0
            go_wp2_with (fail)
            go_loopw [7, 8] (fun n i w2 => ∃ t : Nat, t ≤ j + 1 ∧ n = .int .u64 ((hor ys (j + 1 - t) t : Nat) : Int) ∧ i = .int .i64 (iV t) ∧ w2 = wr) (fun _ i _ => (intOf i + 1).toNat)
            case atStart => exact ⟨j + 1, Nat.le_refl _, by rw [Nat.sub_self]; rfl, rfl, rfl⟩
            case round =>
              obtain ⟨t, ht, rfl, rfl, rfl⟩ := hrel
              cases t with
              | succ s =>
                obtain ⟨b2, hb2, hb22⟩ : ∃ b2 : Nat, ys[s]? = some (b2 : Int) ∧ b2 < 256 := by
                  have h3 := HBY.out ys[s] (List.getElem_mem (by omega))
                  exact ⟨ys[s].toNat, by rw [List.getElem?_eq_getElem (by omega)]; congr 1; omega, by omega⟩
                have c2 : wr.cell? ⟨ab, ao + s, none⟩ = some (.int .u8 (b2 : Int)) := (M.out.below.cell (p := ⟨ab, ao + s, none⟩) (World.block_lt_of_cell? w _ (hcell s _ hb2))).trans (hcell s _ hb2)
                have hdg : dgt ys s = b2 % 128 := by unfold dgt; rw [List.getD_eq_getElem?_getD, hb2]; rfl
                have hH := HOR.out s (by omega)
                rw [hdg] at hH
                have HH := Lib.hid hH
                obtain ⟨H, hHd⟩ : ∃ H, H = hor ys (j + 1 - (s + 1)) (s + 1) := ⟨_, rfl⟩
                rw [← hHd] at HH ⊢
                have hsI : (s : Int) < (ys.length : Int) := by omega
                have hs0 : (0 : Int) ≤ (s : Int) := by omega
                clear hH hdg hb2 hHd
                simp only [iV]
                go_wp2_with (fail)
                go_roundw
                case rel => exact ⟨s, by omega, by rw [HH.out.1]; have h2 := HH.out.2; rw [IntWalk.u64_in ((H : Int) * 128) (by omega), IntWalk.u64_in _ (by omega)]; congr 1; omega, by cases s <;> simp, trivial⟩
                case measure => first | (simp [intOf]; done) | (simp [intOf]; omega)
              | zero =>
                have hN : hor ys (j + 1 - 0) 0 = accF ys (j + 1) := by rw [Nat.sub_zero, hor_all]; exact HACC.out.symm
                rw [hN]
                simp only [iV]
                clear hN
                obtain ⟨N, hNN⟩ : ∃ N, N = accF ys (j + 1) := ⟨_, rfl⟩
                rw [← hNN] at HST2 ⊢
                clear hNN HACC HOR
                by_cases hgt : most < N
                · rw [if_pos hgt] at HST2
                  have HE := Lib.hid (show (rdF ys most).2.2 = some 4 by rw [HST2.out])
                  have q6 : decide ((most : Int) < (N : Int)) = true := by simp; omega
                  have q7 : decide (most < N) = true := by simpa using hgt
                  clear hgt
                  go_wp2_with (first
                    | (refine wpList_load_row rfl 129 (.tmp 2) rfl w.heap.size rfl 129 _ (0, 0) _ M.out.arg Tryz.underlying129 rfl (by kernel_rfl) ?_)
                    | (go_at_call 139; (with_reducible refine (HF.out _ _ _).mono ?_); rintro e w3 ⟨rfl, hb⟩; replace M := Lib.hid (M.out.call hb); clear hb)
                    | (refine wpList_store_row rfl 129 (.tmp 4) (.tmp 89) rfl (w.heap.size + 1) _ rfl rfl 129 _ M.out.res (by kernel_rfl) (by rfl) (rd_one _ _ _ _) ?_))
                  refine bodyPost_ret (results_cell_tmp_row rfl _ _ (w.heap.size + 1) 129 (rdC _ 4) (0, 0) _ rfl (setRow_heap _ _ _ _ _ _ M.out.res) Tryz.underlying129 rfl (by kernel_rfl)) rfl ?_
                  rw [uintS_bad (x := 4) HE.out]
                  exact ⟨_, rfl, HY.out.below (below_setRow M.out.below (Nat.le_succ _) _), below_setRow M.out.below (Nat.le_succ _) _⟩
                · rw [if_neg hgt] at HST2
                  have HE := Lib.hid (show uintS (ys, none) most = (N, ys.drop (j + 1), none) by rw [uintS_good (by rw [HST2.out]), HST2.out])
                  have q6 : decide ((most : Int) < (N : Int)) = false := by simp; omega
                  have q7 : decide (most < N) = false := by simpa using hgt
                  clear hgt
                  have hsl := sliceBlo (some ⟨ab, ao, none⟩) ys.length c (j + 1) h1
                  rw [show ((j + 1 : Nat) : Int) = (j : Int) + 1 by omega] at hsl
                  have HYD := Lib.hid (HY.out.from (j + 1) h1)
                  have HLD := Lib.hid (show ys.length - (j + 1) = (ys.drop (j + 1)).length by rw [List.length_drop])
                  have f0 := cf 0
                  obtain ⟨a2, ha2⟩ : ∃ a2, a2 = cutA (some ⟨ab, ao, none⟩) c (j + 1) := ⟨_, rfl⟩
                  rw [← ha2] at hsl HYD
                  clear ha2 cb
                  go_upto_region 20 with (fail)
                  replace M := Lib.hid (M.out.set 0 (.slice a2 (ys.length - (j + 1)) (c - (j + 1))) (v' := .slice a2 (ys.length - (j + 1)) (c - (j + 1))) (e' := 0) rfl)
                  clear c0 c1 cf f0 hsl
                  generalize World.setCell _ ⟨w.heap.size, 0, none⟩ (.slice a2 (ys.length - (j + 1)) (c - (j + 1))) = w4 at *
                  go_wp2_with (first
                    | (refine wpList_load_row rfl 129 (.tmp 2) rfl w.heap.size rfl 129 _ (0, 0) _ M.out.arg Tryz.underlying129 rfl (by kernel_rfl) ?_)
                    | (refine wpList_store_row rfl 129 (.tmp 4) (.tmp 96) rfl (w.heap.size + 1) _ rfl rfl 129 _ M.out.res (by kernel_rfl) (by rfl) (rd_one _ _ _ _) ?_))
                  refine bodyPost_ret (results_cell_tmp_row rfl _ _ (w.heap.size + 1) 129 (rdC _ 0) (0, 0) _ rfl (setRow_heap _ _ _ _ _ _ M.out.res) Tryz.underlying129 rfl (by kernel_rfl)) rfl ?_
                  rw [HE.out]
                  exact ⟨_, rfl, HYD.out.below (below_setRow M.out.below (Nat.le_succ _) _), below_setRow M.out.below (Nat.le_succ _) _⟩
    · rcases (by omega : (j = 10 ∧ j < ys.length) ∨ (j = 10 ∧ j = ys.length) ∨ (j = ys.length ∧ j < 10)) with ⟨h10, h1⟩ | ⟨h10, h1⟩ | ⟨h1, h10⟩
      · have HE := Lib.hid (show (rdF ys most).2.2 = some 3 by rw [HR.out, show min ys.length 10 - j = 0 by omega]; unfold rdFrom; rw [if_neg (by omega)])
        have q1 : (j : Int) < (ys.length : Int) := by omega
        have q2 : ¬ (j : Int) < 10 := by omega
        have q3 : ((j : Int) == 10) = true := by simp; omega
        clear hin h10 h1 HR
        go_wp2_with (first
          | (refine wpList_load_row rfl 129 (.tmp 2) rfl w.heap.size rfl 129 _ (0, 0) _ M.out.arg Tryz.underlying129 rfl (by kernel_rfl) ?_)
          | (go_at_call 139; (with_reducible refine (HF.out _ _ _).mono ?_); rintro e w2 ⟨rfl, hb⟩; replace M := Lib.hid (M.out.call hb); clear hb)
          | (refine wpList_store_row rfl 129 (.tmp 4) (.tmp 36) rfl (w.heap.size + 1) _ rfl rfl 129 _ M.out.res (by kernel_rfl) (by rfl) (rd_one _ _ _ _) ?_))
        refine bodyPost_ret (results_cell_tmp_row rfl _ _ (w.heap.size + 1) 129 (rdC _ 3) (0, 0) _ rfl (setRow_heap _ _ _ _ _ _ M.out.res) Tryz.underlying129 rfl (by kernel_rfl)) rfl ?_
        rw [uintS_bad (x := 3) HE.out]
        exact ⟨_, rfl, HY.out.below (below_setRow M.out.below (Nat.le_succ _) _), below_setRow M.out.below (Nat.le_succ _) _⟩
      · have HE := Lib.hid (show (rdF ys most).2.2 = some 3 by rw [HR.out, show min ys.length 10 - j = 0 by omega]; unfold rdFrom; rw [if_neg (by omega)])
        have q1 : ¬ (j : Int) < (ys.length : Int) := by omega
        have q3 : ((j : Int) == 10) = true := by simp; omega
        clear hin h10 h1 HR
        go_wp2_with (first
          | (refine wpList_load_row rfl 129 (.tmp 2) rfl w.heap.size rfl 129 _ (0, 0) _ M.out.arg Tryz.underlying129 rfl (by kernel_rfl) ?_)
          | (go_at_call 139; (with_reducible refine (HF.out _ _ _).mono ?_); rintro e w2 ⟨rfl, hb⟩; replace M := Lib.hid (M.out.call hb); clear hb)
          | (refine wpList_store_row rfl 129 (.tmp 4) (.tmp 36) rfl (w.heap.size + 1) _ rfl rfl 129 _ M.out.res (by kernel_rfl) (by rfl) (rd_one _ _ _ _) ?_))
        refine bodyPost_ret (results_cell_tmp_row rfl _ _ (w.heap.size + 1) 129 (rdC _ 3) (0, 0) _ rfl (setRow_heap _ _ _ _ _ _ M.out.res) Tryz.underlying129 rfl (by kernel_rfl)) rfl ?_
        rw [uintS_bad (x := 3) HE.out]
        exact ⟨_, rfl, HY.out.below (below_setRow M.out.below (Nat.le_succ _) _), below_setRow M.out.below (Nat.le_succ _) _⟩
      · have HE := Lib.hid (show (rdF ys most).2.2 = some 12 by rw [HR.out, show min ys.length 10 - j = 0 by omega]; unfold rdFrom; rw [if_pos (by omega)])
        have q1 : ¬ (j : Int) < (ys.length : Int) := by omega
        have q3 : ((j : Int) == 10) = false := by simp; omega
        have q4 : ((j : Int) == (ys.length : Int)) = true := by simp; omega
        clear hin h10 h1 HR
        go_wp2_with (first
          | (refine wpList_load_row rfl 129 (.tmp 2) rfl w.heap.size rfl 129 _ (0, 0) _ M.out.arg Tryz.underlying129 rfl (by kernel_rfl) ?_)
          | (go_at_call 139; (with_reducible refine (HF.out _ _ _).mono ?_); rintro e w2 ⟨rfl, hb⟩; replace M := Lib.hid (M.out.call hb); clear hb)
          | (refine wpList_store_row rfl 129 (.tmp 4) (.tmp 44) rfl (w.heap.size + 1) _ rfl rfl 129 _ M.out.res (by kernel_rfl) (by rfl) (rd_one _ _ _ _) ?_))
        refine bodyPost_ret (results_cell_tmp_row rfl _ _ (w.heap.size + 1) 129 (rdC _ 12) (0, 0) _ rfl (setRow_heap _ _ _ _ _ _ M.out.res) Tryz.underlying129 rfl (by kernel_rfl)) rfl ?_
        rw [uintS_bad (x := 12) HE.out]
        exact ⟨_, rfl, HY.out.below (below_setRow M.out.below (Nat.le_succ _) _), below_setRow M.out.below (Nat.le_succ _) _⟩
end Go.Proofs.YtejglhlodfhgkaaGreatDoor

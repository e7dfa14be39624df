/- Part 13 of the proof. -/
import Derived.Shelf.Small.Bits
import Derived.Shelf.Small.Strs
import Derived.Shelf.Strconv.Itoa0
import Derived.Shelf.Strings.Search1
import Derived.Test.YtejglhlodfhgkaaGreatDoorProg
import Derived.Test.YtejglhlodfhgkaaGreatDoorBp1
import Derived.Test.YtejglhlodfhgkaaGreatDoorBp5
import Derived.Test.YtejglhlodfhgkaaGreatDoorBp12
namespace Go.Proofs
set_option linter.unusedVariables false
set_option linter.unusedSimpArgs false
open Go.Shelf
def Tryz.lays137_ren : Go.Shelf.Ren := ⟨fun | 137 => 253 | 217 => 244 | 266 => 257 | n => n, fun | 9 => 9 | 5 => 5 | 3 => 3 | n => n, fun | n => n⟩
theorem Tryz.lays137 : Go.Proofs.Lays.n137 Tryz.prog Tryz.lays137_ren := {
  mixed := by kernel_rfl
  f137 := Tryz.func253.trans (congrArg some (by kernel_rfl))
  f217 := Tryz.func244.trans (congrArg some (by kernel_rfl))
  f266 := Tryz.func257.trans (congrArg some (by kernel_rfl))
  t3 := Tryz.underlying3
  a3 := Tryz.isAgg3
  z3 := Tryz.sizeOf3
  v3 := Tryz.zeroValue3
  t5 := Tryz.underlying5
  a5 := Tryz.isAgg5
  z5 := Tryz.sizeOf5
  v5 := Tryz.zeroValue5
  t9 := Tryz.underlying9
  a9 := Tryz.isAgg9
  z9 := Tryz.sizeOf9
  v9 := Tryz.zeroValue9 }
open Go.RowKit in
theorem Tryz.strings_IndexByte (s : ByteArray) (c : Int) (w : World) :
    Calls Tryz.prog 253 #[.string s, .int .u8 c] w fun e w' => e = .returned (.int .i64 (Lib.indexByte s.data.toList c.toNat.toUInt8)) ∧ w' = w := Any.strings_IndexByte Tryz.lays137 s c w
end Go.Proofs
namespace Go.Proofs.YtejglhlodfhgkaaGreatDoor
set_option linter.unusedVariables false
set_option linter.unusedSimpArgs false
open Go.RowKit
set_option maxRecDepth 100000
def hexc (c : Int) : Bool := decide (48 ≤ c ∧ c ≤ 57) || decide (97 ≤ c ∧ c ≤ 102)
def hexv (c : Int) : Int := if 48 ≤ c ∧ c ≤ 57 then c - 48 else if 97 ≤ c ∧ c ≤ 102 then c - 87 else 0
theorem hexv_bounds (c : Int) : 0 ≤ hexv c ∧ hexv c < 16 := by unfold hexv; split <;> (try split) <;> omega
def parF (xs : List Int) : Nat → Int := fun i => 16 * hexv (xs.getD (2 * i) 0) + hexv (xs.getD (2 * i + 1) 0)
def parK (xs : List Int) (k : Nat) : Nat → Int := fun i => if i < k then parF xs i else 0
def parR (xs : List Int) : (Nat → Int) × Option Nat := if xs.length = 64 ∧ xs.all hexc = true then (parF xs, none) else (fun _ => 0, some 3)
theorem parK_zero (xs : List Int) : parK xs 0 = fun _ => 0 := by funext i; unfold parK; rw [if_neg (by omega)]
theorem parK_succ (xs : List Int) (k : Nat) (v : Int) (hv : v = parF xs k) : upd (parK xs k) k v = parK xs (k + 1) := by
  subst hv
  funext i
  unfold upd parK
  by_cases h : i = k
  · subst h; rw [if_pos rfl, if_pos (by omega)]
  · rw [if_neg h]
    by_cases h2 : i < k
    · rw [if_pos h2, if_pos (by omega)]
    · rw [if_neg h2, if_neg (by omega)]
theorem parR_long (xs : List Int) (h : xs.length ≠ 64) : parR xs = (fun _ => 0, some 3) := by unfold parR; rw [if_neg (fun e => h e.1)]
theorem parR_bad (xs : List Int) (i : Nat) (c : Int) (hi : xs[i]? = some c) (hc : hexc c = false) : parR xs = (fun _ => 0, some 3) := by
  unfold parR
  rw [if_neg]
  rintro ⟨_, h⟩
  have := List.all_eq_true.1 h c (List.mem_of_getElem? hi)
  rw [hc] at this; cases this
theorem parR_good (xs : List Int) (h1 : xs.length = 64) (h2 : ∀ (i : Nat) (c : Int), xs[i]? = some c → hexc c = true) : parR xs = (parF xs, none) := by
  unfold parR
  rw [if_pos ⟨h1, List.all_eq_true.2 fun c hc => by obtain ⟨i, hi⟩ := List.getElem?_of_mem hc; exact h2 i c hi⟩]
theorem idx_fin : ∀ n : Fin 256, Lib.indexByte [48, 49, 50, 51, 52, 53, 54, 55, 56, 57, 97, 98, 99, 100, 101, 102] (UInt8.ofNat n.val) = if hexc (n.val : Int) then hexv (n.val : Int) else -1 := by decide
theorem idx_hex (b : UInt8) : Lib.indexByte [48, 49, 50, 51, 52, 53, 54, 55, 56, 57, 97, 98, 99, 100, 101, 102] b = if hexc (b.toNat : Int) then hexv (b.toNat : Int) else -1 := by
  have := idx_fin ⟨b.toNat, b.toNat_lt⟩
  simpa using this
theorem index_str (s : ByteArray) (i : Nat) (h : i < s.size) : (numsOf s)[i]? = some (s[i].toNat : Int) := by
  unfold numsOf
  rw [List.getElem?_map, Array.getElem?_toList]
  show Option.map _ (s.data[i]?) = _
  rw [Array.getElem?_eq_getElem h]
  rfl
theorem idx_any (c : UInt8) (w : World) : Calls Tryz.prog 253 #[.string { data := #[48, 49, 50, 51, 52, 53, 54, 55, 56, 57, 97, 98, 99, 100, 101, 102] }, .int .u8 (c.toNat : Int)] w fun e w' => e = .returned (.int .i64 (if hexc (c.toNat : Int) then hexv (c.toNat : Int) else -1)) ∧ w' = w := by
  refine (Tryz.strings_IndexByte _ _ w).mono ?_
  rintro e w' ⟨rfl, rfl⟩
  refine ⟨?_, rfl⟩
  have e1 : ((c.toNat : Int)).toNat.toUInt8 = c := by rw [Int.toNat_natCast]; exact UInt8.ofNat_toNat
  rw [e1]
  have := idx_hex c
  exact congrArg (fun x => Ending.returned (Value.int IntKind.i64 x)) this
theorem idx_yes (c : UInt8) (h : hexc (c.toNat : Int) = true) (w : World) : Calls Tryz.prog 253 #[.string { data := #[48, 49, 50, 51, 52, 53, 54, 55, 56, 57, 97, 98, 99, 100, 101, 102] }, .int .u8 (c.toNat : Int)] w fun e w' => e = .returned (.int .i64 (hexv (c.toNat : Int))) ∧ w' = w := by
  have := idx_any c w; rw [if_pos h] at this; exact this
theorem idx_not (c : UInt8) (h : hexc (c.toNat : Int) = false) (w : World) : Calls Tryz.prog 253 #[.string { data := #[48, 49, 50, 51, 52, 53, 54, 55, 56, 57, 97, 98, 99, 100, 101, 102] }, .int .u8 (c.toNat : Int)] w fun e w' => e = .returned (.int .i64 (-1)) ∧ w' = w := by
  have := idx_any c w; rw [if_neg (by rw [h]; simp)] at this; exact this
theorem or16_fin : ∀ a b : Fin 16, bits BinOp.or IntKind.i64 ((a.val : Int) * 16) (b.val : Int) % 256 = 16 * (a.val : Int) + (b.val : Int) := by decide
theorem or16 (a b : Int) (h0 : 0 ≤ a) (h1 : a < 16) (h2 : 0 ≤ b) (h3 : b < 16) : bits BinOp.or IntKind.i64 (a * 16) b % 256 = 16 * a + b := by
  have := or16_fin ⟨a.toNat, by omega⟩ ⟨b.toNat, by omega⟩
  simp only [Int.toNat_of_nonneg h0, Int.toNat_of_nonneg h2] at this
  exact this
set_option maxHeartbeats 1000000 in
theorem parse_any (s : ByteArray) (w : World) (hs : s.size ≤ maxLen) :
    Calls Tryz.prog 232 #[.string s] w fun e w' => e = .returned (.tuple #[.agg (rowOf .u8 32 (parR (numsOf s)).1), errV (parR (numsOf s)).2]) ∧ Below w.heap.size w w' := by
  unfold maxLen at hs
  by_cases h64 : s.size = 64
  · have HR0 := Lib.hid (show RowAt ((w.alloc (.cells (rowOf .u8 32 (fun _ => 0)) 53)).alloc (.cells (rowOf .u8 32 (fun _ => 0)) 53)) w.heap.size .u8 32 53 (fun _ => 0) from (RowAt.new w .u8 32 53 (fun _ => 0)).alloc _)
    have HR1 := Lib.hid (show RowAt ((w.alloc (.cells (rowOf .u8 32 (fun _ => 0)) 53)).alloc (.cells (rowOf .u8 32 (fun _ => 0)) 53)) (w.heap.size + 1) .u8 32 53 (parK (numsOf s) 0) from by
      rw [parK_zero]
      have := RowAt.new (w.alloc (.cells (rowOf .u8 32 (fun _ => 0)) 53)) .u8 32 53 (fun _ => 0)
      rw [size_alloc] at this; exact this)
    have HB := Lib.hid ((below_alloc w (.cells (rowOf .u8 32 (fun _ => 0)) 53)).trans ((below_alloc _ (.cells (rowOf .u8 32 (fun _ => 0)) 53)).mono (by simp)))
    have HLEN := Lib.hid (show (numsOf s).length = 64 by rw [numsOf_length]; exact h64)
    have h64' : (s.size : Int) = 64 := by omega
    have HS := Lib.hid h64
    go_enter Tryz.func232, Tryz.ntmps232
    go_upto_region 2 with (fail)
    rw [zeros32]
    generalize (w.alloc (.cells (rowOf .u8 32 (fun _ => 0)) 53)).alloc (.cells (rowOf .u8 32 (fun _ => 0)) 53) = w1 at *
    go_wp2_with (fail)
    go_loopw [13] (fun i wr => ∃ k : Nat, k ≤ 32 ∧ i = .int .i64 k ∧ Hid (∀ i c, i < 2 * k → (numsOf s)[i]? = some c → hexc c = true) ∧ Hid (RowAt wr w.heap.size .u8 32 53 (fun _ => 0) ∧ RowAt wr (w.heap.size + 1) .u8 32 53 (parK (numsOf s) k) ∧ Below w.heap.size w wr)) (fun i _ => 32 - (intOf i).toNat)
    case atStart => exact ⟨0, by omega, rfl, Lib.hid (fun i c h => by omega), Lib.hid ⟨HR0.out, HR1.out, HB.out⟩⟩
    case round =>
      clear HR0 HR1 HB
      obtain ⟨k, hk, rfl, HALL, H⟩ := hrel
      by_cases hlt : k < 32
      · have l0 : 2 * k < s.size := by omega
        have l1 : 2 * k + 1 < s.size := by omega
        have i0 := index_str s (2 * k) l0
        have i1 := index_str s (2 * k + 1) l1
        obtain ⟨a, ha⟩ : ∃ a, a = s[2 * k] := ⟨_, rfl⟩
        obtain ⟨b, hb⟩ : ∃ b, b = s[2 * k + 1] := ⟨_, rfl⟩
        have n0 : (2 * (k : Int)).toNat = 2 * k := by omega
        have n1 : (2 * (k : Int) + 1).toNat = 2 * k + 1 := by omega
        have g0 : 2 * (k : Int) < s.size := by omega
        have g1 : 2 * (k : Int) + 1 < s.size := by omega
        rw [← ha] at i0
        rw [← hb] at i1
        obtain ⟨A, hA⟩ : ∃ A, A = hexv (a.toNat : Int) := ⟨_, rfl⟩
        obtain ⟨B, hB⟩ : ∃ B, B = hexv (b.toNat : Int) := ⟨_, rfl⟩
        obtain ⟨hA0, hA1⟩ := hexv_bounds (a.toNat : Int)
        obtain ⟨hB0, hB1⟩ := hexv_bounds (b.toNat : Int)
        rw [← hA] at hA0 hA1
        rw [← hB] at hB0 hB1
        replace hA := Lib.hid hA
        replace hB := Lib.hid hB
        replace ha := Lib.hid ha
        replace hb := Lib.hid hb
        cases hca : hexc (a.toNat : Int) with
        | false =>
          have HP := Lib.hid (parR_bad _ _ _ i0 hca)
          have HIA := Lib.hid (idx_not a hca)
          cases hcb : hexc (b.toNat : Int) with
          | false =>
            have HIB := Lib.hid (idx_not b hcb)
            go_wp2_with (first
              | (go_at_call 253; rw [← ha.out]; (with_reducible refine (HIA.out _).mono ?_); rintro e w' ⟨rfl, rfl⟩)
              | (go_at_call 253; rw [← hb.out]; (with_reducible refine (HIB.out _).mono ?_); rintro e w' ⟨rfl, rfl⟩)
              | (refine wpList_store_row rfl 53 (.tmp 2) (.tmp 33) rfl w.heap.size (rowOf .u8 32 (fun _ => 0)) rfl rfl 53 _ H.out.1 (by rw [rowOf_size]; kernel_rfl) rfl (rowOf_one _ _ _) ?_))
            refine bodyPost_ret (results_cell_tmp_row rfl _ _ w.heap.size 53 (rowOf .u8 32 (fun _ => 0)) (0, 0) _ rfl (setRow_heap _ _ _ _ _ _ H.out.1) Tryz.underlying53 rfl (by rw [rowOf_size]; kernel_rfl)) rfl ?_
            exact ⟨by rw [HP.out]; rfl, below_setRow H.out.2.2 (Nat.le_refl _) _⟩
          | true =>
            have HIB := Lib.hid (idx_yes b hcb)
            rw [← hB.out] at HIB
            go_wp2_with (first
              | (go_at_call 253; rw [← ha.out]; (with_reducible refine (HIA.out _).mono ?_); rintro e w' ⟨rfl, rfl⟩)
              | (go_at_call 253; rw [← hb.out]; (with_reducible refine (HIB.out _).mono ?_); rintro e w' ⟨rfl, rfl⟩)
              | (refine wpList_store_row rfl 53 (.tmp 2) (.tmp 33) rfl w.heap.size (rowOf .u8 32 (fun _ => 0)) rfl rfl 53 _ H.out.1 (by rw [rowOf_size]; kernel_rfl) rfl (rowOf_one _ _ _) ?_))
            refine bodyPost_ret (results_cell_tmp_row rfl _ _ w.heap.size 53 (rowOf .u8 32 (fun _ => 0)) (0, 0) _ rfl (setRow_heap _ _ _ _ _ _ H.out.1) Tryz.underlying53 rfl (by rw [rowOf_size]; kernel_rfl)) rfl ?_
            exact ⟨by rw [HP.out]; rfl, below_setRow H.out.2.2 (Nat.le_refl _) _⟩
        | true =>
          have HIA := Lib.hid (idx_yes a hca)
          rw [← hA.out] at HIA
          cases hcb : hexc (b.toNat : Int) with
          | false =>
            have HP := Lib.hid (parR_bad _ _ _ i1 hcb)
            have HIB := Lib.hid (idx_not b hcb)
            go_wp2_with (first
              | (go_at_call 253; rw [← ha.out]; (with_reducible refine (HIA.out _).mono ?_); rintro e w' ⟨rfl, rfl⟩)
              | (go_at_call 253; rw [← hb.out]; (with_reducible refine (HIB.out _).mono ?_); rintro e w' ⟨rfl, rfl⟩)
              | (refine wpList_store_row rfl 53 (.tmp 2) (.tmp 33) rfl w.heap.size (rowOf .u8 32 (fun _ => 0)) rfl rfl 53 _ H.out.1 (by rw [rowOf_size]; kernel_rfl) rfl (rowOf_one _ _ _) ?_))
            refine bodyPost_ret (results_cell_tmp_row rfl _ _ w.heap.size 53 (rowOf .u8 32 (fun _ => 0)) (0, 0) _ rfl (setRow_heap _ _ _ _ _ _ H.out.1) Tryz.underlying53 rfl (by rw [rowOf_size]; kernel_rfl)) rfl ?_
            exact ⟨by rw [HP.out]; rfl, below_setRow H.out.2.2 (Nat.le_refl _) _⟩
          | true =>
            have HIB := Lib.hid (idx_yes b hcb)
            rw [← hB.out] at HIB
            have c0 := H.out.2.1.cell k (by omega)
            have f0 := H.out.2.1.free k
            have HPK := Lib.hid (show 16 * A + B = parF (numsOf s) k by
              unfold parF
              rw [List.getD, i0, List.getD, i1, hA.out, hB.out]; rfl)
            go_wp2_with (first
              | (go_at_call 253; rw [← ha.out]; (with_reducible refine (HIA.out _).mono ?_); rintro e w' ⟨rfl, rfl⟩)
              | (go_at_call 253; rw [← hb.out]; (with_reducible refine (HIB.out _).mono ?_); rintro e w' ⟨rfl, rfl⟩))
            have HOR := Lib.hid (or16 A B hA0 hA1 hB0 hB1)
            go_roundw
            case rel =>
              rw [HOR.out]
              have R := H.out.2.1.set k (16 * A + B)
              rw [parK_succ _ _ _ HPK.out] at R
              refine ⟨k + 1, by omega, by go_num, Lib.hid (fun i c hi hc => ?_), Lib.hid ⟨H.out.1.other _ _ (by simp), R, H.out.2.2.setCell (by show w.heap.size ≤ w.heap.size + 1; omega) _⟩⟩
              rcases (by omega : i < 2 * k ∨ i = 2 * k ∨ i = 2 * k + 1) with h | h | h
              · exact HALL.out i c h hc
              · subst h; rw [i0] at hc; cases hc; exact hca
              · subst h; rw [i1] at hc; cases hc; exact hcb
            case measure => simp [intOf]; omega
      · obtain rfl : k = 32 := by omega
        have HP := Lib.hid (parR_good (numsOf s) HLEN.out (fun i c hc => HALL.out i c (by have := (List.getElem?_eq_some_iff.1 hc).1; rw [HLEN.out] at this; omega) hc))
        go_wp2_with (first
          | (refine wpList_load_row rfl 53 (.tmp 4) rfl (w.heap.size + 1) rfl 53 _ (0, 0) _ H.out.2.1 Tryz.underlying53 rfl (by rw [rowOf_size]; kernel_rfl) ?_)
          | (refine wpList_store_row rfl 53 (.tmp 2) (.tmp 43) rfl w.heap.size _ rfl rfl 53 _ H.out.1 (by rw [rowOf_size]; kernel_rfl) (by rw [rowOf_size, rowOf_size]) (rowOf_one _ _ _) ?_))
        refine bodyPost_ret (results_cell_tmp_row rfl _ _ w.heap.size 53 (rowOf .u8 32 (parK (numsOf s) 32)) (0, 0) _ rfl (setRow_heap _ _ _ _ _ _ H.out.1) Tryz.underlying53 rfl (by rw [rowOf_size]; kernel_rfl)) rfl ?_
        refine ⟨?_, below_setRow H.out.2.2 (Nat.le_refl _) _⟩
        rw [HP.out]
        have e : rowOf .u8 32 (parK (numsOf s) 32) = rowOf .u8 32 (parF (numsOf s)) := rowOf_congr _ _ _ _ (fun i hi => by unfold parK; rw [if_pos hi])
        rw [e]; rfl
  · have HR0 := Lib.hid (show RowAt ((w.alloc (.cells (rowOf .u8 32 (fun _ => 0)) 53)).alloc (.cells (rowOf .u8 32 (fun _ => 0)) 53)) w.heap.size .u8 32 53 (fun _ => 0) from (RowAt.new w .u8 32 53 (fun _ => 0)).alloc _)
    have HB := Lib.hid ((below_alloc w (.cells (rowOf .u8 32 (fun _ => 0)) 53)).trans ((below_alloc _ (.cells (rowOf .u8 32 (fun _ => 0)) 53)).mono (by simp)))
    have HP := Lib.hid (parR_long (numsOf s) (by rw [numsOf_length]; exact h64))
    have hd : ((s.size : Int) == 64) = false := by rw [beq_eq_false_iff_ne]; omega
    have hd2 : ¬ (s.size : Int) = 64 := by omega
    go_enter Tryz.func232, Tryz.ntmps232
    go_upto_region 2 with (fail)
    rw [zeros32]
    generalize (w.alloc (.cells (rowOf .u8 32 (fun _ => 0)) 53)).alloc (.cells (rowOf .u8 32 (fun _ => 0)) 53) = w1 at *
    go_wp2_with (refine wpList_store_row rfl 53 (.tmp 2) (.tmp 11) rfl w.heap.size (rowOf .u8 32 (fun _ => 0)) rfl rfl 53 _ HR0.out (by rw [rowOf_size]; kernel_rfl) rfl (rowOf_one _ _ _) ?_)
    refine bodyPost_ret (results_cell_tmp_row rfl _ _ w.heap.size 53 (rowOf .u8 32 (fun _ => 0)) (0, 0) _ rfl (setRow_heap _ _ _ _ _ _ HR0.out) Tryz.underlying53 rfl (by rw [rowOf_size]; kernel_rfl)) rfl ?_
    exact ⟨by rw [HP.out]; rfl, below_setRow HB.out (Nat.le_refl _) _⟩
end Go.Proofs.YtejglhlodfhgkaaGreatDoor
namespace Go.Proofs.YtejglhlodfhgkaaGreatDoor
set_option linter.unusedVariables false
set_option linter.unusedSimpArgs false
open Go.RowKit
set_option maxRecDepth 100000
set_option linter.unusedSimpArgs false
set_option linter.unusedVariables false
def restS (s : ByteArray) : ByteArray := ⟨(Lib.trimPrefix s.data.toList [105, 98, 99, 47]).toArray⟩
def hasPre (s : ByteArray) : Bool := Lib.hasPrefix s.data.toList [105, 98, 99, 47]
def vouB (s : ByteArray) : Bool := hasPre s && (parR (numsOf (restS s))).2.isNone
def chkD (s : ByteArray) : Option Nat := if baseB s || vouB s then none else some 40
theorem rest_size (s : ByteArray) : (restS s).size ≤ s.size := by
  have h : ∀ l : List UInt8, (⟨l.toArray⟩ : ByteArray).size = l.length := fun l => List.size_toArray
  unfold restS
  rw [h]
  unfold Lib.trimPrefix
  split
  · rw [List.length_drop, size14]; exact Nat.sub_le _ _
  · rw [size14]; exact Nat.le_refl _
theorem cvou_any (s : ByteArray) (w : World) (hs : s.size ≤ 140737488351232) : Calls Tryz.prog 188 #[.string s] w fun e w' => e = .returned (.bool (vouB s)) ∧ Below w.heap.size w w' := by
  have HC := Lib.hid (show ∀ w, Calls Tryz.prog 231 #[.string s, .string { data := #[105, 98, 99, 47] }] w fun e w' => e = .returned (.tuple #[.string (restS s), .bool (hasPre s)]) ∧ w' = w from fun w => Any.strings_CutPrefix Tryz.lays103 s { data := #[105, 98, 99, 47] } w)
  have HP := Lib.hid (fun w => parse_any (restS s) w (by have := rest_size s; unfold maxLen; omega))
  unfold vouB
  obtain ⟨r, hr⟩ : ∃ r, r = restS s := ⟨_, rfl⟩
  obtain ⟨x, hx⟩ : ∃ x, x = hasPre s := ⟨_, rfl⟩
  rw [← hr, ← hx] at HC
  rw [← hr] at HP
  rw [← hr, ← hx]
  obtain ⟨F, hF⟩ : ∃ f, f = (parR (numsOf r)).1 := ⟨_, rfl⟩
  obtain ⟨E, hE⟩ : ∃ f, f = (parR (numsOf r)).2 := ⟨_, rfl⟩
  rw [← hF, ← hE] at HP
  rw [← hE]
  clear hr hx hF hE
  cases x with
  | false =>
    go_enter Tryz.func188, Tryz.ntmps188
    go_wp2_with (go_at_call 231; (with_reducible refine (HC.out _).mono ?_); rintro e w1 ⟨rfl, hw⟩; obtain rfl := hw.symm)
    go_ret
    exact ⟨rfl, Below.refl _ _⟩
  | true =>
    cases E with
    | none =>
      simp only [errV] at HP
      go_enter Tryz.func188, Tryz.ntmps188
      go_wp2_with (first
        | (go_at_call 231; (with_reducible refine (HC.out _).mono ?_); rintro e w1 ⟨rfl, hw⟩; obtain rfl := hw.symm)
        | (go_at_call 232; (with_reducible refine (HP.out _).mono ?_); rintro e w2 ⟨rfl, hb⟩; have HB := Lib.hid hb; clear hb)
        | (refine wpList_store_row rfl 53 (.tmp 5) (.tmp 17) rfl w2.heap.size (rowOf .u8 32 F) rfl rfl 53 _ (heap_alloc_new _ _) (by rw [rowOf_size]; kernel_rfl) (by rw [rowOf_size]; kernel_rfl) (rowOf_one _ _ _) ?_; rw [World.setRow_alloc_new]))
      go_ret
      exact ⟨rfl, HB.out.trans ((below_alloc _ _).mono HB.out.size)⟩
    | some n =>
      simp only [errV] at HP
      go_enter Tryz.func188, Tryz.ntmps188
      go_wp2_with (first
        | (go_at_call 231; (with_reducible refine (HC.out _).mono ?_); rintro e w1 ⟨rfl, hw⟩; obtain rfl := hw.symm)
        | (go_at_call 232; (with_reducible refine (HP.out _).mono ?_); rintro e w2 ⟨rfl, hb⟩; have HB := Lib.hid hb; clear hb)
        | (refine wpList_store_row rfl 53 (.tmp 5) (.tmp 17) rfl w2.heap.size (rowOf .u8 32 F) rfl rfl 53 _ (heap_alloc_new _ _) (by rw [rowOf_size]; kernel_rfl) (by rw [rowOf_size]; kernel_rfl) (rowOf_one _ _ _) ?_; rw [World.setRow_alloc_new]))
      go_ret
      exact ⟨rfl, HB.out.trans ((below_alloc _ _).mono HB.out.size)⟩
theorem ccheck_any (s : ByteArray) (w : World) (hs : s.size ≤ 140737488351232) : Calls Tryz.prog 129 #[.string s] w fun e w' => e = .returned (errV (chkD s)) ∧ Below w.heap.size w w' := by
  have HB1 := Lib.hid (fun w => cbase_any s w (by omega))
  have HV := Lib.hid (fun w => cvou_any s w hs)
  unfold chkD
  obtain ⟨x, hx⟩ : ∃ x, x = baseB s := ⟨_, rfl⟩
  obtain ⟨y, hy⟩ : ∃ x, x = vouB s := ⟨_, rfl⟩
  rw [← hx] at HB1 ⊢
  rw [← hy] at HV ⊢
  clear hx hy hs
  have HB := Lib.hid (Below.refl w.heap.size w)
  cases x <;> cases y <;>
  · go_enter Tryz.func129, Tryz.ntmps129
    go_wp2_with (first
      | (go_at_call 187; (with_reducible refine (HB1.out _).mono ?_); rintro e w1 ⟨rfl, hb⟩; replace HB := Lib.hid (HB.out.trans (hb.mono HB.out.size)); clear hb)
      | (go_at_call 188; (with_reducible refine (HV.out _).mono ?_); rintro e w2 ⟨rfl, hb⟩; replace HB := Lib.hid (HB.out.trans (hb.mono HB.out.size)); clear hb))
    go_ret
    exact ⟨rfl, HB.out⟩
end Go.Proofs.YtejglhlodfhgkaaGreatDoor

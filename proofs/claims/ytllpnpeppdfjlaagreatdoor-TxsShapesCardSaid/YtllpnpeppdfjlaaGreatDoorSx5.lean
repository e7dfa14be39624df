/- Part 5 of the proof. -/
import Derived.Lib.LaidTab
import Derived.Lib.SmallJoins
import Derived.Deep.Fields
import Derived.Test.YtllpnpeppdfjlaaGreatDoorSx1
import Derived.Test.YtllpnpeppdfjlaaGreatDoorSx2
import Derived.Test.YtllpnpeppdfjlaaGreatDoorSx3
import Derived.Test.YtllpnpeppdfjlaaGreatDoorSx4
namespace Go.Proofs.YtllpnpeppdfjlaaGreatDoor
set_option linter.unusedVariables false
set_option linter.unusedSimpArgs false
open Go.RowKit
set_option maxRecDepth 100000
def hexc (c : Int) : Bool := decide (48 ≤ c ∧ c ≤ 57) || decide (97 ≤ c ∧ c ≤ 102)
def hexv (c : Int) : Int := if 48 ≤ c ∧ c ≤ 57 then c - 48 else if 97 ≤ c ∧ c ≤ 102 then c - 87 else 0
theorem hexv_bounds (c : Int) : 0 ≤ hexv c ∧ hexv c < 16 := by unfold hexv; split <;> (try split) <;> omega
def parF (xs : List Int) : Nat → Int := fun i => 16 * hexv (xs.getD (2 * i) 0) + hexv (xs.getD (2 * i + 1) 0)
def parK (xs : List Int) (k : Nat) : Nat → Int := fun i => if i < k then parF xs i else 0
def parR (xs : List Int) : (Nat → Int) × Option Nat := if xs.length = 64 ∧ xs.all hexc = true then (parF xs, none) else (fun _ => 0, some 3)
theorem parK_zero (xs : List Int) : parK xs 0 = fun _ => 0 := by funext i; unfold parK; rw [if_neg (by omega)]
theorem parK_succ (xs : List Int) (k : Nat) (v : Int) (hv : v = parF xs k) : upd (parK xs k) k v = parK xs (k + 1) := by
  subst hv
  funext i
  unfold upd parK
  by_cases h : i = k
  · subst h; rw [if_pos rfl, if_pos (by omega)]
  · rw [if_neg h]
    by_cases h2 : i < k
    · rw [if_pos h2, if_pos (by omega)]
    · rw [if_neg h2, if_neg (by omega)]
theorem parR_long (xs : List Int) (h : xs.length ≠ 64) : parR xs = (fun _ => 0, some 3) := by unfold parR; rw [if_neg (fun e => h e.1)]
theorem parR_bad (xs : List Int) (i : Nat) (c : Int) (hi : xs[i]? = some c) (hc : hexc c = false) : parR xs = (fun _ => 0, some 3) := by
  unfold parR
  rw [if_neg]
  rintro ⟨_, h⟩
  have := List.all_eq_true.1 h c (List.mem_of_getElem? hi)
  rw [hc] at this; cases this
theorem parR_good (xs : List Int) (h1 : xs.length = 64) (h2 : ∀ (i : Nat) (c : Int), xs[i]? = some c → hexc c = true) : parR xs = (parF xs, none) := by
  unfold parR
  rw [if_pos ⟨h1, List.all_eq_true.2 fun c hc => by obtain ⟨i, hi⟩ := List.getElem?_of_mem hc; exact h2 i c hi⟩]
theorem idx_fin : ∀ n : Fin 256, Lib.indexByte [48, 49, 50, 51, 52, 53, 54, 55, 56, 57, 97, 98, 99, 100, 101, 102] (UInt8.ofNat n.val) = if hexc (n.val : Int) then hexv (n.val : Int) else -1 := by decide
theorem idx_hex (b : UInt8) : Lib.indexByte [48, 49, 50, 51, 52, 53, 54, 55, 56, 57, 97, 98, 99, 100, 101, 102] b = if hexc (b.toNat : Int) then hexv (b.toNat : Int) else -1 := by
  have := idx_fin ⟨b.toNat, b.toNat_lt⟩
  simpa using this
theorem index_str (s : ByteArray) (i : Nat) (h : i < s.size) : (numsOf s)[i]? = some (s[i].toNat : Int) := by
  unfold numsOf
  rw [List.getElem?_map, Array.getElem?_toList]
  show Option.map _ (s.data[i]?) = _
  rw [Array.getElem?_eq_getElem h]
  rfl
theorem idx_any (c : UInt8) (w : World) : Calls Tryz.prog 267 #[.string { data := #[48, 49, 50, 51, 52, 53, 54, 55, 56, 57, 97, 98, 99, 100, 101, 102] }, .int .u8 (c.toNat : Int)] w fun e w' => e = .returned (.int .i64 (if hexc (c.toNat : Int) then hexv (c.toNat : Int) else -1)) ∧ w' = w := by
  refine (Tryz.strings_IndexByte _ _ w).mono ?_
  rintro e w' ⟨rfl, rfl⟩
  refine ⟨?_, rfl⟩
  have e1 : ((c.toNat : Int)).toNat.toUInt8 = c := by rw [Int.toNat_natCast]; exact UInt8.ofNat_toNat
  rw [e1]
  have := idx_hex c
  exact congrArg (fun x => Ending.returned (Value.int IntKind.i64 x)) this
theorem idx_yes (c : UInt8) (h : hexc (c.toNat : Int) = true) (w : World) : Calls Tryz.prog 267 #[.string { data := #[48, 49, 50, 51, 52, 53, 54, 55, 56, 57, 97, 98, 99, 100, 101, 102] }, .int .u8 (c.toNat : Int)] w fun e w' => e = .returned (.int .i64 (hexv (c.toNat : Int))) ∧ w' = w := by
  have := idx_any c w; rw [if_pos h] at this; exact this
theorem idx_not (c : UInt8) (h : hexc (c.toNat : Int) = false) (w : World) : Calls Tryz.prog 267 #[.string { data := #[48, 49, 50, 51, 52, 53, 54, 55, 56, 57, 97, 98, 99, 100, 101, 102] }, .int .u8 (c.toNat : Int)] w fun e w' => e = .returned (.int .i64 (-1)) ∧ w' = w := by
  have := idx_any c w; rw [if_neg (by rw [h]; simp)] at this; exact this
theorem or16_fin : ∀ a b : Fin 16, bits BinOp.or IntKind.i64 ((a.val : Int) * 16) (b.val : Int) % 256 = 16 * (a.val : Int) + (b.val : Int) := by decide
theorem or16 (a b : Int) (h0 : 0 ≤ a) (h1 : a < 16) (h2 : 0 ≤ b) (h3 : b < 16) : bits BinOp.or IntKind.i64 (a * 16) b % 256 = 16 * a + b := by
  have := or16_fin ⟨a.toNat, by omega⟩ ⟨b.toNat, by omega⟩
  simp only [Int.toNat_of_nonneg h0, Int.toNat_of_nonneg h2] at this
  exact this
set_option maxHeartbeats 1000000 in
theorem parse_any (s : ByteArray) (w : World) (hs : s.size ≤ maxLen) :
    Calls Tryz.prog 247 #[.string s] w fun e w' => e = .returned (.tuple #[.agg (rowOf .u8 32 (parR (numsOf s)).1), errV (parR (numsOf s)).2]) ∧ Below w.heap.size w w' := by
  unfold maxLen at hs
  by_cases h64 : s.size = 64
  · have HR0 := Lib.hid (show RowAt ((w.alloc (.cells (rowOf .u8 32 (fun _ => 0)) 85)).alloc (.cells (rowOf .u8 32 (fun _ => 0)) 85)) w.heap.size .u8 32 85 (fun _ => 0) from (RowAt.new w .u8 32 85 (fun _ => 0)).alloc _)
    have HR1 := Lib.hid (show RowAt ((w.alloc (.cells (rowOf .u8 32 (fun _ => 0)) 85)).alloc (.cells (rowOf .u8 32 (fun _ => 0)) 85)) (w.heap.size + 1) .u8 32 85 (parK (numsOf s) 0) from by
      rw [parK_zero]
      have := RowAt.new (w.alloc (.cells (rowOf .u8 32 (fun _ => 0)) 85)) .u8 32 85 (fun _ => 0)
      rw [size_alloc] at this; exact this)
    have HB := Lib.hid ((below_alloc w (.cells (rowOf .u8 32 (fun _ => 0)) 85)).trans ((below_alloc _ (.cells (rowOf .u8 32 (fun _ => 0)) 85)).mono (by simp)))
    have HLEN := Lib.hid (show (numsOf s).length = 64 by rw [numsOf_length]; exact h64)
    have h64' : (s.size : Int) = 64 := by omega
    have HS := Lib.hid h64
    go_enter Tryz.func247, Tryz.ntmps247
    go_upto_region 2 with (fail)
    rw [zeros32]
    generalize (w.alloc (.cells (rowOf .u8 32 (fun _ => 0)) 85)).alloc (.cells (rowOf .u8 32 (fun _ => 0)) 85) = w1 at *
    go_wp2_with (fail)
    go_loopw [13] (fun i wr => ∃ k : Nat, k ≤ 32 ∧ i = .int .i64 k ∧ Hid (∀ i c, i < 2 * k → (numsOf s)[i]? = some c → hexc c = true) ∧ Hid (RowAt wr w.heap.size .u8 32 85 (fun _ => 0) ∧ RowAt wr (w.heap.size + 1) .u8 32 85 (parK (numsOf s) k) ∧ Below w.heap.size w wr)) (fun i _ => 32 - (intOf i).toNat)
    case atStart => exact ⟨0, by omega, rfl, Lib.hid (fun i c h => by omega), Lib.hid ⟨HR0.out, HR1.out, HB.out⟩⟩
    case round =>
      clear HR0 HR1 HB
      obtain ⟨k, hk, rfl, HALL, H⟩ := hrel
      by_cases hlt : k < 32
      · have l0 : 2 * k < s.size := by omega
        have l1 : 2 * k + 1 < s.size := by omega
        have i0 := index_str s (2 * k) l0
        have i1 := index_str s (2 * k + 1) l1
        obtain ⟨a, ha⟩ : ∃ a, a = s[2 * k] := ⟨_, rfl⟩
        obtain ⟨b, hb⟩ : ∃ b, b = s[2 * k + 1] := ⟨_, rfl⟩
        have n0 : (2 * (k : Int)).toNat = 2 * k := by omega
        have n1 : (2 * (k : Int) + 1).toNat = 2 * k + 1 := by omega
        have g0 : 2 * (k : Int) < s.size := by omega
        have g1 : 2 * (k : Int) + 1 < s.size := by omega
        rw [← ha] at i0
        rw [← hb] at i1
        obtain ⟨A, hA⟩ : ∃ A, A = hexv (a.toNat : Int) := ⟨_, rfl⟩
        obtain ⟨B, hB⟩ : ∃ B, B = hexv (b.toNat : Int) := ⟨_, rfl⟩
        obtain ⟨hA0, hA1⟩ := hexv_bounds (a.toNat : Int)
        obtain ⟨hB0, hB1⟩ := hexv_bounds (b.toNat : Int)
        rw [← hA] at hA0 hA1
        rw [← hB] at hB0 hB1
        replace hA := Lib.hid hA
        replace hB := Lib.hid hB
        replace ha := Lib.hid ha
        replace hb := Lib.hid hb
        cases hca : hexc (a.toNat : Int) with
        | false =>
          have HP := Lib.hid (parR_bad _ _ _ i0 hca)
          have HIA := Lib.hid (idx_not a hca)
          cases hcb : hexc (b.toNat : Int) with
          | false =>
            have HIB := Lib.hid (idx_not b hcb)
            go_wp2_with (first
              | (go_at_call 267; rw [← ha.out]; (with_reducible refine (HIA.out _).mono ?_); rintro e w' ⟨rfl, rfl⟩)
              | (go_at_call 267; rw [← hb.out]; (with_reducible refine (HIB.out _).mono ?_); rintro e w' ⟨rfl, rfl⟩)
              | (refine wpList_store_row rfl 85 (.tmp 2) (.tmp 33) rfl w.heap.size (rowOf .u8 32 (fun _ => 0)) rfl rfl 85 _ H.out.1 (by rw [rowOf_size]; kernel_rfl) rfl (rowOf_one _ _ _) ?_))
            refine bodyPost_ret (results_cell_tmp_row rfl _ _ w.heap.size 85 (rowOf .u8 32 (fun _ => 0)) (0, 0) _ rfl (setRow_heap _ _ _ _ _ _ H.out.1) Tryz.underlying85 rfl (by rw [rowOf_size]; kernel_rfl)) rfl ?_
            exact ⟨by rw [HP.out]; rfl, below_setRow H.out.2.2 (Nat.le_refl _) _⟩
          | true =>
            have HIB := Lib.hid (idx_yes b hcb)
            rw [← hB.out] at HIB
            go_wp2_with (first
              | (go_at_call 267; rw [← ha.out]; (with_reducible refine (HIA.out _).mono ?_); rintro e w' ⟨rfl, rfl⟩)
              | (go_at_call 267; rw [← hb.out]; (with_reducible refine (HIB.out _).mono ?_); rintro e w' ⟨rfl, rfl⟩)
              | (refine wpList_store_row rfl 85 (.tmp 2) (.tmp 33) rfl w.heap.size (rowOf .u8 32 (fun _ => 0)) rfl rfl 85 _ H.out.1 (by rw [rowOf_size]; kernel_rfl) rfl (rowOf_one _ _ _) ?_))
            refine bodyPost_ret (results_cell_tmp_row rfl _ _ w.heap.size 85 (rowOf .u8 32 (fun _ => 0)) (0, 0) _ rfl (setRow_heap _ _ _ _ _ _ H.out.1) Tryz.underlying85 rfl (by rw [rowOf_size]; kernel_rfl)) rfl ?_
            exact ⟨by rw [HP.out]; rfl, below_setRow H.out.2.2 (Nat.le_refl _) _⟩
        | true =>
          have HIA := Lib.hid (idx_yes a hca)
          rw [← hA.out] at HIA
          cases hcb : hexc (b.toNat : Int) with
          | false =>
            have HP := Lib.hid (parR_bad _ _ _ i1 hcb)
            have HIB := Lib.hid (idx_not b hcb)
            go_wp2_with (first
              | (go_at_call 267; rw [← ha.out]; (with_reducible refine (HIA.out _).mono ?_); rintro e w' ⟨rfl, rfl⟩)
              | (go_at_call 267; rw [← hb.out]; (with_reducible refine (HIB.out _).mono ?_); rintro e w' ⟨rfl, rfl⟩)
              | (refine wpList_store_row rfl 85 (.tmp 2) (.tmp 33) rfl w.heap.size (rowOf .u8 32 (fun _ => 0)) rfl rfl 85 _ H.out.1 (by rw [rowOf_size]; kernel_rfl) rfl (rowOf_one _ _ _) ?_))
            refine bodyPost_ret (results_cell_tmp_row rfl _ _ w.heap.size 85 (rowOf .u8 32 (fun _ => 0)) (0, 0) _ rfl (setRow_heap _ _ _ _ _ _ H.out.1) Tryz.underlying85 rfl (by rw [rowOf_size]; kernel_rfl)) rfl ?_
            exact ⟨by rw [HP.out]; rfl, below_setRow H.out.2.2 (Nat.le_refl _) _⟩
          | true =>
            have HIB := Lib.hid (idx_yes b hcb)
            rw [← hB.out] at HIB
            have c0 := H.out.2.1.cell k (by omega)
            have f0 := H.out.2.1.free k
            have HPK := Lib.hid (show 16 * A + B = parF (numsOf s) k by
              unfold parF
              rw [List.getD, i0, List.getD, i1, hA.out, hB.out]; rfl)
            go_wp2_with (first
              | (go_at_call 267; rw [← ha.out]; (with_reducible refine (HIA.out _).mono ?_); rintro e w' ⟨rfl, rfl⟩)
              | (go_at_call 267; rw [← hb.out]; (with_reducible refine (HIB.out _).mono ?_); rintro e w' ⟨rfl, rfl⟩))
            have HOR := Lib.hid (or16 A B hA0 hA1 hB0 hB1)
            go_roundw
            case rel =>
              rw [HOR.out]
              have R := H.out.2.1.set k (16 * A + B)
              rw [parK_succ _ _ _ HPK.out] at R
              refine ⟨k + 1, by omega, by go_num, Lib.hid (fun i c hi hc => ?_), Lib.hid ⟨H.out.1.other _ _ (by simp), R, H.out.2.2.setCell (by show w.heap.size ≤ w.heap.size + 1; omega) _⟩⟩
              rcases (by omega : i < 2 * k ∨ i = 2 * k ∨ i = 2 * k + 1) with h | h | h
              · exact HALL.out i c h hc
              · subst h; rw [i0] at hc; cases hc; exact hca
              · subst h; rw [i1] at hc; cases hc; exact hcb
            case measure => simp [intOf]; omega
      · obtain rfl : k = 32 := by omega
        have HP := Lib.hid (parR_good (numsOf s) HLEN.out (fun i c hc => HALL.out i c (by have := (List.getElem?_eq_some_iff.1 hc).1; rw [HLEN.out] at this; omega) hc))
        go_wp2_with (first
          | (refine wpList_load_row rfl 85 (.tmp 4) rfl (w.heap.size + 1) rfl 85 _ (0, 0) _ H.out.2.1 Tryz.underlying85 rfl (by rw [rowOf_size]; kernel_rfl) ?_)
          | (refine wpList_store_row rfl 85 (.tmp 2) (.tmp 43) rfl w.heap.size _ rfl rfl 85 _ H.out.1 (by rw [rowOf_size]; kernel_rfl) (by rw [rowOf_size, rowOf_size]) (rowOf_one _ _ _) ?_))
        refine bodyPost_ret (results_cell_tmp_row rfl _ _ w.heap.size 85 (rowOf .u8 32 (parK (numsOf s) 32)) (0, 0) _ rfl (setRow_heap _ _ _ _ _ _ H.out.1) Tryz.underlying85 rfl (by rw [rowOf_size]; kernel_rfl)) rfl ?_
        refine ⟨?_, below_setRow H.out.2.2 (Nat.le_refl _) _⟩
        rw [HP.out]
        have e : rowOf .u8 32 (parK (numsOf s) 32) = rowOf .u8 32 (parF (numsOf s)) := rowOf_congr _ _ _ _ (fun i hi => by unfold parK; rw [if_pos hi])
        rw [e]; rfl
  · have HR0 := Lib.hid (show RowAt ((w.alloc (.cells (rowOf .u8 32 (fun _ => 0)) 85)).alloc (.cells (rowOf .u8 32 (fun _ => 0)) 85)) w.heap.size .u8 32 85 (fun _ => 0) from (RowAt.new w .u8 32 85 (fun _ => 0)).alloc _)
    have HB := Lib.hid ((below_alloc w (.cells (rowOf .u8 32 (fun _ => 0)) 85)).trans ((below_alloc _ (.cells (rowOf .u8 32 (fun _ => 0)) 85)).mono (by simp)))
    have HP := Lib.hid (parR_long (numsOf s) (by rw [numsOf_length]; exact h64))
    have hd : ((s.size : Int) == 64) = false := by rw [beq_eq_false_iff_ne]; omega
    have hd2 : ¬ (s.size : Int) = 64 := by omega
    go_enter Tryz.func247, Tryz.ntmps247
    go_upto_region 2 with (fail)
    rw [zeros32]
    generalize (w.alloc (.cells (rowOf .u8 32 (fun _ => 0)) 85)).alloc (.cells (rowOf .u8 32 (fun _ => 0)) 85) = w1 at *
    go_wp2_with (refine wpList_store_row rfl 85 (.tmp 2) (.tmp 11) rfl w.heap.size (rowOf .u8 32 (fun _ => 0)) rfl rfl 85 _ HR0.out (by rw [rowOf_size]; kernel_rfl) rfl (rowOf_one _ _ _) ?_)
    refine bodyPost_ret (results_cell_tmp_row rfl _ _ w.heap.size 85 (rowOf .u8 32 (fun _ => 0)) (0, 0) _ rfl (setRow_heap _ _ _ _ _ _ HR0.out) Tryz.underlying85 rfl (by rw [rowOf_size]; kernel_rfl)) rfl ?_
    exact ⟨by rw [HP.out]; rfl, below_setRow HB.out (Nat.le_refl _) _⟩
end Go.Proofs.YtllpnpeppdfjlaaGreatDoor
namespace Go.Proofs.YtllpnpeppdfjlaaGreatDoor
set_option linter.unusedVariables false
set_option linter.unusedSimpArgs false
open Go.RowKit
set_option maxRecDepth 100000
set_option linter.unusedSimpArgs false
set_option linter.unusedVariables false
def restS (s : ByteArray) : ByteArray := ⟨(Lib.trimPrefix s.data.toList [105, 98, 99, 47]).toArray⟩
def hasPre (s : ByteArray) : Bool := Lib.hasPrefix s.data.toList [105, 98, 99, 47]
def vouB (s : ByteArray) : Bool := hasPre s && (parR (numsOf (restS s))).2.isNone
def chkD (s : ByteArray) : Option Nat := if baseB s || vouB s then none else some 40
theorem rest_size (s : ByteArray) : (restS s).size ≤ s.size := by
  have h : ∀ l : List UInt8, (⟨l.toArray⟩ : ByteArray).size = l.length := fun l => List.size_toArray
  unfold restS
  rw [h]
  unfold Lib.trimPrefix
  split
  · rw [List.length_drop, size14]; exact Nat.sub_le _ _
  · rw [size14]; exact Nat.le_refl _
theorem cvou_any (s : ByteArray) (w : World) (hs : s.size ≤ 140737488351232) : Calls Tryz.prog 195 #[.string s] w fun e w' => e = .returned (.bool (vouB s)) ∧ Below w.heap.size w w' := by
  have HC := Lib.hid (show ∀ w, Calls Tryz.prog 246 #[.string s, .string { data := #[105, 98, 99, 47] }] w fun e w' => e = .returned (.tuple #[.string (restS s), .bool (hasPre s)]) ∧ w' = w from fun w => Any.strings_CutPrefix Tryz.lays103 s { data := #[105, 98, 99, 47] } w)
  have HP := Lib.hid (fun w => parse_any (restS s) w (by have := rest_size s; unfold maxLen; omega))
  unfold vouB
  obtain ⟨r, hr⟩ : ∃ r, r = restS s := ⟨_, rfl⟩
  obtain ⟨x, hx⟩ : ∃ x, x = hasPre s := ⟨_, rfl⟩
  rw [← hr, ← hx] at HC
  rw [← hr] at HP
  rw [← hr, ← hx]
  obtain ⟨F, hF⟩ : ∃ f, f = (parR (numsOf r)).1 := ⟨_, rfl⟩
  obtain ⟨E, hE⟩ : ∃ f, f = (parR (numsOf r)).2 := ⟨_, rfl⟩
  rw [← hF, ← hE] at HP
  rw [← hE]
  clear hr hx hF hE
  cases x with
  | false =>
    go_enter Tryz.func195, Tryz.ntmps195
    go_wp2_with (go_at_call 246; (with_reducible refine (HC.out _).mono ?_); rintro e w1 ⟨rfl, hw⟩; obtain rfl := hw.symm)
    go_ret
    exact ⟨rfl, Below.refl _ _⟩
  | true =>
    cases E with
    | none =>
      simp only [errV] at HP
      go_enter Tryz.func195, Tryz.ntmps195
      go_wp2_with (first
        | (go_at_call 246; (with_reducible refine (HC.out _).mono ?_); rintro e w1 ⟨rfl, hw⟩; obtain rfl := hw.symm)
        | (go_at_call 247; (with_reducible refine (HP.out _).mono ?_); rintro e w2 ⟨rfl, hb⟩; have HB := Lib.hid hb; clear hb)
        | (refine wpList_store_row rfl 85 (.tmp 5) (.tmp 17) rfl w2.heap.size (rowOf .u8 32 F) rfl rfl 85 _ (heap_alloc_new _ _) (by rw [rowOf_size]; kernel_rfl) (by rw [rowOf_size]; kernel_rfl) (rowOf_one _ _ _) ?_; rw [World.setRow_alloc_new]))
      go_ret
      exact ⟨rfl, HB.out.trans ((below_alloc _ _).mono HB.out.size)⟩
    | some n =>
      simp only [errV] at HP
      go_enter Tryz.func195, Tryz.ntmps195
      go_wp2_with (first
        | (go_at_call 246; (with_reducible refine (HC.out _).mono ?_); rintro e w1 ⟨rfl, hw⟩; obtain rfl := hw.symm)
        | (go_at_call 247; (with_reducible refine (HP.out _).mono ?_); rintro e w2 ⟨rfl, hb⟩; have HB := Lib.hid hb; clear hb)
        | (refine wpList_store_row rfl 85 (.tmp 5) (.tmp 17) rfl w2.heap.size (rowOf .u8 32 F) rfl rfl 85 _ (heap_alloc_new _ _) (by rw [rowOf_size]; kernel_rfl) (by rw [rowOf_size]; kernel_rfl) (rowOf_one _ _ _) ?_; rw [World.setRow_alloc_new]))
      go_ret
      exact ⟨rfl, HB.out.trans ((below_alloc _ _).mono HB.out.size)⟩
theorem ccheck_any (s : ByteArray) (w : World) (hs : s.size ≤ 140737488351232) : Calls Tryz.prog 130 #[.string s] w fun e w' => e = .returned (errV (chkD s)) ∧ Below w.heap.size w w' := by
  have HB1 := Lib.hid (fun w => cbase_any s w (by omega))
  have HV := Lib.hid (fun w => cvou_any s w hs)
  unfold chkD
  obtain ⟨x, hx⟩ : ∃ x, x = baseB s := ⟨_, rfl⟩
  obtain ⟨y, hy⟩ : ∃ x, x = vouB s := ⟨_, rfl⟩
  rw [← hx] at HB1 ⊢
  rw [← hy] at HV ⊢
  clear hx hy hs
  have HB := Lib.hid (Below.refl w.heap.size w)
  cases x <;> cases y <;>
  · go_enter Tryz.func130, Tryz.ntmps130
    go_wp2_with (first
      | (go_at_call 194; (with_reducible refine (HB1.out _).mono ?_); rintro e w1 ⟨rfl, hb⟩; replace HB := Lib.hid (HB.out.trans (hb.mono HB.out.size)); clear hb)
      | (go_at_call 195; (with_reducible refine (HV.out _).mono ?_); rintro e w2 ⟨rfl, hb⟩; replace HB := Lib.hid (HB.out.trans (hb.mono HB.out.size)); clear hb))
    go_ret
    exact ⟨rfl, HB.out⟩
end Go.Proofs.YtllpnpeppdfjlaaGreatDoor
namespace Go.Proofs.YtllpnpeppdfjlaaGreatDoor
set_option linter.unusedVariables false
set_option linter.unusedSimpArgs false
open Go.RowKit
set_option maxRecDepth 100000
set_option linter.unusedSimpArgs false
set_option linter.unusedVariables false
def accB (s : ByteArray) : Bool := decide (2 ≤ s.size ∧ s.size ≤ 20) && (consB (s.extract 0 1) letL && consB s alnL)
def kindB (k : Int) : Bool := decide (1 ≤ k) && decide (k ≤ 18)
def shpL : List (Nat × Nat × Nat) := [(0, 0, 0), (2, 1, 0), (0, 1, 0), (0, 1, 0), (1, 1, 2), (1, 0, 1), (1, 0, 2), (2, 0, 0), (3, 1, 1), (2, 1, 1), (1, 1, 1), (4, 1, 0), (5, 2, 1), (3, 1, 1), (2, 1, 1), (5, 3, 0), (4, 4, 2), (4, 4, 3), (4, 4, 2)]
def shp (k : Int) : Nat × Nat × Nat := if kindB k then shpL.getD k.toNat (0, 0, 0) else (0, 0, 0)
def longM (m : Pm) : Bool := m.ts.all (fun s => decide (s.size ≤ 256)) && m.ds.all (fun b => decide (b.length ≤ 16384))
def formM (m : Pm) : Bool := kindB m.kind && (decide (m.ts.length = (shp m.kind).1) && (decide (m.is.length = (shp m.kind).2.1) && decide (m.ds.length = (shp m.kind).2.2)))
def chkM (m : Pm) : Option Nat := if formM m then (if longM m then none else some 2) else some 1
def chkMs : List Pm → Option Nat
  | [] => none
  | m :: r => match chkM m with
    | some e => some e
    | none => chkMs r
def chkL (l : List Pm) : Option Nat := if l.length = 0 ∨ 8 < l.length then some 1 else chkMs l
def chkF (den : ByteArray) (amt : Int) : Option Nat := match chkD den with
  | some e => some e
  | none => if amt < 0 ∨ 1152921504606846976 < amt then some 44 else none
def chkX (x : Px) : Option Nat := if accB x.acc then (if x.seq < 0 ∨ 1099511627776 < x.seq then some 43 else match chkF x.den x.amt with
    | some e => some e
    | none => match chkL x.ms with
      | some e => some e
      | none => if 8192 < x.sg.length then some 2 else none) else some 42
theorem tcons_any (s t : ByteArray) (w : World) (hts : t.size < 4294967281) (ha : t.data.toList.all (fun b => decide (b.toNat < 128)) = true) :
    Calls Tryz.prog 129 #[.string s, .string t] w fun e w' => e = .returned (.bool (consB s t.data.toList)) ∧ Below w.heap.size w w' := by
  have HC := Lib.hid (show Calls Tryz.prog 193 #[.string s, .string t] w fun e w' => e = .returned (.string ⟨(Lib.trimLeftS s.data.toList t.data.toList).toArray⟩) ∧ Below w.heap.size w w' from Any.strings_TrimLeft_laid Tryz.lays161 (by kernel_rfl) s t w hts (ascii_of_all ha))
  have k0 := trim_nilE s t.data.toList
  obtain ⟨r, hr⟩ : ∃ r : ByteArray, r = ⟨(Lib.trimLeftS s.data.toList t.data.toList).toArray⟩ := ⟨_, rfl⟩
  rw [← hr] at HC k0
  obtain ⟨b, hb⟩ : ∃ b, b = consB s t.data.toList := ⟨_, rfl⟩
  rw [← hb] at k0 ⊢
  clear hr hb hts ha
  go_enter Tryz.func129, Tryz.ntmps129
  go_wp2_with (go_at_call 193; (with_reducible refine HC.out.mono ?_); rintro e w1 ⟨rfl, hb⟩; have HB := Lib.hid hb; clear hb)
  go_ret
  exact ⟨rfl, HB.out⟩
theorem tacc_any (s : ByteArray) (w : World) (hs : s.size ≤ 9223372036854775807) : Calls Tryz.prog 75 #[.string s] w fun e w' => e = .returned (.bool (accB s)) ∧ Below w.heap.size w w' := by
  have HC1 := Lib.hid (show ∀ s w, Calls Tryz.prog 129 #[.string s, .string { data := #[97, 98, 99, 100, 101, 102, 103, 104, 105, 106, 107, 108, 109, 110, 111, 112, 113, 114, 115, 116, 117, 118, 119, 120, 121, 122] }] w fun e w' => e = .returned (.bool (consB s letL)) ∧ Below w.heap.size w w' from fun s w => tcons_any s { data := #[97, 98, 99, 100, 101, 102, 103, 104, 105, 106, 107, 108, 109, 110, 111, 112, 113, 114, 115, 116, 117, 118, 119, 120, 121, 122] } w (by decide) (by decide))
  have HC2 := Lib.hid (show ∀ w, Calls Tryz.prog 129 #[.string s, .string { data := #[97, 98, 99, 100, 101, 102, 103, 104, 105, 106, 107, 108, 109, 110, 111, 112, 113, 114, 115, 116, 117, 118, 119, 120, 121, 122, 48, 49, 50, 51, 52, 53, 54, 55, 56, 57] }] w fun e w' => e = .returned (.bool (consB s alnL)) ∧ Below w.heap.size w w' from fun w => tcons_any s { data := #[97, 98, 99, 100, 101, 102, 103, 104, 105, 106, 107, 108, 109, 110, 111, 112, 113, 114, 115, 116, 117, 118, 119, 120, 121, 122, 48, 49, 50, 51, 52, 53, 54, 55, 56, 57] } w (by decide) (by decide))
  by_cases h1 : 2 ≤ s.size
  · have h1I : ¬ (s.size : Int) < 2 := by omega
    by_cases h2 : s.size ≤ 20
    · have h2I : ¬ (20 : Int) < (s.size : Int) := by omega
      rw [show accB s = (consB (s.extract 0 1) letL && consB s alnL) from by unfold accB; rw [decide_eq_true ⟨h1, h2⟩]; rfl]
      replace HC1 := Lib.hid (HC1.out (s.extract 0 1))
      obtain ⟨b, hb⟩ : ∃ b, b = consB (s.extract 0 1) letL := ⟨_, rfl⟩
      obtain ⟨c, hc⟩ : ∃ b, b = consB s alnL := ⟨_, rfl⟩
      rw [← hb] at HC1 ⊢
      rw [← hc] at HC2 ⊢
      have h3I : (1 : Int) ≤ (s.size : Int) := by omega
      clear hb hc h1 h2
      cases b
      · go_enter Tryz.func75, Tryz.ntmps75
        go_wp2_with (go_at_call 129; (with_reducible refine (HC1.out _).mono ?_); rintro e w1 ⟨rfl, hb⟩; have HB := Lib.hid hb; clear hb)
        go_ret
        exact ⟨rfl, HB.out⟩
      · go_enter Tryz.func75, Tryz.ntmps75
        go_wp2_with (first
          | (go_at_call 129; (with_reducible refine (HC1.out _).mono ?_); rintro e w1 ⟨rfl, hb⟩; have HB := Lib.hid hb; clear hb)
          | (go_at_call 129; (with_reducible refine (HC2.out _).mono ?_); rintro e w2 ⟨rfl, hb⟩; have HB2 := Lib.hid (HB.out.trans (hb.mono HB.out.size)); clear hb))
        go_ret
        exact ⟨rfl, HB2.out⟩
    · have h2I : (20 : Int) < (s.size : Int) := by omega
      rw [show accB s = false from by unfold accB; rw [decide_eq_false (by omega)]; rfl]
      clear h1 h2 HC1 HC2
      go_enter Tryz.func75, Tryz.ntmps75
      go_wp2_with (fail)
      go_ret
      exact ⟨rfl, Below.refl _ _⟩
  · have h1I : (s.size : Int) < 2 := by omega
    rw [show accB s = false from by unfold accB; rw [decide_eq_false (by omega)]; rfl]
    clear h1 HC1 HC2
    go_enter Tryz.func75, Tryz.ntmps75
    go_wp2_with (fail)
    go_ret
    exact ⟨rfl, Below.refl _ _⟩
theorem tkind_any (k : Int) (w : World) : Calls Tryz.prog 88 #[.int .i64 k] w fun e w' => e = .returned (.bool (kindB k)) ∧ w' = w := by
  by_cases h1 : 1 ≤ k
  · rw [show kindB k = decide (k ≤ 18) from by unfold kindB; rw [decide_eq_true h1]; rfl]
    go_enter Tryz.func88, Tryz.ntmps88
    go_wp2_with (fail)
    go_ret
    exact ⟨rfl, rfl⟩
  · rw [show kindB k = false from by unfold kindB; rw [decide_eq_false h1]; rfl]
    go_enter Tryz.func88, Tryz.ntmps88
    go_wp2_with (fail)
    go_ret
    exact ⟨rfl, rfl⟩
end Go.Proofs.YtllpnpeppdfjlaaGreatDoor
namespace Go.Proofs.YtllpnpeppdfjlaaGreatDoor
set_option linter.unusedVariables false
set_option linter.unusedSimpArgs false
open Go.RowKit Go.ChangeShapes
set_option maxRecDepth 100000
set_option linter.unusedSimpArgs false
set_option linter.unusedVariables false
def shpR (r : Nat × Nat × Nat) : List Int := [(r.1 : Int), (r.2.1 : Int), (r.2.2 : Int)]
/-- the table lies there -/
def ShTab (w : World) : Prop := ∀ (i : Nat) (r : Nat × Nat × Nat), shpL[i]? = some r → w.cell? ⟨0, i * 3, none⟩ = some (.int .i64 (r.1 : Int)) ∧ w.cell? ⟨0, i * 3 + 1, none⟩ = some (.int .i64 (r.2.1 : Int)) ∧ w.cell? ⟨0, i * 3 + 2, none⟩ = some (.int .i64 (r.2.2 : Int))
theorem ShTab.lt {w : World} (h : ShTab w) : 0 < w.heap.size := World.block_lt_of_cell? w _ (h 0 (0, 0, 0) rfl).1
theorem ShTab.below {w w' : World} {B : Nat} (h : ShTab w) (hb : Below B w w') (hB : 0 < B) : ShTab w' := fun i r hi => by
  obtain ⟨h1, h2, h3⟩ := h i r hi
  exact ⟨(hb.cell (p := ⟨0, i * 3, none⟩) hB).trans h1, (hb.cell (p := ⟨0, i * 3 + 1, none⟩) hB).trans h2, (hb.cell (p := ⟨0, i * 3 + 2, none⟩) hB).trans h3⟩
theorem shape_raw {H : Type} {enc : TypeId × Value → H} {W : World} {base : Nat} {sp : Nat → Bool} {held : Bool} {fuel : Nat} {cs : List Value} {a b c : Int} {p : List MemPlace} (h : DataW.trod enc Tryz.prog W base sp held fuel 163 cs = some (.agg [.lit (.int .i64 a), .lit (.int .i64 b), .lit (.int .i64 c)], p)) : cs = [.int .i64 a, .int .i64 b, .int .i64 c] := by
  obtain ⟨xs, m, _, hxe, hlen, hxl, hf⟩ := DataW.trod_struct Tryz.underlying163 h
  rw [show Tryz.prog.cellsOf 163 = 3 by kernel_rfl] at hlen
  simp only [List.size_toArray, List.length_cons, List.length_nil] at hxl
  have g : ∀ i, i < 3 → ∃ y, xs[i]? = some y := fun i hi => ⟨xs[i], List.getElem?_eq_getElem (by omega)⟩
  obtain ⟨y0, e0⟩ := g 0 (by omega)
  obtain ⟨y1, e1⟩ := g 1 (by omega)
  obtain ⟨y2, e2⟩ := g 2 (by omega)
  have f0 : DataW.trod enc Tryz.prog W base sp held m 3 ((cs.drop 0).take (Tryz.prog.cellsOf 3)) = xs[0]? := hf 0 _ rfl
  have f1 : DataW.trod enc Tryz.prog W base sp held m 3 ((cs.drop 1).take (Tryz.prog.cellsOf 3)) = xs[1]? := hf 1 _ rfl
  have f2 : DataW.trod enc Tryz.prog W base sp held m 3 ((cs.drop 2).take (Tryz.prog.cellsOf 3)) = xs[2]? := hf 2 _ rfl
  rw [e0, show Tryz.prog.cellsOf 3 = 1 by kernel_rfl] at f0
  rw [e1, show Tryz.prog.cellsOf 3 = 1 by kernel_rfl] at f1
  rw [e2, show Tryz.prog.cellsOf 3 = 1 by kernel_rfl] at f2
  obtain ⟨k0, h0, x0, _⟩ := DataW.trod_int Tryz.underlying3 f0
  obtain ⟨k1, h1, x1, _⟩ := DataW.trod_int Tryz.underlying3 f1
  obtain ⟨k2, h2, x2, _⟩ := DataW.trod_int Tryz.underlying3 f2
  have hx := (Prod.mk.inj hxe).1
  injection hx with hx
  have l : ∀ (i : Nat) (y : DataW H × List MemPlace), xs[i]? = some y → (xs.map (·.1))[i]? = some y.1 := fun i y e => by rw [List.getElem?_map, e]; rfl
  have l0 := l 0 _ e0
  have l1 := l 1 _ e1
  have l2 := l 2 _ e2
  rw [← hx] at l0 l1 l2
  rw [x0] at l0
  rw [x1] at l1
  rw [x2] at l2
  simp only [List.getElem?_cons_zero, List.getElem?_cons_succ, Option.some.injEq, DataW.lit.injEq, Lit.int.injEq, true_and] at l0 l1 l2
  subst l0 l1 l2
  have e := congrArg List.length h0
  match cs, hlen with
  | [u, v, z], _ =>
    simp at h0 h1 h2
    rw [h0, h1, h2]
theorem shapes_raw {H : Type} {enc : TypeId × Value → H} {W : World} {base : Nat} {sp : Nat → Bool} {held : Bool} {fuel : Nat} {cs : List Value} {rs : List (Nat × Nat × Nat)} {p : List MemPlace}
    (h : DataW.trod enc Tryz.prog W base sp held fuel 164 cs = some (.agg (rs.map fun r => .agg ((shpR r).map fun z => .lit (.int .i64 z))), p)) : ∀ (i : Nat) (r : Nat × Nat × Nat), rs[i]? = some r → cs[i * 3]? = some (.int .i64 (r.1 : Int)) ∧ cs[i * 3 + 1]? = some (.int .i64 (r.2.1 : Int)) ∧ cs[i * 3 + 2]? = some (.int .i64 (r.2.2 : Int)) := by
  cases fuel with
  | zero => simp [DataW.trod] at h
  | succ fuel =>
    simp only [DataW.trod, Tryz.underlying164, show Tryz.prog.cellsOf 163 = 3 by kernel_rfl] at h
    split at h
    · rename_i hl
      obtain ⟨xs, hm, hx⟩ := Option.map_eq_some_iff.1 h
      have hxs : xs.map (·.1) = rs.map fun r => (.agg ((shpR r).map fun z => .lit (.int .i64 z)) : DataW H) := by
        have := congrArg Prod.fst hx
        simpa using this
      have hxl : xs.length = 19 := by simpa using Lib.mapM_length hm
      have hrl : rs.length = 19 := by
        have := congrArg List.length hxs
        simp at this
        omega
      intro i r hi
      have hi19 : i < 19 := by have := (List.getElem?_eq_some_iff.1 hi).1; omega
      obtain ⟨b, hb, hf⟩ := Lib.mapM_at hm i i (by simp [hi19])
      have h2 : (xs.map (·.1))[i]? = some b.1 := by rw [List.getElem?_map, hb]; rfl
      rw [hxs, List.getElem?_map, hi] at h2
      simp only [Option.map_some, Option.some.injEq] at h2
      have hf' : DataW.trod enc Tryz.prog W base sp held fuel 163 ((cs.drop (i * 3)).take 3) = some (.agg [.lit (.int .i64 (r.1 : Int)), .lit (.int .i64 (r.2.1 : Int)), .lit (.int .i64 (r.2.2 : Int))], b.2) := by
        rw [hf]
        show some (b.1, b.2) = _
        rw [← h2]; rfl
      have hc := shape_raw hf'
      have k : ∀ j, j < 3 → cs[i * 3 + j]? = ((cs.drop (i * 3)).take 3)[j]? := fun j hj => by rw [List.getElem?_take, if_pos hj, List.getElem?_drop]
      have k0 := k 0 (by omega)
      have k1 := k 1 (by omega)
      have k2 := k 2 (by omega)
      rw [hc] at k0 k1 k2
      exact ⟨k0, k1, k2⟩
    · cases h
theorem shTab_of_head {W : World} {rest : List (String × DataW Unit)} (hg : Tryz.prog.globalNamed "isthmus/txs.shapes" = some 0) (hty : (Tryz.prog.globals[0]?).map (·.type) = some 164)
    (h : laidMet Tryz.prog (("isthmus/txs.shapes", .agg (shpL.map fun r => .agg ((shpR r).map fun z => .lit (.int .i64 z)))) :: rest) W) : ShTab W := by
  obtain ⟨ps, ⟨g', t', cs, fuel, p, q, hg', ht', hvar, hd, _, _⟩, _⟩ := h
  obtain rfl := Option.some.inj (hg.symm.trans hg')
  obtain rfl := Option.some.inj (hty.symm.trans ht')
  intro i r hi
  obtain ⟨h0, h1, h2⟩ := shapes_raw hd i r hi
  exact ⟨(World.var?_cell hg hvar (i * 3)).trans (by simpa using h0), (World.var?_cell hg hvar (i * 3 + 1)).trans (by simpa using h1), (World.var?_cell hg hvar (i * 3 + 2)).trans (by simpa using h2)⟩
end Go.Proofs.YtllpnpeppdfjlaaGreatDoor
namespace Go.Proofs.YtllpnpeppdfjlaaGreatDoor
set_option linter.unusedVariables false
set_option linter.unusedSimpArgs false
open Go.RowKit
set_option maxRecDepth 100000
set_option linter.unusedSimpArgs false
set_option linter.unusedVariables false
theorem cnt_le15 (s : RSt) (most : Nat) : (countS s most).1 ≤ most := by
  unfold countS
  split
  · exact Nat.zero_le _
  · split
    · exact Nat.zero_le _
    · obtain ⟨ys, e⟩ := s
      cases e with
      | some x => exact Nat.zero_le _
      | none =>
        cases h : (rdF ys most).2.2 with
        | some x => rw [uintS_bad h]; exact Nat.zero_le _
        | none => rw [uintS_good h]; exact (rdF_ok h).2.2
/-- k readings on -/
def rN (f : RSt → RSt) : Nat → RSt → RSt
  | 0, s => s
  | k + 1, s => f (rN f k s)
def rL {β : Type} (V : RSt → β) (f : RSt → RSt) : Nat → RSt → List β
  | 0, _ => []
  | k + 1, s => rL V f k s ++ [V (rN f k s)]
theorem rN_front (f : RSt → RSt) (s : RSt) : ∀ k, rN f (k + 1) s = rN f k (f s)
  | 0 => rfl
  | k + 1 => by rw [rN, rN_front f s k, rN]
theorem rL_front {β : Type} (V : RSt → β) (f : RSt → RSt) (s : RSt) : ∀ k, rL V f (k + 1) s = V s :: rL V f k (f s)
  | 0 => rfl
  | k + 1 => by rw [rL, rL_front V f s k, rN_front, rL, List.cons_append]
theorem rNE {f : RSt → RSt} (hf : ∀ s : RSt, s.1 = [] → (f s).1 = []) {s : RSt} (h : s.1 = []) : ∀ k, (rN f k s).1 = []
  | 0 => h
  | k + 1 => hf _ (rNE hf h k)
/-- a list with its number ahead: what is read, and what is left -/
def lstV {β : Type} (V : RSt → β) (f : RSt → RSt) (most : Nat) (s : RSt) : List β := rL V f (countS s most).1 (countS s most).2
def lstR (f : RSt → RSt) (most : Nat) (s : RSt) : RSt := rN f (countS s most).1 (countS s most).2
theorem lstE {f : RSt → RSt} (hf : ∀ s : RSt, s.1 = [] → (f s).1 = []) {most : Nat} {s : RSt} (h : s.1 = []) : (lstR f most s).1 = [] := rNE hf (cntE11 h) _
structure LgM {α β : Type} (n : Nat) (C : α → List Value) (E : TypeId) (In : World → α → Prop) (F : α → Nat → Prop) (pu : α → β) (V : RSt → β) (R : RSt → RSt) (w : World) (p : Nat) (ob : Option Nat) (s1 : RSt) (B k : Nat) (vv : Value) (xs : List α) (wr : World) : Prop where
  row : wr.ownsRow B E n vv xs.length (xs.flatMap C)
  len : xs.length = k
  eq : xs.map pu = rL V R k s1
  el : ∀ x ∈ xs, In wr x ∧ ∀ j, F x j → B ≤ j ∧ j < wr.heap.size ∧ vv.ownBlock ≠ some j
  rd : RO wr p ob (rN R k s1)
  only : Only p w wr
  B0 : w.heap.size ≤ B
  B1 : B ≤ wr.heap.size
  pB : p < B
  ob : s1.1 ≠ [] → ∀ j, ob = some j → j < B
def LgR {α β : Type} (n : Nat) (C : α → List Value) (E : TypeId) (In : World → α → Prop) (F : α → Nat → Prop) (pu : α → β) (V : RSt → β) (R : RSt → RSt) (w : World) (p : Nat) (ob : Option Nat) (s1 : RSt) (B k : Nat) (vv : Value) (wr : World) : Prop := ∃ xs, LgM n C E In F pu V R w p ob s1 B k vv xs wr
/-- a list read: all of it is new from block N on -/
structure LgO {α : Type} (n : Nat) (C : α → List Value) (In : World → α → Prop) (F : α → Nat → Prop) (w : World) (N : Nat) (vv : Value) (xs : List α) : Prop where
  rows : RowsIn n C w vv xs
  own : ∀ j, vv.ownBlock = some j → N ≤ j ∧ j < w.heap.size
  el : ∀ x ∈ xs, In w x ∧ ∀ j, F x j → N ≤ j ∧ j < w.heap.size
section
variable {α β : Type} {n : Nat} {C : α → List Value} {E : TypeId} {In : World → α → Prop} {F : α → Nat → Prop} {pu : α → β} {V : RSt → β} {R : RSt → RSt}
theorem LgO.only {w w' : World} {N p : Nat} {vv : Value} {xs : List α} (hk : ∀ w w' x, In w x → w.heap.size ≤ w'.heap.size → (∀ k, F x k → w'.heap[k]? = w.heap[k]?) → In w' x) (h : LgO n C In F w N vv xs) (ho : Only p w w') (hp : p < N) : LgO n C In F w' N vv xs :=
  ⟨h.rows.keep ho.size fun k e => by have := h.own k e; exact ho.block k this.2 (by omega), fun j e => ⟨(h.own j e).1, Nat.lt_of_lt_of_le (h.own j e).2 ho.size⟩, fun x hx => ⟨hk w w' x (h.el x hx).1 ho.size fun k e => by have := (h.el x hx).2 k e; exact ho.block k this.2 (by omega), fun j e => ⟨((h.el x hx).2 j e).1, Nat.lt_of_lt_of_le ((h.el x hx).2 j e).2 ho.size⟩⟩⟩
theorem LgO.below {w w' : World} {N : Nat} {vv : Value} {xs : List α} (hk : ∀ w w' x, In w x → w.heap.size ≤ w'.heap.size → (∀ k, F x k → w'.heap[k]? = w.heap[k]?) → In w' x) (h : LgO n C In F w N vv xs) (ho : Below w.heap.size w w') : LgO n C In F w' N vv xs :=
  ⟨h.rows.keep ho.size fun k e => ho.block k (h.own k e).2, fun j e => ⟨(h.own j e).1, Nat.lt_of_lt_of_le (h.own j e).2 ho.size⟩, fun x hx => ⟨hk w w' x (h.el x hx).1 ho.size fun k e => ho.block k ((h.el x hx).2 k e).2, fun j e => ⟨((h.el x hx).2 j e).1, Nat.lt_of_lt_of_le ((h.el x hx).2 j e).2 ho.size⟩⟩⟩
theorem LgO.mono {w : World} {N M : Nat} {vv : Value} {xs : List α} (h : LgO n C In F w N vv xs) (hm : M ≤ N) : LgO n C In F w M vv xs :=
  ⟨h.rows, fun j e => ⟨Nat.le_trans hm (h.own j e).1, (h.own j e).2⟩, fun x hx => ⟨(h.el x hx).1, fun j e => ⟨Nat.le_trans hm ((h.el x hx).2 j e).1, ((h.el x hx).2 j e).2⟩⟩⟩
theorem LgM.new {w : World} {p : Nat} {ob : Option Nat} {s1 : RSt} {B k : Nat} {vv : Value} {xs : List α} {wr : World} (m : LgM n C E In F pu V R w p ob s1 B k vv xs wr) {j : Nat} (h : vv.ownBlock = some j) : B ≤ j ∧ j < wr.heap.size := m.row.lt j h
theorem LgM.start {w w1 : World} {p : Nat} {ob : Option Nat} {s1 : RSt} (hr : RO w1 p ob s1) (ho : Only p w w1) (hp : p < w.heap.size) : LgR n C E In F pu V R w p ob s1 w1.heap.size 0 (.slice none 0 0) w1 :=
  ⟨[], World.ownsRow_nil _ _ _ _, rfl, rfl, (fun x hx => by cases hx), hr, ho, ho.size, Nat.le_refl _, Nat.lt_of_lt_of_le hp ho.size, hr.own11⟩
theorem LgM.row3 {w : World} {p : Nat} {ob : Option Nat} {s1 : RSt} {B k : Nat} {vv : Value} {xs : List α} {wr w2 w3 : World} (m : LgM n C E In F pu V R w p ob s1 B k vv xs wr) (ho : Only p wr w2) (hb : Below w2.heap.size w2 w3) : w3.ownsRow B E n vv xs.length (xs.flatMap C) := by
  refine own_stay11 m.row fun j hj => ?_
  have := m.new hj
  have := m.pB
  rw [hb.block j (Nat.lt_of_lt_of_le (m.new hj).2 ho.size), ho.block j (m.new hj).2 (by omega)]
theorem LgM.next {w : World} {p : Nat} {ob : Option Nat} {s1 : RSt} {B k : Nat} {vv v4 : Value} {xs : List α} {x : α} {wr w2 w3 w4 : World} (hk : ∀ w w' x, In w x → w.heap.size ≤ w'.heap.size → (∀ k, F x k → w'.heap[k]? = w.heap[k]?) → In w' x) (hE : ∀ s : RSt, s.1 = [] → (R s).1 = [])
    (m : LgM n C E In F pu V R w p ob s1 B k vv xs wr) (ho : Only p wr w2) (hb : Below w2.heap.size w2 w3)
    (ho4 : w4.ownsRow B E n v4 (xs ++ [x]).length ((xs ++ [x]).flatMap C)) (hg4 : w3.grownBy w4 vv.ownBlock) (hw4 : v4.ownBlock = vv.ownBlock ∨ v4.ownBlock = some w3.heap.size)
    (hi : In w2 x) (hnw : ∀ j, F x j → wr.heap.size ≤ j ∧ j < w2.heap.size) (hp : pu x = V (rN R k s1)) (hr : RO w2 p ob (R (rN R k s1))) : LgR n C E In F pu V R w p ob s1 B (k + 1) v4 w4 := by
  have hpB := m.pB
  have hB1 := m.B1
  have hs1 := ho.size
  have hs2 := hb.size
  have hs3 := hg4.size
  have ho3 : Only p wr w3 := ho.trans (Only.of_below hb)
  have hst : ∀ j, j < w3.heap.size → vv.ownBlock ≠ some j → w4.heap[j]? = w3.heap[j]? := fun j hj hne => hg4.block j hj (fun e => hne e.symm)
  have hv4 : ∀ j, v4.ownBlock = some j → vv.ownBlock = some j ∨ j = w3.heap.size := fun j hj => by
    rcases hw4 with h | h
    · exact .inl (h ▸ hj)
    · rw [h] at hj; cases hj; exact .inr rfl
  refine ⟨xs ++ [x], ho4, by rw [List.length_append, m.len]; rfl, by rw [List.map_append, m.eq, rL, ← hp]; rfl, ?_, ?_, ?_, m.B0, by omega, hpB, m.ob⟩
  · intro t ht
    rcases List.mem_append.1 ht with ht | ht
    · obtain ⟨h1, h2⟩ := m.el t ht
      refine ⟨hk wr w4 t h1 (by omega) fun j hj => ?_, fun j hj => ⟨(h2 j hj).1, by have := (h2 j hj).2.1; omega, fun e => ?_⟩⟩
      · have h3 := h2 j hj
        rw [hst j (by omega) h3.2.2, ho3.block j h3.2.1 (by omega)]
      · rcases hv4 j e with h | h
        · exact (h2 j hj).2.2 h
        · have := (h2 j hj).2.1; omega
    · rw [List.mem_singleton.1 ht]
      have hne : ∀ j, F x j → vv.ownBlock ≠ some j := fun j hj e => by have := (m.new e).2; have := (hnw j hj).1; omega
      refine ⟨hk w2 w4 x hi (by omega) fun j hj => ?_, fun j hj => ?_⟩
      · have h5 := hnw j hj
        rw [hst j (by omega) (hne j hj), hb.block j h5.2]
      · have h5 := hnw j hj
        exact ⟨by omega, by omega, fun e => by
          rcases hv4 j e with h | h
          · exact hne j hj h
          · omega⟩
  · show RO w4 p ob (rN R (k + 1) s1)
    obtain ⟨y, hy, rfl⟩ := hr.below11 hb
    refine ⟨y, hy.keep (hst p (by omega) fun e => by have := (m.new e).1; omega) fun hn j hj => hst j (hy.own_lt hn j hj) fun e => ?_, rfl⟩
    have h7 := m.ob (fun e0 => hn (rNE hE e0 (k + 1))) j hj
    have := (m.new e).1
    omega
  · have hw0 : Only p w w3 := m.only.trans ho3
    exact ⟨hg4.os.trans hw0.os, hg4.tape.trans hw0.tape, hg4.output.trans hw0.output, Nat.le_trans hw0.size hg4.size, fun j hj hjp => (hst j (Nat.lt_of_lt_of_le hj hw0.size) fun e => by have := (m.new e).1; have := m.B0; omega).trans (hw0.block j hj hjp)⟩
theorem LgM.fin {w : World} {p : Nat} {ob : Option Nat} {s1 : RSt} {B k : Nat} {vv : Value} {xs : List α} {wr : World} (hC : ∀ t, (C t).length = n) (hk : k ≤ maxLen) (m : LgM n C E In F pu V R w p ob s1 B k vv xs wr) : LgO n C In F wr w.heap.size vv xs :=
  ⟨rows_of_own hC m.row (by rw [m.len]; exact hk), fun j e => ⟨Nat.le_trans m.B0 (m.new e).1, (m.new e).2⟩, fun x hx => ⟨(m.el x hx).1, fun j e => ⟨Nat.le_trans m.B0 ((m.el x hx).2 j e).1, ((m.el x hx).2 j e).2.1⟩⟩⟩
end
end Go.Proofs.YtllpnpeppdfjlaaGreatDoor

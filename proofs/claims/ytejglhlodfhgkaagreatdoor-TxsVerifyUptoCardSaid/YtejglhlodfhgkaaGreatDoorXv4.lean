/- Part 4 of the proof. -/
import Derived.Laws.IdiomStrings
import Derived.Test.YtejglhlodfhgkaaGreatDoorXv1
import Derived.Test.YtejglhlodfhgkaaGreatDoorXv2
import Derived.Test.YtejglhlodfhgkaaGreatDoorXv3
namespace Go.Proofs.YtejglhlodfhgkaaGreatDoor
set_option linter.unusedVariables false
set_option linter.unusedSimpArgs false
open Go.RowKit
set_option maxRecDepth 100000
def hexc (c : Int) : Bool := decide (48 ≤ c ∧ c ≤ 57) || decide (97 ≤ c ∧ c ≤ 102)
def hexv (c : Int) : Int := if 48 ≤ c ∧ c ≤ 57 then c - 48 else if 97 ≤ c ∧ c ≤ 102 then c - 87 else 0
theorem hexv_bounds (c : Int) : 0 ≤ hexv c ∧ hexv c < 16 := by unfold hexv; split <;> (try split) <;> omega
def parF (xs : List Int) : Nat → Int := fun i => 16 * hexv (xs.getD (2 * i) 0) + hexv (xs.getD (2 * i + 1) 0)
def parK (xs : List Int) (k : Nat) : Nat → Int := fun i => if i < k then parF xs i else 0
def parR (xs : List Int) : (Nat → Int) × Option Nat := if xs.length = 64 ∧ xs.all hexc = true then (parF xs, none) else (fun _ => 0, some 3)
theorem parK_zero (xs : List Int) : parK xs 0 = fun _ => 0 := by funext i; unfold parK; rw [if_neg (by omega)]
theorem parK_succ (xs : List Int) (k : Nat) (v : Int) (hv : v = parF xs k) : upd (parK xs k) k v = parK xs (k + 1) := by
  subst hv
  funext i
  unfold upd parK
  by_cases h : i = k
  · subst h; rw [if_pos rfl, if_pos (by omega)]
  · rw [if_neg h]
    by_cases h2 : i < k
    · rw [if_pos h2, if_pos (by omega)]
    · rw [if_neg h2, if_neg (by omega)]
theorem parR_long (xs : List Int) (h : xs.length ≠ 64) : parR xs = (fun _ => 0, some 3) := by unfold parR; rw [if_neg (fun e => h e.1)]
theorem parR_bad (xs : List Int) (i : Nat) (c : Int) (hi : xs[i]? = some c) (hc : hexc c = false) : parR xs = (fun _ => 0, some 3) := by
  unfold parR
  rw [if_neg]
  rintro ⟨_, h⟩
  have := List.all_eq_true.1 h c (List.mem_of_getElem? hi)
  rw [hc] at this; cases this
theorem parR_good (xs : List Int) (h1 : xs.length = 64) (h2 : ∀ (i : Nat) (c : Int), xs[i]? = some c → hexc c = true) : parR xs = (parF xs, none) := by
  unfold parR
  rw [if_pos ⟨h1, List.all_eq_true.2 fun c hc => by obtain ⟨i, hi⟩ := List.getElem?_of_mem hc; exact h2 i c hi⟩]
theorem idx_fin : ∀ n : Fin 256, Lib.indexByte [48, 49, 50, 51, 52, 53, 54, 55, 56, 57, 97, 98, 99, 100, 101, 102] (UInt8.ofNat n.val) = if hexc (n.val : Int) then hexv (n.val : Int) else -1 := by decide
theorem idx_hex (b : UInt8) : Lib.indexByte [48, 49, 50, 51, 52, 53, 54, 55, 56, 57, 97, 98, 99, 100, 101, 102] b = if hexc (b.toNat : Int) then hexv (b.toNat : Int) else -1 := by
  have := idx_fin ⟨b.toNat, b.toNat_lt⟩
  simpa using this
theorem index_str (s : ByteArray) (i : Nat) (h : i < s.size) : (numsOf s)[i]? = some (s[i].toNat : Int) := by
  unfold numsOf
  rw [List.getElem?_map, Array.getElem?_toList]
  show Option.map _ (s.data[i]?) = _
  rw [Array.getElem?_eq_getElem h]
  rfl
theorem idx_any (c : UInt8) (w : World) : Calls Tryz.prog 253 #[.string { data := #[48, 49, 50, 51, 52, 53, 54, 55, 56, 57, 97, 98, 99, 100, 101, 102] }, .int .u8 (c.toNat : Int)] w fun e w' => e = .returned (.int .i64 (if hexc (c.toNat : Int) then hexv (c.toNat : Int) else -1)) ∧ w' = w := by
  refine (Tryz.strings_IndexByte _ _ w).mono ?_
  rintro e w' ⟨rfl, rfl⟩
  refine ⟨?_, rfl⟩
  have e1 : ((c.toNat : Int)).toNat.toUInt8 = c := by rw [Int.toNat_natCast]; exact UInt8.ofNat_toNat
  rw [e1]
  have := idx_hex c
  exact congrArg (fun x => Ending.returned (Value.int IntKind.i64 x)) this
theorem idx_yes (c : UInt8) (h : hexc (c.toNat : Int) = true) (w : World) : Calls Tryz.prog 253 #[.string { data := #[48, 49, 50, 51, 52, 53, 54, 55, 56, 57, 97, 98, 99, 100, 101, 102] }, .int .u8 (c.toNat : Int)] w fun e w' => e = .returned (.int .i64 (hexv (c.toNat : Int))) ∧ w' = w := by
  have := idx_any c w; rw [if_pos h] at this; exact this
theorem idx_not (c : UInt8) (h : hexc (c.toNat : Int) = false) (w : World) : Calls Tryz.prog 253 #[.string { data := #[48, 49, 50, 51, 52, 53, 54, 55, 56, 57, 97, 98, 99, 100, 101, 102] }, .int .u8 (c.toNat : Int)] w fun e w' => e = .returned (.int .i64 (-1)) ∧ w' = w := by
  have := idx_any c w; rw [if_neg (by rw [h]; simp)] at this; exact this
theorem or16_fin : ∀ a b : Fin 16, bits BinOp.or IntKind.i64 ((a.val : Int) * 16) (b.val : Int) % 256 = 16 * (a.val : Int) + (b.val : Int) := by decide
theorem or16 (a b : Int) (h0 : 0 ≤ a) (h1 : a < 16) (h2 : 0 ≤ b) (h3 : b < 16) : bits BinOp.or IntKind.i64 (a * 16) b % 256 = 16 * a + b := by
  have := or16_fin ⟨a.toNat, by omega⟩ ⟨b.toNat, by omega⟩
  simp only [Int.toNat_of_nonneg h0, Int.toNat_of_nonneg h2] at this
  exact this
set_option maxHeartbeats 1000000 in
theorem parse_any (s : ByteArray) (w : World) (hs : s.size ≤ maxLen) :
    Calls Tryz.prog 232 #[.string s] w fun e w' => e = .returned (.tuple #[.agg (rowOf .u8 32 (parR (numsOf s)).1), errV (parR (numsOf s)).2]) ∧ Below w.heap.size w w' := by
  unfold maxLen at hs
  by_cases h64 : s.size = 64
  · have HR0 := Lib.hid (show RowAt ((w.alloc (.cells (rowOf .u8 32 (fun _ => 0)) 53)).alloc (.cells (rowOf .u8 32 (fun _ => 0)) 53)) w.heap.size .u8 32 53 (fun _ => 0) from (RowAt.new w .u8 32 53 (fun _ => 0)).alloc _)
    have HR1 := Lib.hid (show RowAt ((w.alloc (.cells (rowOf .u8 32 (fun _ => 0)) 53)).alloc (.cells (rowOf .u8 32 (fun _ => 0)) 53)) (w.heap.size + 1) .u8 32 53 (parK (numsOf s) 0) from by
      rw [parK_zero]
      have := RowAt.new (w.alloc (.cells (rowOf .u8 32 (fun _ => 0)) 53)) .u8 32 53 (fun _ => 0)
      rw [size_alloc] at this; exact this)
    have HB := Lib.hid ((below_alloc w (.cells (rowOf .u8 32 (fun _ => 0)) 53)).trans ((below_alloc _ (.cells (rowOf .u8 32 (fun _ => 0)) 53)).mono (by simp)))
    have HLEN := Lib.hid (show (numsOf s).length = 64 by rw [numsOf_length]; exact h64)
    have h64' : (s.size : Int) = 64 := by omega
    have HS := Lib.hid h64
    go_enter Tryz.func232, Tryz.ntmps232
    go_upto_region 2 with (fail)
    rw [zeros32]
    generalize (w.alloc (.cells (rowOf .u8 32 (fun _ => 0)) 53)).alloc (.cells (rowOf .u8 32 (fun _ => 0)) 53) = w1 at *
    go_wp2_with (fail)
    go_loopw [13] (fun i wr => ∃ k : Nat, k ≤ 32 ∧ i = .int .i64 k ∧ Hid (∀ i c, i < 2 * k → (numsOf s)[i]? = some c → hexc c = true) ∧ Hid (RowAt wr w.heap.size .u8 32 53 (fun _ => 0) ∧ RowAt wr (w.heap.size + 1) .u8 32 53 (parK (numsOf s) k) ∧ Below w.heap.size w wr)) (fun i _ => 32 - (intOf i).toNat)
    case atStart => exact ⟨0, by omega, rfl, Lib.hid (fun i c h => by omega), Lib.hid ⟨HR0.out, HR1.out, HB.out⟩⟩
    case round =>
      clear HR0 HR1 HB
      obtain ⟨k, hk, rfl, HALL, H⟩ := hrel
      by_cases hlt : k < 32
      · have l0 : 2 * k < s.size := by omega
        have l1 : 2 * k + 1 < s.size := by omega
        have i0 := index_str s (2 * k) l0
        have i1 := index_str s (2 * k + 1) l1
        obtain ⟨a, ha⟩ : ∃ a, a = s[2 * k] := ⟨_, rfl⟩
        obtain ⟨b, hb⟩ : ∃ b, b = s[2 * k + 1] := ⟨_, rfl⟩
        have n0 : (2 * (k : Int)).toNat = 2 * k := by omega
        have n1 : (2 * (k : Int) + 1).toNat = 2 * k + 1 := by omega
        have g0 : 2 * (k : Int) < s.size := by omega
        have g1 : 2 * (k : Int) + 1 < s.size := by omega
        rw [← ha] at i0
        rw [← hb] at i1
        obtain ⟨A, hA⟩ : ∃ A, A = hexv (a.toNat : Int) := ⟨_, rfl⟩
        obtain ⟨B, hB⟩ : ∃ B, B = hexv (b.toNat : Int) := ⟨_, rfl⟩
        obtain ⟨hA0, hA1⟩ := hexv_bounds (a.toNat : Int)
        obtain ⟨hB0, hB1⟩ := hexv_bounds (b.toNat : Int)
        rw [← hA] at hA0 hA1
        rw [← hB] at hB0 hB1
        replace hA := Lib.hid hA
        replace hB := Lib.hid hB
        replace ha := Lib.hid ha
        replace hb := Lib.hid hb
        cases hca : hexc (a.toNat : Int) with
        | false =>
          have HP := Lib.hid (parR_bad _ _ _ i0 hca)
          have HIA := Lib.hid (idx_not a hca)
          cases hcb : hexc (b.toNat : Int) with
          | false =>
            have HIB := Lib.hid (idx_not b hcb)
            go_wp2_with (first
              | (go_at_call 253; rw [← ha.out]; (with_reducible refine (HIA.out _).mono ?_); rintro e w' ⟨rfl, rfl⟩)
              | (go_at_call 253; rw [← hb.out]; (with_reducible refine (HIB.out _).mono ?_); rintro e w' ⟨rfl, rfl⟩)
              | (refine wpList_store_row rfl 53 (.tmp 2) (.tmp 33) rfl w.heap.size (rowOf .u8 32 (fun _ => 0)) rfl rfl 53 _ H.out.1 (by rw [rowOf_size]; kernel_rfl) rfl (rowOf_one _ _ _) ?_))
            refine bodyPost_ret (results_cell_tmp_row rfl _ _ w.heap.size 53 (rowOf .u8 32 (fun _ => 0)) (0, 0) _ rfl (setRow_heap _ _ _ _ _ _ H.out.1) Tryz.underlying53 rfl (by rw [rowOf_size]; kernel_rfl)) rfl ?_
            exact ⟨by rw [HP.out]; rfl, below_setRow H.out.2.2 (Nat.le_refl _) _⟩
          | true =>
            have HIB := Lib.hid (idx_yes b hcb)
            rw [← hB.out] at HIB
            go_wp2_with (first
              | (go_at_call 253; rw [← ha.out]; (with_reducible refine (HIA.out _).mono ?_); rintro e w' ⟨rfl, rfl⟩)
              | (go_at_call 253; rw [← hb.out]; (with_reducible refine (HIB.out _).mono ?_); rintro e w' ⟨rfl, rfl⟩)
              | (refine wpList_store_row rfl 53 (.tmp 2) (.tmp 33) rfl w.heap.size (rowOf .u8 32 (fun _ => 0)) rfl rfl 53 _ H.out.1 (by rw [rowOf_size]; kernel_rfl) rfl (rowOf_one _ _ _) ?_))
            refine bodyPost_ret (results_cell_tmp_row rfl _ _ w.heap.size 53 (rowOf .u8 32 (fun _ => 0)) (0, 0) _ rfl (setRow_heap _ _ _ _ _ _ H.out.1) Tryz.underlying53 rfl (by rw [rowOf_size]; kernel_rfl)) rfl ?_
            exact ⟨by rw [HP.out]; rfl, below_setRow H.out.2.2 (Nat.le_refl _) _⟩
        | true =>
          have HIA := Lib.hid (idx_yes a hca)
          rw [← hA.out] at HIA
          cases hcb : hexc (b.toNat : Int) with
          | false =>
            have HP := Lib.hid (parR_bad _ _ _ i1 hcb)
            have HIB := Lib.hid (idx_not b hcb)
            go_wp2_with (first
              | (go_at_call 253; rw [← ha.out]; (with_reducible refine (HIA.out _).mono ?_); rintro e w' ⟨rfl, rfl⟩)
              | (go_at_call 253; rw [← hb.out]; (with_reducible refine (HIB.out _).mono ?_); rintro e w' ⟨rfl, rfl⟩)
              | (refine wpList_store_row rfl 53 (.tmp 2) (.tmp 33) rfl w.heap.size (rowOf .u8 32 (fun _ => 0)) rfl rfl 53 _ H.out.1 (by rw [rowOf_size]; kernel_rfl) rfl (rowOf_one _ _ _) ?_))
            refine bodyPost_ret (results_cell_tmp_row rfl _ _ w.heap.size 53 (rowOf .u8 32 (fun _ => 0)) (0, 0) _ rfl (setRow_heap _ _ _ _ _ _ H.out.1) Tryz.underlying53 rfl (by rw [rowOf_size]; kernel_rfl)) rfl ?_
            exact ⟨by rw [HP.out]; rfl, below_setRow H.out.2.2 (Nat.le_refl _) _⟩
          | true =>
            have HIB := Lib.hid (idx_yes b hcb)
            rw [← hB.out] at HIB
            have c0 := H.out.2.1.cell k (by omega)
            have f0 := H.out.2.1.free k
            have HPK := Lib.hid (show 16 * A + B = parF (numsOf s) k by
              unfold parF
              rw [List.getD, i0, List.getD, i1, hA.out, hB.out]; rfl)
            go_wp2_with (first
              | (go_at_call 253; rw [← ha.out]; (with_reducible refine (HIA.out _).mono ?_); rintro e w' ⟨rfl, rfl⟩)
              | (go_at_call 253; rw [← hb.out]; (with_reducible refine (HIB.out _).mono ?_); rintro e w' ⟨rfl, rfl⟩))
            have HOR := Lib.hid (or16 A B hA0 hA1 hB0 hB1)
            go_roundw
            case rel =>
              rw [HOR.out]
              have R := H.out.2.1.set k (16 * A + B)
              rw [parK_succ _ _ _ HPK.out] at R
              refine ⟨k + 1, by omega, by go_num, Lib.hid (fun i c hi hc => ?_), Lib.hid ⟨H.out.1.other _ _ (by simp), R, H.out.2.2.setCell (by show w.heap.size ≤ w.heap.size + 1; omega) _⟩⟩
              rcases (by omega : i < 2 * k ∨ i = 2 * k ∨ i = 2 * k + 1) with h | h | h
              · exact HALL.out i c h hc
              · subst h; rw [i0] at hc; cases hc; exact hca
              · subst h; rw [i1] at hc; cases hc; exact hcb
            case measure => simp [intOf]; omega
      · obtain rfl : k = 32 := by omega
        have HP := Lib.hid (parR_good (numsOf s) HLEN.out (fun i c hc => HALL.out i c (by have := (List.getElem?_eq_some_iff.1 hc).1; rw [HLEN.out] at this; omega) hc))
        go_wp2_with (first
          | (refine wpList_load_row rfl 53 (.tmp 4) rfl (w.heap.size + 1) rfl 53 _ (0, 0) _ H.out.2.1 Tryz.underlying53 rfl (by rw [rowOf_size]; kernel_rfl) ?_)
          | (refine wpList_store_row rfl 53 (.tmp 2) (.tmp 43) rfl w.heap.size _ rfl rfl 53 _ H.out.1 (by rw [rowOf_size]; kernel_rfl) (by rw [rowOf_size, rowOf_size]) (rowOf_one _ _ _) ?_))
        refine bodyPost_ret (results_cell_tmp_row rfl _ _ w.heap.size 53 (rowOf .u8 32 (parK (numsOf s) 32)) (0, 0) _ rfl (setRow_heap _ _ _ _ _ _ H.out.1) Tryz.underlying53 rfl (by rw [rowOf_size]; kernel_rfl)) rfl ?_
        refine ⟨?_, below_setRow H.out.2.2 (Nat.le_refl _) _⟩
        rw [HP.out]
        have e : rowOf .u8 32 (parK (numsOf s) 32) = rowOf .u8 32 (parF (numsOf s)) := rowOf_congr _ _ _ _ (fun i hi => by unfold parK; rw [if_pos hi])
        rw [e]; rfl
  · have HR0 := Lib.hid (show RowAt ((w.alloc (.cells (rowOf .u8 32 (fun _ => 0)) 53)).alloc (.cells (rowOf .u8 32 (fun _ => 0)) 53)) w.heap.size .u8 32 53 (fun _ => 0) from (RowAt.new w .u8 32 53 (fun _ => 0)).alloc _)
    have HB := Lib.hid ((below_alloc w (.cells (rowOf .u8 32 (fun _ => 0)) 53)).trans ((below_alloc _ (.cells (rowOf .u8 32 (fun _ => 0)) 53)).mono (by simp)))
    have HP := Lib.hid (parR_long (numsOf s) (by rw [numsOf_length]; exact h64))
    have hd : ((s.size : Int) == 64) = false := by rw [beq_eq_false_iff_ne]; omega
    have hd2 : ¬ (s.size : Int) = 64 := by omega
    go_enter Tryz.func232, Tryz.ntmps232
    go_upto_region 2 with (fail)
    rw [zeros32]
    generalize (w.alloc (.cells (rowOf .u8 32 (fun _ => 0)) 53)).alloc (.cells (rowOf .u8 32 (fun _ => 0)) 53) = w1 at *
    go_wp2_with (refine wpList_store_row rfl 53 (.tmp 2) (.tmp 11) rfl w.heap.size (rowOf .u8 32 (fun _ => 0)) rfl rfl 53 _ HR0.out (by rw [rowOf_size]; kernel_rfl) rfl (rowOf_one _ _ _) ?_)
    refine bodyPost_ret (results_cell_tmp_row rfl _ _ w.heap.size 53 (rowOf .u8 32 (fun _ => 0)) (0, 0) _ rfl (setRow_heap _ _ _ _ _ _ HR0.out) Tryz.underlying53 rfl (by rw [rowOf_size]; kernel_rfl)) rfl ?_
    exact ⟨by rw [HP.out]; rfl, below_setRow HB.out (Nat.le_refl _) _⟩
end Go.Proofs.YtejglhlodfhgkaaGreatDoor
namespace Go.Proofs.YtejglhlodfhgkaaGreatDoor
set_option linter.unusedVariables false
set_option linter.unusedSimpArgs false
open Go.RowKit
set_option maxRecDepth 100000
set_option linter.unusedSimpArgs false
set_option linter.unusedVariables false
def restS (s : ByteArray) : ByteArray := ⟨(Lib.trimPrefix s.data.toList [105, 98, 99, 47]).toArray⟩
def hasPre (s : ByteArray) : Bool := Lib.hasPrefix s.data.toList [105, 98, 99, 47]
def vouB (s : ByteArray) : Bool := hasPre s && (parR (numsOf (restS s))).2.isNone
def chkD (s : ByteArray) : Option Nat := if baseB s || vouB s then none else some 40
theorem rest_size (s : ByteArray) : (restS s).size ≤ s.size := by
  have h : ∀ l : List UInt8, (⟨l.toArray⟩ : ByteArray).size = l.length := fun l => List.size_toArray
  unfold restS
  rw [h]
  unfold Lib.trimPrefix
  split
  · rw [List.length_drop, size14]; exact Nat.sub_le _ _
  · rw [size14]; exact Nat.le_refl _
theorem cvou_any (s : ByteArray) (w : World) (hs : s.size ≤ 140737488351232) : Calls Tryz.prog 188 #[.string s] w fun e w' => e = .returned (.bool (vouB s)) ∧ Below w.heap.size w w' := by
  have HC := Lib.hid (show ∀ w, Calls Tryz.prog 231 #[.string s, .string { data := #[105, 98, 99, 47] }] w fun e w' => e = .returned (.tuple #[.string (restS s), .bool (hasPre s)]) ∧ w' = w from fun w => Any.strings_CutPrefix Tryz.lays103 s { data := #[105, 98, 99, 47] } w)
  have HP := Lib.hid (fun w => parse_any (restS s) w (by have := rest_size s; unfold maxLen; omega))
  unfold vouB
  obtain ⟨r, hr⟩ : ∃ r, r = restS s := ⟨_, rfl⟩
  obtain ⟨x, hx⟩ : ∃ x, x = hasPre s := ⟨_, rfl⟩
  rw [← hr, ← hx] at HC
  rw [← hr] at HP
  rw [← hr, ← hx]
  obtain ⟨F, hF⟩ : ∃ f, f = (parR (numsOf r)).1 := ⟨_, rfl⟩
  obtain ⟨E, hE⟩ : ∃ f, f = (parR (numsOf r)).2 := ⟨_, rfl⟩
  rw [← hF, ← hE] at HP
  rw [← hE]
  clear hr hx hF hE
  cases x with
  | false =>
    go_enter Tryz.func188, Tryz.ntmps188
    go_wp2_with (go_at_call 231; (with_reducible refine (HC.out _).mono ?_); rintro e w1 ⟨rfl, hw⟩; obtain rfl := hw.symm)
    go_ret
    exact ⟨rfl, Below.refl _ _⟩
  | true =>
    cases E with
    | none =>
      simp only [errV] at HP
      go_enter Tryz.func188, Tryz.ntmps188
      go_wp2_with (first
        | (go_at_call 231; (with_reducible refine (HC.out _).mono ?_); rintro e w1 ⟨rfl, hw⟩; obtain rfl := hw.symm)
        | (go_at_call 232; (with_reducible refine (HP.out _).mono ?_); rintro e w2 ⟨rfl, hb⟩; have HB := Lib.hid hb; clear hb)
        | (refine wpList_store_row rfl 53 (.tmp 5) (.tmp 17) rfl w2.heap.size (rowOf .u8 32 F) rfl rfl 53 _ (heap_alloc_new _ _) (by rw [rowOf_size]; kernel_rfl) (by rw [rowOf_size]; kernel_rfl) (rowOf_one _ _ _) ?_; rw [World.setRow_alloc_new]))
      go_ret
      exact ⟨rfl, HB.out.trans ((below_alloc _ _).mono HB.out.size)⟩
    | some n =>
      simp only [errV] at HP
      go_enter Tryz.func188, Tryz.ntmps188
      go_wp2_with (first
        | (go_at_call 231; (with_reducible refine (HC.out _).mono ?_); rintro e w1 ⟨rfl, hw⟩; obtain rfl := hw.symm)
        | (go_at_call 232; (with_reducible refine (HP.out _).mono ?_); rintro e w2 ⟨rfl, hb⟩; have HB := Lib.hid hb; clear hb)
        | (refine wpList_store_row rfl 53 (.tmp 5) (.tmp 17) rfl w2.heap.size (rowOf .u8 32 F) rfl rfl 53 _ (heap_alloc_new _ _) (by rw [rowOf_size]; kernel_rfl) (by rw [rowOf_size]; kernel_rfl) (rowOf_one _ _ _) ?_; rw [World.setRow_alloc_new]))
      go_ret
      exact ⟨rfl, HB.out.trans ((below_alloc _ _).mono HB.out.size)⟩
theorem ccheck_any (s : ByteArray) (w : World) (hs : s.size ≤ 140737488351232) : Calls Tryz.prog 129 #[.string s] w fun e w' => e = .returned (errV (chkD s)) ∧ Below w.heap.size w w' := by
  have HB1 := Lib.hid (fun w => cbase_any s w (by omega))
  have HV := Lib.hid (fun w => cvou_any s w hs)
  unfold chkD
  obtain ⟨x, hx⟩ : ∃ x, x = baseB s := ⟨_, rfl⟩
  obtain ⟨y, hy⟩ : ∃ x, x = vouB s := ⟨_, rfl⟩
  rw [← hx] at HB1 ⊢
  rw [← hy] at HV ⊢
  clear hx hy hs
  have HB := Lib.hid (Below.refl w.heap.size w)
  cases x <;> cases y <;>
  · go_enter Tryz.func129, Tryz.ntmps129
    go_wp2_with (first
      | (go_at_call 187; (with_reducible refine (HB1.out _).mono ?_); rintro e w1 ⟨rfl, hb⟩; replace HB := Lib.hid (HB.out.trans (hb.mono HB.out.size)); clear hb)
      | (go_at_call 188; (with_reducible refine (HV.out _).mono ?_); rintro e w2 ⟨rfl, hb⟩; replace HB := Lib.hid (HB.out.trans (hb.mono HB.out.size)); clear hb))
    go_ret
    exact ⟨rfl, HB.out⟩
end Go.Proofs.YtejglhlodfhgkaaGreatDoor
namespace Go.Proofs.YtejglhlodfhgkaaGreatDoor
set_option linter.unusedVariables false
set_option linter.unusedSimpArgs false
/-- how many groups -/
def glen (n : Nat) : Nat := if h : n < 128 then 1 else glen (n / 128) + 1
termination_by n
decreasing_by omega
theorem glen_small {n : Nat} (h : n < 128) : glen n = 1 := by rw [glen, dif_pos h]
theorem glen_big {n : Nat} (h : ¬ n < 128) : glen n = glen (n / 128) + 1 := by rw [glen, dif_neg h]
theorem glen_pos (n : Nat) : 0 < glen n := by
  by_cases h : n < 128
  · rw [glen_small h]; decide
  · rw [glen_big h]; omega
theorem div_pow_succ (n i : Nat) : n / 128 ^ (i + 1) = n / 128 / 128 ^ i := by rw [Nat.pow_succ, Nat.mul_comm, ← Nat.div_div_eq_div_mul]
theorem div_pow_step (n i : Nat) : n / 128 ^ (i + 1) = n / 128 ^ i / 128 := by rw [Nat.pow_succ, ← Nat.div_div_eq_div_mul]
theorem glen_lo : ∀ (n i : Nat), i + 1 < glen n → 128 ≤ n / 128 ^ i := by
  intro n
  induction n using Nat.strongRecOn with
  | ind n ih =>
    intro i hi
    by_cases h : n < 128
    · rw [glen_small h] at hi; omega
    · rw [glen_big h] at hi
      cases i with
      | zero => simp; omega
      | succ i => rw [div_pow_succ]; exact ih (n / 128) (by omega) i (by omega)
theorem glen_hi : ∀ n : Nat, n / 128 ^ (glen n - 1) < 128 := by
  intro n
  induction n using Nat.strongRecOn with
  | ind n ih =>
    by_cases h : n < 128
    · rw [glen_small h]; simpa using h
    · have := glen_pos (n / 128)
      rw [glen_big h, show glen (n / 128) + 1 - 1 = (glen (n / 128) - 1) + 1 by omega, div_pow_succ]
      exact ih (n / 128) (by omega)
theorem glen_iff {n k : Nat} (h : k < glen n) : 128 ≤ n / 128 ^ k ↔ k + 1 < glen n := by
  constructor
  · intro h1
    by_cases h2 : k + 1 < glen n
    · exact h2
    · have := glen_hi n
      rw [show glen n - 1 = k by omega] at this
      omega
  · exact glen_lo n k
theorem glen_le {n : Nat} (h : n < 18446744073709551616) : glen n ≤ 10 := by
  by_cases hc : glen n ≤ 10
  · exact hc
  · have := glen_lo n 9 (by omega)
    have e : (128 : Nat) ^ 9 = 9223372036854775808 := by decide
    rw [e] at this
    omega
/-- byte i of the varint -/
def gby (n i : Nat) : Nat := if i + 1 < glen n then n / 128 ^ i % 128 + 128 else n / 128 ^ i
def varint (n : Nat) : List Int := (List.range (glen n)).map fun i => ((gby n i : Nat) : Int)
theorem varint_length (n : Nat) : (varint n).length = glen n := by simp [varint]
theorem varint_get {n i : Nat} (h : i < glen n) : (varint n)[i]? = some ((gby n i : Nat) : Int) := by simp [varint, h]
theorem gby_more {n i : Nat} (h : i + 1 < glen n) : 128 ≤ gby n i ∧ gby n i % 128 = n / 128 ^ i % 128 := by
  unfold gby; rw [if_pos h]; omega
theorem gby_last {n i : Nat} (h : i + 1 = glen n) : gby n i = n / 128 ^ i ∧ gby n i < 128 := by
  have := glen_hi n
  rw [show glen n - 1 = i by omega] at this
  unfold gby; rw [if_neg (by omega)]
  exact ⟨rfl, this⟩
/-- the first bytes as they are laid, behind them zeros -/
def gbyK (n k : Nat) : Nat → Int := fun i => if i < k then ((gby n i : Nat) : Int) else 0
/-- what a reader adds up: the low seven bits of the first i bytes, below 2^64 -/
def accF (xs : List Int) : Nat → Nat
  | 0 => 0
  | i + 1 => accF xs i + ((xs.getD i 0).toNat % 128 * 128 ^ i) % 18446744073709551616
theorem pow128 (i : Nat) : 0 < 128 ^ i := Nat.pow_pos (by decide)
theorem accF_lt (xs : List Int) : ∀ i, i ≤ 9 → accF xs i < 128 ^ i
  | 0, _ => by simp [accF]
  | i + 1, h => by
    have ih := accF_lt xs i (by omega)
    have h1 : (xs.getD i 0).toNat % 128 * 128 ^ i % 18446744073709551616 ≤ (xs.getD i 0).toNat % 128 * 128 ^ i := Nat.mod_le _ _
    have h2 : (xs.getD i 0).toNat % 128 * 128 ^ i ≤ 127 * 128 ^ i := Nat.mul_le_mul_right _ (by omega)
    have h3 : (128 : Nat) ^ (i + 1) = 128 ^ i * 128 := Nat.pow_succ _ _
    have h4 : accF xs (i + 1) = accF xs i + (xs.getD i 0).toNat % 128 * 128 ^ i % 18446744073709551616 := rfl
    omega
/-- the bytes of a varint add up to its number -/
theorem accF_varint (n : Nat) (r : List Int) (hn : n < 18446744073709551616) : ∀ i, i ≤ glen n → accF (varint n ++ r) i = n % 128 ^ i := by
  intro i
  induction i with
  | zero => intro _; simp [accF, Nat.mod_one]
  | succ i ih =>
    intro h
    have hg : (varint n ++ r).getD i 0 = ((gby n i : Nat) : Int) := by
      simp [List.getD, List.getElem?_append_left (by rw [varint_length]; omega : i < (varint n).length), varint_get (show i < glen n by omega)]
    have e : gby n i % 128 = n / 128 ^ i % 128 := by
      by_cases h1 : i + 1 < glen n
      · exact (gby_more h1).2
      · rw [(gby_last (by omega : i + 1 = glen n)).1]
    show accF _ i + _ = _
    rw [ih (by omega), hg, Int.toNat_natCast, e]
    have hm : n / 128 ^ i % 128 * 128 ^ i ≤ n / 128 ^ i * 128 ^ i := Nat.mul_le_mul_right _ (Nat.mod_le _ _)
    have hd : n / 128 ^ i * 128 ^ i ≤ n := Nat.div_mul_le_self _ _
    have hlt : n / 128 ^ i % 128 * 128 ^ i < 18446744073709551616 := by omega
    rw [Nat.mod_eq_of_lt hlt, Nat.pow_succ, Nat.mod_mul, Nat.mul_comm (n / 128 ^ i % 128)]
theorem mod_glen (n : Nat) : n % 128 ^ glen n = n := by
  apply Nat.mod_eq_of_lt
  have h := glen_hi n
  have hp := glen_pos n
  have h2 : n / 128 ^ glen n = 0 := by
    obtain ⟨k, hk⟩ : ∃ k, glen n = k + 1 := ⟨glen n - 1, by omega⟩
    rw [hk, Nat.add_sub_cancel] at h
    rw [hk, div_pow_step]; exact Nat.div_eq_of_lt h
  rcases Nat.lt_or_ge n (128 ^ glen n) with h3 | h3
  · exact h3
  · have := Nat.div_pos h3 (pow128 _); omega
end Go.Proofs.YtejglhlodfhgkaaGreatDoor
namespace Go.Proofs.YtejglhlodfhgkaaGreatDoor
set_option linter.unusedVariables false
set_option linter.unusedSimpArgs false
open Go.RowKit
set_option maxRecDepth 100000
/-- block p is a Writer: its slice v is its own and holds xs -/
def WAt (w : World) (p : Nat) (v : Value) (xs : List Int) : Prop :=
  w.heap[p]? = some (.cells #[v] 178 (0, 0)) ∧ w.ownsRow (p + 1) 5 1 v xs.length (byteVals xs)
/-- of the blocks that there are, only p and the array of v may have turned; the array of v' is that of v or new -/
structure WStep (p : Nat) (v v' : Value) (w w' : World) : Prop where
  os : w'.os = w.os
  tape : w'.tape = w.tape
  output : w'.output = w.output
  size : w.heap.size ≤ w'.heap.size
  block : ∀ k, k < w.heap.size → k ≠ p → some k ≠ v.ownBlock → w'.heap[k]? = w.heap[k]?
  own : OwnOf v v' w
theorem WStep.refl (p : Nat) (v : Value) (w : World) : WStep p v v w w := ⟨rfl, rfl, rfl, Nat.le_refl _, fun _ _ _ _ => rfl, .inl rfl⟩
theorem WStep.trans {p : Nat} {v v' v'' : Value} {a b c : World} (h : WStep p v v' a b) (k : WStep p v' v'' b c) : WStep p v v'' a c := by
  refine ⟨k.os.trans h.os, k.tape.trans h.tape, k.output.trans h.output, Nat.le_trans h.size k.size, fun i hi hp hv => ?_, ?_⟩
  · refine (k.block i (Nat.lt_of_lt_of_le hi h.size) hp fun e => ?_).trans (h.block i hi hp hv)
    rcases h.own with ho | ⟨j, ho, hj⟩
    · exact hv (e.trans ho)
    · rw [ho] at e; injection e; omega
  · rcases k.own with ho | ⟨j, ho, hj⟩
    · rcases h.own with ho2 | ⟨j, ho2, hj⟩
      · exact .inl (ho.trans ho2)
      · exact .inr ⟨j, ho.trans ho2, hj⟩
    · exact .inr ⟨j, ho, Nat.le_trans h.size hj⟩
theorem WStep.of_below {p : Nat} {v : Value} {w w' : World} (h : Below w.heap.size w w') : WStep p v v w w' :=
  ⟨h.os, h.tape, h.output, h.size, fun k hk _ _ => h.block k hk, .inl rfl⟩
theorem WAt.lt {w : World} {p : Nat} {v : Value} {xs : List Int} (h : WAt w p v xs) : p < w.heap.size := (Array.getElem?_eq_some_iff.1 h.1).1
theorem WAt.ne {w : World} {p : Nat} {v : Value} {xs : List Int} (h : WAt w p v xs) : ∀ k, v.ownBlock = some k → p < k ∧ k < w.heap.size := fun k hk => by
  have := h.2.lt k hk; omega
theorem WAt.below {w w' : World} {p : Nat} {v : Value} {xs : List Int} (h : WAt w p v xs) (hb : Below w.heap.size w w') : WAt w' p v xs := by
  refine ⟨(hb.block p h.lt).trans h.1, h.2.kept (row := none) ⟨hb.os, hb.tape, hb.output, hb.size, fun k hk _ => hb.block k hk⟩ ?_⟩
  cases v.ownBlock <;> simp
/-- what lies below the Writer is as it was -/
theorem WStep.below {p B : Nat} {v v' : Value} {xs : List Int} {w w' : World} (h : WStep p v v' w w') (hw : WAt w p v xs) (hB : B ≤ p) : Below B w w' :=
  ⟨h.os, h.tape, h.output, h.size, fun k hk => h.block k (by have := hw.lt; omega) (by omega) fun e => by have := hw.ne k e.symm; omega⟩
theorem WAt.cell {w : World} {p : Nat} {v : Value} {xs : List Int} (h : WAt w p v xs) : w.cell? ⟨p, 0, none⟩ = some v := by
  rw [cell_of_row w p 0 _ _ _ h.1]; rfl
theorem WAt.free {w : World} {p : Nat} {v : Value} {xs : List Int} (h : WAt w p v xs) : w.frozen? ⟨p, 0, none⟩ = false := frozen_of_row w p 0 _ _ h.1
theorem WAt.wide {w : World} {p : Nat} {v : Value} {xs : List Int} (h : WAt w p v xs) : ∃ a c, v = .slice a xs.length c := by
  rcases h.2.2 with ⟨rfl, h0⟩ | ⟨g, c, _, rfl, _⟩
  · exact ⟨none, 0, by rw [h0]⟩
  · exact ⟨_, c, rfl⟩
theorem WAt.grown {w w' : World} {p : Nat} {v : Value} {xs : List Int} (h : WAt w p v xs) (hg : w.grownBy w' v.ownBlock) : w'.heap[p]? = some (.cells #[v] 178 (0, 0)) :=
  (hg.block p h.lt fun e => by have := h.ne p e.symm; omega).trans h.1
/-- the appended slice is stored -/
theorem WAt.stored {w w1 : World} {p : Nat} {v v' : Value} {xs ys : List Int} (h : WAt w p v xs) (hg : w.grownBy w1 v.ownBlock) (ho : w1.ownsRow (p + 1) 5 1 v' (xs.length + ys.length) (byteVals xs ++ byteVals ys)) (hof : OwnOf v v' w) :
    WAt (w1.setCell ⟨p, 0, none⟩ v') p v' (xs ++ ys) ∧ WStep p v v' w (w1.setCell ⟨p, 0, none⟩ v') := by
  have h1 := h.grown hg
  refine ⟨⟨?_, ?_⟩, hg.os, hg.tape, hg.output, ?_, fun k hk hp hv => ?_, hof⟩
  · rw [heap_setCell_same w1 p 0 _ _ _ h1]; rfl
  · rw [List.length_append, byteVals_append]
    refine ho.kept (row := some p) ⟨rfl, rfl, rfl, by simp [World.setCell], fun k _ hk => Below.heap_setCell _ _ _ _ fun e => hk (by rw [e])⟩ ?_
    cases hb : v'.ownBlock with
    | none => exact .inl rfl
    | some k => right; intro e; injection e with e; have := ho.lt k hb; omega
  · exact Nat.le_trans hg.size (by simp [World.setCell])
  · rw [Below.heap_setCell _ _ _ _ (by exact hp)]; exact hg.block k hk hv
theorem new_any (w : World) : Calls Tryz.prog 51 #[] w fun e w' => e = .returned (.pointer (some ⟨w.heap.size, 0, none⟩)) ∧ WAt w' w.heap.size (.slice none 0 0) [] ∧ Below w.heap.size w w' := by
  go_enter Tryz.func51, Tryz.ntmps51
  go_wp2
  go_ret
  exact ⟨rfl, ⟨heap_alloc_new w _, World.ownsRow_nil _ _ _ _⟩, below_alloc w _⟩
set_option maxRecDepth 100000 in
set_option maxHeartbeats 400000 in
theorem add_any (p : Nat) (v y : Value) (xs ys : List Int) (w : World) (hw : WAt w p v xs) (hy : BytesIn w y ys) (hl : xs.length + ys.length ≤ 140737488355328) :
    Calls Tryz.prog 120 #[.pointer (some ⟨p, 0, none⟩), y] w fun e w' => e = .returned (.pointer (some ⟨p, 0, none⟩)) ∧ ∃ v', WAt w' p v' (xs ++ ys) ∧ WStep p v v' w w' := by
  have HW := Lib.hid hw
  have HY := Lib.hid hy
  have HL := Lib.hid hl
  have hc := hw.cell
  clear hw hy hl
  go_enter Tryz.func120, Tryz.ntmps120
  go_upto_region 2 with (fail)
  go_wp2_with (at_builtin; refine wpList_append_bytes rfl (.tmp 11) (.tmp 12) rfl rfl (p + 1) v xs.length (byteVals xs) rfl HW.out.2 y ys rfl HY.out HL.out (by have := HW.out.lt; omega) ?_; intro v' w1 ho hg hof; obtain ⟨a1, c1, rfl⟩ := owns_wide ho; have H := Lib.hid (HW.out.stored hg ho hof); have h1 := HW.out.grown hg; have hc1 := cell_of_row w1 p 0 _ _ _ h1; have hf1 := frozen_of_row w1 p 0 _ _ h1; clear hc hg ho hof h1)
  go_ret
  exact ⟨rfl, _, H.out.1, H.out.2⟩
end Go.Proofs.YtejglhlodfhgkaaGreatDoor
namespace Go.Proofs.YtejglhlodfhgkaaGreatDoor
set_option linter.unusedVariables false
set_option linter.unusedSimpArgs false
open Go.RowKit
set_option maxRecDepth 100000
theorem done_any (p : Nat) (v : Value) (xs : List Int) (w : World) (hw : WAt w p v xs) (hl : xs.length ≤ 140737488355328) :
    Calls Tryz.prog 54 #[.pointer (some ⟨p, 0, none⟩)] w fun e w' => ∃ v', e = .returned v' ∧ w'.ownsRow w.heap.size 5 1 v' xs.length (byteVals xs) ∧ Below w.heap.size w w' := by
  have HV := Lib.hid (owns_in hw.2 (by unfold maxLen; omega))
  have HL := Lib.hid hl
  have hc := hw.cell
  clear hw hl
  go_enter Tryz.func54, Tryz.ntmps54
  go_wp2_with (go_at_call 121; (with_reducible refine (clone_any v xs _ HV.out HL.out).mono ?_); rintro e w1 ⟨v', rfl, ho, hb⟩; have H := Lib.hid ho; have HB := Lib.hid hb; clear ho hb)
  go_ret
  exact ⟨_, rfl, H.out, HB.out⟩
end Go.Proofs.YtejglhlodfhgkaaGreatDoor
namespace Go.Proofs.YtejglhlodfhgkaaGreatDoor
set_option linter.unusedVariables false
set_option linter.unusedSimpArgs false
open Go.RowKit
set_option maxRecDepth 100000
/-- a call of a Writer that appends ys -/
def WPost (p : Nat) (v : Value) (xs ys : List Int) (w : World) (e : Ending) (w' : World) : Prop :=
  e = .returned (.pointer (some ⟨p, 0, none⟩)) ∧ ∃ v', WAt w' p v' (xs ++ ys) ∧ WStep p v v' w w'
theorem one_in (w : World) (x : Int) : BytesIn (w.alloc (.cells #[.int .u8 x] 5)) (.slice (some ⟨w.heap.size, 0, none⟩) 1 1) [x] := by
  refine ⟨_, _, rfl, by simp, by simp [maxLen], .inr ⟨_, _, rfl, fun i y hi => ?_⟩⟩
  rw [Nat.zero_add, cell_of_row _ _ _ _ _ _ (heap_alloc_new w _)]
  match i, hi with
  | 0, hi => cases hi; rfl
def rowL (n : Nat) (f : Nat → Int) : List Int := (List.range n).map f
theorem row_in {w : World} {g n c : Nat} {t : TypeId} {f : Nat → Int} {k : Nat} (h : RowAt w g .u8 n t f) (hk : k ≤ n) (hc : k ≤ c) (hm : k ≤ maxLen) : BytesIn w (.slice (some ⟨g, 0, none⟩) k c) (rowL k f) := by
  have hl : (rowL k f).length = k := by simp [rowL]
  refine ⟨_, c, by rw [hl], by rw [hl]; exact hc, by rw [hl]; exact hm, .inr ⟨g, 0, rfl, fun i x hi => ?_⟩⟩
  simp only [rowL, List.getElem?_map] at hi
  rcases Nat.lt_or_ge i k with h1 | h1
  · rw [List.getElem?_range h1] at hi
    cases hi
    rw [Nat.zero_add]; exact h.cell i (by omega)
  · rw [List.getElem?_eq_none (by simpa using h1)] at hi; cases hi
set_option maxRecDepth 100000 in
set_option maxHeartbeats 400000 in
theorem whash_any (p : Nat) (v : Value) (xs : List Int) (f : Nat → Int) (w : World) (hw : WAt w p v xs) (hl : xs.length + 32 ≤ 140737488355328) :
    Calls Tryz.prog 176 #[.pointer (some ⟨p, 0, none⟩), .agg (rowOf .u8 32 f)] w (WPost p v xs (rowL 32 f) w) := by
  have HW := Lib.hid (hw.below (below_alloc w (.cells (rowOf .u8 32 f) 53)))
  have HB := Lib.hid (below_alloc w (.cells (rowOf .u8 32 f) 53))
  have HY := Lib.hid (row_in (k := 32) (c := 32) (RowAt.new w .u8 32 53 f) (Nat.le_refl _) (Nat.le_refl _) (by simp [maxLen]))
  have HL := Lib.hid hl
  clear hw hl
  unfold WPost
  go_enter Tryz.func176, Tryz.ntmps176
  go_wp2_with (go_at_call 120; (with_reducible refine (add_any p v _ xs (rowL 32 f) _ HW.out HY.out (by have := HL.out; simpa [rowL] using this)).mono ?_); rintro e w1 ⟨rfl, v', ho, hb⟩; have H := Lib.hid ho; have HS := Lib.hid hb; clear ho hb)
  go_ret
  exact ⟨rfl, v', H.out, (WStep.of_below HB.out).trans HS.out⟩
theorem zeros10 : (#[Value.int IntKind.u8 0, Value.int IntKind.u8 0, Value.int IntKind.u8 0, Value.int IntKind.u8 0, Value.int IntKind.u8 0, Value.int IntKind.u8 0, Value.int IntKind.u8 0, Value.int IntKind.u8 0, Value.int IntKind.u8 0, Value.int IntKind.u8 0] : Array Value) = rowOf .u8 10 (fun _ => 0) := by rfl
theorem or128 (b : Nat) (h : b < 256) : bits .or .u8 (b : Int) 128 = ((b % 128 + 128 : Nat) : Int) := by
  have : ∀ b : Fin 256, bits .or .u8 (b.val : Int) 128 = ((b.val % 128 + 128 : Nat) : Int) := by decide +kernel
  exact this ⟨b, h⟩
theorem gbyK_succ (n k : Nat) : upd (gbyK n k) k ((gby n k : Nat) : Int) = gbyK n (k + 1) := by
  funext i
  unfold upd gbyK
  by_cases h1 : i = k
  · subst h1; rw [if_pos rfl, if_pos (by omega)]
  · rw [if_neg h1]
    by_cases h2 : i < k
    · rw [if_pos h2, if_pos (by omega)]
    · rw [if_neg h2, if_neg (by omega)]
theorem rowL_varint (n : Nat) : rowL (glen n) (gbyK n (glen n)) = varint n := by
  unfold rowL varint
  apply List.map_congr_left
  intro i hi
  unfold gbyK
  rw [if_pos (by simpa using hi)]
theorem sliceA10 (b u : Nat) (hu : u ≤ 10) (w : World) : (Instr.sliceAt 258 (.pointer (some ⟨b, 0, none⟩)) none (some (.int .i64 (u : Int))) none).run Tryz.prog w
    = .ok (.slice (some ⟨b, 0, none⟩) u 10) w := by
  have ha : Tryz.prog.arrayLen 258 = 10 := by kernel_rfl
  have he : Tryz.prog.elem 258 = 5 := by kernel_rfl
  have hs : (sizeOf 5).run Tryz.prog w = .ok 1 w := by kernel_rfl
  rw [run_sliceAt_array_h w 258 ⟨b, 0, none⟩ (by rw [ha, he]; exact Tryz.underlying258) .i64 (u : Int) (by omega) (by rw [ha]; omega), ha, he, hs]
  simp only [Result.andThen_ok, slicedAt, Int.toNat_natCast]
  rfl
set_option maxRecDepth 100000 in
set_option maxHeartbeats 400000 in
theorem wuint_any (p : Nat) (v : Value) (xs : List Int) (n : Nat) (w : World) (hw : WAt w p v xs) (hn : n < 18446744073709551616) (hl : xs.length + 10 ≤ 140737488355328) :
    Calls Tryz.prog 119 #[.pointer (some ⟨p, 0, none⟩), .int .u64 (n : Int)] w (WPost p v xs (varint n) w) := by
  have HW := Lib.hid hw
  have HL := Lib.hid hl
  have HN := Lib.hid hn
  have HG := Lib.hid (glen_le hn)
  clear hw hl hn
  unfold WPost
  go_enter Tryz.func119, Tryz.ntmps119
  go_upto_region 2 with (fail)
  rw [zeros10]
  have HB := Lib.hid (below_alloc w (.cells (rowOf .u8 10 (fun _ => 0)) 258))
  have HR : Hid (RowAt (w.alloc (.cells (rowOf .u8 10 (fun _ => 0)) 258)) w.heap.size .u8 10 258 (gbyK n 0)) := Lib.hid (RowAt.new w .u8 10 258 (fun _ => 0))
  generalize w.alloc (.cells (rowOf .u8 10 (fun _ => 0)) 258) = w1 at *
  go_wp2_with (fail)
  go_loopw [1, 6] (fun x i wr => ∃ k : Nat, k < glen n ∧ x = .int .u64 ((n / 128 ^ k : Nat) : Int) ∧ i = .int .i64 k ∧ Hid (RowAt wr w.heap.size .u8 10 258 (gbyK n k) ∧ Below w.heap.size w wr)) (fun _ i _ => 10 - (intOf i).toNat)
  case atStart => exact ⟨0, glen_pos n, by simp, rfl, HR.out, HB.out⟩
  case round =>
    clear HR HB
    obtain ⟨k, hk, rfl, rfl, H⟩ := hrel
    have hk10 := HG.out
    obtain ⟨m, hm⟩ : ∃ m, m = n / 128 ^ k := ⟨_, rfl⟩
    have hmn : m < 18446744073709551616 := by have := HN.out; have := Nat.div_le_self n (128 ^ k); omega
    have hiff := glen_iff hk
    rw [← hm] at hiff ⊢
    by_cases h : 128 ≤ m
    · have hk1 := hiff.1 h
      have hor := or128 (m % 256) (by omega)
      have hg1 : m % 256 % 128 + 128 = gby n k := by unfold gby; rw [if_pos hk1, ← hm]; omega
      rw [hg1] at hor
      have c0 := H.out.1.cell k (by omega)
      have f0 := H.out.1.free k
      have HM := Lib.hid hm
      replace hiff := Lib.hid hiff
      clear hg1 hm
      go_wp2_with (fail)
      go_roundw
      case rel =>
        refine ⟨k + 1, hk1, ?_, rfl, ?_, (H.out.2.setCell (Nat.le_refl _) _)⟩
        · rw [div_pow_step, ← HM.out]; rfl
        · have e : (m : Int) % 256 = ((m % 256 : Nat) : Int) := by omega
          rw [e, hor, ← gbyK_succ]
          exact H.out.1.set k _
      case measure => simp [intOf]; omega
    · have hk1 : k + 1 = glen n := by omega
      have hg1 : m = gby n k := by rw [(gby_last hk1).1]; exact hm
      have c0 := H.out.1.cell k (by omega)
      have f0 := H.out.1.free k
      have HM := Lib.hid hm
      replace hiff := Lib.hid hiff
      have hsl := sliceA10 w.heap.size (k + 1) (by omega)
      rw [show ((k + 1 : Nat) : Int) = (k : Int) + 1 by omega] at hsl
      have HS := Lib.hid (show RowAt (wr.setCell ⟨w.heap.size, k, none⟩ (.int .u8 (m : Int))) w.heap.size .u8 10 258 (gbyK n (k + 1)) by rw [← gbyK_succ, ← hg1]; exact H.out.1.set k _)
      have HB := Lib.hid (H.out.2.setCell (p := ⟨w.heap.size, k, none⟩) (Nat.le_refl _) (.int .u8 (m : Int)))
      have HY := Lib.hid (row_in (k := k + 1) (c := 10) HS.out (by omega) (by omega) (by unfold maxLen; omega))
      rw [hk1, rowL_varint, ← hk1] at HY
      replace hk1 := Lib.hid hk1
      clear hm hg1
      go_wp2_with (go_at_call 120; (with_reducible refine (add_any p v _ xs (varint n) _ (HW.out.below HB.out) HY.out (by have := HL.out; have := HG.out; rw [varint_length]; omega)).mono ?_); rintro e w1 ⟨rfl, v', ho, hb⟩; have H := Lib.hid ho; have HS := Lib.hid hb; clear ho hb)
      go_ret
      exact ⟨rfl, v', H.out, (WStep.of_below HB.out).trans HS.out⟩
end Go.Proofs.YtejglhlodfhgkaaGreatDoor
namespace Go.Proofs.YtejglhlodfhgkaaGreatDoor
set_option linter.unusedVariables false
set_option linter.unusedSimpArgs false
open Go.RowKit
set_option maxRecDepth 100000
/-- the array of y is neither the Writer nor the Writer's -/
def Apart (p : Nat) (v y : Value) : Prop := ∀ k, y.ownBlock = some k → k ≠ p ∧ some k ≠ v.ownBlock
theorem BytesIn.step {p : Nat} {v v' y : Value} {ys : List Int} {w w' : World} (h : BytesIn w y ys) (hs : WStep p v v' w w') (ha : ys ≠ [] → Apart p v y) : BytesIn w' y ys := by
  obtain ⟨a, c, rfl, hc, hm, hx⟩ := h
  refine ⟨a, c, rfl, hc, hm, ?_⟩
  by_cases hne : ys = []
  · exact .inl hne
  · obtain ⟨ab, ao, rfl, hx1⟩ := hx.resolve_left hne
    obtain ⟨h1, h2⟩ := ha hne ab rfl
    exact .inr ⟨ab, ao, rfl, fun i x hi => (World.cell?_of_block (w := w) (hs.block ab (World.block_lt_of_cell? w _ (hx1 i x hi)) h1 h2)).trans (hx1 i x hi)⟩
set_option maxRecDepth 100000 in
set_option maxHeartbeats 400000 in
theorem wbytes_any (p : Nat) (v y : Value) (xs ys : List Int) (w : World) (hw : WAt w p v xs) (hy : BytesIn w y ys) (ha : ys ≠ [] → Apart p v y) (hl : xs.length + ys.length + 10 ≤ 140737488355328) :
    Calls Tryz.prog 53 #[.pointer (some ⟨p, 0, none⟩), y] w (WPost p v xs (varint ys.length ++ ys) w) := by
  have HW := Lib.hid hw
  have HY := Lib.hid hy
  have HA := Lib.hid ha
  have HL := Lib.hid hl
  have hlt : ys.length < 18446744073709551616 := by omega
  have HG := Lib.hid (glen_le hlt)
  obtain ⟨a, c, rfl, hc, hm, hx⟩ := hy
  clear hw ha hl hc hm hx
  have HLT := Lib.hid hlt
  unfold WPost
  go_enter Tryz.func53, Tryz.ntmps53
  go_wp2_with (first
    | (go_at_call 119; (with_reducible refine (wuint_any p v xs ys.length _ HW.out HLT.out (by have := HL.out; omega)).mono ?_); rintro e w1 ⟨rfl, v', ho, hb⟩; have H1 := Lib.hid ho; have HS1 := Lib.hid hb; clear ho hb)
    | (go_at_call 120; (with_reducible refine (add_any p v' _ (xs ++ varint ys.length) ys _ H1.out (HY.out.step HS1.out HA.out) (by have := HL.out; have := HG.out; rw [List.length_append, varint_length]; omega)).mono ?_); rintro e w2 ⟨rfl, v2, ho, hb⟩; have H2 := Lib.hid ho; have HS2 := Lib.hid hb; clear ho hb))
  go_ret
  exact ⟨rfl, v2, by rw [← List.append_assoc]; exact H2.out, HS1.out.trans HS2.out⟩
set_option maxRecDepth 100000 in
set_option maxHeartbeats 400000 in
theorem wtext_any (p : Nat) (v : Value) (s : ByteArray) (xs : List Int) (w : World) (hw : WAt w p v xs) (hl : xs.length + s.size + 10 ≤ 140737488355328) :
    Calls Tryz.prog 63 #[.pointer (some ⟨p, 0, none⟩), .string s] w (WPost p v xs (varint s.size ++ numsOf s) w) := by
  have HB := Lib.hid (bytesW_below w s)
  have HW := Lib.hid (hw.below HB.out)
  have HY := Lib.hid (bytesW_in w s (by unfold maxLen; omega))
  have HA := Lib.hid (show numsOf s ≠ [] → Apart p v (.slice (some ⟨w.heap.size, 0, none⟩) s.size (grownCap w s.size 0 5)) from fun _ k hk => by
    simp [Value.ownBlock] at hk
    subst hk
    have := hw.lt
    exact ⟨by omega, fun e => by have := hw.ne _ e.symm; omega⟩)
  have HL := Lib.hid hl
  have hcv : ∀ w : World, (convert 9 25 (.string s)).run Tryz.prog w = .ok (.slice (some ⟨w.heap.size, 0, none⟩) s.size (grownCap w s.size 0 5)) (bytesW w s) :=
    fun w => run_bytes_of_string w 9 25 5 s Tryz.underlying9 Tryz.underlying25 Tryz.underlying5
  clear hw hl
  unfold WPost
  go_enter Tryz.func63, Tryz.ntmps63
  go_wp2_with (go_at_call 53; (with_reducible refine (wbytes_any p v _ xs (numsOf s) _ HW.out HY.out HA.out (by have := HL.out; rw [numsOf_length]; omega)).mono ?_); rintro e w1 ⟨rfl, v', ho, hb⟩; have H1 := Lib.hid ho; have HS1 := Lib.hid hb; clear ho hb)
  go_ret
  exact ⟨rfl, v', by have := H1.out; rw [numsOf_length] at this; exact this, (WStep.of_below HB.out).trans HS1.out⟩
/-- '^n' of a number with a sign -/
theorem not_i64 (n : Int) (h0 : -9223372036854775808 ≤ n) (h1 : n ≤ 9223372036854775807) : bits .xor .i64 (-1) n = -n - 1 := by
  show IntKind.i64.wrap ((BitVec.ofInt 64 (-1) ^^^ BitVec.ofInt 64 n).toNat : Int) = _
  have e1 : BitVec.ofInt 64 (-1) = BitVec.allOnes 64 := by decide
  have e2 : (BitVec.ofInt 64 n).toNat = (n % 18446744073709551616).toNat := by rw [BitVec.toNat_ofInt]; rfl
  rw [e1, BitVec.allOnes_xor, BitVec.toNat_not, e2, IntKind.wrap_i64]
  omega
/-- how a number with a sign becomes one without -/
def zig (n : Int) : Nat := if n < 0 then (-n).toNat * 2 - 1 else n.toNat * 2
theorem zig_lt {n : Int} (h0 : -9223372036854775808 ≤ n) (h1 : n ≤ 9223372036854775807) : zig n < 18446744073709551616 := by
  unfold zig; split <;> omega
set_option maxRecDepth 100000 in
set_option maxHeartbeats 400000 in
theorem wint_any (p : Nat) (v : Value) (n : Int) (xs : List Int) (w : World) (hw : WAt w p v xs) (h0 : -9223372036854775808 ≤ n) (h1 : n ≤ 9223372036854775807) (hl : xs.length + 10 ≤ 140737488355328) :
    Calls Tryz.prog 116 #[.pointer (some ⟨p, 0, none⟩), .int .i64 n] w (WPost p v xs (varint (zig n)) w) := by
  have HW := Lib.hid hw
  have HL := Lib.hid hl
  have HZ := Lib.hid (zig_lt h0 h1)
  have H := wuint_any p v xs (zig n) w hw HZ.out hl
  have H0 := Lib.hid H
  clear hw hl H
  unfold WPost at *
  by_cases hn : n < 0
  · have e : ((zig n : Nat) : Int) = 2 * (-n - 1) + 1 := by unfold zig; rw [if_pos hn]; omega
    rw [e] at H0
    go_enter Tryz.func116, Tryz.ntmps116
    go_wp2_with (go_at_call 119; rw [show (if IntKind.i64.signed = true then (-1 : Int) else 9223372036854775807) = -1 by rfl, not_i64 n h0 h1, show IntKind.u64.wrap (IntKind.u64.wrap (2 * IntKind.u64.wrap (-n - 1)) + 1) = 2 * (-n - 1) + 1 by simp only [IntKind.wrap_u64]; omega]; (with_reducible refine H0.out.mono ?_); rintro e w1 ⟨rfl, v', ho, hb⟩; have H1 := Lib.hid ho; have HS1 := Lib.hid hb; clear ho hb)
    go_ret
    exact ⟨rfl, v', H1.out, HS1.out⟩
  · have e : ((zig n : Nat) : Int) = 2 * n := by unfold zig; rw [if_neg hn]; omega
    rw [e] at H0
    go_enter Tryz.func116, Tryz.ntmps116
    go_wp2_with (go_at_call 119; (with_reducible refine H0.out.mono ?_); rintro e w1 ⟨rfl, v', ho, hb⟩; have H1 := Lib.hid ho; have HS1 := Lib.hid hb; clear ho hb)
    go_ret
    exact ⟨rfl, v', H1.out, HS1.out⟩
end Go.Proofs.YtejglhlodfhgkaaGreatDoor
namespace Go.Proofs.YtejglhlodfhgkaaGreatDoor
set_option linter.unusedVariables false
set_option linter.unusedSimpArgs false
open Go.RowKit
set_option maxRecDepth 100000
/-- what the groups' check answers: the number, how many bytes, the error -/
def chk (n : Nat) (size last most : Nat) : Nat × Nat × Option Nat :=
  if (1 < size ∧ last = 0) ∨ (size = 10 ∧ 1 < last) then (0, 0, some 3) else if most < n then (0, 0, some 4) else (n, size, none)
/-- what varint answers from byte i on -/
def rdFrom (xs : List Int) (most : Nat) : Nat → Nat → Nat × Nat × Option Nat
  | 0, _ => if xs.length < 10 then (0, 0, some 12) else (0, 0, some 3)
  | k + 1, i => if (xs.getD i 0) < 128 then chk (accF xs (i + 1)) (i + 1) (xs.getD i 0).toNat most else rdFrom xs most k (i + 1)
def rdF (xs : List Int) (most : Nat) : Nat × Nat × Option Nat := rdFrom xs most (min xs.length 10) 0
def tripV (r : Nat × Nat × Option Nat) : Value := .tuple #[.int .u64 (r.1 : Int), .int .i64 (r.2.1 : Int), errV r.2.2]
set_option maxRecDepth 100000 in
set_option maxHeartbeats 400000 in
theorem checked_any (n most : Nat) (ab ao size cap : Nat) (last : Nat) (w : World) (hs0 : 0 < size) (hs : size ≤ 10) (hl : last < 256) (hc : w.cell? ⟨ab, ao + (size - 1), none⟩ = some (.int .u8 (last : Int))) :
    Calls Tryz.prog 243 #[.int .u64 (n : Int), .slice (some ⟨ab, ao, none⟩) size cap, .int .u64 (most : Int)] w fun e w' => e = .returned (tripV (chk n size last most)) ∧ w' = w := by
  obtain ⟨s, rfl⟩ : ∃ s, size = s + 1 := ⟨size - 1, by omega⟩
  rw [Nat.add_sub_cancel] at hc
  go_enter Tryz.func243, Tryz.ntmps243
  go_wp2_with (fail)
  all_goals go_ret3
  all_goals refine ⟨?_, rfl⟩
  all_goals (try simp only [beq_eq_false_iff_ne, beq_iff_eq, ne_eq] at *)
  all_goals first
    | (rw [show chk n (s + 1) last most = (0, 0, some 3) by unfold chk; rw [if_pos (by omega)]]; rfl)
    | (rw [show chk n (s + 1) last most = (0, 0, some 4) by unfold chk; rw [if_neg (by omega), if_pos (by omega)]]; rfl)
    | (rw [show chk n (s + 1) last most = (n, s + 1, none) by unfold chk; rw [if_neg (by omega), if_neg (by omega)]]; first | rfl | (have e : s = 9 := (by omega); subst e; rfl))
theorem and128 (b : Nat) (h : b < 256) : bits .andNot .u8 (b : Int) 128 = ((b % 128 : Nat) : Int) := by
  have : ∀ b : Fin 256, bits .andNot .u8 (b.val : Int) 128 = ((b.val % 128 : Nat) : Int) := by decide +kernel
  exact this ⟨b, h⟩
/-- the groups so far, and the next one -/
theorem or_group (a g k : Nat) (ha : a < 128 ^ k) (hk : k ≤ 9) :
    bits .or .u64 (a : Int) ((g * 128 ^ k % 18446744073709551616 : Nat) : Int) = ((a + g * 128 ^ k % 18446744073709551616 : Nat) : Int) := by
  have hp : (128 : Nat) ^ k ≤ 128 ^ 9 := Nat.pow_le_pow_right (by decide) hk
  have h9 : (128 : Nat) ^ 9 = 9223372036854775808 := by decide
  rw [bits_or_u64_nat _ _ (by omega) (by omega)]
  congr 1
  have e : (128 : Nat) ^ k = 2 ^ (7 * k) := by rw [Nat.pow_mul]
  have h64 : (18446744073709551616 : Nat) = 2 ^ (7 * k) * 2 ^ (64 - 7 * k) := by
    rw [← Nat.pow_add, show 7 * k + (64 - 7 * k) = 64 by omega]
  have e2 : g * 128 ^ k % 18446744073709551616 = 2 ^ (7 * k) * (g % 2 ^ (64 - 7 * k)) := by
    rw [h64, e, Nat.mul_comm g, Nat.mul_mod_mul_left]
  rw [e2, Nat.or_comm, Nat.add_comm]
  rw [e] at ha
  exact (Nat.two_pow_add_eq_or_of_lt ha _).symm
theorem acc_step (xs : List Int) (k b : Nat) (hk : k ≤ 9) (hb : xs.getD k 0 = (b : Int)) :
    bits .or .u64 ((accF xs k : Nat) : Int) (IntKind.u64.wrap ((b : Int) % 128 * 2 ^ (7 * k))) = ((accF xs (k + 1) : Nat) : Int) := by
  have h := or_group (accF xs k) (b % 128) k (accF_lt xs k hk) hk
  have e : IntKind.u64.wrap ((b : Int) % 128 * 2 ^ (7 * k)) = ((b % 128 * 128 ^ k % 18446744073709551616 : Nat) : Int) := by
    have e1 : (2 : Int) ^ (7 * k) = ((128 ^ k : Nat) : Int) := by
      rw [Int.pow_mul, Int.natCast_pow]; rfl
    rw [IntKind.wrap_u64, e1, show (b : Int) % 128 = ((b % 128 : Nat) : Int) by omega, ← Int.natCast_mul]
    generalize b % 128 * 128 ^ k = X
    omega
  rw [e, h]
  show _ = ((accF xs k + (xs.getD k 0).toNat % 128 * 128 ^ k % 18446744073709551616 : Nat) : Int)
  rw [hb, Int.toNat_natCast]
theorem rd_step (xs : List Int) (most k b : Nat) (hk : k < min xs.length 10) (hb : xs.getD k 0 = (b : Int)) :
    rdFrom xs most (min xs.length 10 - k) k = if b < 128 then chk (accF xs (k + 1)) (k + 1) b most else rdFrom xs most (min xs.length 10 - (k + 1)) (k + 1) := by
  rw [show min xs.length 10 - k = (min xs.length 10 - (k + 1)) + 1 by omega, rdFrom, hb, Int.toNat_natCast]
  by_cases h : b < 128
  · rw [if_pos h, if_pos (by omega)]
  · rw [if_neg h, if_neg (by omega)]
theorem sliceB_first (ab ao n c q : Nat) (hq : q ≤ c) (w : World) : (Instr.slice 25 (.slice (some ⟨ab, ao, none⟩) n c) none (some (.int .i64 (q : Int))) none).run Tryz.prog w = .ok (.slice (some ⟨ab, ao, none⟩) q c) w := by
  rw [sliceBhi _ _ _ _ hq]
  unfold cutA
  split
  · rfl
  · show Result.ok (Value.slice (some (Addr.add ⟨ab, ao, none⟩ 0)) _ _) w = _
    rw [Addr.add_mid]; rfl
set_option maxRecDepth 100000 in
set_option maxHeartbeats 400000 in
theorem varint_any (v : Value) (xs : List Int) (most : Nat) (w : World) (hx : BytesIn w v xs) (hb : bytesOk xs) :
    Calls Tryz.prog 220 #[v, .int .u64 (most : Int)] w fun e w' => e = .returned (tripV (rdF xs most)) ∧ w' = w := by
  obtain ⟨a, c, rfl, hc, hm, hx⟩ := hx
  have HX := Lib.hid hx
  have HB := Lib.hid hb
  have HC := Lib.hid hc
  have HM := Lib.hid hm
  clear hx hb hc hm
  obtain ⟨m, hm⟩ : ∃ m, m = min xs.length 10 := ⟨_, rfl⟩
  have hmin : ((min xs.length 10 : Nat) : Int) = min (xs.length : Int) 10 := by omega
  have HMM := Lib.hid hm
  clear hm
  go_enter Tryz.func220, Tryz.ntmps220
  go_upto_region 2 with (fail)
  all_goals clear hmin
  all_goals go_loopw [4, 11] (fun n i wr => ∃ k : Nat, k ≤ min xs.length 10 ∧ n = .int .u64 ((accF xs k : Nat) : Int) ∧ i = .int .i64 k ∧ wr = w ∧ rdF xs most = rdFrom xs most (min xs.length 10 - k) k) (fun _ i _ => 10 - (intOf i).toNat)
  case atStart => exact ⟨0, by omega, rfl, rfl, rfl, rfl⟩
  try (case atStart => exact ⟨0, by omega, rfl, rfl, rfl, rfl⟩)
  all_goals obtain ⟨k, hk, rfl, rfl, rfl, hrd⟩ := hrel
  all_goals
    by_cases hlt : k < min xs.length 10
    · obtain ⟨ab, ao, rfl, hcell⟩ := HX.out.resolve_left (by rintro rfl; simp at hlt)
      obtain ⟨b, hb⟩ : ∃ b : Nat, xs[k]? = some (b : Int) ∧ b < 256 := by
        have hk1 : k < xs.length := by omega
        have := HB.out xs[k] (List.getElem_mem hk1)
        exact ⟨xs[k].toNat, by rw [List.getElem?_eq_getElem hk1]; congr 1; omega, by omega⟩
      have hc := hcell k _ hb.1
      have ha := and128 b hb.2
      have hk1 : (k : Int) < xs.length := by omega
      have hk2 : (k : Int) < 10 := by omega
      have hgd : xs.getD k 0 = (b : Int) := by rw [List.getD, hb.1]; rfl
      have hor := acc_step xs k b (by omega) hgd
      have hst := rd_step xs most k b hlt hgd
      have HC' := HC.out
      have hsl := sliceB_first ab ao xs.length c (k + 1) (by omega)
      rw [show ((k + 1 : Nat) : Int) = (k : Int) + 1 by omega] at hsl
      have hck := checked_any (accF xs (k + 1)) most ab ao (k + 1) c b wr (by omega) (by omega) hb.2 (by rw [Nat.add_sub_cancel]; exact hc)
      replace hck := Lib.hid hck
      have HST := Lib.hid (hrd.trans hst)
      clear hst hrd hgd hcell HC'
      have hb2 := hb.2
      clear hb
      generalize hacc : accF xs (k + 1) = acc1 at *
      replace hacc := Lib.hid hacc
      by_cases h128 : b < 128
      · have HR := HST.out
        rw [if_pos h128] at HR
        replace HR := Lib.hid HR
        clear HST
        go_wp2_with (go_at_call 243; (with_reducible refine hck.out.mono ?_); rintro e w2 ⟨rfl, rfl⟩; simp only [tripV])
        go_ret3
        exact ⟨by rw [HR.out]; rfl, rfl⟩
      · have HR := HST.out
        rw [if_neg h128] at HR
        replace HR := Lib.hid HR
        clear HST
        go_wp2_with (fail)
        go_roundw
        case rel => exact ⟨k + 1, by omega, by rw [hacc.out], rfl, trivial, HR.out⟩
        case measure => simp [intOf]; omega
    · have hk1 : ¬ (k : Int) < min (xs.length : Int) 10 := by omega
      have HRD := Lib.hid (show rdF xs most = if xs.length < 10 then (0, 0, some 12) else (0, 0, some 3) by rw [hrd, show min xs.length 10 - k = 0 by omega]; rfl)
      clear hrd HX
      go_wp2_with (fail)
      all_goals go_ret3
      all_goals rw [HRD.out]
      all_goals first
        | (rw [if_pos (by omega)]; exact ⟨rfl, rfl⟩)
        | (rw [if_neg (by omega)]; exact ⟨rfl, rfl⟩)
end Go.Proofs.YtejglhlodfhgkaaGreatDoor

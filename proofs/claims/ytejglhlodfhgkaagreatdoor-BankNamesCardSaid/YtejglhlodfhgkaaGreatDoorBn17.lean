/- Part 17 of the proof. -/
import Derived.Test.YtejglhlodfhgkaaGreatDoorBn2
import Derived.Test.YtejglhlodfhgkaaGreatDoorBn6
import Derived.Test.YtejglhlodfhgkaaGreatDoorBn15
import Derived.Test.YtejglhlodfhgkaaGreatDoorBn16
namespace Go.Proofs.YtejglhlodfhgkaaGreatDoor
set_option linter.unusedVariables false
set_option linter.unusedSimpArgs false
theorem getD_varint (n i : Nat) (r : List Int) (h : i < glen n) : (varint n ++ r).getD i 0 = ((gby n i : Nat) : Int) := by
  simp [List.getD, List.getElem?_append_left (by rw [varint_length]; exact h : i < (varint n).length), varint_get h]
theorem rdFrom_varint (n most : Nat) (r : List Int) (hn : n < 18446744073709551616) : ∀ (d i k : Nat), i + d + 1 = glen n → d < k →
    rdFrom (varint n ++ r) most k i = if most < n then (0, 0, some 4) else (n, glen n, none) := by
  intro d
  induction d with
  | zero =>
    intro i k h hk
    obtain ⟨k, rfl⟩ : ∃ j, k = j + 1 := ⟨k - 1, by omega⟩
    have hl := gby_last (by omega : i + 1 = glen n)
    rw [rdFrom, getD_varint n i r (by omega), if_pos (by omega), Int.toNat_natCast, show i + 1 = glen n by omega, accF_varint n r hn (glen n) (Nat.le_refl _), mod_glen]
    unfold chk
    rw [if_neg]
    rintro (⟨h1, h2⟩ | ⟨h1, h2⟩)
    · rw [hl.1] at h2
      have h3 := glen_lo n (i - 1) (by omega)
      obtain ⟨j, rfl⟩ : ∃ j, i = j + 1 := ⟨i - 1, by omega⟩
      rw [Nat.add_sub_cancel] at h3
      rw [div_pow_step] at h2
      omega
    · rw [hl.1, show i = 9 by omega] at h2
      have e : (128 : Nat) ^ 9 = 9223372036854775808 := by decide
      rw [e] at h2
      omega
  | succ d ih =>
    intro i k h hk
    obtain ⟨k, rfl⟩ : ∃ j, k = j + 1 := ⟨k - 1, by omega⟩
    have hm := gby_more (by omega : i + 1 < glen n)
    rw [rdFrom, getD_varint n i r (by omega), if_neg (by omega)]
    exact ih (i + 1) k (by omega) (by omega)
theorem rdF_varint (n most : Nat) (r : List Int) (hn : n < 18446744073709551616) : rdF (varint n ++ r) most = if most < n then (0, 0, some 4) else (n, glen n, none) := by
  have h1 := glen_pos n
  have h2 := glen_le hn
  unfold rdF
  exact rdFrom_varint n most r hn (glen n - 1) 0 _ (by omega) (by rw [List.length_append, varint_length]; omega)
theorem drop_varint (n : Nat) (r : List Int) : (varint n ++ r).drop (glen n) = r := by rw [← varint_length n]; exact List.drop_left
theorem uintS_varint (n most : Nat) (r : List Int) (hn : n < 18446744073709551616) (hm : n ≤ most) : uintS (varint n ++ r, none) most = (n, r, none) := by
  have h := rdF_varint n most r hn
  rw [if_neg (by omega)] at h
  rw [uintS_good (by rw [h]), h]
  show (n, (varint n ++ r).drop (glen n), none) = _
  rw [drop_varint]
theorem intS_varint (i : Int) (r : List Int) (h0 : -9223372036854775808 ≤ i) (h1 : i ≤ 9223372036854775807) : intS (varint (zig i) ++ r, none) = (i, r, none) := by
  have hz := zig_lt h0 h1
  unfold intS
  rw [uintS_varint (zig i) 18446744073709551615 r hz (by omega)]
  simp only [unzig_zig]
theorem hashS_row (f : Nat → Int) (r : List Int) : (hashS (rowL 32 f ++ r, none)).2 = (r, none) ∧ rowOf .u8 32 (hashS (rowL 32 f ++ r, none)).1 = rowOf .u8 32 f := by
  rw [hashS_long (by rw [List.length_append, rowL_length]; omega)]
  refine ⟨?_, rowOf_congr _ _ _ _ fun i hi => ?_⟩
  · show ((rowL 32 f ++ r).drop 32, none) = _
    have h32 : (rowL 32 f ++ r).drop (rowL 32 f).length = r := List.drop_left
    rw [rowL_length] at h32
    rw [h32]
  · show (rowL 32 f ++ r).getD i 0 = f i
    rw [List.getD, List.getElem?_append_left (by rw [rowL_length]; exact hi), rowL, List.getElem?_map, List.getElem?_range hi]
    rfl
end Go.Proofs.YtejglhlodfhgkaaGreatDoor
namespace Go.Proofs.YtejglhlodfhgkaaGreatDoor
set_option linter.unusedVariables false
set_option linter.unusedSimpArgs false
open Go.RowKit
set_option maxRecDepth 100000
set_option linter.unusedSimpArgs false
set_option linter.unusedVariables false
theorem getO_mem {t : Option AvT} (h : Srt (pairsO t)) (k v : ByteArray) : getO t k = some v ↔ (k, v) ∈ pairsO t := by
  cases t with
  | none => constructor <;> intro h2 <;> cases h2
  | some t => exact get_mem k t h v
theorem setO_pairs {t : Option AvT} (h : Srt (pairsO t)) (k v : ByteArray) : (setO t k v).pairs = insL k v (pairsO t) := by
  cases t with
  | none => rfl
  | some t => exact set_pairs k v t h
theorem insL_mem {k v : ByteArray} {l : List KV} {p : KV} : p ∈ insL k v l ↔ p = (k, v) ∨ (p ∈ l ∧ p.1 ≠ k) := by
  unfold insL
  rw [List.mem_append, List.mem_cons, List.mem_filter, List.mem_filter]
  constructor
  · rintro (⟨h1, h2⟩ | h | ⟨h1, h2⟩)
    · exact .inr ⟨h1, bl_ne h2⟩
    · exact .inl h
    · exact .inr ⟨h1, fun e => bl_ne h2 e.symm⟩
  · rintro (h | ⟨h1, h2⟩)
    · exact .inr (.inl h)
    · by_cases hb : bl p.1 k = true
      · exact .inl ⟨h1, hb⟩
      · by_cases hb2 : bl k p.1 = true
        · exact .inr (.inr ⟨h1, hb2⟩)
        · exact absurd (bl_total (by simpa using hb) (by simpa using hb2)) h2
theorem opt_ext {α : Type} {a b : Option α} (h : ∀ v, a = some v ↔ b = some v) : a = b := by
  cases a with
  | none => cases b with
    | none => rfl
    | some y => exact ((h y).2 rfl)
  | some x => exact ((h x).1 rfl).symm
theorem getO_set_same {t : Option AvT} (h : Srt (pairsO t)) (k v : ByteArray) : getO (some (setO t k v)) k = some v := by
  rw [getO_mem (t := some (setO t k v)) (setO_srt h k v)]
  show (k, v) ∈ (setO t k v).pairs
  rw [setO_pairs h, insL_mem]
  exact .inl rfl
theorem getO_set_other {t : Option AvT} (h : Srt (pairsO t)) {k k' : ByteArray} (v : ByteArray) (hk : k' ≠ k) : getO (some (setO t k v)) k' = getO t k' := by
  apply opt_ext
  intro x
  rw [getO_mem (t := some (setO t k v)) (setO_srt h k v), getO_mem h]
  show (k', x) ∈ (setO t k v).pairs ↔ _
  rw [setO_pairs h, insL_mem]
  constructor
  · rintro (h2 | h2)
    · injection h2 with h2 _; exact absurd h2 hk
    · exact h2.1
  · intro h2; exact .inr ⟨h2, hk⟩
theorem getO_drop_same {t : Option AvT} (h : Srt (pairsO t)) (k : ByteArray) : getO (dropO t k) k = none := by
  apply opt_ext
  intro x
  rw [getO_mem (dropO_srt h k), dropO_pairs h, List.mem_filter]
  simp
theorem getO_drop_other {t : Option AvT} (h : Srt (pairsO t)) {k k' : ByteArray} (hk : k' ≠ k) : getO (dropO t k) k' = getO t k' := by
  apply opt_ext
  intro x
  rw [getO_mem (dropO_srt h k), getO_mem h, dropO_pairs h, List.mem_filter]
  simp [hk]
theorem bkDec_enc {x : Int} (h : -9223372036854775808 ≤ x ∧ x ≤ 9223372036854775807) : bkDec (encI x) = x := by
  have e : numsOf (encI x) = varint (zig x) ++ [] := by rw [List.append_nil]; exact numsOf_str _ (varint_ok _)
  unfold bkDec
  rw [e, intS_varint x [] h.1 h.2]
  rfl
theorem bkDec_none : bkDec (strO none) = 0 := by kernel_rfl
theorem bkV_none {t : Option AvT} {k : ByteArray} (h : getO t k = none) : bkV t k = 0 := by unfold bkV; rw [h]; exact bkDec_none
theorem bkV_same {t : Option AvT} (h : Srt (pairsO t)) (k : ByteArray) {x : Int} (hx : -9223372036854775808 ≤ x ∧ x ≤ 9223372036854775807) : bkV (chgT t k x) k = x := by
  unfold chgT
  by_cases h0 : x = 0
  · rw [if_pos h0, bkV_none (getO_drop_same h k), h0]
  · rw [if_neg h0]
    unfold bkV
    rw [getO_set_same h]
    exact bkDec_enc hx
theorem bkV_other {t : Option AvT} (h : Srt (pairsO t)) {k k' : ByteArray} (x : Int) (hk : k' ≠ k) : bkV (chgT t k x) k' = bkV t k' := by
  unfold chgT bkV
  by_cases h0 : x = 0
  · rw [if_pos h0, getO_drop_other h hk]
  · rw [if_neg h0, getO_set_other h _ hk]
theorem bkV_nil (k : ByteArray) : bkV none k = 0 := bkV_none rfl
theorem addE_ok {a b : Int} (h : addE a b = none) : amt a ∧ amt b ∧ a + b ≤ 1152921504606846976 ∧ addR a b = a + b := by
  have h0 := h
  unfold addE at h
  by_cases h1 : amt a ∧ amt b
  · rw [if_pos h1] at h
    by_cases h2 : a + b ≤ 1152921504606846976
    · exact ⟨h1.1, h1.2, h2, if_pos h0⟩
    · rw [if_neg h2] at h; cases h
  · rw [if_neg h1] at h; cases h
theorem addE_yes {a b : Int} (ha : amt a) (hb : amt b) (h : a + b ≤ 1152921504606846976) : addE a b = none := by
  unfold addE
  rw [if_pos ⟨ha, hb⟩, if_pos h]
theorem subE_ok {a b : Int} (h : subE a b = none) : amt a ∧ amt b ∧ b ≤ a ∧ subR a b = a - b := by
  have h0 := h
  unfold subE at h
  by_cases h1 : amt a ∧ amt b
  · rw [if_pos h1] at h
    by_cases h2 : b ≤ a
    · exact ⟨h1.1, h1.2, h2, if_pos h0⟩
    · rw [if_neg h2] at h; cases h
  · rw [if_neg h1] at h; cases h
theorem subE_yes {a b : Int} (ha : amt a) (hb : amt b) (h : b ≤ a) : subE a b = none := by
  unfold subE
  rw [if_pos ⟨ha, hb⟩, if_pos h]
/-- keys -/
theorem supK_get0 (d : ByteArray) : (supK d).data.toList[0]? = some 115 := by
  unfold supK
  rw [ByteArray.data_append, Array.toList_append]; rfl
theorem balK_get0 (n d : ByteArray) : (balK n d).data.toList[0]? = some 98 := by
  unfold balK
  rw [ByteArray.data_append, ByteArray.data_append, ByteArray.data_append]
  simp only [Array.toList_append]; rfl
theorem bal_sup (n d d' : ByteArray) : balK n d ≠ supK d' := fun e => by
  have h1 := balK_get0 n d
  rw [e, supK_get0] at h1
  cases h1
theorem stp2_ok {c : Option Nat} {t : Option AvT} {k1 k2 : ByteArray} {E1 E2 : Int → Int → Option Nat} {R1 R2 : Int → Int → Int} {a : Int} (h : (stp2 c t k1 k2 E1 E2 R1 R2 a).e = none) :
    c = none ∧ E1 (bkV t k1) a = none ∧ E2 (bkV (chgT t k1 (R1 (bkV t k1) a)) k2) a = none ∧ (stp2 c t k1 k2 E1 E2 R1 R2 a).t = chgT (chgT t k1 (R1 (bkV t k1) a)) k2 (R2 (bkV (chgT t k1 (R1 (bkV t k1) a)) k2) a) := by
  unfold stp2 st2E at h
  simp only at h
  cases c with
  | some e => cases h
  | none =>
    simp only at h
    cases h1 : E1 (bkV t k1) a with
    | some e => rw [h1] at h; cases h
    | none =>
      rw [h1] at h
      simp only at h
      refine ⟨rfl, rfl, h, ?_⟩
      unfold stp2 st2T chgO
      simp only [h1, h]
theorem stp2_err {c : Option Nat} {t : Option AvT} {k1 k2 : ByteArray} {E1 E2 : Int → Int → Option Nat} {R1 R2 : Int → Int → Int} {a : Int} {x : Nat} (h : (stp2 c t k1 k2 E1 E2 R1 R2 a).e = some x) : (stp2 c t k1 k2 E1 E2 R1 R2 a).t = none := by
  unfold stp2 st2E at h
  unfold stp2 st2T chgO
  simp only at h ⊢
  cases c with
  | some e => rfl
  | none =>
    simp only at h ⊢
    cases h1 : E1 (bkV t k1) a with
    | some e => rfl
    | none =>
      rw [h1] at h
      simp only at h ⊢
      rw [h]
theorem stp2_yes {c : Option Nat} {t : Option AvT} {k1 k2 : ByteArray} {E1 E2 : Int → Int → Option Nat} {R1 R2 : Int → Int → Int} {a : Int} (h0 : c = none) (h1 : E1 (bkV t k1) a = none) (h2 : E2 (bkV (chgT t k1 (R1 (bkV t k1) a)) k2) a = none) : (stp2 c t k1 k2 E1 E2 R1 R2 a).e = none := by
  unfold stp2 st2E
  simp only [h0, h1, h2]
theorem mint_GT {N g : Nat} {t : Option AvT} (h : GT N g t) {n d : ByteArray} {a : Int} (he : (mintR t n d a).e = none) (hz : n.size + d.size + 20 ≤ N) : GT N (g + 2) (mintR t n d a).t := by
  obtain ⟨-, -, -, e⟩ := stp2_ok he
  rw [show (mintR t n d a).t = _ from e]
  exact (h.chg _ addR_amt (by rw [supK_size]; omega)).chg _ addR_amt (by rw [balK_size]; omega)
theorem send_GT {N g : Nat} {t : Option AvT} (h : GT N g t) {n m d : ByteArray} {a : Int} (he : (sendR t n m d a).e = none) (hz : n.size + m.size + d.size + 20 ≤ N) : GT N (g + 2) (sendR t n m d a).t := by
  obtain ⟨-, -, -, e⟩ := stp2_ok he
  rw [show (sendR t n m d a).t = _ from e]
  exact (h.chg _ subR_amt (by rw [balK_size]; omega)).chg _ addR_amt (by rw [balK_size]; omega)
end Go.Proofs.YtejglhlodfhgkaaGreatDoor
namespace Go.Proofs.YtejglhlodfhgkaaGreatDoor
set_option linter.unusedVariables false
set_option linter.unusedSimpArgs false
open Go.RowKit Go.Extern.Stop Go.Stop Go.Extern
set_option maxRecDepth 100000
set_option linter.unusedSimpArgs false
set_option linter.unusedVariables false
theorem num16_any (e : Option Nat) (w : World) (hg : ErrType w) :
    Calls Tryz.prog 31 #[errV e] w fun r w' => r = .returned (.int .i64 (numE e)) ∧ Below w.heap.size w w' := by
  cases e with
  | none =>
    show Calls Tryz.prog 31 #[.nilIface] w _
    go_enter Tryz.func31, Tryz.ntmps31
    go_wp2
    go_ret
    exact ⟨rfl, below_alloc w _⟩
  | some n =>
    show Calls Tryz.prog 31 #[.iface 107 (.int .i64 n)] w _
    have HB := Lib.hid (below_alloc w (.cells #[.int .i64 0] 107))
    have HE := Lib.hid (hg.below HB.out)
    have HA := Lib.hid (as_hit n ⟨w.heap.size, 0, none⟩ (.int .i64 0) (w.alloc (.cells #[.int .i64 0] 107)) HE.out (by rw [cell_of_row _ _ _ _ _ _ (heap_alloc_new w _)]; rfl) (frozen_of_row _ _ _ _ _ (heap_alloc_new w _)))
    have hb2 := asW_below (w.alloc (.cells #[.int .i64 0] 107)) ⟨w.heap.size, 0, none⟩ n
    have hh : (asW (w.alloc (.cells #[.int .i64 0] 107)) ⟨w.heap.size, 0, none⟩ n).heap[w.heap.size]? = some (.cells #[.int .i64 0] 107 (0, 0)) := (hb2.block _ (by simp)).trans (heap_alloc_new w _)
    have hc : ((asW (w.alloc (.cells #[.int .i64 0] 107)) ⟨w.heap.size, 0, none⟩ n).setCell ⟨w.heap.size, 0, none⟩ (.int .i64 n)).cell? ⟨w.heap.size, 0, none⟩ = some (.int .i64 n) := by
      have := heap_setCell_same _ w.heap.size 0 _ _ (.int .i64 n) hh
      rw [cell_of_row _ _ _ _ _ _ this]; rfl
    have HF := Lib.hid ((HB.out.trans (hb2.mono (by simp))).setCell (p := ⟨w.heap.size, 0, none⟩) (Nat.le_refl _) (.int .i64 (n : Int)))
    clear hb2 hh
    generalize (asW (w.alloc (.cells #[.int .i64 0] 107)) ⟨w.heap.size, 0, none⟩ n).setCell ⟨w.heap.size, 0, none⟩ (.int .i64 n) = w2 at *
    go_enter Tryz.func31, Tryz.ntmps31
    go_wp2_with (go_at_call 57; (with_reducible refine HA.out.mono ?_); rintro ev w3 ⟨rfl, rfl⟩)
    go_ret
    exact ⟨rfl, HF.out⟩
end Go.Proofs.YtejglhlodfhgkaaGreatDoor
namespace Go.Proofs.YtejglhlodfhgkaaGreatDoor
set_option linter.unusedVariables false
set_option linter.unusedSimpArgs false
open Go.RowKit
set_option maxRecDepth 100000
set_option linter.unusedSimpArgs false
set_option linter.unusedVariables false
abbrev anN : ByteArray := { data := #[97, 110, 110] }
abbrev boN : ByteArray := { data := #[98, 111, 98] }
abbrev atD : ByteArray := { data := #[97, 116, 111, 109] }
def suT : Option AvT := (mintR none anN atD 5).t
def suU : Option AvT := (sendR suT anN boN atD 2).t
theorem su_e1 : (mintR none anN atD 5).e = none := by kernel_rfl
theorem su_e2 : (sendR suT anN boN atD 2).e = none := by kernel_rfl
theorem su_e3 : (sendR suU anN boN atD 4).e = some 41 := by kernel_rfl
theorem su_b : bkV suU (balK anN atD) = 3 := by kernel_rfl
theorem su_s : bkV suU (supK atD) = 5 := by kernel_rfl
theorem suT_GT : GT 140737488351232 2 suT := mint_GT (GT.none _) su_e1 (by decide)
theorem suU_GT : GT 140737488351232 4 suU := send_GT suT_GT su_e2 (by decide)
set_option maxHeartbeats 4000000 in
theorem bksure_any (w : World) (he : Env w) (hg : ErrType w) : Calls Tryz.prog 45 #[] w fun e w' => e = .returned (.bool true) ∧ Below w.heap.size w w' := by
  have HE := Lib.hid he
  have HEL := Lib.hid he.lt
  have HGE := Lib.hid hg
  have HM := Lib.hid (fun (W : World) (h : Env W) => show Calls Tryz.prog 46 #[.pointer none, .string anN, .agg #[.string atD, .int .i64 5]] W (fun e w' => ∃ v, e = .returned (.tuple #[v, .nilIface]) ∧ TreeO w' v suT ∧ Below W.heap.size W w') from by
    have h2 := bkmint_any (.pointer none) none anN atD 5 W 0 h rfl (GT.none _) (by decide) (by decide) (by decide)
    unfold ChgPost at h2
    rw [su_e1] at h2
    exact h2)
  have HS1 := Lib.hid (fun (W : World) (v : Value) (h : Env W) (k : TreeO W v suT) => show Calls Tryz.prog 48 #[v, .string anN, .string boN, .agg #[.string atD, .int .i64 2]] W (fun e w' => ∃ v, e = .returned (.tuple #[v, .nilIface]) ∧ TreeO w' v suU ∧ Below W.heap.size W w') from by
    have h2 := bksend_any v suT anN boN atD 2 W 2 h k suT_GT (by decide) (by decide) (by decide)
    unfold ChgPost at h2
    rw [su_e2] at h2
    exact h2)
  have HS2 := Lib.hid (fun (W : World) (v : Value) (h : Env W) (k : TreeO W v suU) => show Calls Tryz.prog 48 #[v, .string anN, .string boN, .agg #[.string atD, .int .i64 4]] W (fun e w' => ∃ v, e = .returned (.tuple #[v, errV (some 41)]) ∧ TreeO w' v ((sendR suU anN boN atD 4).t) ∧ Below W.heap.size W w') from by
    have h2 := bksend_any v suU anN boN atD 4 W 4 h k suU_GT (by decide) (by decide) (by decide)
    unfold ChgPost at h2
    rw [su_e3] at h2
    exact h2)
  have HB := Lib.hid (fun (W : World) (v : Value) (k : TreeO W v suU) => show Calls Tryz.prog 36 #[v, .string anN, .string atD] W (fun e w' => e = .returned (.int .i64 3) ∧ Below W.heap.size W w') from by
    have h2 := bkbalance_any v suU anN atD W k (suU_GT.val _) (by decide)
    rw [su_b] at h2
    exact h2)
  have HP := Lib.hid (fun (W : World) (v : Value) (k : TreeO W v suU) => show Calls Tryz.prog 38 #[v, .string atD] W (fun e w' => e = .returned (.int .i64 5) ∧ Below W.heap.size W w') from by
    have h2 := bksupply_any v suU atD W k (suU_GT.val _) (by decide)
    rw [su_s] at h2
    exact h2)
  have HN := Lib.hid (fun (W : World) (h : ErrType W) => show Calls Tryz.prog 31 #[errV (some 41)] W (fun e w' => e = .returned (.int .i64 41) ∧ Below W.heap.size W w') from num16_any (some 41) W h)
  obtain ⟨T, hT⟩ : ∃ z, z = suT := ⟨_, rfl⟩
  obtain ⟨U, hU⟩ : ∃ z, z = suU := ⟨_, rfl⟩
  obtain ⟨V, hV⟩ : ∃ z, z = errV (some 41) := ⟨_, rfl⟩
  rw [← hT] at HM HS1
  rw [← hU] at HS1 HS2 HB HP
  rw [← hV] at HS2 HN
  clear he hg hT hU hV
  have HB0 := Lib.hid (Below.refl w.heap.size w)
  go_enter Tryz.func45, Tryz.ntmps45
  go_wp2_with (first
    | (refine wpList_buildTo rfl 23 #[(0, .const (.string atD)), (1, .const (.int .i64 5))] rfl (some 8) rfl #[.string atD, .int .i64 5] (by kernel_rfl) ?_)
    | (refine wpList_buildTo rfl 23 #[(0, .const (.string atD)), (1, .const (.int .i64 2))] rfl (some 14) rfl #[.string atD, .int .i64 2] (by kernel_rfl) ?_)
    | (refine wpList_buildTo rfl 23 #[(0, .const (.string atD)), (1, .const (.int .i64 4))] rfl (some 20) rfl #[.string atD, .int .i64 4] (by kernel_rfl) ?_)
    | (go_at_call 46; (with_reducible refine (HM.out _ (HE.out.below HB0.out HEL.out)).mono ?_); rintro e w1 ⟨v1, rfl, ht, hb⟩; have HT := Lib.hid ht; replace HB0 := Lib.hid (HB0.out.trans (hb.mono HB0.out.size)); clear ht hb)
    | (go_at_call 48; (with_reducible refine (HS1.out _ _ (HE.out.below HB0.out HEL.out) HT.out).mono ?_); rintro e w2 ⟨v2, rfl, ht, hb⟩; have HU := Lib.hid ht; replace HB0 := Lib.hid (HB0.out.trans (hb.mono HB0.out.size)); clear ht hb)
    | (go_at_call 48; (with_reducible refine (HS2.out _ _ (HE.out.below HB0.out HEL.out) HU.out).mono ?_); rintro e w3 ⟨v3, rfl, ht, hb⟩; replace HU := Lib.hid (HU.out.below hb); replace HB0 := Lib.hid (HB0.out.trans (hb.mono HB0.out.size)); clear ht hb)
    | (go_at_call 31; (with_reducible refine (HN.out _ (HGE.out.below HB0.out)).mono ?_); rintro e w4 ⟨rfl, hb⟩; replace HU := Lib.hid (HU.out.below hb); replace HB0 := Lib.hid (HB0.out.trans (hb.mono HB0.out.size)); clear hb)
    | (go_at_call 36; (with_reducible refine (HB.out _ _ HU.out).mono ?_); rintro e w5 ⟨rfl, hb⟩; replace HU := Lib.hid (HU.out.below hb); replace HB0 := Lib.hid (HB0.out.trans (hb.mono HB0.out.size)); clear hb)
    | (go_at_call 38; (with_reducible refine (HP.out _ _ HU.out).mono ?_); rintro e w6 ⟨rfl, hb⟩; replace HB0 := Lib.hid (HB0.out.trans (hb.mono HB0.out.size)); clear hb))
  go_ret
  exact ⟨rfl, HB0.out⟩
end Go.Proofs.YtejglhlodfhgkaaGreatDoor
namespace Go.Proofs.YtejglhlodfhgkaaGreatDoor
set_option linter.unusedVariables false
set_option linter.unusedSimpArgs false
open Go.RowKit
set_option maxRecDepth 100000
set_option linter.unusedSimpArgs false
set_option linter.unusedVariables false
theorem rowL_get (k : Nat → Int) (r : List Int) (i : Nat) (hi : i < 32) : (rowL 32 k ++ r).getD i 0 = k i := by
  unfold rowL
  rw [List.getD_eq_getElem?_getD, List.getElem?_append_left (by simp; exact hi), List.getElem?_map, List.getElem?_range hi]
  rfl
theorem rowOf_congr16 {k k' : Nat → Int} (h : ∀ i, i < 32 → k i = k' i) : rowOf .u8 32 k = rowOf .u8 32 k' := by
  unfold rowOf
  apply Array.ext
  · simp
  · intro i h1 h2
    simp at h1
    simp [h i h1]
theorem acC_congr {k k' : Nat → Int} (h : ∀ i, i < 32 → k i = k' i) (s : Int) : acC k s = acC k' s := by unfold acC; rw [rowOf_congr16 h]
theorem acc_enc {k : Nat → Int} {s : Int} (hk : ∀ i, i < 32 → 0 ≤ k i ∧ k i < 256) (hs : -9223372036854775808 ≤ s ∧ s ≤ 9223372036854775807) : ∃ k', accD (encA k s) = ⟨k', s, none⟩ ∧ ∀ i, i < 32 → k' i = k i := by
  have hok : bytesOk (rowL 32 k ++ varint (zig s)) := fun x hx => by
    rcases List.mem_append.1 hx with h | h
    · unfold rowL at h
      obtain ⟨i, hi, rfl⟩ := List.mem_map.1 h
      exact hk i (List.mem_range.1 hi)
    · exact varint_ok _ x h
  have e : numsOf (encA k s) = rowL 32 k ++ (varint (zig s) ++ []) := by rw [List.append_nil]; exact numsOf_str _ hok
  have hl : ¬ (rowL 32 k ++ (varint (zig s) ++ [])).length < 32 := by rw [List.length_append, rowL32]; omega
  have h1 := (hashS_row k (varint (zig s) ++ [])).1
  refine ⟨(hashS (rowL 32 k ++ (varint (zig s) ++ []), none)).1, ?_, fun i hi => ?_⟩
  · unfold accD
    rw [e, h1, intS_varint s [] hs.1 hs.2]
    rfl
  · rw [hashS_long hl]
    exact rowL_get k _ i hi
theorem findR_at {t : Option AvT} {n : ByteArray} (hn : ckN [n] = none) {v : ByteArray} (h : getO t (accK n) = some v) : findR t n = accD v := by
  unfold findR
  rw [hn, h]
  rfl
theorem findR_none {n : ByteArray} (hn : ckN [n] = none) : findR none n = zAc 42 := by
  unfold findR
  rw [hn]
  have : accD (strO (getO none (accK n))) = accD eBA := rfl
  simp only
  rw [this]
  have e : doneE (intS (hashS (numsOf eBA, none)).2).2 = some 12 := by kernel_rfl
  unfold accD
  rw [e]; rfl
theorem ckN_of {n : ByteArray} (h : bkN n = true) : ckN [n] = none := by unfold ckN; simp [h]
theorem ckN_no {n : ByteArray} (h : bkN n = false) : ckN [n] = some 42 := by unfold ckN; simp [h]
theorem ckN2_of {m n : ByteArray} (h1 : bkN m = true) (h : bkN n = true) : ckN [m, n] = none := by unfold ckN; simp [h, h1]
theorem ckN2_no {m n : ByteArray} (h : bkN n = false) : ckN [m, n] = some 42 := by unfold ckN; simp [h]
theorem chk_atD : chkD atD = none := by kernel_rfl
theorem nm_an : bkN anN = true := by kernel_rfl
def k1H : Nat → Int := fun i => if i = 0 then 1 else 0
theorem k1H_b : ∀ i, i < 32 → 0 ≤ k1H i ∧ k1H i < 256 := fun i _ => by unfold k1H; split <;> decide
theorem zero_add16 {n : Int} (h : amt n) : addE 0 n = none ∧ addR 0 n = n := by
  have h1 : addE 0 n = none := addE_yes ⟨by decide, by decide⟩ h (by obtain ⟨_, _⟩ := h; omega)
  exact ⟨h1, by unfold addR; rw [if_pos h1]; omega⟩
/-- Mint of a name that is one, out of nothing -/
theorem mint_new {n : ByteArray} (hn : bkN n = true) {a : Int} (ha : amt a) : (mintR none n atD a).e = none ∧ (mintR none n atD a).t = chgT (chgT none (supK atD) a) (balK n atD) a := by
  have h0 : ckC atD [n] = none := by unfold ckC; rw [ckN_of hn]; exact chk_atD
  have s0 : Srt (pairsO none) := List.Pairwise.nil
  have z1 : bkV none (supK atD) = 0 := bkV_nil _
  have z2 : bkV (chgT none (supK atD) (addR (bkV none (supK atD)) a)) (balK n atD) = 0 := by
    rw [bkV_other s0 _ (bal_sup n atD atD)]; exact bkV_nil _
  have he : (mintR none n atD a).e = none := stp2_yes h0 (by rw [z1]; exact (zero_add16 ha).1) (by rw [z2]; exact (zero_add16 ha).1)
  refine ⟨he, ?_⟩
  obtain ⟨-, -, -, e⟩ := stp2_ok he
  rw [show (mintR none n atD a).t = _ from e, z2, z1, (zero_add16 ha).2]
theorem srt_chg {t : Option AvT} (h : Srt (pairsO t)) (k : ByteArray) (x : Int) : Srt (pairsO (chgT t k x)) := by
  unfold chgT
  split
  · exact dropO_srt h k
  · exact setO_srt h k _
theorem srt_nil : Srt (pairsO (none : Option AvT)) := List.Pairwise.nil
/-- Send between names that are two -/
theorem send_yes {t : Option AvT} (ht : Srt (pairsO t)) {n m d : ByteArray} (hc : ckC d [n, m] = none) {a x : Int} (hx : bkV t (balK n d) = x) (ha : amt a) (hxa : amt x) (hle : a ≤ x) {y : Int} (hy : bkV (chgT t (balK n d) (x - a)) (balK m d) = y) (hya : amt y) (hs : y + a ≤ 1152921504606846976) :
    (sendR t n m d a).e = none ∧ (sendR t n m d a).t = chgT (chgT t (balK n d) (x - a)) (balK m d) (y + a) := by
  have h1 : subE (bkV t (balK n d)) a = none := by rw [hx]; exact subE_yes hxa ha hle
  have r1 : subR (bkV t (balK n d)) a = x - a := by rw [(subE_ok h1).2.2.2, hx]
  have h2 : addE (bkV (chgT t (balK n d) (subR (bkV t (balK n d)) a)) (balK m d)) a = none := by rw [r1, hy]; exact addE_yes hya ha hs
  have he : (sendR t n m d a).e = none := stp2_yes hc h1 h2
  refine ⟨he, ?_⟩
  obtain ⟨-, -, -, e⟩ := stp2_ok he
  rw [show (sendR t n m d a).t = _ from e, r1, hy, (addE_ok (by rw [r1, hy] at h2; exact h2)).2.2.2]
end Go.Proofs.YtejglhlodfhgkaaGreatDoor

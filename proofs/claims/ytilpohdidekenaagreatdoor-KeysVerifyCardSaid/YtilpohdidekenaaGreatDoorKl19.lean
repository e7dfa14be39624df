/- Part 19 of the proof. -/
import Derived.Test.YtilpohdidekenaaGreatDoorKl1
import Derived.Test.YtilpohdidekenaaGreatDoorKl18
namespace Go.Proofs.YtilpohdidekenaaGreatDoor
set_option linter.unusedVariables false
set_option linter.unusedSimpArgs false
open Go.RowKit
set_option maxRecDepth 100000
/-- behind a call of a Writer that was made above the mark B -/
theorem wpost_on {p B : Nat} {v : Value} {xs ys : List Int} {w0 w w' : World} {e : Ending} (h : WPost p v xs ys w e w') (hw : WAt w p v xs) (hb : Below B w0 w) (hB : B ≤ p) :
    e = .returned (.pointer (some ⟨p, 0, none⟩)) ∧ ∃ v', WAt w' p v' (xs ++ ys) ∧ Below B w0 w' := by
  obtain ⟨he, v', h1, h2⟩ := h
  exact ⟨he, v', h1, hb.trans (h2.below hw hB)⟩
theorem wuint_on (p B : Nat) (v : Value) (xs : List Int) (n : Nat) (w0 w : World) (hw : WAt w p v xs) (hb : Below B w0 w) (hB : B ≤ p) (hn : n < 18446744073709551616) (hl : xs.length + 10 ≤ 140737488355328) :
    Calls Tryz.prog 85 #[.pointer (some ⟨p, 0, none⟩), .int .u64 (n : Int)] w fun e w' => e = .returned (.pointer (some ⟨p, 0, none⟩)) ∧ ∃ v', WAt w' p v' (xs ++ varint n) ∧ Below B w0 w' :=
  (wuint_any p v xs n w hw hn hl).mono fun _ _ h => wpost_on h hw hb hB
theorem wuint_lit (p B : Nat) (v : Value) (xs : List Int) (n : Nat) (m : Int) (hm : m = (n : Int)) (w0 w : World) (hw : WAt w p v xs) (hb : Below B w0 w) (hB : B ≤ p) (hn : n < 18446744073709551616) (hl : xs.length + 10 ≤ 140737488355328) :
    Calls Tryz.prog 85 #[.pointer (some ⟨p, 0, none⟩), .int .u64 m] w fun e w' => e = .returned (.pointer (some ⟨p, 0, none⟩)) ∧ ∃ v', WAt w' p v' (xs ++ varint n) ∧ Below B w0 w' := by
  subst hm; exact wuint_on p B v xs n w0 w hw hb hB hn hl
theorem whash_on (p B : Nat) (v : Value) (xs : List Int) (f : Nat → Int) (w0 w : World) (hw : WAt w p v xs) (hb : Below B w0 w) (hB : B ≤ p) (hl : xs.length + 32 ≤ 140737488355328) :
    Calls Tryz.prog 131 #[.pointer (some ⟨p, 0, none⟩), .agg (rowOf .u8 32 f)] w fun e w' => e = .returned (.pointer (some ⟨p, 0, none⟩)) ∧ ∃ v', WAt w' p v' (xs ++ rowL 32 f) ∧ Below B w0 w' :=
  (whash_any p v xs f w hw hl).mono fun _ _ h => wpost_on h hw hb hB
theorem wdone_on (p B : Nat) (v : Value) (xs : List Int) (w0 w : World) (hw : WAt w p v xs) (hb : Below B w0 w) (hB : B ≤ p) (hl : xs.length ≤ 140737488355328) :
    Calls Tryz.prog 86 #[.pointer (some ⟨p, 0, none⟩)] w fun e w' => ∃ v', e = .returned v' ∧ BytesIn w' v' xs ∧ Below B w0 w' :=
  (done_any p v xs w hw hl).mono fun _ _ ⟨v', he, ho, hb'⟩ => ⟨v', he, owns_in ho (by unfold maxLen; omega), hb.trans (hb'.mono (by have := hw.lt; omega))⟩
theorem shSum_on (B : Nat) (v : Value) (xs : List Int) (w0 w : World) (hx : BytesIn w v xs) (hb : Below B w0 w) (hB : B ≤ w.heap.size) (he : Env w) :
    Calls Tryz.prog 48 #[v] w fun e w' => e = .returned (.agg (rowOf .u8 32 (sumF xs))) ∧ Below B w0 w' :=
  (shSum_any v xs w hx he).mono fun _ _ ⟨h1, h2⟩ => ⟨h1, hb.trans (h2.mono hB)⟩
theorem new_on (w : World) : Calls Tryz.prog 84 #[] w fun e w' => e = .returned (.pointer (some ⟨w.heap.size, 0, none⟩)) ∧ WAt w' w.heap.size (.slice none 0 0) [] ∧ Below w.heap.size w w' := new_any w
theorem rowL32 (f : Nat → Int) : (rowL 32 f).length = 32 := rowL_length 32 f
theorem vlen (n : Nat) (h : n < 18446744073709551616) : (varint n).length ≤ 10 := by rw [varint_length]; exact glen_le h
theorem row32_list (f : Nat → Int) : (rowOf .u8 32 f).toList.length = 32 := by simp [rowOf]
/-- what lies in memory while a chain's value is made: the value v in block b, the result's zeros in block r, all above the mark m -/
structure HaveM (w w' : World) (b r B : Nat) (v : Nat → Int) : Prop where
  below : Below w.heap.size w w'
  val : RowAt w' b .u8 32 23 v
  res : RowAt w' r .u8 32 23 (fun _ => 0)
  env : Env w'
  size : B ≤ w'.heap.size
  lo : 3 < B
  hb : b < B
  hr : r < B
theorem HaveM.calls {w w' w2 : World} {b r B : Nat} {v : Nat → Int} (m : HaveM w w' b r B v) (hw : w.heap.size ≤ B) (h : Below B w' w2) : HaveM w w2 b r B v :=
  ⟨m.below.trans (h.mono hw), m.val.below h m.hb, m.res.below h m.hr, m.env.below h m.lo, Nat.le_trans m.size h.size, m.lo, m.hb, m.hr⟩
theorem HaveM.put {w w' : World} {b r B : Nat} {v : Nat → Int} (m : HaveM w w' b r B v) (h : w.heap.size ≤ b ∧ b ≠ r ∧ 3 < b) (v' : Nat → Int) : HaveM w (w'.setRow b (rowOf .u8 32 v')) b r B v' :=
  ⟨below_setRow m.below h.1 _, setRow_heap _ _ _ _ _ _ m.val, (setRow_other _ _ _ _ (Ne.symm h.2.1)).trans m.res, m.env.below (B := b) (below_setRow (Below.refl _ _) (Nat.le_refl _) _) h.2.2, by simpa [World.setRow] using m.size, m.lo, m.hb, m.hr⟩
set_option maxHeartbeats 1000000 in
theorem wstart_any (seed : Nat → Int) (leaf chain : Int) (w : World) (he : Env w) :
    Calls Tryz.prog 100 #[.agg (rowOf .u8 32 seed), .int .i64 leaf, .int .i64 chain] w fun e w' => e = .returned (.agg (rowOf .u8 32 (startF seed leaf chain))) ∧ Below w.heap.size w w' := by
  have HE := Lib.hid he
  clear he
  have HU1 := Lib.hid (uN_wrap leaf)
  have HU2 := Lib.hid (uN_wrap chain)
  have HL1 := Lib.hid (uN_lt leaf)
  have HL2 := Lib.hid (uN_lt chain)
  have HG1 := Lib.hid (vlen _ (uN_lt leaf))
  have HG2 := Lib.hid (vlen _ (uN_lt chain))
  have HG0 := Lib.hid (vlen 2 (by decide))
  go_enter Tryz.func100, Tryz.ntmps100
  go_upto_region 1 with (fail)
  rw [zeros32]
  have HB := Lib.hid ((below_alloc w (.cells (rowOf .u8 32 seed) 23)).trans ((below_alloc _ (.cells (rowOf .u8 32 (fun _ => 0)) 23)).mono (by simp)))
  have M : Hid (HaveM w ((w.alloc (.cells (rowOf .u8 32 seed) 23)).alloc (.cells (rowOf .u8 32 (fun _ => 0)) 23)) w.heap.size (w.heap.size + 1) (w.heap.size + 1 + 1) seed) := Lib.hid ⟨HB.out, (RowAt.new w .u8 32 23 seed).alloc _, by
    have := RowAt.new (w.alloc (.cells (rowOf .u8 32 seed) 23)) .u8 32 23 (fun _ => 0)
    rw [shSize_alloc] at this; exact this, HE.out.below HB.out HE.out.lt, by simp, by have := HE.out.lt; omega, by omega, by omega⟩
  clear HB HE
  generalize (w.alloc (.cells (rowOf .u8 32 seed) 23)).alloc (.cells (rowOf .u8 32 (fun _ => 0)) 23) = w1 at *
  refine wp_region_T (fun w' => RowAt w' w.heap.size .u8 32 23 seed) [0, 1, 3, 6, 9, 10, 11] (by kernel_rfl) ?_
  replace M := Lib.hid (show HaveM w w1.drew w.heap.size (w.heap.size + 1) (w.heap.size + 1 + 1) seed from M.out.calls (by omega) ((Below.refl _ _).drew))
  generalize w1.drew = w2 at *
  clear w1
  refine anyT_takeY (i := 4) (v := .int .i64 leaf) rfl (by kernel_rfl) (by kernel_rfl) (by kernel_rfl) (fun _ _ _ h => h) (by kernel_rfl) (Or.inl ⟨by rfl, by intro w; go_simp⟩) ?_
  try simp only [List.getElem_toArray, List.getElem_cons_succ, List.getElem_cons_zero, Act.put, List.setIfInBounds_toArray, List.set_cons_zero, List.set_cons_succ]
  refine anyT_takeY (i := 5) (v := .int .u64 (IntKind.u64.wrap leaf)) rfl (by kernel_rfl) (by kernel_rfl) (by kernel_rfl) (fun _ _ _ h => h) (by kernel_rfl) (Or.inl ⟨by rfl, by intro w; go_simp⟩) ?_
  try simp only [List.getElem_toArray, List.getElem_cons_succ, List.getElem_cons_zero, Act.put, List.setIfInBounds_toArray, List.set_cons_zero, List.set_cons_succ]
  refine anyT_takeY (i := 7) (v := .int .i64 chain) rfl (by kernel_rfl) (by kernel_rfl) (by kernel_rfl) (fun _ _ _ h => h) (by kernel_rfl) (Or.inl ⟨by rfl, by intro w; go_simp⟩) ?_
  try simp only [List.getElem_toArray, List.getElem_cons_succ, List.getElem_cons_zero, Act.put, List.setIfInBounds_toArray, List.set_cons_zero, List.set_cons_succ]
  refine anyT_takeY (i := 8) (v := .int .u64 (IntKind.u64.wrap chain)) rfl (by kernel_rfl) (by kernel_rfl) (by kernel_rfl) (fun _ _ _ h => h) (by kernel_rfl) (Or.inl ⟨by rfl, by intro w; go_simp⟩) ?_
  try simp only [List.getElem_toArray, List.getElem_cons_succ, List.getElem_cons_zero, Act.put, List.setIfInBounds_toArray, List.set_cons_zero, List.set_cons_succ]
  rw [HU1.out, HU2.out]
  refine anyT_take [3, 6, 9, 10, 11, 12] (i := 2) (v := .agg (rowOf .u8 32 seed)) rfl (by kernel_rfl) (by kernel_rfl) (by kernel_rfl) (fun _ _ _ h => h) (by kernel_rfl) (row_yields (by rfl) 23 (.tmp 3) rfl w.heap.size rfl .u8 32 seed _ (fun _ h => h) Tryz.underlying23 rfl (by kernel_rfl)) M.out.val ?_
  try simp only [List.getElem_toArray, List.getElem_cons_succ, List.getElem_cons_zero, Act.put, List.setIfInBounds_toArray, List.set_cons_zero, List.set_cons_succ]
  refine anyT_one (i := 0) (by kernel_rfl) rfl (fun K hK => ?_)
  rw [if_pos (by rfl)]
  try simp only [List.getElem_toArray, List.getElem_cons_succ, List.getElem_cons_zero]
  (go_simp; refine (new_on _).mono ?_; rintro e w3 ⟨rfl, HW, HB2⟩; have HP := Lib.hid M.out.size; replace M := Lib.hid (M.out.calls (by omega) (HB2.mono HP.out)); replace HW := Lib.hid HW; clear HB2)
  refine hK _ _ (fun _ => M.out.val) ?_
  clear hK K
  try simp only [List.getElem_toArray, List.getElem_cons_succ, List.getElem_cons_zero, Act.put, List.setIfInBounds_toArray, List.set_cons_zero, List.set_cons_succ]
  generalize w2.heap.size = p at *
  clear w2
  refine anyT_one (i := 1) (by kernel_rfl) rfl (fun K hK => ?_)
  rw [if_pos (by rfl)]
  try simp only [List.getElem_toArray, List.getElem_cons_succ, List.getElem_cons_zero]
  (go_simp; refine (wuint_lit p (w.heap.size + 1 + 1) _ _ 2 2 rfl _ _ HW.out (Below.refl _ _) HP.out (by decide) (by simp)).mono ?_; rintro e w4 ⟨rfl, v4, hw4, HB4⟩; replace M := Lib.hid (M.out.calls (by omega) HB4); replace HW := Lib.hid hw4; clear hw4 HB4 w3)
  refine hK _ _ (fun _ => M.out.val) ?_
  clear hK K
  try simp only [List.getElem_toArray, List.getElem_cons_succ, List.getElem_cons_zero, Act.put, List.setIfInBounds_toArray, List.set_cons_zero, List.set_cons_succ]
  refine anyT_one (i := 3) (by kernel_rfl) rfl (fun K hK => ?_)
  rw [if_pos (by rfl)]
  try simp only [List.getElem_toArray, List.getElem_cons_succ, List.getElem_cons_zero]
  (go_simp; refine (whash_on p (w.heap.size + 1 + 1) _ _ seed _ _ HW.out (Below.refl _ _) HP.out (by have := HG0.out; simp only [List.length_append, List.length_nil]; omega)).mono ?_; rintro e w5 ⟨rfl, v5, hw5, HB5⟩; replace M := Lib.hid (M.out.calls (by omega) HB5); replace HW := Lib.hid hw5; clear hw5 HB5 w4)
  refine hK _ _ (fun _ => M.out.val) ?_
  clear hK K
  try simp only [List.getElem_toArray, List.getElem_cons_succ, List.getElem_cons_zero, Act.put, List.setIfInBounds_toArray, List.set_cons_zero, List.set_cons_succ]
  refine anyT_one (i := 6) (by kernel_rfl) rfl (fun K hK => ?_)
  rw [if_pos (by rfl)]
  try simp only [List.getElem_toArray, List.getElem_cons_succ, List.getElem_cons_zero]
  (go_simp; refine (wuint_on p (w.heap.size + 1 + 1) _ _ (uN leaf) _ _ HW.out (Below.refl _ _) HP.out HL1.out (by have := HG0.out; have := rowL32 seed; simp only [List.length_append, List.length_nil]; omega)).mono ?_; rintro e w6 ⟨rfl, v6, hw6, HB6⟩; replace M := Lib.hid (M.out.calls (by omega) HB6); replace HW := Lib.hid hw6; clear hw6 HB6 w5)
  refine hK _ _ (fun _ => M.out.val) ?_
  clear hK K
  try simp only [List.getElem_toArray, List.getElem_cons_succ, List.getElem_cons_zero, Act.put, List.setIfInBounds_toArray, List.set_cons_zero, List.set_cons_succ]
  refine anyT_one (i := 9) (by kernel_rfl) rfl (fun K hK => ?_)
  rw [if_pos (by rfl)]
  try simp only [List.getElem_toArray, List.getElem_cons_succ, List.getElem_cons_zero]
  (go_simp; refine (wuint_on p (w.heap.size + 1 + 1) _ _ (uN chain) _ _ HW.out (Below.refl _ _) HP.out HL2.out (by have := HG0.out; have := HG1.out; have := rowL32 seed; simp only [List.length_append, List.length_nil]; omega)).mono ?_; rintro e w7 ⟨rfl, v7, hw7, HB7⟩; replace M := Lib.hid (M.out.calls (by omega) HB7); replace HW := Lib.hid hw7; clear hw7 HB7 w6)
  refine hK _ _ (fun _ => M.out.val) ?_
  clear hK K
  try simp only [List.getElem_toArray, List.getElem_cons_succ, List.getElem_cons_zero, Act.put, List.setIfInBounds_toArray, List.set_cons_zero, List.set_cons_succ]
  refine anyT_one (i := 10) (by kernel_rfl) rfl (fun K hK => ?_)
  rw [if_pos (by rfl)]
  try simp only [List.getElem_toArray, List.getElem_cons_succ, List.getElem_cons_zero]
  (go_simp; refine (wdone_on p (w.heap.size + 1 + 1) _ _ _ _ HW.out (Below.refl _ _) HP.out (by have := HG0.out; have := HG1.out; have := HG2.out; have := rowL32 seed; simp only [List.length_append, List.length_nil]; omega)).mono ?_; rintro e w8 ⟨v8, rfl, hw8, HB8⟩; replace M := Lib.hid (M.out.calls (by omega) HB8); have HX := Lib.hid hw8; clear hw8 HB8 HW w7)
  refine hK _ _ (fun _ => M.out.val) ?_
  clear hK K
  try simp only [List.getElem_toArray, List.getElem_cons_succ, List.getElem_cons_zero, Act.put, List.setIfInBounds_toArray, List.set_cons_zero, List.set_cons_succ]
  refine anyT_one (i := 11) (by kernel_rfl) rfl (fun K hK => ?_)
  rw [if_pos (by rfl)]
  try simp only [List.getElem_toArray, List.getElem_cons_succ, List.getElem_cons_zero]
  (go_simp; refine (shSum_on (w.heap.size + 1 + 1) _ _ _ _ HX.out (Below.refl _ _) M.out.size M.out.env).mono ?_; rintro e w9 ⟨rfl, HB9⟩; replace M := Lib.hid (M.out.calls (by omega) HB9); clear HB9 HX w8)
  refine hK _ _ (fun _ => M.out.val) ?_
  clear hK K
  try simp only [List.getElem_toArray, List.getElem_cons_succ, List.getElem_cons_zero, Act.put, List.setIfInBounds_toArray, List.set_cons_zero, List.set_cons_succ]
  rw [show sumF ([] ++ varint 2 ++ rowL 32 seed ++ varint (uN leaf) ++ varint (uN chain)) = startF seed leaf chain from by unfold startF; rw [List.nil_append]]
  refine anyT_one (i := 12) (by kernel_rfl) rfl (fun K hK => ?_)
  rw [if_pos (by rfl)]
  try simp only [List.getElem_toArray, List.getElem_cons_succ, List.getElem_cons_zero]
  (refine wp_store_row 23 (.tmp 6) (.tmp 18) rfl (w.heap.size + 1) _ rfl rfl 23 _ M.out.res (by rw [rowOf_size]; kernel_rfl) (by rw [rowOf_size, rowOf_size]) (rowOf_one _ _ _) ?_)
  refine hK _ _ (not_mem rfl) ?_
  clear hK K
  try simp only [List.getElem_toArray, List.getElem_cons_succ, List.getElem_cons_zero, Act.put, List.setIfInBounds_toArray, List.set_cons_zero, List.set_cons_succ]
  refine anyT_done (by kernel_rfl) ?_ _
  go_wp2_with (fail)
  refine bodyPost_ret (results_cell_row rfl _ _ (w.heap.size + 1) 23 (rowOf .u8 32 (startF seed leaf chain)) (0, 0) _ rfl (setRow_heap _ _ _ _ _ _ M.out.res) Tryz.underlying23 rfl (by rw [rowOf_size]; kernel_rfl)) rfl ?_
  exact ⟨rfl, below_setRow M.out.below (by omega) _⟩
set_option maxHeartbeats 1000000 in
theorem wstep_any (v : Nat → Int) (leaf chain from_ to_ : Int) (w : World) (he : Env w) :
    Calls Tryz.prog 99 #[.agg (rowOf .u8 32 v), .int .i64 leaf, .int .i64 chain, .int .i64 from_, .int .i64 to_] w fun e w' => e = .returned (.agg (rowOf .u8 32 (stepF v leaf chain from_ to_))) ∧ Below w.heap.size w w' := by
  have HE := Lib.hid he
  clear he
  have HU1 := Lib.hid (uN_wrap leaf)
  have HU2 := Lib.hid (uN_wrap chain)
  have HL1 := Lib.hid (uN_lt leaf)
  have HL2 := Lib.hid (uN_lt chain)
  have HG1 := Lib.hid (vlen _ (uN_lt leaf))
  have HG2 := Lib.hid (vlen _ (uN_lt chain))
  have HG0 := Lib.hid (vlen 3 (by decide))
  have HGL := Lib.hid HE.out.lt
  obtain ⟨a, ha⟩ : ∃ a : Nat, max from_ 0 = (a : Int) := ⟨(max from_ 0).toNat, by omega⟩
  obtain ⟨b, hb⟩ : ∃ b : Int, min to_ 15 = b := ⟨_, rfl⟩
  have HF := Lib.hid (show stepF v leaf chain from_ to_ = stepN leaf chain v a (b.toNat - a) by unfold stepF; rw [ha, hb]; rfl)
  have HA := Lib.hid ha
  have HB15 := Lib.hid (show b ≤ 15 by omega)
  have HBM := Lib.hid hb
  clear ha hb
  go_enter Tryz.func99, Tryz.ntmps99
  go_wp2_with (refine wpList_max2 rfl (.tmp 12) (.const (.int .i64 0)) 3 rfl from_ 0 rfl rfl (a : Int) HA.out ?_)
  rw [zeros32]
  have HB := Lib.hid ((below_alloc w (.cells (rowOf .u8 32 v) 23)).trans ((below_alloc _ (.cells (rowOf .u8 32 (fun _ => 0)) 23)).mono (by simp)))
  have M : Hid (HaveM w ((w.alloc (.cells (rowOf .u8 32 v) 23)).alloc (.cells (rowOf .u8 32 (fun _ => 0)) 23)) w.heap.size (w.heap.size + 1) (w.heap.size + 1 + 1) (stepN leaf chain v a 0)) := Lib.hid ⟨HB.out, (RowAt.new w .u8 32 23 v).alloc _, by
    have := RowAt.new (w.alloc (.cells (rowOf .u8 32 v) 23)) .u8 32 23 (fun _ => 0)
    rw [shSize_alloc] at this; exact this, HE.out.below HB.out HE.out.lt, by simp, by have := HE.out.lt; omega, by omega, by omega⟩
  clear HB HE
  generalize (w.alloc (.cells (rowOf .u8 32 v) 23)).alloc (.cells (rowOf .u8 32 (fun _ => 0)) 23) = w1 at *
  go_loopw [11] (fun p wr => ∃ q k : Nat, k ≤ b.toNat - a ∧ q = a + k ∧ p = .int .i64 (q : Int) ∧ Hid (HaveM w wr w.heap.size (w.heap.size + 1) (w.heap.size + 1 + 1) (stepN leaf chain v a k))) (fun p _ => (15 - intOf p).toNat)
  case atStart => exact ⟨a, 0, Nat.zero_le _, rfl, rfl, M⟩
  case round =>
    clear M w1
    obtain ⟨q, k, hk, hq, rfl, M⟩ := hrel
    by_cases hlt : (q : Int) < b
    · have hq15 : q < 15 := by have := HB15.out; omega
      have HQ := Lib.hid (show IntKind.u64.wrap (q : Int) = (q : Int) from IntWalk.u64_in _ (by omega))
      have HQL := Lib.hid (show q < 18446744073709551616 by omega)
      have HGQ := Lib.hid (vlen q (by omega))
      have HK := Lib.hid (show k + 1 ≤ b.toNat - a by omega)
      replace hq := Lib.hid hq
      go_upto_region 4 with (refine wpList_min2 rfl (.tmp 15) (.const (.int .i64 15)) 3 rfl to_ 15 rfl rfl b HBM.out ?_)
      refine wp_region_T (fun w' => RowAt w' w.heap.size .u8 32 23 (stepN leaf chain v a k)) [0, 1, 4, 7, 10] (by kernel_rfl) ?_
      replace M := Lib.hid (show HaveM w wr.drew w.heap.size (w.heap.size + 1) (w.heap.size + 1 + 1) (stepN leaf chain v a k) from M.out.calls (by omega) ((Below.refl _ _).drew))
      generalize wr.drew = w2 at *
      clear wr
      refine anyT_takeY (i := 2) (v := .int .i64 leaf) rfl (by kernel_rfl) (by kernel_rfl) (by kernel_rfl) (fun _ _ _ h => h) (by kernel_rfl) (Or.inl ⟨by rfl, by intro w; go_simp⟩) ?_
      try simp only [List.getElem_toArray, List.getElem_cons_succ, List.getElem_cons_zero, Act.put, List.setIfInBounds_toArray, List.set_cons_zero, List.set_cons_succ]
      refine anyT_takeY (i := 3) (v := .int .u64 (IntKind.u64.wrap leaf)) rfl (by kernel_rfl) (by kernel_rfl) (by kernel_rfl) (fun _ _ _ h => h) (by kernel_rfl) (Or.inl ⟨by rfl, by intro w; go_simp⟩) ?_
      try simp only [List.getElem_toArray, List.getElem_cons_succ, List.getElem_cons_zero, Act.put, List.setIfInBounds_toArray, List.set_cons_zero, List.set_cons_succ]
      refine anyT_takeY (i := 5) (v := .int .i64 chain) rfl (by kernel_rfl) (by kernel_rfl) (by kernel_rfl) (fun _ _ _ h => h) (by kernel_rfl) (Or.inl ⟨by rfl, by intro w; go_simp⟩) ?_
      try simp only [List.getElem_toArray, List.getElem_cons_succ, List.getElem_cons_zero, Act.put, List.setIfInBounds_toArray, List.set_cons_zero, List.set_cons_succ]
      refine anyT_takeY (i := 6) (v := .int .u64 (IntKind.u64.wrap chain)) rfl (by kernel_rfl) (by kernel_rfl) (by kernel_rfl) (fun _ _ _ h => h) (by kernel_rfl) (Or.inl ⟨by rfl, by intro w; go_simp⟩) ?_
      try simp only [List.getElem_toArray, List.getElem_cons_succ, List.getElem_cons_zero, Act.put, List.setIfInBounds_toArray, List.set_cons_zero, List.set_cons_succ]
      refine anyT_takeY (i := 8) (v := .int .i64 (q : Int)) rfl (by kernel_rfl) (by kernel_rfl) (by kernel_rfl) (fun _ _ _ h => h) (by kernel_rfl) (Or.inl ⟨by rfl, by intro w; go_simp⟩) ?_
      try simp only [List.getElem_toArray, List.getElem_cons_succ, List.getElem_cons_zero, Act.put, List.setIfInBounds_toArray, List.set_cons_zero, List.set_cons_succ]
      refine anyT_takeY (i := 9) (v := .int .u64 (IntKind.u64.wrap (q : Int))) rfl (by kernel_rfl) (by kernel_rfl) (by kernel_rfl) (fun _ _ _ h => h) (by kernel_rfl) (Or.inl ⟨by rfl, by intro w; go_simp⟩) ?_
      try simp only [List.getElem_toArray, List.getElem_cons_succ, List.getElem_cons_zero, Act.put, List.setIfInBounds_toArray, List.set_cons_zero, List.set_cons_succ]
      rw [HU1.out, HU2.out, HQ.out]
      refine anyT_take [12, 13, 14, 15] (i := 11) (v := .agg (rowOf .u8 32 (stepN leaf chain v a k))) rfl (by kernel_rfl) (by kernel_rfl) (by kernel_rfl) (fun _ _ _ h => h) (by kernel_rfl) (row_yields (by rfl) 23 (.tmp 5) rfl w.heap.size rfl .u8 32 _ _ (fun _ h => h) Tryz.underlying23 rfl (by kernel_rfl)) M.out.val ?_
      try simp only [List.getElem_toArray, List.getElem_cons_succ, List.getElem_cons_zero, Act.put, List.setIfInBounds_toArray, List.set_cons_zero, List.set_cons_succ]
      refine anyT_one (i := 0) (by kernel_rfl) rfl (fun K hK => ?_)
      rw [if_pos (by rfl)]
      try simp only [List.getElem_toArray, List.getElem_cons_succ, List.getElem_cons_zero]
      (go_simp; refine (new_on _).mono ?_; rintro e w3 ⟨rfl, HW, HB2⟩; have HP := Lib.hid M.out.size; replace M := Lib.hid (M.out.calls (by omega) (HB2.mono HP.out)); replace HW := Lib.hid HW; clear HB2)
      refine hK _ _ (fun _ => M.out.val) ?_
      clear hK K
      try simp only [List.getElem_toArray, List.getElem_cons_succ, List.getElem_cons_zero, Act.put, List.setIfInBounds_toArray, List.set_cons_zero, List.set_cons_succ]
      generalize w2.heap.size = p at *
      clear w2
      refine anyT_one (i := 1) (by kernel_rfl) rfl (fun K hK => ?_)
      rw [if_pos (by rfl)]
      try simp only [List.getElem_toArray, List.getElem_cons_succ, List.getElem_cons_zero]
      (go_simp; refine (wuint_lit p (w.heap.size + 1 + 1) _ _ 3 3 rfl _ _ HW.out (Below.refl _ _) HP.out (by decide) (by simp)).mono ?_; rintro e w4 ⟨rfl, v4, hw4, HB4⟩; replace M := Lib.hid (M.out.calls (by omega) HB4); replace HW := Lib.hid hw4; clear hw4 HB4 w3)
      refine hK _ _ (fun _ => M.out.val) ?_
      clear hK K
      try simp only [List.getElem_toArray, List.getElem_cons_succ, List.getElem_cons_zero, Act.put, List.setIfInBounds_toArray, List.set_cons_zero, List.set_cons_succ]
      refine anyT_one (i := 4) (by kernel_rfl) rfl (fun K hK => ?_)
      rw [if_pos (by rfl)]
      try simp only [List.getElem_toArray, List.getElem_cons_succ, List.getElem_cons_zero]
      (go_simp; refine (wuint_on p (w.heap.size + 1 + 1) _ _ (uN leaf) _ _ HW.out (Below.refl _ _) HP.out HL1.out (by have := HG0.out; simp only [List.length_append, List.length_nil]; omega)).mono ?_; rintro e w6 ⟨rfl, v6, hw6, HB6⟩; replace M := Lib.hid (M.out.calls (by omega) HB6); replace HW := Lib.hid hw6; clear hw6 HB6 w4)
      refine hK _ _ (fun _ => M.out.val) ?_
      clear hK K
      try simp only [List.getElem_toArray, List.getElem_cons_succ, List.getElem_cons_zero, Act.put, List.setIfInBounds_toArray, List.set_cons_zero, List.set_cons_succ]
      refine anyT_one (i := 7) (by kernel_rfl) rfl (fun K hK => ?_)
      rw [if_pos (by rfl)]
      try simp only [List.getElem_toArray, List.getElem_cons_succ, List.getElem_cons_zero]
      (go_simp; refine (wuint_on p (w.heap.size + 1 + 1) _ _ (uN chain) _ _ HW.out (Below.refl _ _) HP.out HL2.out (by have := HG0.out; have := HG1.out; simp only [List.length_append, List.length_nil]; omega)).mono ?_; rintro e w7 ⟨rfl, v7, hw7, HB7⟩; replace M := Lib.hid (M.out.calls (by omega) HB7); replace HW := Lib.hid hw7; clear hw7 HB7 w6)
      refine hK _ _ (fun _ => M.out.val) ?_
      clear hK K
      try simp only [List.getElem_toArray, List.getElem_cons_succ, List.getElem_cons_zero, Act.put, List.setIfInBounds_toArray, List.set_cons_zero, List.set_cons_succ]
      refine anyT_one (i := 10) (by kernel_rfl) rfl (fun K hK => ?_)
      rw [if_pos (by rfl)]
      try simp only [List.getElem_toArray, List.getElem_cons_succ, List.getElem_cons_zero]
      (go_simp; refine (wuint_on p (w.heap.size + 1 + 1) _ _ q _ _ HW.out (Below.refl _ _) HP.out HQL.out (by have := HG0.out; have := HG1.out; have := HG2.out; simp only [List.length_append, List.length_nil]; omega)).mono ?_; rintro e w5 ⟨rfl, v5, hw5, HB5⟩; replace M := Lib.hid (M.out.calls (by omega) HB5); replace HW := Lib.hid hw5; clear hw5 HB5 w7)
      refine hK _ _ (fun _ => M.out.val) ?_
      clear hK K
      try simp only [List.getElem_toArray, List.getElem_cons_succ, List.getElem_cons_zero, Act.put, List.setIfInBounds_toArray, List.set_cons_zero, List.set_cons_succ]
      refine anyT_one (i := 12) (by kernel_rfl) rfl (fun K hK => ?_)
      rw [if_pos (by rfl)]
      try simp only [List.getElem_toArray, List.getElem_cons_succ, List.getElem_cons_zero]
      (go_simp; refine (whash_on p (w.heap.size + 1 + 1) _ _ (stepN leaf chain v a k) _ _ HW.out (Below.refl _ _) HP.out (by have := HG0.out; have := HG1.out; have := HG2.out; have := HGQ.out; simp only [List.length_append, List.length_nil]; omega)).mono ?_; rintro e w8 ⟨rfl, v8, hw8, HB8⟩; replace M := Lib.hid (M.out.calls (by omega) HB8); replace HW := Lib.hid hw8; clear hw8 HB8 w5)
      refine hK _ _ (not_mem rfl) ?_
      clear hK K
      try simp only [List.getElem_toArray, List.getElem_cons_succ, List.getElem_cons_zero, Act.put, List.setIfInBounds_toArray, List.set_cons_zero, List.set_cons_succ]
      refine anyT_one (i := 13) (by kernel_rfl) rfl (fun K hK => ?_)
      rw [if_pos (by rfl)]
      try simp only [List.getElem_toArray, List.getElem_cons_succ, List.getElem_cons_zero]
      (go_simp; refine (wdone_on p (w.heap.size + 1 + 1) _ _ _ _ HW.out (Below.refl _ _) HP.out (by have := HG0.out; have := HG1.out; have := HG2.out; have := HGQ.out; have := rowL32 (stepN leaf chain v a k); simp only [List.length_append, List.length_nil]; omega)).mono ?_; rintro e w9 ⟨v9, rfl, hw9, HB9⟩; replace M := Lib.hid (M.out.calls (by omega) HB9); have HX := Lib.hid hw9; clear hw9 HB9 HW w8)
      refine hK _ _ (not_mem rfl) ?_
      clear hK K
      try simp only [List.getElem_toArray, List.getElem_cons_succ, List.getElem_cons_zero, Act.put, List.setIfInBounds_toArray, List.set_cons_zero, List.set_cons_succ]
      refine anyT_one (i := 14) (by kernel_rfl) rfl (fun K hK => ?_)
      rw [if_pos (by rfl)]
      try simp only [List.getElem_toArray, List.getElem_cons_succ, List.getElem_cons_zero]
      (go_simp; refine (shSum_on (w.heap.size + 1 + 1) _ _ _ _ HX.out (Below.refl _ _) M.out.size M.out.env).mono ?_; rintro e w10 ⟨rfl, HB10⟩; replace M := Lib.hid (M.out.calls (by omega) HB10); clear HB10 HX w9)
      refine hK _ _ (not_mem rfl) ?_
      clear hK K
      try simp only [List.getElem_toArray, List.getElem_cons_succ, List.getElem_cons_zero, Act.put, List.setIfInBounds_toArray, List.set_cons_zero, List.set_cons_succ]
      rw [show sumF ([] ++ varint 3 ++ varint (uN leaf) ++ varint (uN chain) ++ varint q ++ rowL 32 (stepN leaf chain v a k)) = stepN leaf chain v a (k + 1) from by rw [List.nil_append, hq.out]; rfl]
      refine anyT_one (i := 15) (by kernel_rfl) rfl (fun K hK => ?_)
      rw [if_pos (by rfl)]
      try simp only [List.getElem_toArray, List.getElem_cons_succ, List.getElem_cons_zero]
      (refine wp_store_row 23 (.tmp 5) (.tmp 34) rfl w.heap.size _ rfl rfl 23 _ M.out.val (by rw [rowOf_size]; kernel_rfl) (by rw [rowOf_size, rowOf_size]) (rowOf_one _ _ _) ?_)
      refine hK _ _ (not_mem rfl) ?_
      clear hK K
      try simp only [List.getElem_toArray, List.getElem_cons_succ, List.getElem_cons_zero, Act.put, List.setIfInBounds_toArray, List.set_cons_zero, List.set_cons_succ]
      refine anyT_done (by kernel_rfl) ?_ _
      replace M := Lib.hid (M.out.put ⟨Nat.le_refl _, by omega, HGL.out⟩ (stepN leaf chain v a (k + 1)))
      generalize w10.setRow w.heap.size (rowOf .u8 32 (stepN leaf chain v a (k + 1))) = w11 at *
      go_wp2_with (fail)
      go_roundw
      case rel => exact ⟨q + 1, k + 1, HK.out, by rw [hq.out]; omega, by go_num, M⟩
      case measure => simp [intOf]; omega
    · have HK := Lib.hid (show k = b.toNat - a by omega)
      replace hq := Lib.hid hq
      go_wp2_with (first
        | (refine wpList_min2 rfl (.tmp 15) (.const (.int .i64 15)) 3 rfl to_ 15 rfl rfl b HBM.out ?_)
        | (refine wpList_load_row rfl 23 (.tmp 5) rfl w.heap.size rfl 23 _ (0, 0) _ M.out.val Tryz.underlying23 rfl (by rw [rowOf_size]; kernel_rfl) ?_)
        | (refine wpList_store_row rfl 23 (.tmp 10) (.tmp 35) rfl (w.heap.size + 1) _ rfl rfl 23 _ M.out.res (by rw [rowOf_size]; kernel_rfl) (by rw [rowOf_size, rowOf_size]) (rowOf_one _ _ _) ?_))
      refine bodyPost_ret (results_cell_row rfl _ _ (w.heap.size + 1) 23 (rowOf .u8 32 (stepN leaf chain v a k)) (0, 0) _ rfl (setRow_heap _ _ _ _ _ _ M.out.res) Tryz.underlying23 rfl (by rw [rowOf_size]; kernel_rfl)) rfl ?_
      exact ⟨by rw [HF.out, ← HK.out], below_setRow M.out.below (by omega) _⟩
#print axioms wstep_any
end Go.Proofs.YtilpohdidekenaaGreatDoor
namespace Go.Proofs.YtilpohdidekenaaGreatDoor
set_option linter.unusedVariables false
set_option linter.unusedSimpArgs false
open Go.RowKit
set_option maxRecDepth 100000
def intVals (l : List Int) : List Value := l.map (Value.int .i64)
theorem intVals_length (l : List Int) : (intVals l).length = l.length := by simp [intVals]
theorem intVals_append (a b : List Int) : intVals (a ++ b) = intVals a ++ intVals b := by simp [intVals]
theorem intVals_one (l : List Int) : ∀ v ∈ intVals l, v.oneCell' = true := by
  intro v hv
  simp only [intVals, List.mem_map] at hv
  obtain ⟨i, _, rfl⟩ := hv
  rfl
theorem infoInt : (Tryz.prog.info? 3).map (fun i => (i.zero, i.size, i.bytes)) = some (some (.int .i64 0), 1, 8) := by kernel_rfl
/-- v is a slice of the numbers l -/
def IntsIn (w : World) (v : Value) (l : List Int) : Prop :=
  ∃ a cap, v = .slice a l.length cap ∧ l.length ≤ cap ∧ l.length ≤ maxLen ∧ (l = [] ∨ ∃ ab ao, a = some ⟨ab, ao, none⟩ ∧ ∀ i x, l[i]? = some x → w.cell? ⟨ab, ao + i, none⟩ = some (.int .i64 x))
theorem IntsIn.below {w w' : World} {v : Value} {l : List Int} (h : IntsIn w v l) (hb : Below w.heap.size w w') : IntsIn w' v l := by
  obtain ⟨a, cap, rfl, hc, hm, hx⟩ := h
  refine ⟨a, cap, rfl, hc, hm, ?_⟩
  rcases hx with hx | ⟨ab, ao, rfl, hx⟩
  · exact .inl hx
  · exact .inr ⟨ab, ao, rfl, fun i y hi => (hb.cell (p := ⟨ab, ao + i, none⟩) (World.block_lt_of_cell? w _ (hx i y hi))).trans (hx i y hi)⟩
theorem owns_ints {w : World} {base : Nat} {v : Value} {l : List Int} (h : w.ownsRow base 3 1 v l.length (intVals l)) (hl : l.length ≤ maxLen) : IntsIn w v l := by
  rcases h.2 with ⟨rfl, h0⟩ | ⟨g, c, cur, rfl, hb, hg, hc, hm, hs, ht⟩
  · obtain rfl := List.eq_nil_of_length_eq_zero h0
    exact ⟨none, 0, rfl, Nat.le_refl _, hl, .inl rfl⟩
  · refine ⟨_, c, rfl, hc, hl, .inr ⟨g, 0, rfl, fun i x hi => ?_⟩⟩
    have := h.cells (g := g) rfl i (.int .i64 x) (by simp [intVals, hi])
    rw [Addr.add_mid] at this
    exact this
theorem ints_nil (w : World) : IntsIn w (.slice none 0 0) [] := ⟨_, _, rfl, by simp, by simp [maxLen], .inl rfl⟩
theorem lits_in (w : World) (l : List Int) (hl : l.length ≤ maxLen) : IntsIn (w.alloc (.cells (intVals l).toArray 3)) (.slice (some ⟨w.heap.size, 0, none⟩) l.length l.length) l := by
  refine ⟨_, _, rfl, Nat.le_refl _, hl, .inr ⟨_, _, rfl, fun i x hi => ?_⟩⟩
  rw [Nat.zero_add, cell_of_row _ _ _ _ _ _ (heap_alloc_new w _)]
  simp [intVals, hi]
theorem wpList_append_ints {w : World} {ops : Array Oper} {rest : List Oper} {o : Oper} {a : Act} {Q : Exit → Act → World → Prop} (hgd : o.guard = none) (s x : Operand)
    (ho : o.op = .call { callee := .builtin .append, args := #[s, x], argTypes := #[58, 58] }) (hty : o.type = 58)
    (base : Nat) (v : Value) (l : List Int) (hs : a.eval s = v) (hown : w.ownsRow base 3 1 v l.length (intVals l)) (y : Value) (m : List Int) (hx : a.eval x = y) (hy : IntsIn w y m) (hne : m ≠ []) (hl : l.length + m.length ≤ 1099511627776) (hb : base ≤ w.heap.size)
    (h : ∀ v' w', w'.ownsRow base 3 1 v' (l ++ m).length (intVals (l ++ m)) → w.grownBy w' v.ownBlock → wpList Tryz.prog ops Q rest (a.put o.dst v') w') : wpList Tryz.prog ops Q (o :: rest) a w := by
  refine wpList_plain hgd fun K hK => ?_
  obtain ⟨i0, hi, hz0, hz1, hz2⟩ := info_parts infoInt
  obtain ⟨ad, c, rfl, hc, hm, hxx⟩ := hy
  rcases hxx with rfl | ⟨ab, ao, rfl, hxx⟩
  · exact absurd rfl hne
  · have hcells : ∀ j u, (intVals m)[j]? = some u → w.cell? ((⟨ab, ao, none⟩ : Addr).add j) = some u := fun j u hu => by
      rw [Addr.add_mid]
      simp only [intVals, List.getElem?_map] at hu
      cases hj : m[j]? with
      | none => rw [hj] at hu; cases hu
      | some x => rw [hj] at hu; cases hu; exact hxx j x hj
    obtain ⟨v', w', hr, h1, h2, _, _⟩ := run_append_own_at w base 58 58 3 i0 (.int .i64 0) 1 8 Tryz.underlying58 hi hz0 hz1 hz2 rfl (by decide) v l.length (intVals l) hown ⟨ab, ao, none⟩ m.length c (intVals m) (by rw [intVals_length, Nat.mul_one]) hcells (intVals_one m) (by unfold maxLen; omega) (by omega) hb
    unfold Oper.wp execOp
    simp only [ho, hty, resolve, invoke, builtin, Sem.run_bind, Sem.run_pure, Result.andThen_ok, List.map_toArray, List.map_cons, List.map_nil, hs, hx, hr]
    exact hK _ _ (h v' w' (by rw [List.length_append, intVals_append]; exact h1) h2)
end Go.Proofs.YtilpohdidekenaaGreatDoor

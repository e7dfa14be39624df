/- Part 16 of the proof. -/
import Derived.Test.YtadolfacjolbkaaDoorSh2
import Derived.Test.YtadolfacjolbkaaDoorSh4
import Derived.Test.YtadolfacjolbkaaDoorSh15
namespace Go.Proofs.YtadolfacjolbkaaDoor
set_option linter.unusedVariables false
set_option linter.unusedSimpArgs false
open Go.RowKit
set_option maxRecDepth 100000
set_option linter.unusedSimpArgs false
set_option linter.unusedVariables false
theorem wtext_on (p B : Nat) (v : Value) (s : ByteArray) (xs : List Int) (w0 w : World) (hw : WAt w p v xs) (hb : Below B w0 w) (hB : B ≤ p) (hl : xs.length + s.size + 10 ≤ 140737488355328) :
    Calls Tryd.prog 83 #[.pointer (some ⟨p, 0, none⟩), .string s] w fun e w' => e = .returned (.pointer (some ⟨p, 0, none⟩)) ∧ ∃ v', WAt w' p v' (xs ++ (varint s.size ++ numsOf s)) ∧ Below B w0 w' :=
  (wtext_any p v s xs w hw hl).mono fun _ _ h => wpost_on h hw hb hB
/-- the hash of a leaf -/
def avLeafF (k v : ByteArray) : Nat → Int := sumF (varint 6 ++ (varint k.size ++ numsOf k) ++ (varint v.size ++ numsOf v))
/-- the hash of a node -/
def avNodeF (n : Nat) (a : Nat → Int) (m : Nat) (b : Nat → Int) : Nat → Int := sumF (varint 7 ++ varint n ++ rowL 32 a ++ varint m ++ rowL 32 b)
set_option maxHeartbeats 1000000 in
theorem avLeaf_any (k v : ByteArray) (w : World) (he : Env w) (hs : k.size + v.size ≤ 140737488351232) :
    Calls Tryd.prog 59 #[.string k, .string v] w fun e w' => e = .returned (.agg (rowOf .u8 32 (avLeafF k v))) ∧ Below w.heap.size w w' := by
  have HG0 := Lib.hid (vlen 6 (by decide))
  have HG1 := Lib.hid (vlen k.size (by omega))
  have HS := Lib.hid hs
  have HB := Lib.hid (below_alloc w (.cells (rowOf .u8 32 (fun _ => 0)) 43))
  have HR := Lib.hid (RowAt.new w .u8 32 43 (fun _ => 0))
  have HE := Lib.hid (he.below HB.out he.lt)
  have HLT := Lib.hid he.lt
  clear he hs
  go_enter Tryd.func59, Tryd.ntmps59
  go_upto_region 1 with (fail)
  rw [zeros32]
  have HSZ := Lib.hid (show w.heap.size < (w.alloc (.cells (rowOf .u8 32 (fun _ => 0)) 43)).heap.size by simp)
  generalize w.alloc (.cells (rowOf .u8 32 (fun _ => 0)) 43) = w1 at *
  go_wp2_with (first
    | (go_at_call 81; (with_reducible refine (new_on _).mono ?_); rintro e w3 ⟨rfl, HW, HB2⟩; replace HW := Lib.hid HW; replace HB2 := Lib.hid HB2)
    | (go_at_call 82; (with_reducible refine (wuint_lit w1.heap.size w1.heap.size _ _ 6 6 rfl _ _ HW.out HB2.out (Nat.le_refl _) (by decide) (by simp)).mono ?_); rintro e w4 ⟨rfl, v4, hw4, HB4⟩; replace HW := Lib.hid hw4; replace HB2 := Lib.hid HB4; clear hw4 HB4 w3)
    | (go_at_call 83; (with_reducible refine (wtext_on w1.heap.size w1.heap.size _ _ _ _ _ HW.out HB2.out (Nat.le_refl _) (by have := HG0.out; have := HG1.out; have := HS.out; simp only [List.length_append, List.length_nil, numsOf_length]; omega)).mono ?_); rintro e w5 ⟨rfl, v5, hw5, HB5⟩; replace HW := Lib.hid hw5; replace HB2 := Lib.hid HB5; clear hw5 HB5)
    | (go_at_call 84; (with_reducible refine (wdone_on w1.heap.size w1.heap.size _ _ _ _ HW.out HB2.out (Nat.le_refl _) (by have := HG0.out; have := HG1.out; have := HS.out; have := (vlen v.size (by omega)); simp only [List.length_append, List.length_nil, numsOf_length]; omega)).mono ?_); rintro e w8 ⟨v8, rfl, hw8, HB8⟩; replace HB2 := Lib.hid HB8; have HX := Lib.hid hw8; clear hw8 HB8 HW)
    | (go_at_call 39; (with_reducible refine (shSum_on w1.heap.size _ _ _ _ HX.out HB2.out HB2.out.size (HE.out.below HB2.out HE.out.lt)).mono ?_); rintro e w9 ⟨rfl, HB9⟩; replace HB2 := Lib.hid HB9; clear HB9 HX)
    | (refine wpList_store_row rfl 43 (.tmp 4) (.tmp 12) rfl w.heap.size _ rfl rfl 43 _ (HR.out.below HB2.out HSZ.out) (by rw [rowOf_size]; kernel_rfl) (by rw [rowOf_size, rowOf_size]) (rowOf_one _ _ _) ?_))
  refine bodyPost_ret (results_cell_row rfl _ _ w.heap.size 43 _ (0, 0) _ rfl (setRow_heap _ _ _ _ _ _ (HR.out.below HB2.out HSZ.out)) Tryd.underlying43 rfl (by rw [rowOf_size]; kernel_rfl)) rfl ?_
  refine ⟨?_, below_setRow (HB.out.trans (HB2.out.mono HB.out.size)) (Nat.le_refl _) _⟩
  unfold avLeafF
  simp only [List.append_assoc]
/-- what lies in memory while a node is hashed: both hashes, the result's zeros -/
structure NdM (w w' : World) (B : Nat) (a b : Nat → Int) : Prop where
  below : Below w.heap.size w w'
  ra : RowAt w' w.heap.size .u8 32 43 a
  rb : RowAt w' (w.heap.size + 1) .u8 32 43 b
  res : RowAt w' (w.heap.size + 1 + 1) .u8 32 43 (fun _ => 0)
  env : Env w'
  size : B ≤ w'.heap.size
  lo : 2 < B
  hB : w.heap.size + 1 + 1 < B
theorem NdM.calls {w w' w2 : World} {B : Nat} {a b : Nat → Int} (m : NdM w w' B a b) (h : Below B w' w2) : NdM w w2 B a b :=
  ⟨m.below.trans (h.mono (by have := m.hB; omega)), m.ra.below h (by have := m.hB; omega), m.rb.below h (by have := m.hB; omega), m.res.below h m.hB, m.env.below h m.lo, Nat.le_trans m.size h.size, m.lo, m.hB⟩
def ndW (w : World) (a b : Nat → Int) : World := ((w.alloc (.cells (rowOf .u8 32 a) 43)).alloc (.cells (rowOf .u8 32 b) 43)).alloc (.cells (rowOf .u8 32 (fun _ => 0)) 43)
theorem ndM_start (w : World) (a b : Nat → Int) (he : Env w) : NdM w (ndW w a b) (w.heap.size + 1 + 1 + 1) a b := by
  have hb : Below w.heap.size w (ndW w a b) := ((below_alloc w _).trans ((below_alloc _ _).mono (by simp))).trans ((below_alloc _ _).mono (by simp; omega))
  refine ⟨hb, ((RowAt.new w .u8 32 43 a).alloc _).alloc _, ?_, ?_, he.below hb he.lt, by simp [ndW], by have := he.lt; omega, by omega⟩
  · have := (RowAt.new (w.alloc (.cells (rowOf .u8 32 a) 43)) .u8 32 43 b).alloc (.cells (rowOf .u8 32 (fun _ => 0)) 43)
    rw [shSize_alloc] at this; exact this
  · have := RowAt.new ((w.alloc (.cells (rowOf .u8 32 a) 43)).alloc (.cells (rowOf .u8 32 b) 43)) .u8 32 43 (fun _ => 0)
    rw [shSize_alloc, shSize_alloc] at this; exact this
set_option maxHeartbeats 1000000 in
theorem avNode_any (n m : Int) (a b : Nat → Int) (w : World) (he : Env w) :
    Calls Tryd.prog 60 #[.int .i64 n, .agg (rowOf .u8 32 a), .int .i64 m, .agg (rowOf .u8 32 b)] w fun e w' => e = .returned (.agg (rowOf .u8 32 (avNodeF (uN n) a (uN m) b))) ∧ Below w.heap.size w w' := by
  have HU1 := Lib.hid (uN_wrap n)
  have HU2 := Lib.hid (uN_wrap m)
  have HL1 := Lib.hid (uN_lt n)
  have HL2 := Lib.hid (uN_lt m)
  have HG1 := Lib.hid (vlen _ (uN_lt n))
  have HG2 := Lib.hid (vlen _ (uN_lt m))
  have HG0 := Lib.hid (vlen 7 (by decide))
  have M := Lib.hid (ndM_start w a b he)
  clear he
  go_enter Tryd.func60, Tryd.ntmps60
  go_upto_region 1 with (fail)
  rw [zeros32]
  have e0 : ((w.alloc (.cells (rowOf .u8 32 a) 43)).alloc (.cells (rowOf .u8 32 b) 43)).alloc (.cells (rowOf .u8 32 (fun _ => 0)) 43) = ndW w a b := rfl
  rw [e0]
  clear e0
  generalize ndW w a b = w1 at *
  refine wp_region_T (fun w' => RowAt w' w.heap.size .u8 32 43 a ∧ RowAt w' (w.heap.size + 1) .u8 32 43 b) [0, 1, 4, 5, 6, 9, 10, 11, 12, 13] (by kernel_rfl) ?_
  replace M := Lib.hid (M.out.calls ((Below.refl _ w1).drew))
  generalize w1.drew = w2 at *
  clear w1
  refine anyT_takeY (i := 2) (v := .int .i64 n) rfl (by kernel_rfl) (by kernel_rfl) (by kernel_rfl) (fun _ _ _ h => h) (by kernel_rfl) (Or.inl ⟨by rfl, by intro w; go_simp⟩) ?_
  try simp only [List.getElem_toArray, List.getElem_cons_succ, List.getElem_cons_zero, Act.put, List.setIfInBounds_toArray, List.set_cons_zero, List.set_cons_succ]
  refine anyT_takeY (i := 3) (v := .int .u64 (IntKind.u64.wrap n)) rfl (by kernel_rfl) (by kernel_rfl) (by kernel_rfl) (fun _ _ _ h => h) (by kernel_rfl) (Or.inl ⟨by rfl, by intro w; go_simp⟩) ?_
  try simp only [List.getElem_toArray, List.getElem_cons_succ, List.getElem_cons_zero, Act.put, List.setIfInBounds_toArray, List.set_cons_zero, List.set_cons_succ]
  refine anyT_takeY (i := 7) (v := .int .i64 m) rfl (by kernel_rfl) (by kernel_rfl) (by kernel_rfl) (fun _ _ _ h => h) (by kernel_rfl) (Or.inl ⟨by rfl, by intro w; go_simp⟩) ?_
  try simp only [List.getElem_toArray, List.getElem_cons_succ, List.getElem_cons_zero, Act.put, List.setIfInBounds_toArray, List.set_cons_zero, List.set_cons_succ]
  refine anyT_takeY (i := 8) (v := .int .u64 (IntKind.u64.wrap m)) rfl (by kernel_rfl) (by kernel_rfl) (by kernel_rfl) (fun _ _ _ h => h) (by kernel_rfl) (Or.inl ⟨by rfl, by intro w; go_simp⟩) ?_
  try simp only [List.getElem_toArray, List.getElem_cons_succ, List.getElem_cons_zero, Act.put, List.setIfInBounds_toArray, List.set_cons_zero, List.set_cons_succ]
  rw [HU1.out, HU2.out]
  refine anyT_take [14] (i := 5) (v := .agg (rowOf .u8 32 a)) rfl (by kernel_rfl) (by kernel_rfl) (by kernel_rfl) (fun _ _ _ h => h) (by kernel_rfl) (row_yields (by rfl) 43 (.tmp 5) rfl w.heap.size rfl .u8 32 a _ (fun _ h => h.1) Tryd.underlying43 rfl (by kernel_rfl)) ⟨M.out.ra, M.out.rb⟩ ?_
  try simp only [List.getElem_toArray, List.getElem_cons_succ, List.getElem_cons_zero, Act.put, List.setIfInBounds_toArray, List.set_cons_zero, List.set_cons_succ]
  refine anyT_take [14] (i := 10) (v := .agg (rowOf .u8 32 b)) rfl (by kernel_rfl) (by kernel_rfl) (by kernel_rfl) (fun _ _ _ h => h) (by kernel_rfl) (row_yields (by rfl) 43 (.tmp 7) rfl (w.heap.size + 1) rfl .u8 32 b _ (fun _ h => h.2) Tryd.underlying43 rfl (by kernel_rfl)) ⟨M.out.ra, M.out.rb⟩ ?_
  try simp only [List.getElem_toArray, List.getElem_cons_succ, List.getElem_cons_zero, Act.put, List.setIfInBounds_toArray, List.set_cons_zero, List.set_cons_succ]
  refine anyT_one (i := 0) (by kernel_rfl) rfl (fun K hK => ?_)
  rw [if_pos (by rfl)]
  try simp only [List.getElem_toArray, List.getElem_cons_succ, List.getElem_cons_zero]
  (go_simp; refine (new_on _).mono ?_; rintro e w3 ⟨rfl, HW, HB2⟩; have HP := Lib.hid M.out.size; replace M := Lib.hid (M.out.calls (HB2.mono HP.out)); replace HW := Lib.hid HW; clear HB2)
  refine hK _ _ (fun _ => ⟨M.out.ra, M.out.rb⟩) ?_
  clear hK K
  try simp only [List.getElem_toArray, List.getElem_cons_succ, List.getElem_cons_zero, Act.put, List.setIfInBounds_toArray, List.set_cons_zero, List.set_cons_succ]
  generalize w2.heap.size = p at *
  clear w2
  refine anyT_one (i := 1) (by kernel_rfl) rfl (fun K hK => ?_)
  rw [if_pos (by rfl)]
  try simp only [List.getElem_toArray, List.getElem_cons_succ, List.getElem_cons_zero]
  (go_simp; refine (wuint_lit p (w.heap.size + 1 + 1 + 1) _ _ 7 7 rfl _ _ HW.out (Below.refl _ _) HP.out (by decide) (by simp)).mono ?_; rintro e w4 ⟨rfl, v4, hw4, HB4⟩; replace M := Lib.hid (M.out.calls HB4); replace HW := Lib.hid hw4; clear hw4 HB4 w3)
  refine hK _ _ (fun _ => ⟨M.out.ra, M.out.rb⟩) ?_
  clear hK K
  try simp only [List.getElem_toArray, List.getElem_cons_succ, List.getElem_cons_zero, Act.put, List.setIfInBounds_toArray, List.set_cons_zero, List.set_cons_succ]
  refine anyT_one (i := 4) (by kernel_rfl) rfl (fun K hK => ?_)
  rw [if_pos (by rfl)]
  try simp only [List.getElem_toArray, List.getElem_cons_succ, List.getElem_cons_zero]
  (go_simp; refine (wuint_on p (w.heap.size + 1 + 1 + 1) _ _ (uN n) _ _ HW.out (Below.refl _ _) HP.out HL1.out (by have := HG0.out; simp only [List.length_append, List.length_nil]; omega)).mono ?_; rintro e w6 ⟨rfl, v6, hw6, HB6⟩; replace M := Lib.hid (M.out.calls HB6); replace HW := Lib.hid hw6; clear hw6 HB6 w4)
  refine hK _ _ (fun _ => ⟨M.out.ra, M.out.rb⟩) ?_
  clear hK K
  try simp only [List.getElem_toArray, List.getElem_cons_succ, List.getElem_cons_zero, Act.put, List.setIfInBounds_toArray, List.set_cons_zero, List.set_cons_succ]
  refine anyT_one (i := 6) (by kernel_rfl) rfl (fun K hK => ?_)
  rw [if_pos (by rfl)]
  try simp only [List.getElem_toArray, List.getElem_cons_succ, List.getElem_cons_zero]
  (go_simp; refine (whash_on p (w.heap.size + 1 + 1 + 1) _ _ a _ _ HW.out (Below.refl _ _) HP.out (by have := HG0.out; have := HG1.out; simp only [List.length_append, List.length_nil]; omega)).mono ?_; rintro e w5 ⟨rfl, v5, hw5, HB5⟩; replace M := Lib.hid (M.out.calls HB5); replace HW := Lib.hid hw5; clear hw5 HB5 w6)
  refine hK _ _ (fun _ => ⟨M.out.ra, M.out.rb⟩) ?_
  clear hK K
  try simp only [List.getElem_toArray, List.getElem_cons_succ, List.getElem_cons_zero, Act.put, List.setIfInBounds_toArray, List.set_cons_zero, List.set_cons_succ]
  refine anyT_one (i := 9) (by kernel_rfl) rfl (fun K hK => ?_)
  rw [if_pos (by rfl)]
  try simp only [List.getElem_toArray, List.getElem_cons_succ, List.getElem_cons_zero]
  (go_simp; refine (wuint_on p (w.heap.size + 1 + 1 + 1) _ _ (uN m) _ _ HW.out (Below.refl _ _) HP.out HL2.out (by have := HG0.out; have := HG1.out; have := rowL32 a; simp only [List.length_append, List.length_nil]; omega)).mono ?_; rintro e w7 ⟨rfl, v7, hw7, HB7⟩; replace M := Lib.hid (M.out.calls HB7); replace HW := Lib.hid hw7; clear hw7 HB7 w5)
  refine hK _ _ (fun _ => ⟨M.out.ra, M.out.rb⟩) ?_
  clear hK K
  try simp only [List.getElem_toArray, List.getElem_cons_succ, List.getElem_cons_zero, Act.put, List.setIfInBounds_toArray, List.set_cons_zero, List.set_cons_succ]
  refine anyT_one (i := 11) (by kernel_rfl) rfl (fun K hK => ?_)
  rw [if_pos (by rfl)]
  try simp only [List.getElem_toArray, List.getElem_cons_succ, List.getElem_cons_zero]
  (go_simp; refine (whash_on p (w.heap.size + 1 + 1 + 1) _ _ b _ _ HW.out (Below.refl _ _) HP.out (by have := HG0.out; have := HG1.out; have := HG2.out; have := rowL32 a; simp only [List.length_append, List.length_nil]; omega)).mono ?_; rintro e w8 ⟨rfl, v8, hw8, HB8⟩; replace M := Lib.hid (M.out.calls HB8); replace HW := Lib.hid hw8; clear hw8 HB8 w7)
  refine hK _ _ (fun _ => ⟨M.out.ra, M.out.rb⟩) ?_
  clear hK K
  try simp only [List.getElem_toArray, List.getElem_cons_succ, List.getElem_cons_zero, Act.put, List.setIfInBounds_toArray, List.set_cons_zero, List.set_cons_succ]
  refine anyT_one (i := 12) (by kernel_rfl) rfl (fun K hK => ?_)
  rw [if_pos (by rfl)]
  try simp only [List.getElem_toArray, List.getElem_cons_succ, List.getElem_cons_zero]
  (go_simp; refine (wdone_on p (w.heap.size + 1 + 1 + 1) _ _ _ _ HW.out (Below.refl _ _) HP.out (by have := HG0.out; have := HG1.out; have := HG2.out; have := rowL32 a; have := rowL32 b; simp only [List.length_append, List.length_nil]; omega)).mono ?_; rintro e w9 ⟨v9, rfl, hw9, HB9⟩; replace M := Lib.hid (M.out.calls HB9); have HX := Lib.hid hw9; clear hw9 HB9 HW w8)
  refine hK _ _ (fun _ => ⟨M.out.ra, M.out.rb⟩) ?_
  clear hK K
  try simp only [List.getElem_toArray, List.getElem_cons_succ, List.getElem_cons_zero, Act.put, List.setIfInBounds_toArray, List.set_cons_zero, List.set_cons_succ]
  refine anyT_one (i := 13) (by kernel_rfl) rfl (fun K hK => ?_)
  rw [if_pos (by rfl)]
  try simp only [List.getElem_toArray, List.getElem_cons_succ, List.getElem_cons_zero]
  (go_simp; refine (shSum_on (w.heap.size + 1 + 1 + 1) _ _ _ _ HX.out (Below.refl _ _) M.out.size M.out.env).mono ?_; rintro e w10 ⟨rfl, HB10⟩; replace M := Lib.hid (M.out.calls HB10); clear HB10 HX w9)
  refine hK _ _ (fun _ => ⟨M.out.ra, M.out.rb⟩) ?_
  clear hK K
  try simp only [List.getElem_toArray, List.getElem_cons_succ, List.getElem_cons_zero, Act.put, List.setIfInBounds_toArray, List.set_cons_zero, List.set_cons_succ]
  rw [show sumF ([] ++ varint 7 ++ varint (uN n) ++ rowL 32 a ++ varint (uN m) ++ rowL 32 b) = avNodeF (uN n) a (uN m) b from by unfold avNodeF; rw [List.nil_append]]
  refine anyT_one (i := 14) (by kernel_rfl) rfl (fun K hK => ?_)
  rw [if_pos (by rfl)]
  try simp only [List.getElem_toArray, List.getElem_cons_succ, List.getElem_cons_zero]
  (refine wp_store_row 43 (.tmp 8) (.tmp 22) rfl (w.heap.size + 1 + 1) _ rfl rfl 43 _ M.out.res (by rw [rowOf_size]; kernel_rfl) (by rw [rowOf_size, rowOf_size]) (rowOf_one _ _ _) ?_)
  refine hK _ _ (not_mem rfl) ?_
  clear hK K
  try simp only [List.getElem_toArray, List.getElem_cons_succ, List.getElem_cons_zero, Act.put, List.setIfInBounds_toArray, List.set_cons_zero, List.set_cons_succ]
  refine anyT_done (by kernel_rfl) ?_ _
  go_wp2_with (fail)
  refine bodyPost_ret (results_cell_row rfl _ _ (w.heap.size + 1 + 1) 43 (rowOf .u8 32 (avNodeF (uN n) a (uN m) b)) (0, 0) _ rfl (setRow_heap _ _ _ _ _ _ M.out.res) Tryd.underlying43 rfl (by rw [rowOf_size]; kernel_rfl)) rfl ?_
  exact ⟨rfl, below_setRow M.out.below (by omega) _⟩
end Go.Proofs.YtadolfacjolbkaaDoor

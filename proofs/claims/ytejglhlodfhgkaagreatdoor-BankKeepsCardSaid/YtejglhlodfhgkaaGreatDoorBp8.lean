/- Part 8 of the proof. -/
import Derived.Test.YtejglhlodfhgkaaGreatDoorBp1
import Derived.Test.YtejglhlodfhgkaaGreatDoorBp3
import Derived.Test.YtejglhlodfhgkaaGreatDoorBp6
import Derived.Test.YtejglhlodfhgkaaGreatDoorBp7
namespace Go.Proofs.YtejglhlodfhgkaaGreatDoor
set_option linter.unusedVariables false
set_option linter.unusedSimpArgs false
open Go.RowKit
set_option maxRecDepth 100000
set_option linter.unusedSimpArgs false
set_option linter.unusedVariables false
theorem wtext_on (p B : Nat) (v : Value) (s : ByteArray) (xs : List Int) (w0 w : World) (hw : WAt w p v xs) (hb : Below B w0 w) (hB : B ≤ p) (hl : xs.length + s.size + 10 ≤ 140737488355328) :
    Calls Tryz.prog 63 #[.pointer (some ⟨p, 0, none⟩), .string s] w fun e w' => e = .returned (.pointer (some ⟨p, 0, none⟩)) ∧ ∃ v', WAt w' p v' (xs ++ (varint s.size ++ numsOf s)) ∧ Below B w0 w' :=
  (wtext_any p v s xs w hw hl).mono fun _ _ h => wpost_on h hw hb hB
/-- the hash of a leaf -/
def avLeafF (k v : ByteArray) : Nat → Int := sumF (varint 6 ++ (varint k.size ++ numsOf k) ++ (varint v.size ++ numsOf v))
/-- the hash of a node -/
def avNodeF (n : Nat) (a : Nat → Int) (m : Nat) (b : Nat → Int) : Nat → Int := sumF (varint 7 ++ varint n ++ rowL 32 a ++ varint m ++ rowL 32 b)
set_option maxHeartbeats 1000000 in
theorem avLeaf_any (k v : ByteArray) (w : World) (he : Env w) (hs : k.size + v.size ≤ 140737488351232) :
    Calls Tryz.prog 214 #[.string k, .string v] w fun e w' => e = .returned (.agg (rowOf .u8 32 (avLeafF k v))) ∧ Below w.heap.size w w' := by
  have HG0 := Lib.hid (vlen 6 (by decide))
  have HG1 := Lib.hid (vlen k.size (by omega))
  have HS := Lib.hid hs
  have HB := Lib.hid (below_alloc w (.cells (rowOf .u8 32 (fun _ => 0)) 53))
  have HR := Lib.hid (RowAt.new w .u8 32 53 (fun _ => 0))
  have HE := Lib.hid (he.below HB.out he.lt)
  have HLT := Lib.hid he.lt
  clear he hs
  go_enter Tryz.func214, Tryz.ntmps214
  go_upto_region 1 with (fail)
  rw [zeros32]
  have HSZ := Lib.hid (show w.heap.size < (w.alloc (.cells (rowOf .u8 32 (fun _ => 0)) 53)).heap.size by simp)
  generalize w.alloc (.cells (rowOf .u8 32 (fun _ => 0)) 53) = w1 at *
  go_wp2_with (first
    | (go_at_call 51; (with_reducible refine (new_on _).mono ?_); rintro e w3 ⟨rfl, HW, HB2⟩; replace HW := Lib.hid HW; replace HB2 := Lib.hid HB2)
    | (go_at_call 119; (with_reducible refine (wuint_lit w1.heap.size w1.heap.size _ _ 6 6 rfl _ _ HW.out HB2.out (Nat.le_refl _) (by decide) (by simp)).mono ?_); rintro e w4 ⟨rfl, v4, hw4, HB4⟩; replace HW := Lib.hid hw4; replace HB2 := Lib.hid HB4; clear hw4 HB4 w3)
    | (go_at_call 63; (with_reducible refine (wtext_on w1.heap.size w1.heap.size _ _ _ _ _ HW.out HB2.out (Nat.le_refl _) (by have := HG0.out; have := HG1.out; have := HS.out; simp only [List.length_append, List.length_nil, numsOf_length]; omega)).mono ?_); rintro e w5 ⟨rfl, v5, hw5, HB5⟩; replace HW := Lib.hid hw5; replace HB2 := Lib.hid HB5; clear hw5 HB5)
    | (go_at_call 54; (with_reducible refine (wdone_on w1.heap.size w1.heap.size _ _ _ _ HW.out HB2.out (Nat.le_refl _) (by have := HG0.out; have := HG1.out; have := HS.out; have := (vlen v.size (by omega)); simp only [List.length_append, List.length_nil, numsOf_length]; omega)).mono ?_); rintro e w8 ⟨v8, rfl, hw8, HB8⟩; replace HB2 := Lib.hid HB8; have HX := Lib.hid hw8; clear hw8 HB8 HW)
    | (go_at_call 74; (with_reducible refine (shSum_on w1.heap.size _ _ _ _ HX.out HB2.out HB2.out.size (HE.out.below HB2.out HE.out.lt)).mono ?_); rintro e w9 ⟨rfl, HB9⟩; replace HB2 := Lib.hid HB9; clear HB9 HX)
    | (refine wpList_store_row rfl 53 (.tmp 4) (.tmp 12) rfl w.heap.size _ rfl rfl 53 _ (HR.out.below HB2.out HSZ.out) (by rw [rowOf_size]; kernel_rfl) (by rw [rowOf_size, rowOf_size]) (rowOf_one _ _ _) ?_))
  refine bodyPost_ret (results_cell_row rfl _ _ w.heap.size 53 _ (0, 0) _ rfl (setRow_heap _ _ _ _ _ _ (HR.out.below HB2.out HSZ.out)) Tryz.underlying53 rfl (by rw [rowOf_size]; kernel_rfl)) rfl ?_
  refine ⟨?_, below_setRow (HB.out.trans (HB2.out.mono HB.out.size)) (Nat.le_refl _) _⟩
  unfold avLeafF
  simp only [List.append_assoc]
/-- what lies in memory while a node is hashed: both hashes, the result's zeros -/
structure NdM (w w' : World) (B : Nat) (a b : Nat → Int) : Prop where
  below : Below w.heap.size w w'
  ra : RowAt w' w.heap.size .u8 32 53 a
  rb : RowAt w' (w.heap.size + 1) .u8 32 53 b
  res : RowAt w' (w.heap.size + 1 + 1) .u8 32 53 (fun _ => 0)
  env : Env w'
  size : B ≤ w'.heap.size
  lo : 3 < B
  hB : w.heap.size + 1 + 1 < B
theorem NdM.calls {w w' w2 : World} {B : Nat} {a b : Nat → Int} (m : NdM w w' B a b) (h : Below B w' w2) : NdM w w2 B a b :=
  ⟨m.below.trans (h.mono (by have := m.hB; omega)), m.ra.below h (by have := m.hB; omega), m.rb.below h (by have := m.hB; omega), m.res.below h m.hB, m.env.below h m.lo, Nat.le_trans m.size h.size, m.lo, m.hB⟩
def ndW (w : World) (a b : Nat → Int) : World := ((w.alloc (.cells (rowOf .u8 32 a) 53)).alloc (.cells (rowOf .u8 32 b) 53)).alloc (.cells (rowOf .u8 32 (fun _ => 0)) 53)
theorem ndM_start (w : World) (a b : Nat → Int) (he : Env w) : NdM w (ndW w a b) (w.heap.size + 1 + 1 + 1) a b := by
  have hb : Below w.heap.size w (ndW w a b) := ((below_alloc w _).trans ((below_alloc _ _).mono (by simp))).trans ((below_alloc _ _).mono (by simp; omega))
  refine ⟨hb, ((RowAt.new w .u8 32 53 a).alloc _).alloc _, ?_, ?_, he.below hb he.lt, by simp [ndW], by have := he.lt; omega, by omega⟩
  · have := (RowAt.new (w.alloc (.cells (rowOf .u8 32 a) 53)) .u8 32 53 b).alloc (.cells (rowOf .u8 32 (fun _ => 0)) 53)
    rw [shSize_alloc] at this; exact this
  · have := RowAt.new ((w.alloc (.cells (rowOf .u8 32 a) 53)).alloc (.cells (rowOf .u8 32 b) 53)) .u8 32 53 (fun _ => 0)
    rw [shSize_alloc, shSize_alloc] at this; exact this
set_option maxHeartbeats 1000000 in
theorem avNode_any (n m : Int) (a b : Nat → Int) (w : World) (he : Env w) :
    Calls Tryz.prog 215 #[.int .i64 n, .agg (rowOf .u8 32 a), .int .i64 m, .agg (rowOf .u8 32 b)] w fun e w' => e = .returned (.agg (rowOf .u8 32 (avNodeF (uN n) a (uN m) b))) ∧ Below w.heap.size w w' := by
  have HU1 := Lib.hid (uN_wrap n)
  have HU2 := Lib.hid (uN_wrap m)
  have HL1 := Lib.hid (uN_lt n)
  have HL2 := Lib.hid (uN_lt m)
  have HG1 := Lib.hid (vlen _ (uN_lt n))
  have HG2 := Lib.hid (vlen _ (uN_lt m))
  have HG0 := Lib.hid (vlen 7 (by decide))
  have M := Lib.hid (ndM_start w a b he)
  clear he
  go_enter Tryz.func215, Tryz.ntmps215
  go_upto_region 1 with (fail)
  rw [zeros32]
  have e0 : ((w.alloc (.cells (rowOf .u8 32 a) 53)).alloc (.cells (rowOf .u8 32 b) 53)).alloc (.cells (rowOf .u8 32 (fun _ => 0)) 53) = ndW w a b := rfl
  rw [e0]
  clear e0
  generalize ndW w a b = w1 at *
  refine wp_region_T (fun w' => RowAt w' w.heap.size .u8 32 53 a ∧ RowAt w' (w.heap.size + 1) .u8 32 53 b) [0, 1, 4, 5, 6, 9, 10, 11, 12, 13] (by kernel_rfl) ?_
  replace M := Lib.hid (M.out.calls ((Below.refl _ w1).drew))
  generalize w1.drew = w2 at *
  clear w1
  refine anyT_takeY (i := 2) (v := .int .i64 n) rfl (by kernel_rfl) (by kernel_rfl) (by kernel_rfl) (fun _ _ _ h => h) (by kernel_rfl) (Or.inl ⟨by rfl, by intro w; go_simp⟩) ?_
  try simp only [List.getElem_toArray, List.getElem_cons_succ, List.getElem_cons_zero, Act.put, List.setIfInBounds_toArray, List.set_cons_zero, List.set_cons_succ]
  refine anyT_takeY (i := 3) (v := .int .u64 (IntKind.u64.wrap n)) rfl (by kernel_rfl) (by kernel_rfl) (by kernel_rfl) (fun _ _ _ h => h) (by kernel_rfl) (Or.inl ⟨by rfl, by intro w; go_simp⟩) ?_
  try simp only [List.getElem_toArray, List.getElem_cons_succ, List.getElem_cons_zero, Act.put, List.setIfInBounds_toArray, List.set_cons_zero, List.set_cons_succ]
  refine anyT_takeY (i := 7) (v := .int .i64 m) rfl (by kernel_rfl) (by kernel_rfl) (by kernel_rfl) (fun _ _ _ h => h) (by kernel_rfl) (Or.inl ⟨by rfl, by intro w; go_simp⟩) ?_
  try simp only [List.getElem_toArray, List.getElem_cons_succ, List.getElem_cons_zero, Act.put, List.setIfInBounds_toArray, List.set_cons_zero, List.set_cons_succ]
  refine anyT_takeY (i := 8) (v := .int .u64 (IntKind.u64.wrap m)) rfl (by kernel_rfl) (by kernel_rfl) (by kernel_rfl) (fun _ _ _ h => h) (by kernel_rfl) (Or.inl ⟨by rfl, by intro w; go_simp⟩) ?_
  try simp only [List.getElem_toArray, List.getElem_cons_succ, List.getElem_cons_zero, Act.put, List.setIfInBounds_toArray, List.set_cons_zero, List.set_cons_succ]
  rw [HU1.out, HU2.out]
  refine anyT_take [14] (i := 5) (v := .agg (rowOf .u8 32 a)) rfl (by kernel_rfl) (by kernel_rfl) (by kernel_rfl) (fun _ _ _ h => h) (by kernel_rfl) (row_yields (by rfl) 53 (.tmp 5) rfl w.heap.size rfl .u8 32 a _ (fun _ h => h.1) Tryz.underlying53 rfl (by kernel_rfl)) ⟨M.out.ra, M.out.rb⟩ ?_
  try simp only [List.getElem_toArray, List.getElem_cons_succ, List.getElem_cons_zero, Act.put, List.setIfInBounds_toArray, List.set_cons_zero, List.set_cons_succ]
  refine anyT_take [14] (i := 10) (v := .agg (rowOf .u8 32 b)) rfl (by kernel_rfl) (by kernel_rfl) (by kernel_rfl) (fun _ _ _ h => h) (by kernel_rfl) (row_yields (by rfl) 53 (.tmp 7) rfl (w.heap.size + 1) rfl .u8 32 b _ (fun _ h => h.2) Tryz.underlying53 rfl (by kernel_rfl)) ⟨M.out.ra, M.out.rb⟩ ?_
  try simp only [List.getElem_toArray, List.getElem_cons_succ, List.getElem_cons_zero, Act.put, List.setIfInBounds_toArray, List.set_cons_zero, List.set_cons_succ]
  refine anyT_one (i := 0) (by kernel_rfl) rfl (fun K hK => ?_)
  rw [if_pos (by rfl)]
  try simp only [List.getElem_toArray, List.getElem_cons_succ, List.getElem_cons_zero]
  (go_simp; refine (new_on _).mono ?_; rintro e w3 ⟨rfl, HW, HB2⟩; have HP := Lib.hid M.out.size; replace M := Lib.hid (M.out.calls (HB2.mono HP.out)); replace HW := Lib.hid HW; clear HB2)
  refine hK _ _ (fun _ => ⟨M.out.ra, M.out.rb⟩) ?_
  clear hK K
  try simp only [List.getElem_toArray, List.getElem_cons_succ, List.getElem_cons_zero, Act.put, List.setIfInBounds_toArray, List.set_cons_zero, List.set_cons_succ]
  generalize w2.heap.size = p at *
  clear w2
  refine anyT_one (i := 1) (by kernel_rfl) rfl (fun K hK => ?_)
  rw [if_pos (by rfl)]
  try simp only [List.getElem_toArray, List.getElem_cons_succ, List.getElem_cons_zero]
  (go_simp; refine (wuint_lit p (w.heap.size + 1 + 1 + 1) _ _ 7 7 rfl _ _ HW.out (Below.refl _ _) HP.out (by decide) (by simp)).mono ?_; rintro e w4 ⟨rfl, v4, hw4, HB4⟩; replace M := Lib.hid (M.out.calls HB4); replace HW := Lib.hid hw4; clear hw4 HB4 w3)
  refine hK _ _ (fun _ => ⟨M.out.ra, M.out.rb⟩) ?_
  clear hK K
  try simp only [List.getElem_toArray, List.getElem_cons_succ, List.getElem_cons_zero, Act.put, List.setIfInBounds_toArray, List.set_cons_zero, List.set_cons_succ]
  refine anyT_one (i := 4) (by kernel_rfl) rfl (fun K hK => ?_)
  rw [if_pos (by rfl)]
  try simp only [List.getElem_toArray, List.getElem_cons_succ, List.getElem_cons_zero]
  (go_simp; refine (wuint_on p (w.heap.size + 1 + 1 + 1) _ _ (uN n) _ _ HW.out (Below.refl _ _) HP.out HL1.out (by have := HG0.out; simp only [List.length_append, List.length_nil]; omega)).mono ?_; rintro e w6 ⟨rfl, v6, hw6, HB6⟩; replace M := Lib.hid (M.out.calls HB6); replace HW := Lib.hid hw6; clear hw6 HB6 w4)
  refine hK _ _ (fun _ => ⟨M.out.ra, M.out.rb⟩) ?_
  clear hK K
  try simp only [List.getElem_toArray, List.getElem_cons_succ, List.getElem_cons_zero, Act.put, List.setIfInBounds_toArray, List.set_cons_zero, List.set_cons_succ]
  refine anyT_one (i := 6) (by kernel_rfl) rfl (fun K hK => ?_)
  rw [if_pos (by rfl)]
  try simp only [List.getElem_toArray, List.getElem_cons_succ, List.getElem_cons_zero]
  (go_simp; refine (whash_on p (w.heap.size + 1 + 1 + 1) _ _ a _ _ HW.out (Below.refl _ _) HP.out (by have := HG0.out; have := HG1.out; simp only [List.length_append, List.length_nil]; omega)).mono ?_; rintro e w5 ⟨rfl, v5, hw5, HB5⟩; replace M := Lib.hid (M.out.calls HB5); replace HW := Lib.hid hw5; clear hw5 HB5 w6)
  refine hK _ _ (fun _ => ⟨M.out.ra, M.out.rb⟩) ?_
  clear hK K
  try simp only [List.getElem_toArray, List.getElem_cons_succ, List.getElem_cons_zero, Act.put, List.setIfInBounds_toArray, List.set_cons_zero, List.set_cons_succ]
  refine anyT_one (i := 9) (by kernel_rfl) rfl (fun K hK => ?_)
  rw [if_pos (by rfl)]
  try simp only [List.getElem_toArray, List.getElem_cons_succ, List.getElem_cons_zero]
  (go_simp; refine (wuint_on p (w.heap.size + 1 + 1 + 1) _ _ (uN m) _ _ HW.out (Below.refl _ _) HP.out HL2.out (by have := HG0.out; have := HG1.out; have := rowL32 a; simp only [List.length_append, List.length_nil]; omega)).mono ?_; rintro e w7 ⟨rfl, v7, hw7, HB7⟩; replace M := Lib.hid (M.out.calls HB7); replace HW := Lib.hid hw7; clear hw7 HB7 w5)
  refine hK _ _ (fun _ => ⟨M.out.ra, M.out.rb⟩) ?_
  clear hK K
  try simp only [List.getElem_toArray, List.getElem_cons_succ, List.getElem_cons_zero, Act.put, List.setIfInBounds_toArray, List.set_cons_zero, List.set_cons_succ]
  refine anyT_one (i := 11) (by kernel_rfl) rfl (fun K hK => ?_)
  rw [if_pos (by rfl)]
  try simp only [List.getElem_toArray, List.getElem_cons_succ, List.getElem_cons_zero]
  (go_simp; refine (whash_on p (w.heap.size + 1 + 1 + 1) _ _ b _ _ HW.out (Below.refl _ _) HP.out (by have := HG0.out; have := HG1.out; have := HG2.out; have := rowL32 a; simp only [List.length_append, List.length_nil]; omega)).mono ?_; rintro e w8 ⟨rfl, v8, hw8, HB8⟩; replace M := Lib.hid (M.out.calls HB8); replace HW := Lib.hid hw8; clear hw8 HB8 w7)
  refine hK _ _ (fun _ => ⟨M.out.ra, M.out.rb⟩) ?_
  clear hK K
  try simp only [List.getElem_toArray, List.getElem_cons_succ, List.getElem_cons_zero, Act.put, List.setIfInBounds_toArray, List.set_cons_zero, List.set_cons_succ]
  refine anyT_one (i := 12) (by kernel_rfl) rfl (fun K hK => ?_)
  rw [if_pos (by rfl)]
  try simp only [List.getElem_toArray, List.getElem_cons_succ, List.getElem_cons_zero]
  (go_simp; refine (wdone_on p (w.heap.size + 1 + 1 + 1) _ _ _ _ HW.out (Below.refl _ _) HP.out (by have := HG0.out; have := HG1.out; have := HG2.out; have := rowL32 a; have := rowL32 b; simp only [List.length_append, List.length_nil]; omega)).mono ?_; rintro e w9 ⟨v9, rfl, hw9, HB9⟩; replace M := Lib.hid (M.out.calls HB9); have HX := Lib.hid hw9; clear hw9 HB9 HW w8)
  refine hK _ _ (fun _ => ⟨M.out.ra, M.out.rb⟩) ?_
  clear hK K
  try simp only [List.getElem_toArray, List.getElem_cons_succ, List.getElem_cons_zero, Act.put, List.setIfInBounds_toArray, List.set_cons_zero, List.set_cons_succ]
  refine anyT_one (i := 13) (by kernel_rfl) rfl (fun K hK => ?_)
  rw [if_pos (by rfl)]
  try simp only [List.getElem_toArray, List.getElem_cons_succ, List.getElem_cons_zero]
  (go_simp; refine (shSum_on (w.heap.size + 1 + 1 + 1) _ _ _ _ HX.out (Below.refl _ _) M.out.size M.out.env).mono ?_; rintro e w10 ⟨rfl, HB10⟩; replace M := Lib.hid (M.out.calls HB10); clear HB10 HX w9)
  refine hK _ _ (fun _ => ⟨M.out.ra, M.out.rb⟩) ?_
  clear hK K
  try simp only [List.getElem_toArray, List.getElem_cons_succ, List.getElem_cons_zero, Act.put, List.setIfInBounds_toArray, List.set_cons_zero, List.set_cons_succ]
  rw [show sumF ([] ++ varint 7 ++ varint (uN n) ++ rowL 32 a ++ varint (uN m) ++ rowL 32 b) = avNodeF (uN n) a (uN m) b from by unfold avNodeF; rw [List.nil_append]]
  refine anyT_one (i := 14) (by kernel_rfl) rfl (fun K hK => ?_)
  rw [if_pos (by rfl)]
  try simp only [List.getElem_toArray, List.getElem_cons_succ, List.getElem_cons_zero]
  (refine wp_store_row 53 (.tmp 8) (.tmp 22) rfl (w.heap.size + 1 + 1) _ rfl rfl 53 _ M.out.res (by rw [rowOf_size]; kernel_rfl) (by rw [rowOf_size, rowOf_size]) (rowOf_one _ _ _) ?_)
  refine hK _ _ (not_mem rfl) ?_
  clear hK K
  try simp only [List.getElem_toArray, List.getElem_cons_succ, List.getElem_cons_zero, Act.put, List.setIfInBounds_toArray, List.set_cons_zero, List.set_cons_succ]
  refine anyT_done (by kernel_rfl) ?_ _
  go_wp2_with (fail)
  refine bodyPost_ret (results_cell_row rfl _ _ (w.heap.size + 1 + 1) 53 (rowOf .u8 32 (avNodeF (uN n) a (uN m) b)) (0, 0) _ rfl (setRow_heap _ _ _ _ _ _ M.out.res) Tryz.underlying53 rfl (by rw [rowOf_size]; kernel_rfl)) rfl ?_
  exact ⟨rfl, below_setRow M.out.below (by omega) _⟩
end Go.Proofs.YtejglhlodfhgkaaGreatDoor
namespace Go.Proofs.YtejglhlodfhgkaaGreatDoor
set_option linter.unusedVariables false
set_option linter.unusedSimpArgs false
open Go.RowKit
set_option maxRecDepth 100000
set_option linter.unusedSimpArgs false
set_option linter.unusedVariables false
def AvT.root : AvT → (Nat → Int)
  | .leaf k v => avLeafF k v
  | .node a b => avNodeF a.many a.root b.many b.root
/-- the cells of a Tree -/
def tCells (k v : ByteArray) (m h : Int) (r : Nat → Int) (p q : Value) : Array Value := #[.string k, .string v, .int .i64 m, .int .i64 h] ++ (rowOf .u8 32 r ++ #[p, q])
theorem t_cells {w : World} {g : Nat} {k v : ByteArray} {m h : Int} {r : Nat → Int} {p q : Value} {T : TypeId} (hg : w.heap[g]? = some (.cells (tCells k v m h r p q) T (0, 0))) :
    w.cell? ⟨g, 0, none⟩ = some (.string k) ∧ w.cell? ⟨g, 1, none⟩ = some (.string v) ∧ w.cell? ⟨g, 2, none⟩ = some (.int .i64 m) ∧ w.cell? ⟨g, 3, none⟩ = some (.int .i64 h) ∧ w.cell? ⟨g, 36, none⟩ = some p ∧ w.cell? ⟨g, 37, none⟩ = some q ∧ w.rangeAt g 4 (rowOf .u8 32 r).toList := by
  have hs : (rowOf .u8 32 r).size = 32 := rowOf_size _ _ _
  refine ⟨?_, ?_, ?_, ?_, ?_, ?_, fun j u hu => ?_⟩
  · rw [cell_of_row w g 0 _ _ _ hg]; unfold tCells; rw [Array.getElem?_append_left (by simp)]; rfl
  · rw [cell_of_row w g 1 _ _ _ hg]; unfold tCells; rw [Array.getElem?_append_left (by simp)]; rfl
  · rw [cell_of_row w g 2 _ _ _ hg]; unfold tCells; rw [Array.getElem?_append_left (by simp)]; rfl
  · rw [cell_of_row w g 3 _ _ _ hg]; unfold tCells; rw [Array.getElem?_append_left (by simp)]; rfl
  · rw [cell_of_row w g 36 _ _ _ hg]; unfold tCells
    rw [Array.getElem?_append_right (by simp), Array.getElem?_append_right (by simp [hs])]; simp [hs]
  · rw [cell_of_row w g 37 _ _ _ hg]; unfold tCells
    rw [Array.getElem?_append_right (by simp), Array.getElem?_append_right (by simp [hs])]; simp [hs]
  · rw [cell_of_row w g (4 + j) _ _ _ hg]; unfold tCells
    have hj : j < 32 := by have := (List.getElem?_eq_some_iff.1 hu).1; simpa [hs] using this
    rw [Array.getElem?_append_right (by simp), Array.getElem?_append_left (by simp [hs]; omega)]
    simpa using hu
/-- the struct that a composite literal builds -/
theorem tBuild (k v : ByteArray) (m h : Int) (F : Nat → Int) (p q : Value) : Array.foldl (fun (cs : Array Value) (x : Value × Nat) => cs.setIfInBounds (4 + x.snd) x.fst) #[Value.string k, Value.string v, Value.int IntKind.i64 m, Value.int IntKind.i64 h, Value.int IntKind.u8 0, Value.int IntKind.u8 0, Value.int IntKind.u8 0, Value.int IntKind.u8 0, Value.int IntKind.u8 0, Value.int IntKind.u8 0, Value.int IntKind.u8 0, Value.int IntKind.u8 0, Value.int IntKind.u8 0, Value.int IntKind.u8 0, Value.int IntKind.u8 0, Value.int IntKind.u8 0, Value.int IntKind.u8 0, Value.int IntKind.u8 0, Value.int IntKind.u8 0, Value.int IntKind.u8 0, Value.int IntKind.u8 0, Value.int IntKind.u8 0, Value.int IntKind.u8 0, Value.int IntKind.u8 0, Value.int IntKind.u8 0, Value.int IntKind.u8 0, Value.int IntKind.u8 0, Value.int IntKind.u8 0, Value.int IntKind.u8 0, Value.int IntKind.u8 0, Value.int IntKind.u8 0, Value.int IntKind.u8 0, Value.int IntKind.u8 0, Value.int IntKind.u8 0, Value.int IntKind.u8 0, Value.int IntKind.u8 0, p, q] ((rowOf IntKind.u8 32 F).zipIdx 0) 0 32 = tCells k v m h F p q := by kernel_rfl
theorem build_yields {P : Program} {ops : Array Oper} {op : Oper} {a : Act} (hw : Region.wanted op (yielded ops a.tmps) = true) (t : TypeId) (parts : Array (Nat × Operand)) (ho : op.op = .build t parts) (cells : Array Value) (hf : P.built t (parts.map fun (i, x) => (i, a.eval x)).toList = some cells) : Yields P ops op (.agg cells) a := by
  refine Or.inl ⟨hw, fun w => ?_⟩
  have h := run_build w t (parts.map fun (i, x) => (i, a.eval x)) cells hf
  simp only [execOp, ho, Sem.run_bind, h, Result.andThen_ok, Sem.run_pure]
theorem tBuiltN (k : ByteArray) (m h : Int) (F : Nat → Int) (p q : Option Addr) : Tryz.prog.built 153 [(0, .string k), (2, .int .i64 m), (3, .int .i64 h), (4, .agg (rowOf .u8 32 F)), (5, .pointer p), (6, .pointer q)] = some (tCells k eBA m h F (.pointer p) (.pointer q)) := by kernel_rfl
/-- block g is the tree t -/
def TreeAt (w : World) : Nat → AvT → Prop
  | g, .leaf k v => w.heap[g]? = some (.cells (tCells k v 1 1 (avLeafF k v) (.pointer none) (.pointer none)) 153 (0, 0))
  | g, .node a b => ∃ ga gb, (ga < g ∧ gb < g) ∧ w.heap[g]? = some (.cells (tCells a.least eBA ((a.many + b.many : Nat) : Int) ((1 + max a.height b.height : Nat) : Int) (AvT.node a b).root (.pointer (some ⟨ga, 0, none⟩)) (.pointer (some ⟨gb, 0, none⟩))) 153 (0, 0)) ∧ TreeAt w ga a ∧ TreeAt w gb b
theorem TreeAt.cells {w : World} {g : Nat} {t : AvT} (h : TreeAt w g t) : ∃ p q, w.heap[g]? = some (.cells (tCells t.least t.value (t.many : Int) (t.height : Int) t.root (.pointer p) (.pointer q)) 153 (0, 0)) := by
  cases t with
  | leaf k v => exact ⟨none, none, h⟩
  | node a b => obtain ⟨ga, gb, _, h, _⟩ := h; exact ⟨_, _, h⟩
theorem TreeAt.lt {w : World} {g : Nat} {t : AvT} (h : TreeAt w g t) : g < w.heap.size := by
  obtain ⟨p, q, h⟩ := h.cells
  exact (Array.getElem?_eq_some_iff.1 h).1
theorem TreeAt.below {w w' : World} : ∀ {t : AvT} {g : Nat}, TreeAt w g t → Below w.heap.size w w' → TreeAt w' g t
  | .leaf k v, g, h, hb => (hb.block g (Array.getElem?_eq_some_iff.1 h).1).trans h
  | .node a b, g, h, hb => by
    obtain ⟨ga, gb, hl, h, h1, h2⟩ := h
    exact ⟨ga, gb, hl, (hb.block g (Array.getElem?_eq_some_iff.1 h).1).trans h, h1.below hb, h2.below hb⟩
/-- a pointer to a tree, or to none -/
def TreeO (w : World) (v : Value) (t : Option AvT) : Prop := match t with
  | none => v = .pointer none
  | some t => ∃ g, v = .pointer (some ⟨g, 0, none⟩) ∧ TreeAt w g t
theorem TreeO.below {w w' : World} {v : Value} {t : Option AvT} (h : TreeO w v t) (hb : Below w.heap.size w w') : TreeO w' v t := by
  cases t with
  | none => exact h
  | some t => obtain ⟨g, e, h⟩ := h; exact ⟨g, e, h.below hb⟩
theorem len_nil (w : World) : Calls Tryz.prog 86 #[.pointer none] w fun e w' => e = .returned (.int .i64 0) ∧ w = w' := by
  go_enter Tryz.func86, Tryz.ntmps86
  go_wp2_with (fail)
  go_ret
  exact ⟨rfl, rfl⟩
theorem len_some {g : Nat} {t : AvT} (w : World) (h : TreeAt w g t) : Calls Tryz.prog 86 #[.pointer (some ⟨g, 0, none⟩)] w fun e w' => e = .returned (.int .i64 (t.many : Int)) ∧ w = w' := by
  obtain ⟨p, q, h⟩ := h.cells
  obtain ⟨-, -, c2, -⟩ := t_cells h
  clear h
  go_enter Tryz.func86, Tryz.ntmps86
  go_wp2_with (fail)
  go_ret
  exact ⟨rfl, rfl⟩
set_option maxHeartbeats 1000000 in
theorem mkLeaf_any (k v : ByteArray) (w : World) (he : Env w) (hs : k.size + v.size ≤ 140737488351232) :
    Calls Tryz.prog 159 #[.string k, .string v] w fun e w' => ∃ g, e = .returned (.pointer (some ⟨g, 0, none⟩)) ∧ TreeAt w' g (.leaf k v) ∧ Below w.heap.size w w' := by
  have HL := Lib.hid (avLeaf_any k v w he hs)
  obtain ⟨F, hF⟩ : ∃ F, F = avLeafF k v := ⟨_, rfl⟩
  rw [← hF] at HL
  have HF := Lib.hid hF
  have hsz32 : (rowOf .u8 32 F).size = 32 := rowOf_size _ _ _
  clear he hs hF
  go_enter Tryz.func159, Tryz.ntmps159
  go_wp2_with (go_at_call 214; (with_reducible refine HL.out.mono ?_); rintro e w1 ⟨rfl, hb⟩; have HB := Lib.hid hb; clear hb)
  rw [tBuild]
  have HA := Lib.hid (heap_alloc_new w1 (.cells (tCells k v 1 1 F (.pointer none) (.pointer none)) 153))
  have HBA := Lib.hid (below_alloc w1 (.cells (tCells k v 1 1 F (.pointer none) (.pointer none)) 153))
  go_ret
  refine ⟨_, rfl, ?_, HB.out.trans (HBA.out.mono HB.out.size)⟩
  unfold TreeAt
  rw [← HF.out]
  exact HA.out
end Go.Proofs.YtejglhlodfhgkaaGreatDoor

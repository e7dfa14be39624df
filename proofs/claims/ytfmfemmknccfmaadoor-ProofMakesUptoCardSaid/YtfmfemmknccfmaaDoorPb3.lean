/- Part 3 of the proof. -/
import Derived.Lib.AppendStr
import Derived.Test.YtfmfemmknccfmaaDoorPa40
import Derived.Test.YtfmfemmknccfmaaDoorPa26
import Derived.Test.YtfmfemmknccfmaaDoorPa20
import Derived.Test.YtfmfemmknccfmaaDoorPa14
import Derived.Test.YtfmfemmknccfmaaDoorPa13
import Derived.Test.YtfmfemmknccfmaaDoorPb2
namespace Go.Proofs.YtfmfemmknccfmaaDoor
set_option linter.unusedVariables false
set_option linter.unusedSimpArgs false
open Go.RowKit
set_option maxRecDepth 100000
set_option linter.unusedSimpArgs false
set_option linter.unusedVariables false
theorem a7cells_nums (s : ByteArray) : Lib.strCells s = byteVals (numsOf s) := by
  unfold Lib.strCells byteVals numsOf
  rw [List.map_map]
  rfl
theorem a7run_append (w : World) (base : Nat) (v : Value) (n : Nat) (vs : List Value) (hown : w.ownsRow base 5 1 v n vs) (s : ByteArray) (hl : n + s.size ≤ 140737488355328) (hb : base ≤ w.heap.size) :
    ∃ v' w', (Builtin.append_ #[138, 9] 138 #[v, .string s]).run Tryd.prog w = .ok v' w' ∧ w'.ownsRow base 5 1 v' (n + s.size) (vs ++ byteVals (numsOf s)) ∧ w.grownBy w' v.ownBlock := by
  obtain ⟨i0, hi, hz0, hz1, hz2⟩ := info_parts infoU8
  obtain ⟨v', w', h1, h2, h3, _⟩ := Lib.run_append_own_string (P := Tryd.prog) w base 138 9 138 5 i0 Tryd.underlying138 Tryd.underlying9 hi hz0 hz1 hz2 v n vs hown s (by unfold maxLen; omega) hl hb
  rw [a7cells_nums] at h2
  exact ⟨v', w', h1, h2, h3⟩
theorem wpList_append_s7 {w : World} {ops : Array Oper} {rest : List Oper} {o : Oper} {a : Act} {Q : Exit → Act → World → Prop} (hgd : o.guard = none) (s x : Operand)
    (ho : o.op = .call { callee := .builtin .append, args := #[s, x], argTypes := #[138, 9] }) (hty : o.type = 138)
    (base : Nat) (v : Value) (n : Nat) (vs : List Value) (hs : a.eval s = v) (hown : w.ownsRow base 5 1 v n vs) (y : ByteArray) (hx : a.eval x = .string y) (hl : n + y.size ≤ 140737488355328) (hb : base ≤ w.heap.size)
    (h : ∀ v' w', w'.ownsRow base 5 1 v' (n + y.size) (vs ++ byteVals (numsOf y)) → w.grownBy w' v.ownBlock → wpList Tryd.prog ops Q rest (a.put o.dst v') w') : wpList Tryd.prog ops Q (o :: rest) a w := by
  refine wpList_plain hgd fun K hK => ?_
  obtain ⟨v', w', hr, h1, h2⟩ := a7run_append w base v n vs hown y hl hb
  unfold Oper.wp execOp
  simp only [ho, hty, resolve, invoke, builtin, Sem.run_bind, Sem.run_pure, Result.andThen_ok, List.map_toArray, List.map_cons, List.map_nil, hs, hx, hr]
  exact hK _ _ (h v' w' h1 h2)
theorem dUint_m (b : Value) (bs : List Int) (m : Int) (n : Nat) (hm : m = (n : Int)) (w : World) (hb : BytesIn w b bs) (hn : n < 18446744073709551616) (hl : bs.length + 10 ≤ 140737488355328) :
    Calls Tryd.prog 86 #[b, .int .u64 m] w (RefPost bs (varint n) w) := by
  subst hm
  exact dUint_any b bs n w hb hn hl
def BsPost (xs : List Int) (w : World) (e : Ending) (w' : World) : Prop := ∃ v', e = .returned v' ∧ BytesIn w' v' xs ∧ Below w.heap.size w w'
theorem dText_any (b : Value) (bs : List Int) (s : ByteArray) (w : World) (hb : BytesIn w b bs) (hl : bs.length + s.size + 10 ≤ 140737488355328) :
    Calls Tryd.prog 84 #[b, .string s] w (BsPost (bs ++ (varint s.size ++ numsOf s)) w) := by
  have hu : IntKind.u64.wrap (s.size : Int) = (s.size : Int) := IntWalk.u64_in _ (by omega)
  have HU := Lib.hid (dUint_m b bs (IntKind.u64.wrap (s.size : Int)) s.size hu w hb (by omega) (by omega))
  have HU2 := Lib.hid (dUint_m b bs (s.size : Int) s.size rfl w hb (by omega) (by omega))
  have HG := Lib.hid (vlen s.size (by omega))
  have HL := Lib.hid hl
  clear hb hl
  unfold RefPost at HU HU2
  unfold BsPost
  go_enter Tryd.func84, Tryd.ntmps84
  go_wp2_with (first
    | (go_at_call 86; (with_reducible refine HU.out.mono ?_); rintro e w3 ⟨v3, rfl, ho, hb⟩; have HO := Lib.hid ho; have HB := Lib.hid hb; clear ho hb)
    | (go_at_call 86; (with_reducible refine HU2.out.mono ?_); rintro e w3 ⟨v3, rfl, ho, hb⟩; have HO := Lib.hid ho; have HB := Lib.hid hb; clear ho hb)
    | (at_builtin; refine wpList_append_s7 rfl (.tmp 9) (.tmp 10) rfl rfl w.heap.size v3 _ _ rfl HO.out s rfl (by have := HL.out; have := HG.out; rw [List.length_append]; omega) HB.out.size ?_; intro v4 w4 ho hg; have HO4 := Lib.hid ho; have HB4 := Lib.hid (HB.out.grown hg HB.out.size (fun k hk => (HO.out.lt k hk).1)); clear ho hg))
  go_ret
  refine ⟨v4, rfl, ?_, HB4.out⟩
  have h := HO4.out
  rw [← byteVals_append] at h
  have h1 := HL.out
  have h2 := HG.out
  have e1 : (bs ++ varint s.size).length + s.size = (bs ++ (varint s.size ++ numsOf s)).length := by simp only [List.length_append, numsOf_length]; omega
  rw [e1, List.append_assoc] at h
  exact owns_in h (by simp only [List.length_append, numsOf_length]; unfold maxLen; omega)
theorem lit1_in (w : World) (x : Int) : BytesIn (w.alloc (.cells #[.int .u8 x] 5)) (.slice (some ⟨w.heap.size, 0, none⟩) 1 1) [x] :=
  owns_in (xs := [x]) ⟨rfl, .inr ⟨w.heap.size, 1, _, rfl, Nat.le_refl _, heap_alloc_new w _, by simp, by decide, rfl, rfl⟩⟩ (by simp [maxLen])
theorem varint6 : varint 6 = [6] := by simp [varint, glen_small (show 6 < 128 by decide), gby]
theorem varint7 : varint 7 = [7] := by simp [varint, glen_small (show 7 < 128 by decide), gby]
set_option maxHeartbeats 2000000 in
theorem rLeaf_any (k v : ByteArray) (w : World) (hs : k.size + v.size ≤ 1048576) :
    Calls Tryd.prog 51 #[.string k, .string v] w fun e w' => e = .returned (.agg (rowOf .u8 32 (avLeafF k v))) ∧ Below w.heap.size w w' := by
  have HG1 := Lib.hid (vlen k.size (by omega))
  have HG2 := Lib.hid (vlen v.size (by omega))
  have HS := Lib.hid hs
  have HB := Lib.hid (below_alloc w (.cells (rowOf .u8 32 (fun _ => 0)) 43))
  have HR := Lib.hid (RowAt.new w .u8 32 43 (fun _ => 0))
  clear hs
  go_enter Tryd.func51, Tryd.ntmps51
  go_upto_region 1 with (fail)
  rw [zeros32]
  generalize w.alloc (.cells (rowOf .u8 32 (fun _ => 0)) 43) = w1 at *
  have HT := Lib.hid (dText_any _ [6] k _ (lit1_in w1 6) (by have := HS.out; simp; omega))
  unfold BsPost at HT
  go_wp2_with (first
    | (go_at_call 84; (with_reducible refine HT.out.mono ?_); rintro e w3 ⟨v3, rfl, hi, hb⟩; clear HT; have HI := Lib.hid hi; have hb2 := (below_alloc w1 (.cells #[.int .u8 6] 5)).trans (hb.mono (by simp)); replace HR := Lib.hid (HR.out.below hb2 HR.out.lt); replace HB := Lib.hid (HB.out.trans (hb2.mono HB.out.size)); clear hi hb hb2)
    | (go_at_call 84; (with_reducible refine (dText_any _ _ v _ HI.out (by have := HS.out; have := HG1.out; simp only [List.length_append, List.length_singleton, numsOf_length]; omega)).mono ?_); rintro e w4 ⟨v4, rfl, hi, hb⟩; replace HI := Lib.hid hi; replace HR := Lib.hid (HR.out.below hb HR.out.lt); replace HB := Lib.hid (HB.out.trans (hb.mono HB.out.size)); clear hi hb)
    | (go_at_call 50; (with_reducible refine (rsum_any _ _ _ HI.out (by have := HS.out; have := HG1.out; have := HG2.out; simp only [List.length_append, List.length_singleton, numsOf_length]; omega)).mono ?_); rintro e w5 ⟨rfl, hb⟩; replace HR := Lib.hid (HR.out.below hb HR.out.lt); replace HB := Lib.hid (HB.out.trans (hb.mono HB.out.size)); clear hb)
    | (refine wpList_store_row rfl 43 (.tmp 4) (.tmp 10) rfl w.heap.size _ rfl rfl 43 _ HR.out (by rw [rowOf_size]; kernel_rfl) (by rw [rowOf_size, rowOf_size]) (rowOf_one _ _ _) ?_))
  refine bodyPost_ret (results_cell_row rfl _ _ w.heap.size 43 _ (0, 0) _ rfl (setRow_heap _ _ _ _ _ _ HR.out) Tryd.underlying43 rfl (by rw [rowOf_size]; kernel_rfl)) rfl ?_
  refine ⟨?_, below_setRow HB.out (Nat.le_refl _) _⟩
  unfold avLeafF
  rw [varint6]
  simp only [List.append_assoc, List.cons_append, List.nil_append]
end Go.Proofs.YtfmfemmknccfmaaDoor
namespace Go.Proofs.YtfmfemmknccfmaaDoor
set_option linter.unusedVariables false
set_option linter.unusedSimpArgs false
open Go.RowKit
set_option maxRecDepth 100000
set_option linter.unusedSimpArgs false
set_option linter.unusedVariables false
theorem dUint_b (b : Value) (bs : List Int) (m : Int) (n : Nat) (hm : m = (n : Int)) (w : World) (hb : BytesIn w b bs) (hn : n < 18446744073709551616) (hl : bs.length + 10 ≤ 140737488355328) :
    Calls Tryd.prog 86 #[b, .int .u64 m] w (BsPost (bs ++ varint n) w) := by
  refine (dUint_m b bs m n hm w hb hn hl).mono ?_
  rintro e w' ⟨v', he, ho, hbl⟩
  exact ⟨v', he, owns_in ho (by have := vlen n hn; rw [List.length_append]; unfold maxLen; omega), hbl⟩
theorem dHash_b (b : Value) (bs : List Int) (f : Nat → Int) (w : World) (hb : BytesIn w b bs) (hl : bs.length + 32 ≤ 140737488355328) :
    Calls Tryd.prog 85 #[b, .agg (rowOf .u8 32 f)] w (BsPost (bs ++ rowL 32 f) w) := by
  refine (dHash_any b bs f w hb hl).mono ?_
  rintro e w' ⟨v', he, ho, hbl⟩
  exact ⟨v', he, owns_in ho (by rw [List.length_append, rowL32]; unfold maxLen; omega), hbl⟩
set_option maxHeartbeats 2000000 in
theorem rNode_any (n m : Int) (a b : Nat → Int) (w : World) (he : Env w) :
    Calls Tryd.prog 52 #[.int .i64 n, .agg (rowOf .u8 32 a), .int .i64 m, .agg (rowOf .u8 32 b)] w fun e w' => e = .returned (.agg (rowOf .u8 32 (avNodeF (uN n) a (uN m) b))) ∧ Below w.heap.size w w' := by
  have HU1 := Lib.hid (uN_wrap n)
  have HU2 := Lib.hid (uN_wrap m)
  have HL1 := Lib.hid (uN_lt n)
  have HL2 := Lib.hid (uN_lt m)
  have HG1 := Lib.hid (vlen _ (uN_lt n))
  have HG2 := Lib.hid (vlen _ (uN_lt m))
  have M := Lib.hid (ndM_start w a b he)
  clear he
  go_enter Tryd.func52, Tryd.ntmps52
  go_upto_region 1 with (fail)
  rw [zeros32]
  have e0 : ((w.alloc (.cells (rowOf .u8 32 a) 43)).alloc (.cells (rowOf .u8 32 b) 43)).alloc (.cells (rowOf .u8 32 (fun _ => 0)) 43) = ndW w a b := rfl
  rw [e0]
  clear e0
  generalize ndW w a b = w1 at *
  refine wp_region_T (fun w' => RowAt w' w.heap.size .u8 32 43 a) [0, 3, 4] (by kernel_rfl) ?_
  replace M := Lib.hid (M.out.calls ((Below.refl _ w1).drew))
  generalize w1.drew = w2 at *
  refine anyT_takeY (i := 1) (v := .int .i64 n) rfl (by kernel_rfl) (by kernel_rfl) (by kernel_rfl) (fun _ _ _ h => h) (by kernel_rfl) (Or.inl ⟨by rfl, by intro w; go_simp⟩) ?_
  try simp only [List.getElem_toArray, List.getElem_cons_succ, List.getElem_cons_zero, Act.put, List.setIfInBounds_toArray, List.set_cons_zero, List.set_cons_succ]
  refine anyT_takeY (i := 2) (v := .int .u64 (IntKind.u64.wrap n)) rfl (by kernel_rfl) (by kernel_rfl) (by kernel_rfl) (fun _ _ _ h => h) (by kernel_rfl) (Or.inl ⟨by rfl, by intro w; go_simp⟩) ?_
  try simp only [List.getElem_toArray, List.getElem_cons_succ, List.getElem_cons_zero, Act.put, List.setIfInBounds_toArray, List.set_cons_zero, List.set_cons_succ]
  refine anyT_take [5, 6] (i := 4) (v := .agg (rowOf .u8 32 a)) rfl (by kernel_rfl) (by kernel_rfl) (by kernel_rfl) (fun _ _ _ h => h) (by kernel_rfl) (row_yields (by rfl) 43 (.tmp 5) rfl w.heap.size rfl .u8 32 a _ (fun _ h => h) Tryd.underlying43 rfl (by kernel_rfl)) M.out.ra ?_
  try simp only [List.getElem_toArray, List.getElem_cons_succ, List.getElem_cons_zero, Act.put, List.setIfInBounds_toArray, List.set_cons_zero, List.set_cons_succ]
  refine anyT_one (i := 0) (by kernel_rfl) rfl (fun K hK => ?_)
  rw [if_pos (by rfl)]
  try simp only [List.getElem_toArray, List.getElem_cons_succ, List.getElem_cons_zero]
  (go_simp)
  refine hK _ _ (fun _ => (M.out.calls ((below_alloc w2 (.cells #[.int .u8 7] 5)).mono M.out.size)).ra) ?_
  clear hK K
  try simp only [List.getElem_toArray, List.getElem_cons_succ, List.getElem_cons_zero, Act.put, List.setIfInBounds_toArray, List.set_cons_zero, List.set_cons_succ]
  have HI := Lib.hid (lit1_in w2 7)
  replace M := Lib.hid (M.out.calls ((below_alloc w2 (.cells #[.int .u8 7] 5)).mono M.out.size))
  generalize w2.alloc (.cells #[.int .u8 7] 5) = w3 at *
  refine anyT_one (i := 3) (by kernel_rfl) rfl (fun K hK => ?_)
  rw [if_pos (by rfl)]
  try simp only [List.getElem_toArray, List.getElem_cons_succ, List.getElem_cons_zero]
  (go_simp; refine (dUint_b _ [7] _ (uN n) HU1.out _ HI.out HL1.out (by simp)).mono ?_; rintro e w4 ⟨v4, rfl, hi, hb⟩; replace HI := Lib.hid hi; replace M := Lib.hid (M.out.calls (hb.mono M.out.size)); clear hi hb)
  refine hK _ _ (fun _ => M.out.ra) ?_
  clear hK K
  try simp only [List.getElem_toArray, List.getElem_cons_succ, List.getElem_cons_zero, Act.put, List.setIfInBounds_toArray, List.set_cons_zero, List.set_cons_succ]
  refine anyT_one (i := 5) (by kernel_rfl) rfl (fun K hK => ?_)
  rw [if_pos (by rfl)]
  try simp only [List.getElem_toArray, List.getElem_cons_succ, List.getElem_cons_zero]
  (go_simp; refine (dHash_b _ _ a _ HI.out (by have := HG1.out; simp only [List.length_append, List.length_singleton]; omega)).mono ?_; rintro e w5 ⟨v5, rfl, hi, hb⟩; replace HI := Lib.hid hi; replace M := Lib.hid (M.out.calls (hb.mono M.out.size)); clear hi hb)
  refine hK _ _ (not_mem rfl) ?_
  clear hK K
  try simp only [List.getElem_toArray, List.getElem_cons_succ, List.getElem_cons_zero, Act.put, List.setIfInBounds_toArray, List.set_cons_zero, List.set_cons_succ]
  refine anyT_takeY (i := 6) (v := v5) rfl (by kernel_rfl) (by kernel_rfl) (by kernel_rfl) (fun _ _ _ h => h) (by kernel_rfl) (Or.inl ⟨by rfl, by intro w; go_simp⟩) ?_
  try simp only [List.getElem_toArray, List.getElem_cons_succ, List.getElem_cons_zero, Act.put, List.setIfInBounds_toArray, List.set_cons_zero, List.set_cons_succ]
  refine anyT_done (by kernel_rfl) ?_ _
  go_upto_region 2 with (fail)
  refine wp_region_T (fun w' => RowAt w' (w.heap.size + 1) .u8 32 43 b) [3, 4] (by kernel_rfl) ?_
  replace M := Lib.hid (M.out.calls ((Below.refl _ w5).drew))
  replace HI := Lib.hid (show BytesIn w5.drew v5 _ from HI.out.below ((Below.refl _ w5).drew))
  generalize w5.drew = w6 at *
  refine anyT_takeY (i := 0) (v := v5) rfl (by kernel_rfl) (by kernel_rfl) (by kernel_rfl) (fun _ _ _ h => h) (by kernel_rfl) (Or.inl ⟨by rfl, by intro w; go_simp⟩) ?_
  try simp only [List.getElem_toArray, List.getElem_cons_succ, List.getElem_cons_zero, Act.put, List.setIfInBounds_toArray, List.set_cons_zero, List.set_cons_succ]
  refine anyT_takeY (i := 1) (v := .int .i64 m) rfl (by kernel_rfl) (by kernel_rfl) (by kernel_rfl) (fun _ _ _ h => h) (by kernel_rfl) (Or.inl ⟨by rfl, by intro w; go_simp⟩) ?_
  try simp only [List.getElem_toArray, List.getElem_cons_succ, List.getElem_cons_zero, Act.put, List.setIfInBounds_toArray, List.set_cons_zero, List.set_cons_succ]
  refine anyT_takeY (i := 2) (v := .int .u64 (IntKind.u64.wrap m)) rfl (by kernel_rfl) (by kernel_rfl) (by kernel_rfl) (fun _ _ _ h => h) (by kernel_rfl) (Or.inl ⟨by rfl, by intro w; go_simp⟩) ?_
  try simp only [List.getElem_toArray, List.getElem_cons_succ, List.getElem_cons_zero, Act.put, List.setIfInBounds_toArray, List.set_cons_zero, List.set_cons_succ]
  refine anyT_take [5, 6, 7] (i := 4) (v := .agg (rowOf .u8 32 b)) rfl (by kernel_rfl) (by kernel_rfl) (by kernel_rfl) (fun _ _ _ h => h) (by kernel_rfl) (row_yields (by rfl) 43 (.tmp 7) rfl (w.heap.size + 1) rfl .u8 32 b _ (fun _ h => h) Tryd.underlying43 rfl (by kernel_rfl)) M.out.rb ?_
  try simp only [List.getElem_toArray, List.getElem_cons_succ, List.getElem_cons_zero, Act.put, List.setIfInBounds_toArray, List.set_cons_zero, List.set_cons_succ]
  refine anyT_one (i := 3) (by kernel_rfl) rfl (fun K hK => ?_)
  rw [if_pos (by rfl)]
  try simp only [List.getElem_toArray, List.getElem_cons_succ, List.getElem_cons_zero]
  (go_simp; refine (dUint_b _ _ _ (uN m) HU2.out _ HI.out HL2.out (by have := HG1.out; have := rowL32 a; simp only [List.length_append, List.length_singleton]; omega)).mono ?_; rintro e w7 ⟨v7, rfl, hi, hb⟩; replace HI := Lib.hid hi; replace M := Lib.hid (M.out.calls (hb.mono M.out.size)); clear hi hb)
  refine hK _ _ (fun _ => M.out.rb) ?_
  clear hK K
  try simp only [List.getElem_toArray, List.getElem_cons_succ, List.getElem_cons_zero, Act.put, List.setIfInBounds_toArray, List.set_cons_zero, List.set_cons_succ]
  refine anyT_one (i := 5) (by kernel_rfl) rfl (fun K hK => ?_)
  rw [if_pos (by rfl)]
  try simp only [List.getElem_toArray, List.getElem_cons_succ, List.getElem_cons_zero]
  (go_simp; refine (dHash_b _ _ b _ HI.out (by have := HG1.out; have := HG2.out; have := rowL32 a; simp only [List.length_append, List.length_singleton]; omega)).mono ?_; rintro e w8 ⟨v8, rfl, hi, hb⟩; replace HI := Lib.hid hi; replace M := Lib.hid (M.out.calls (hb.mono M.out.size)); clear hi hb)
  refine hK _ _ (not_mem rfl) ?_
  clear hK K
  try simp only [List.getElem_toArray, List.getElem_cons_succ, List.getElem_cons_zero, Act.put, List.setIfInBounds_toArray, List.set_cons_zero, List.set_cons_succ]
  refine anyT_one (i := 6) (by kernel_rfl) rfl (fun K hK => ?_)
  rw [if_pos (by rfl)]
  try simp only [List.getElem_toArray, List.getElem_cons_succ, List.getElem_cons_zero]
  (go_simp; refine (rsum_any _ _ _ HI.out (by have := HG1.out; have := HG2.out; have := rowL32 a; have := rowL32 b; simp only [List.length_append, List.length_singleton]; omega)).mono ?_; rintro e w9 ⟨rfl, hb⟩; replace M := Lib.hid (M.out.calls (hb.mono M.out.size)); clear hb)
  refine hK _ _ (not_mem rfl) ?_
  clear hK K
  try simp only [List.getElem_toArray, List.getElem_cons_succ, List.getElem_cons_zero, Act.put, List.setIfInBounds_toArray, List.set_cons_zero, List.set_cons_succ]
  refine anyT_one (i := 7) (by kernel_rfl) rfl (fun K hK => ?_)
  rw [if_pos (by rfl)]
  try simp only [List.getElem_toArray, List.getElem_cons_succ, List.getElem_cons_zero]
  (refine wp_store_row 43 (.tmp 8) (.tmp 22) rfl (w.heap.size + 1 + 1) _ rfl rfl 43 _ M.out.res (by rw [rowOf_size]; kernel_rfl) (by rw [rowOf_size, rowOf_size]) (rowOf_one _ _ _) ?_)
  refine hK _ _ (not_mem rfl) ?_
  clear hK K
  try simp only [List.getElem_toArray, List.getElem_cons_succ, List.getElem_cons_zero, Act.put, List.setIfInBounds_toArray, List.set_cons_zero, List.set_cons_succ]
  refine anyT_done (by kernel_rfl) ?_ _
  go_wp2_with (fail)
  refine bodyPost_ret (results_cell_row rfl _ _ (w.heap.size + 1 + 1) 43 _ (0, 0) _ rfl (setRow_heap _ _ _ _ _ _ M.out.res) Tryd.underlying43 rfl (by rw [rowOf_size]; kernel_rfl)) rfl ?_
  refine ⟨?_, below_setRow M.out.below (by omega) _⟩
  unfold avNodeF
  rw [varint7]
end Go.Proofs.YtfmfemmknccfmaaDoor
namespace Go.Proofs.YtfmfemmknccfmaaDoor
set_option linter.unusedVariables false
set_option linter.unusedSimpArgs false
open Go.RowKit
set_option maxRecDepth 100000
set_option linter.unusedSimpArgs false
set_option linter.unusedVariables false
/-- what lies in memory while the reference makes a root: the result's zeros, both parts -/
structure RtM (w w' : World) (ca cb : Array Value) (a b : AvT) (g3 g4 : Nat) : Prop where
  below : Below w.heap.size w w'
  res : RowAt w' (w.heap.size + 1) .u8 32 43 (fun _ => 0)
  h3 : w'.heap[g3]? = some (.cells ca 29 (0, 0))
  h4 : w'.heap[g4]? = some (.cells cb 29 (0, 0))
  ta : RT w' ca a
  tb : RT w' cb b
theorem RtM.call {w w' w2 : World} {ca cb : Array Value} {a b : AvT} {g3 g4 : Nat} (m : RtM w w' ca cb a b g3 g4) (h : Below w'.heap.size w' w2) : RtM w w2 ca cb a b g3 g4 :=
  ⟨m.below.trans (h.mono m.below.size), m.res.below h m.res.lt, (h.block _ (blk_lt m.h3)).trans m.h3, (h.block _ (blk_lt m.h4)).trans m.h4, m.ta.below h, m.tb.below h⟩
theorem RowAt.putRow {w : World} {g b : Nat} {cs : Array Value} {F : Nat → Int} (h : RowAt w b .u8 32 43 F) (hne : b ≠ g) : RowAt (w.setRow g cs) b .u8 32 43 F := (setRow_other _ _ _ _ hne).trans h
theorem rRoot_none (w : World) : Calls Tryd.prog 18 #[.agg #[.bool false, .string eBA, .string eBA, .slice none 0 0]] w fun e w' => e = .returned (.agg (rowOf .u8 32 (sumF []))) ∧ Below w.heap.size w w' := by
  obtain ⟨w1, hw1⟩ : ∃ w1, w1 = (w.alloc (.cells #[.bool false, .string eBA, .string eBA, .slice none 0 0] 29)).alloc (.cells (rowOf .u8 32 (fun _ => 0)) 43) := ⟨_, rfl⟩
  have HB := Lib.hid (show Below w.heap.size w w1 by rw [hw1]; exact (below_alloc w _).trans ((below_alloc _ _).mono (by simp)))
  have HP := Lib.hid (show w1.heap[w.heap.size]? = some (.cells #[.bool false, .string eBA, .string eBA, .slice none 0 0] 29 (0, 0)) by rw [hw1, heap_alloc_old _ _ (by simp), heap_alloc_new])
  have HR := Lib.hid (show RowAt w1 (w.heap.size + 1) .u8 32 43 (fun _ => 0) by
    rw [hw1]
    have := RowAt.new (w.alloc (.cells #[.bool false, .string eBA, .string eBA, .slice none 0 0] 29)) .u8 32 43 (fun _ => 0)
    rw [size_alloc] at this; exact this)
  have cR := r_cells HP.out
  go_enter Tryd.func18, Tryd.ntmps18
  go_upto_region 1 with (fail)
  rw [zeros32]
  rw [← hw1]
  replace hw1 := Lib.hid hw1
  go_wp2_with (first
    | (go_at_call 50; (with_reducible refine (rsum_any _ [] _ (nil_in _) (by simp)).mono ?_); rintro e w5 ⟨rfl, hb⟩; replace HR := Lib.hid (HR.out.below hb HR.out.lt); replace HB := Lib.hid (HB.out.trans (hb.mono HB.out.size)); clear hb)
    | (refine wpList_store_row rfl 43 (.tmp 2) (.tmp 8) rfl (w.heap.size + 1) _ rfl rfl 43 _ HR.out (by rw [rowOf_size]; kernel_rfl) (by rw [rowOf_size, rowOf_size]) (rowOf_one _ _ _) ?_))
  refine bodyPost_ret (results_cell_row rfl _ _ (w.heap.size + 1) 43 _ (0, 0) _ rfl (setRow_heap _ _ _ _ _ _ HR.out) Tryd.underlying43 rfl (by rw [rowOf_size]; kernel_rfl)) rfl ?_
  exact ⟨rfl, below_setRow HB.out (by omega) _⟩
theorem rRoot_leaf (k v : ByteArray) (w : World) (hs : k.size + v.size ≤ 1048576) : Calls Tryd.prog 18 #[.agg #[.bool true, .string k, .string v, .slice none 0 0]] w fun e w' => e = .returned (.agg (rowOf .u8 32 (avLeafF k v))) ∧ Below w.heap.size w w' := by
  obtain ⟨w1, hw1⟩ : ∃ w1, w1 = (w.alloc (.cells #[.bool true, .string k, .string v, .slice none 0 0] 29)).alloc (.cells (rowOf .u8 32 (fun _ => 0)) 43) := ⟨_, rfl⟩
  have HB := Lib.hid (show Below w.heap.size w w1 by rw [hw1]; exact (below_alloc w _).trans ((below_alloc _ _).mono (by simp)))
  have HP := Lib.hid (show w1.heap[w.heap.size]? = some (.cells #[.bool true, .string k, .string v, .slice none 0 0] 29 (0, 0)) by rw [hw1, heap_alloc_old _ _ (by simp), heap_alloc_new])
  have HR := Lib.hid (show RowAt w1 (w.heap.size + 1) .u8 32 43 (fun _ => 0) by
    rw [hw1]
    have := RowAt.new (w.alloc (.cells #[.bool true, .string k, .string v, .slice none 0 0] 29)) .u8 32 43 (fun _ => 0)
    rw [size_alloc] at this; exact this)
  have cR := r_cells HP.out
  have HL := Lib.hid (rLeaf_any k v w1 hs)
  go_enter Tryd.func18, Tryd.ntmps18
  go_upto_region 1 with (fail)
  rw [zeros32]
  rw [← hw1]
  replace hw1 := Lib.hid hw1
  go_wp2_with (first
    | (go_at_call 51; (with_reducible refine HL.out.mono ?_); rintro e w5 ⟨rfl, hb⟩; replace HR := Lib.hid (HR.out.below hb HR.out.lt); replace HB := Lib.hid (HB.out.trans (hb.mono HB.out.size)); clear hb)
    | (refine wpList_store_row rfl 43 (.tmp 2) (.tmp 17) rfl (w.heap.size + 1) _ rfl rfl 43 _ HR.out (by rw [rowOf_size]; kernel_rfl) (by rw [rowOf_size, rowOf_size]) (rowOf_one _ _ _) ?_))
  refine bodyPost_ret (results_cell_row rfl _ _ (w.heap.size + 1) 43 _ (0, 0) _ rfl (setRow_heap _ _ _ _ _ _ HR.out) Tryd.underlying43 rfl (by rw [rowOf_size]; kernel_rfl)) rfl ?_
  exact ⟨rfl, below_setRow HB.out (by omega) _⟩
set_option maxHeartbeats 8000000 in
theorem rRoot_some : ∀ (t : AvT) (cs : Array Value) (w : World), Env w → RT w cs t → t.many ≤ 1048576 → (∀ p ∈ t.pairs, p.1.size + p.2.size ≤ 1048576) → Calls Tryd.prog 18 #[.agg cs] w fun e w' => e = .returned (.agg (rowOf .u8 32 t.root)) ∧ Below w.heap.size w w'
  | .leaf k v, cs, w, _, hcs, _, hz => by
    obtain rfl := hcs
    exact rRoot_leaf k v w (hz (k, v) (by simp [AvT.pairs]))
  | .node x y, cs, w, he, hcs, hm, hz => by
    simp only [AvT.many] at hm
    obtain ⟨bk, cx, cy, rfl, hbk, r1, r2, tx, ty⟩ := hcs
    have HZX := Lib.hid tx.size
    have HZY := Lib.hid ty.size
    have HOX := Lib.hid (RO.one (t := some x) tx)
    have HOY := Lib.hid (RO.one (t := some y) ty)
    have HIA := Lib.hid (fun w h1 h2 => rRoot_some x cx w h1 h2 (by omega) (fun p hp => hz p (List.mem_append.2 (.inl hp))))
    have HIB := Lib.hid (fun w h1 h2 => rRoot_some y cy w h1 h2 (by omega) (fun p hp => hz p (List.mem_append.2 (.inr hp))))
    have HPA := Lib.hid (fun w h => rpairs_some x cx w h (by omega))
    have HPB := Lib.hid (fun w h => rpairs_some y cy w h (by omega))
    obtain ⟨LA, hLA⟩ : ∃ l, l = x.pairs := ⟨_, rfl⟩
    obtain ⟨LB, hLB⟩ : ∃ l, l = y.pairs := ⟨_, rfl⟩
    rw [← hLA] at HPA
    rw [← hLB] at HPB
    have HFI := Lib.hid (show avNodeF (uN (LA.length : Int)) x.root (uN (LB.length : Int)) y.root = (AvT.node x y).root by rw [hLA, hLB, AvT.many_eq, AvT.many_eq, uN_nat _ (by omega), uN_nat _ (by omega)]; rfl)
    clear hLA hLB
    unfold PsPost at HPA HPB
    have HE := Lib.hid he
    obtain ⟨w1, hw1⟩ : ∃ w1, w1 = (w.alloc (.cells (rC true eBA eBA (.slice (some ⟨bk, 0, none⟩) 2 2)) 29)).alloc (.cells (rowOf .u8 32 (fun _ => 0)) 43) := ⟨_, rfl⟩
    have HB := Lib.hid (show Below w.heap.size w w1 by rw [hw1]; exact (below_alloc w _).trans ((below_alloc _ _).mono (by simp)))
    have HP := Lib.hid (show w1.heap[w.heap.size]? = some (.cells (rC true eBA eBA (.slice (some ⟨bk, 0, none⟩) 2 2)) 29 (0, 0)) by rw [hw1, heap_alloc_old _ _ (by simp), heap_alloc_new])
    have HR := Lib.hid (show RowAt w1 (w.heap.size + 1) .u8 32 43 (fun _ => 0) by
      rw [hw1]
      have := RowAt.new (w.alloc (.cells (rC true eBA eBA (.slice (some ⟨bk, 0, none⟩) 2 2)) 29)) .u8 32 43 (fun _ => 0)
      rw [size_alloc] at this; exact this)
    have HXY := Lib.hid (show RT w1 cx x ∧ RT w1 cy y by
      have := HB.out
      exact ⟨tx.below this, ty.below this⟩)
    have HSX := Lib.hid (show w1.cell? ⟨w.heap.size, 3, none⟩ = some (.slice (some ⟨bk, 0, none⟩) 2 2) ∧ w1.rangeAt bk 0 cx.toList ∧ w1.rangeAt bk 4 cy.toList from ⟨by rw [cell_of_row w1 _ 3 _ _ _ HP.out]; rfl, range_below r1 HB.out hbk, range_below r2 HB.out hbk⟩)
    have HBK0 := Lib.hid (show w.heap.size < w1.heap.size ∧ bk < w1.heap.size from ⟨blk_lt HP.out, Nat.lt_of_lt_of_le hbk HB.out.size⟩)
    have M := Lib.hid (show Below w.heap.size w w1 ∧ RowAt w1 (w.heap.size + 1) .u8 32 43 (fun _ => 0) from ⟨HB.out, HR.out⟩)
    have c0 := (r_cells (show w1.heap[w.heap.size]? = some (.cells #[.bool true, .string eBA, .string eBA, .slice (some ⟨bk, 0, none⟩) 2 2] 29 (0, 0)) from HP.out)).1
    have c3 := HSX.out.1
    clear he hz hm hbk r1 r2 tx ty HB HP HR
    go_enter Tryd.func18, Tryd.ntmps18
    go_upto_region 1 with (fail)
    rw [zeros32]
    rw [← hw1]
    replace hw1 := Lib.hid hw1
    go_upto_region 5 with (fail)
    go_cut [3, 4] (fun p3 p4 wx => ∃ g3 g4, p3 = .pointer (some ⟨g3, 0, none⟩) ∧ p4 = .pointer (some ⟨g4, 0, none⟩) ∧ Hid (RtM w wx cx cy x y g3 g4))
    case first =>
      refine wp_region_T (fun w' => w'.cell? ⟨w.heap.size, 3, none⟩ = some (.slice (some ⟨bk, 0, none⟩) 2 2) ∧ w'.rangeAt bk 0 cx.toList ∧ w'.rangeAt bk 4 cy.toList) [1, 2, 3, 5, 6, 7, 8, 9, 10] (by kernel_rfl) ?_
      replace M := Lib.hid (show Below w.heap.size w w1.drew ∧ RowAt w1.drew (w.heap.size + 1) .u8 32 43 (fun _ => 0) from ⟨M.out.1.drew, M.out.2⟩)
      replace HXY := Lib.hid (show RT w1.drew cx x ∧ RT w1.drew cy y from ⟨HXY.out.1.below (Below.refl _ _).drew, HXY.out.2.below (Below.refl _ _).drew⟩)
      replace HSX := Lib.hid (show w1.drew.cell? ⟨w.heap.size, 3, none⟩ = some (.slice (some ⟨bk, 0, none⟩) 2 2) ∧ w1.drew.rangeAt bk 0 cx.toList ∧ w1.drew.rangeAt bk 4 cy.toList from HSX.out)
      have HBK := Lib.hid (show w.heap.size < w1.drew.heap.size ∧ bk < w1.drew.heap.size from HBK0.out)
      generalize w1.drew = w5 at *
      have HKX : Hid (∀ u : World, Below w5.heap.size w5 u → u.cell? ⟨w.heap.size, 3, none⟩ = some (.slice (some ⟨bk, 0, none⟩) 2 2) ∧ u.rangeAt bk 0 cx.toList ∧ u.rangeAt bk 4 cy.toList) := Lib.hid fun u hb => ⟨(hb.cell (p := ⟨w.heap.size, 3, none⟩) HBK.out.1).trans HSX.out.1, range_below HSX.out.2.1 hb HBK.out.2, range_below HSX.out.2.2 hb HBK.out.2⟩
      refine anyT_takeY (i := 0) (v := .pointer (some ⟨w.heap.size, 3, none⟩)) rfl (by kernel_rfl) (by kernel_rfl) (by kernel_rfl) (fun _ _ _ h => h) (by kernel_rfl) (Or.inl ⟨by rfl, by intro w; go_simp⟩) ?_
      try simp only [List.getElem_toArray, List.getElem_cons_succ, List.getElem_cons_zero, Act.put, List.setIfInBounds_toArray, List.set_cons_zero, List.set_cons_succ]
      refine anyT_takeY (i := 4) (v := .pointer (some ⟨w.heap.size, 3, none⟩)) rfl (by kernel_rfl) (by kernel_rfl) (by kernel_rfl) (fun _ _ _ h => h) (by kernel_rfl) (Or.inl ⟨by rfl, by intro w; go_simp⟩) ?_
      try simp only [List.getElem_toArray, List.getElem_cons_succ, List.getElem_cons_zero, Act.put, List.setIfInBounds_toArray, List.set_cons_zero, List.set_cons_succ]
      refine anyT_take [2, 3, 10, 11] (i := 1) (v := .slice (some ⟨bk, 0, none⟩) 2 2) rfl (by kernel_rfl) (by kernel_rfl) (by kernel_rfl) (fun _ _ _ h => h) (by kernel_rfl) (Or.inl ⟨by rfl, fun w' hS => by have c := hS.1; go_simp⟩) HSX.out ?_
      try simp only [List.getElem_toArray, List.getElem_cons_succ, List.getElem_cons_zero, Act.put, List.setIfInBounds_toArray, List.set_cons_zero, List.set_cons_succ]
      refine anyT_take [3, 10, 11] (i := 2) (v := .pointer (some ⟨bk, 0, none⟩)) rfl (by kernel_rfl) (by kernel_rfl) (by kernel_rfl) (fun _ _ _ h => h) (by kernel_rfl) (Or.inl ⟨by rfl, fun w' _ => by go_simp⟩) HSX.out ?_
      try simp only [List.getElem_toArray, List.getElem_cons_succ, List.getElem_cons_zero, Act.put, List.setIfInBounds_toArray, List.set_cons_zero, List.set_cons_succ]
      refine anyT_take [10, 11] (i := 3) (v := .agg cx) rfl (by kernel_rfl) (by kernel_rfl) (by kernel_rfl) (fun _ _ _ h => h) (by kernel_rfl) (agg_mid (by rfl) 29 (.tmp 20) rfl bk 0 rfl _ _ (fun _ h => h.2.1) Tryd.underlying29 rfl (by rw [HZX.out]; kernel_rfl)) HSX.out ?_
      try simp only [List.getElem_toArray, List.getElem_cons_succ, List.getElem_cons_zero, Act.put, List.setIfInBounds_toArray, List.set_cons_zero, List.set_cons_succ]
      refine anyT_take [6, 7, 11] (i := 5) (v := .slice (some ⟨bk, 0, none⟩) 2 2) rfl (by kernel_rfl) (by kernel_rfl) (by kernel_rfl) (fun _ _ _ h => h) (by kernel_rfl) (Or.inl ⟨by rfl, fun w' hS => by have c := hS.1; go_simp⟩) HSX.out ?_
      try simp only [List.getElem_toArray, List.getElem_cons_succ, List.getElem_cons_zero, Act.put, List.setIfInBounds_toArray, List.set_cons_zero, List.set_cons_succ]
      refine anyT_take [7, 11] (i := 6) (v := .pointer (some ⟨bk, 4, none⟩)) rfl (by kernel_rfl) (by kernel_rfl) (by kernel_rfl) (fun _ _ _ h => h) (by kernel_rfl) (Or.inl ⟨by rfl, fun w' _ => by go_simp⟩) HSX.out ?_
      try simp only [List.getElem_toArray, List.getElem_cons_succ, List.getElem_cons_zero, Act.put, List.setIfInBounds_toArray, List.set_cons_zero, List.set_cons_succ]
      refine anyT_take [11] (i := 7) (v := .agg cy) rfl (by kernel_rfl) (by kernel_rfl) (by kernel_rfl) (fun _ _ _ h => h) (by kernel_rfl) (agg_mid (by rfl) 29 (.tmp 24) rfl bk 4 rfl _ _ (fun _ h => h.2.2) Tryd.underlying29 rfl (by rw [HZY.out]; kernel_rfl)) HSX.out ?_
      try simp only [List.getElem_toArray, List.getElem_cons_succ, List.getElem_cons_zero, Act.put, List.setIfInBounds_toArray, List.set_cons_zero, List.set_cons_succ]
      refine anyT_ready (rs := [8, 9]) (by kernel_rfl) (by simp) ?_
      refine readyT_cons rfl (fun K hK => ?_) (readyT_cons rfl (fun K hK => ?_) readyT_nil)
      · rw [if_pos (by rfl)]
        try simp only [List.getElem_toArray, List.getElem_cons_succ, List.getElem_cons_zero]
        (go_simp)
        refine hK _ _ (fun _ => HKX.out _ (below_alloc w5 _)) ?_
        clear hK K
        try simp only [List.getElem_toArray, List.getElem_cons_succ, List.getElem_cons_zero, Act.put, List.setIfInBounds_toArray, List.set_cons_zero, List.set_cons_succ]
        refine anyT_one (i := 9) (by kernel_rfl) rfl (fun K hK => ?_)
        rw [if_pos (by rfl)]
        try simp only [List.getElem_toArray, List.getElem_cons_succ, List.getElem_cons_zero]
        (go_simp)
        refine hK _ _ (fun _ => HKX.out _ (al2_at w5).2.2) ?_
        clear hK K
        try simp only [List.getElem_toArray, List.getElem_cons_succ, List.getElem_cons_zero, Act.put, List.setIfInBounds_toArray, List.set_cons_zero, List.set_cons_succ]
        have HSE := Lib.hid (al2_set w5 w5.heap.size (w5.heap.size + 1) cx cy (.inl ⟨rfl, rfl⟩))
        refine anyT_one (i := 10) (by kernel_rfl) rfl (fun K hK => ?_)
        rw [if_pos (by rfl)]
        try simp only [List.getElem_toArray, List.getElem_cons_succ, List.getElem_cons_zero]
        (refine wp_store_row 29 (.tmp 3) (.tmp 21) rfl w5.heap.size cx rfl rfl 29 _ (al2_at w5).1 (by rw [HZX.out]; kernel_rfl) (by rw [HZX.out]; rfl) HOX.out ?_)
        refine hK _ _ (fun _ => HKX.out _ (below_setRow (al2_at w5).2.2 (by omega) _)) ?_
        clear hK K
        try simp only [List.getElem_toArray, List.getElem_cons_succ, List.getElem_cons_zero, Act.put, List.setIfInBounds_toArray, List.set_cons_zero, List.set_cons_succ]
        refine anyT_one (i := 11) (by kernel_rfl) rfl (fun K hK => ?_)
        rw [if_pos (by rfl)]
        try simp only [List.getElem_toArray, List.getElem_cons_succ, List.getElem_cons_zero]
        (refine wp_store_row 29 (.tmp 4) (.tmp 25) rfl (w5.heap.size + 1) cy rfl rfl 29 _ HSE.out.1 (by rw [HZY.out]; kernel_rfl) (by rw [HZY.out]; rfl) HOY.out ?_)
        refine hK _ _ (not_mem rfl) ?_
        clear hK K
        try simp only [List.getElem_toArray, List.getElem_cons_succ, List.getElem_cons_zero, Act.put, List.setIfInBounds_toArray, List.set_cons_zero, List.set_cons_succ]
        refine anyT_done (by kernel_rfl) ?_ _
        go_wp2_with (fail)
        go_meet
        exact ⟨w5.heap.size, (w5.heap.size + 1), rfl, rfl, Lib.hid ⟨M.out.1.trans (HSE.out.2.2.2.mono M.out.1.size), M.out.2.below HSE.out.2.2.2 M.out.2.lt, HSE.out.2.1, HSE.out.2.2.1, HXY.out.1.below HSE.out.2.2.2, HXY.out.2.below HSE.out.2.2.2⟩⟩
      · rw [if_pos (by rfl)]
        try simp only [List.getElem_toArray, List.getElem_cons_succ, List.getElem_cons_zero]
        (go_simp)
        refine hK _ _ (fun _ => HKX.out _ (below_alloc w5 _)) ?_
        clear hK K
        try simp only [List.getElem_toArray, List.getElem_cons_succ, List.getElem_cons_zero, Act.put, List.setIfInBounds_toArray, List.set_cons_zero, List.set_cons_succ]
        refine anyT_one (i := 8) (by kernel_rfl) rfl (fun K hK => ?_)
        rw [if_pos (by rfl)]
        try simp only [List.getElem_toArray, List.getElem_cons_succ, List.getElem_cons_zero]
        (go_simp)
        refine hK _ _ (fun _ => HKX.out _ (al2_at w5).2.2) ?_
        clear hK K
        try simp only [List.getElem_toArray, List.getElem_cons_succ, List.getElem_cons_zero, Act.put, List.setIfInBounds_toArray, List.set_cons_zero, List.set_cons_succ]
        have HSE := Lib.hid (al2_set w5 (w5.heap.size + 1) w5.heap.size cx cy (.inr ⟨rfl, rfl⟩))
        refine anyT_one (i := 10) (by kernel_rfl) rfl (fun K hK => ?_)
        rw [if_pos (by rfl)]
        try simp only [List.getElem_toArray, List.getElem_cons_succ, List.getElem_cons_zero]
        (refine wp_store_row 29 (.tmp 3) (.tmp 21) rfl (w5.heap.size + 1) cx rfl rfl 29 _ (al2_at w5).2.1 (by rw [HZX.out]; kernel_rfl) (by rw [HZX.out]; rfl) HOX.out ?_)
        refine hK _ _ (fun _ => HKX.out _ (below_setRow (al2_at w5).2.2 (by omega) _)) ?_
        clear hK K
        try simp only [List.getElem_toArray, List.getElem_cons_succ, List.getElem_cons_zero, Act.put, List.setIfInBounds_toArray, List.set_cons_zero, List.set_cons_succ]
        refine anyT_one (i := 11) (by kernel_rfl) rfl (fun K hK => ?_)
        rw [if_pos (by rfl)]
        try simp only [List.getElem_toArray, List.getElem_cons_succ, List.getElem_cons_zero]
        (refine wp_store_row 29 (.tmp 4) (.tmp 25) rfl w5.heap.size cy rfl rfl 29 _ HSE.out.1 (by rw [HZY.out]; kernel_rfl) (by rw [HZY.out]; rfl) HOY.out ?_)
        refine hK _ _ (not_mem rfl) ?_
        clear hK K
        try simp only [List.getElem_toArray, List.getElem_cons_succ, List.getElem_cons_zero, Act.put, List.setIfInBounds_toArray, List.set_cons_zero, List.set_cons_succ]
        refine anyT_done (by kernel_rfl) ?_ _
        go_wp2_with (fail)
        go_meet
        exact ⟨(w5.heap.size + 1), w5.heap.size, rfl, rfl, Lib.hid ⟨M.out.1.trans (HSE.out.2.2.2.mono M.out.1.size), M.out.2.below HSE.out.2.2.2 M.out.2.lt, HSE.out.2.1, HSE.out.2.2.1, HXY.out.1.below HSE.out.2.2.2, HXY.out.2.below HSE.out.2.2.2⟩⟩
    case rest =>
      clear M HXY HSX HBK0 c0 c3
      obtain ⟨g3, g4, rfl, rfl, M⟩ := hcut
      go_upto_region 6 with (fail)
      refine wp_region_T (fun w' => w'.rangeAt g3 0 cx.toList ∧ w'.rangeAt g4 0 cy.toList) [0, 1, 2, 3, 4, 5, 6, 7, 8, 9] (by kernel_rfl) ?_
      replace M := Lib.hid (M.out.call (Below.refl _ _).drew)
      generalize wc.drew = w5 at *
      refine anyT_take [1, 2, 4, 6, 7, 9, 10, 11] (i := 0) (v := .agg cx) rfl (by kernel_rfl) (by kernel_rfl) (by kernel_rfl) (fun _ _ _ h => h) (by kernel_rfl) (agg_mid (by rfl) 29 (.tmp 3) rfl g3 0 rfl _ _ (fun _ h => h.1) Tryd.underlying29 rfl (by rw [HZX.out]; kernel_rfl)) ⟨range_of M.out.h3, range_of M.out.h4⟩ ?_
      try simp only [List.getElem_toArray, List.getElem_cons_succ, List.getElem_cons_zero, Act.put, List.setIfInBounds_toArray, List.set_cons_zero, List.set_cons_succ]
      refine anyT_take [4, 6, 7, 9, 10, 11] (i := 3) (v := .agg cx) rfl (by kernel_rfl) (by kernel_rfl) (by kernel_rfl) (fun _ _ _ h => h) (by kernel_rfl) (agg_mid (by rfl) 29 (.tmp 3) rfl g3 0 rfl _ _ (fun _ h => h.1) Tryd.underlying29 rfl (by rw [HZX.out]; kernel_rfl)) ⟨range_of M.out.h3, range_of M.out.h4⟩ ?_
      try simp only [List.getElem_toArray, List.getElem_cons_succ, List.getElem_cons_zero, Act.put, List.setIfInBounds_toArray, List.set_cons_zero, List.set_cons_succ]
      refine anyT_take [6, 7, 9, 10, 11] (i := 5) (v := .agg cy) rfl (by kernel_rfl) (by kernel_rfl) (by kernel_rfl) (fun _ _ _ h => h) (by kernel_rfl) (agg_mid (by rfl) 29 (.tmp 4) rfl g4 0 rfl _ _ (fun _ h => h.2) Tryd.underlying29 rfl (by rw [HZY.out]; kernel_rfl)) ⟨range_of M.out.h3, range_of M.out.h4⟩ ?_
      try simp only [List.getElem_toArray, List.getElem_cons_succ, List.getElem_cons_zero, Act.put, List.setIfInBounds_toArray, List.set_cons_zero, List.set_cons_succ]
      refine anyT_take [9, 10, 11] (i := 8) (v := .agg cy) rfl (by kernel_rfl) (by kernel_rfl) (by kernel_rfl) (fun _ _ _ h => h) (by kernel_rfl) (agg_mid (by rfl) 29 (.tmp 4) rfl g4 0 rfl _ _ (fun _ h => h.2) Tryd.underlying29 rfl (by rw [HZY.out]; kernel_rfl)) ⟨range_of M.out.h3, range_of M.out.h4⟩ ?_
      try simp only [List.getElem_toArray, List.getElem_cons_succ, List.getElem_cons_zero, Act.put, List.setIfInBounds_toArray, List.set_cons_zero, List.set_cons_succ]
      refine anyT_one (i := 1) (by kernel_rfl) rfl (fun K hK => ?_)
      rw [if_pos (by rfl)]
      try simp only [List.getElem_toArray, List.getElem_cons_succ, List.getElem_cons_zero]
      (go_simp; refine (HPA.out _ M.out.ta).mono ?_; rintro e w6 ⟨r6, rfl, ho, hb⟩; obtain ⟨a6, c6, rfl⟩ := (KVIn.of_own ho).len; replace M := Lib.hid (M.out.call hb); clear ho hb)
      refine hK _ _ (fun _ => ⟨range_of M.out.h3, range_of M.out.h4⟩) ?_
      clear hK K
      try simp only [List.getElem_toArray, List.getElem_cons_succ, List.getElem_cons_zero, Act.put, List.setIfInBounds_toArray, List.set_cons_zero, List.set_cons_succ]
      refine anyT_take [10, 11] (i := 2) (v := .int .i64 (LA.length : Int)) rfl (by kernel_rfl) (by kernel_rfl) (by kernel_rfl) (fun _ _ _ h => h) (by kernel_rfl) (Or.inl ⟨by rfl, fun w' _ => by go_simp⟩) ⟨range_of M.out.h3, range_of M.out.h4⟩ ?_
      try simp only [List.getElem_toArray, List.getElem_cons_succ, List.getElem_cons_zero, Act.put, List.setIfInBounds_toArray, List.set_cons_zero, List.set_cons_succ]
      refine anyT_one (i := 4) (by kernel_rfl) rfl (fun K hK => ?_)
      rw [if_pos (by rfl)]
      try simp only [List.getElem_toArray, List.getElem_cons_succ, List.getElem_cons_zero]
      (go_simp; refine (HIA.out _ (HE.out.below M.out.below HE.out.lt) M.out.ta).mono ?_; rintro e w7 ⟨rfl, hb⟩; replace M := Lib.hid (M.out.call hb); clear hb)
      refine hK _ _ (fun _ => ⟨range_of M.out.h3, range_of M.out.h4⟩) ?_
      clear hK K
      try simp only [List.getElem_toArray, List.getElem_cons_succ, List.getElem_cons_zero, Act.put, List.setIfInBounds_toArray, List.set_cons_zero, List.set_cons_succ]
      refine anyT_one (i := 6) (by kernel_rfl) rfl (fun K hK => ?_)
      rw [if_pos (by rfl)]
      try simp only [List.getElem_toArray, List.getElem_cons_succ, List.getElem_cons_zero]
      (go_simp; refine (HPB.out _ M.out.tb).mono ?_; rintro e w8 ⟨r8, rfl, ho, hb⟩; obtain ⟨a8, c8, rfl⟩ := (KVIn.of_own ho).len; replace M := Lib.hid (M.out.call hb); clear ho hb)
      refine hK _ _ (fun _ => ⟨range_of M.out.h3, range_of M.out.h4⟩) ?_
      clear hK K
      try simp only [List.getElem_toArray, List.getElem_cons_succ, List.getElem_cons_zero, Act.put, List.setIfInBounds_toArray, List.set_cons_zero, List.set_cons_succ]
      refine anyT_take [10, 11] (i := 7) (v := .int .i64 (LB.length : Int)) rfl (by kernel_rfl) (by kernel_rfl) (by kernel_rfl) (fun _ _ _ h => h) (by kernel_rfl) (Or.inl ⟨by rfl, fun w' _ => by go_simp⟩) ⟨range_of M.out.h3, range_of M.out.h4⟩ ?_
      try simp only [List.getElem_toArray, List.getElem_cons_succ, List.getElem_cons_zero, Act.put, List.setIfInBounds_toArray, List.set_cons_zero, List.set_cons_succ]
      refine anyT_one (i := 9) (by kernel_rfl) rfl (fun K hK => ?_)
      rw [if_pos (by rfl)]
      try simp only [List.getElem_toArray, List.getElem_cons_succ, List.getElem_cons_zero]
      (go_simp; refine (HIB.out _ (HE.out.below M.out.below HE.out.lt) M.out.tb).mono ?_; rintro e w9 ⟨rfl, hb⟩; replace M := Lib.hid (M.out.call hb); clear hb)
      refine hK _ _ (fun _ => ⟨range_of M.out.h3, range_of M.out.h4⟩) ?_
      clear hK K
      try simp only [List.getElem_toArray, List.getElem_cons_succ, List.getElem_cons_zero, Act.put, List.setIfInBounds_toArray, List.set_cons_zero, List.set_cons_succ]
      refine anyT_one (i := 10) (by kernel_rfl) rfl (fun K hK => ?_)
      rw [if_pos (by rfl)]
      try simp only [List.getElem_toArray, List.getElem_cons_succ, List.getElem_cons_zero]
      (go_simp; refine (rNode_any (LA.length : Int) (LB.length : Int) x.root y.root _ (HE.out.below M.out.below HE.out.lt)).mono ?_; rintro e w10 ⟨rfl, hb⟩; replace M := Lib.hid (M.out.call hb); clear hb)
      refine hK _ _ (not_mem rfl) ?_
      clear hK K
      try simp only [List.getElem_toArray, List.getElem_cons_succ, List.getElem_cons_zero, Act.put, List.setIfInBounds_toArray, List.set_cons_zero, List.set_cons_succ]
      refine anyT_one (i := 11) (by kernel_rfl) rfl (fun K hK => ?_)
      rw [if_pos (by rfl)]
      try simp only [List.getElem_toArray, List.getElem_cons_succ, List.getElem_cons_zero]
      (refine wp_store_row 43 (.tmp 2) (.tmp 36) rfl (w.heap.size + 1) _ rfl rfl 43 _ M.out.res (by rw [rowOf_size]; kernel_rfl) (by rw [rowOf_size, rowOf_size]) (rowOf_one _ _ _) ?_)
      refine hK _ _ (not_mem rfl) ?_
      clear hK K
      try simp only [List.getElem_toArray, List.getElem_cons_succ, List.getElem_cons_zero, Act.put, List.setIfInBounds_toArray, List.set_cons_zero, List.set_cons_succ]
      refine anyT_done (by kernel_rfl) ?_ _
      go_wp2_with (fail)
      refine bodyPost_ret (results_cell_row rfl _ _ (w.heap.size + 1) 43 _ (0, 0) _ rfl (setRow_heap _ _ _ _ _ _ M.out.res) Tryd.underlying43 rfl (by rw [rowOf_size]; kernel_rfl)) rfl ?_
      exact ⟨by rw [HFI.out], below_setRow M.out.below (by omega) _⟩
theorem rRoot_any (t : Option AvT) (cs : Array Value) (w : World) (he : Env w) (h : RO w cs t) (hm : manyO t ≤ 1048576) (hz : ∀ p ∈ pairsO t, p.1.size + p.2.size ≤ 1048576) : Calls Tryd.prog 18 #[.agg cs] w fun e w' => e = .returned (.agg (rowOf .u8 32 (rootO t))) ∧ Below w.heap.size w w' := by
  cases t with
  | none => cases h; exact rRoot_none w
  | some t => exact rRoot_some t cs w he h hm hz
end Go.Proofs.YtfmfemmknccfmaaDoor

/- Part 30 of the proof. -/
import Derived.Lib.AppendStr
import Derived.Test.YtjnpcmfpiejmjaaGreatDoorVo5
import Derived.Test.YtjnpcmfpiejmjaaGreatDoorVo10
import Derived.Test.YtjnpcmfpiejmjaaGreatDoorVo15
import Derived.Test.YtjnpcmfpiejmjaaGreatDoorVo18
import Derived.Test.YtjnpcmfpiejmjaaGreatDoorVo29
namespace Go.Proofs.YtjnpcmfpiejmjaaGreatDoor
set_option linter.unusedVariables false
set_option linter.unusedSimpArgs false
open Go.RowKit
set_option maxRecDepth 100000
set_option linter.unusedSimpArgs false
set_option linter.unusedVariables false
theorem t11cells_nums (s : ByteArray) : Lib.strCells s = byteVals (numsOf s) := by
  unfold Lib.strCells byteVals numsOf
  rw [List.map_map]
  rfl
theorem t11run_append (w : World) (base : Nat) (v : Value) (n : Nat) (vs : List Value) (hown : w.ownsRow base 5 1 v n vs) (s : ByteArray) (hl : n + s.size ≤ 140737488355328) (hb : base ≤ w.heap.size) :
    ∃ v' w', (Builtin.append_ #[23, 9] 23 #[v, .string s]).run Tryz.prog w = .ok v' w' ∧ w'.ownsRow base 5 1 v' (n + s.size) (vs ++ byteVals (numsOf s)) ∧ w.grownBy w' v.ownBlock := by
  obtain ⟨i0, hi, hz0, hz1, hz2⟩ := info_parts infoU8
  obtain ⟨v', w', h1, h2, h3, _⟩ := Lib.run_append_own_string (P := Tryz.prog) w base 23 9 23 5 i0 Tryz.underlying23 Tryz.underlying9 hi hz0 hz1 hz2 v n vs hown s (by unfold maxLen; omega) hl hb
  rw [t11cells_nums] at h2
  exact ⟨v', w', h1, h2, h3⟩
theorem wpList_append_s11 {w : World} {ops : Array Oper} {rest : List Oper} {o : Oper} {a : Act} {Q : Exit → Act → World → Prop} (hgd : o.guard = none) (s x : Operand)
    (ho : o.op = .call { callee := .builtin .append, args := #[s, x], argTypes := #[23, 9] }) (hty : o.type = 23)
    (base : Nat) (v : Value) (n : Nat) (vs : List Value) (hs : a.eval s = v) (hown : w.ownsRow base 5 1 v n vs) (y : ByteArray) (hx : a.eval x = .string y) (hl : n + y.size ≤ 140737488355328) (hb : base ≤ w.heap.size)
    (h : ∀ v' w', w'.ownsRow base 5 1 v' (n + y.size) (vs ++ byteVals (numsOf y)) → w.grownBy w' v.ownBlock → wpList Tryz.prog ops Q rest (a.put o.dst v') w') : wpList Tryz.prog ops Q (o :: rest) a w := by
  refine wpList_plain hgd fun K hK => ?_
  obtain ⟨v', w', hr, h1, h2⟩ := t11run_append w base v n vs hown y hl hb
  unfold Oper.wp execOp
  simp only [ho, hty, resolve, invoke, builtin, Sem.run_bind, Sem.run_pure, Result.andThen_ok, List.map_toArray, List.map_cons, List.map_nil, hs, hx, hr]
  exact hK _ _ (h v' w' h1 h2)
theorem dUint_m11 (b : Value) (bs : List Int) (m : Int) (n : Nat) (hm : m = (n : Int)) (w : World) (hb : BytesIn w b bs) (hn : n < 18446744073709551616) (hl : bs.length + 10 ≤ 140737488355328) :
    Calls Tryz.prog 70 #[b, .int .u64 m] w (RefPost bs (varint n) w) := by
  subst hm
  exact dUint_any b bs n w hb hn hl
def BsPost11 (xs : List Int) (w : World) (e : Ending) (w' : World) : Prop := ∃ v', e = .returned v' ∧ BytesIn w' v' xs ∧ Below w.heap.size w w'
theorem dText11_any (b : Value) (bs : List Int) (s : ByteArray) (w : World) (hb : BytesIn w b bs) (hl : bs.length + s.size + 10 ≤ 140737488355328) :
    Calls Tryz.prog 83 #[b, .string s] w (BsPost11 (bs ++ (varint s.size ++ numsOf s)) w) := by
  have hu : IntKind.u64.wrap (s.size : Int) = (s.size : Int) := IntWalk.u64_in _ (by omega)
  have HU := Lib.hid (dUint_m11 b bs (IntKind.u64.wrap (s.size : Int)) s.size hu w hb (by omega) (by omega))
  have HU2 := Lib.hid (dUint_m11 b bs (s.size : Int) s.size rfl w hb (by omega) (by omega))
  have HG := Lib.hid (glenT (n := s.size) (by omega))
  have HL := Lib.hid hl
  clear hb hl
  unfold RefPost at HU HU2
  unfold BsPost11
  go_enter Tryz.func83, Tryz.ntmps83
  go_wp2_with (first
    | (go_at_call 70; (with_reducible refine HU.out.mono ?_); rintro e w3 ⟨v3, rfl, ho, hb⟩; have HO := Lib.hid ho; have HB := Lib.hid hb; clear ho hb)
    | (go_at_call 70; (with_reducible refine HU2.out.mono ?_); rintro e w3 ⟨v3, rfl, ho, hb⟩; have HO := Lib.hid ho; have HB := Lib.hid hb; clear ho hb)
    | (at_builtin; refine wpList_append_s11 rfl (.tmp 9) (.tmp 10) rfl rfl w.heap.size v3 _ _ rfl HO.out s rfl (by have := HL.out; have := HG.out; rw [List.length_append]; omega) HB.out.size ?_; intro v4 w4 ho hg; have HO4 := Lib.hid ho; have HB4 := Lib.hid (HB.out.grown hg HB.out.size (fun k hk => (HO.out.lt k hk).1)); clear ho hg))
  go_ret
  refine ⟨v4, rfl, ?_, HB4.out⟩
  have h := HO4.out
  rw [← byteVals_append] at h
  have h1 := HL.out
  have h2 := HG.out
  have e1 : (bs ++ varint s.size).length + s.size = (bs ++ (varint s.size ++ numsOf s)).length := by simp only [List.length_append, numsOf_length]; omega
  rw [e1, List.append_assoc] at h
  exact owns_in h (by simp only [List.length_append, numsOf_length]; unfold maxLen; omega)
end Go.Proofs.YtjnpcmfpiejmjaaGreatDoor
namespace Go.Proofs.YtjnpcmfpiejmjaaGreatDoor
set_option linter.unusedVariables false
set_option linter.unusedSimpArgs false
open Go.RowKit
set_option maxRecDepth 100000
set_option linter.unusedSimpArgs false
set_option linter.unusedVariables false
theorem bytes_nil11 (w : World) : BytesIn w (.slice none 0 0) [] := ⟨none, 0, rfl, by simp, by simp [maxLen], .inl rfl⟩
theorem ref_next {bs ys : List Int} {w w' : World} {e : Ending} (h : RefPost bs ys w e w') (hl : (bs ++ ys).length ≤ maxLen) : ∃ v', e = .returned v' ∧ BytesIn w' v' (bs ++ ys) ∧ Below w.heap.size w w' := by
  obtain ⟨v', h1, h2, h3⟩ := h
  exact ⟨v', h1, owns_in h2 hl, h3⟩
set_option maxHeartbeats 8000000 in
theorem rvbytes_any (chain : ByteArray) (v : Vo) (w : World) (hc : chain.size ≤ 140737488351232) (hv : VoOk v) :
    Calls Tryz.prog 26 #[.string chain, .agg (voC v)] w fun e w' => ∃ vb, e = .returned vb ∧ BytesIn w' vb (vbL chain v) ∧ Below w.heap.size w w' := by
  have HB := Lib.hid (below_alloc w (.cells (voC v) 46))
  have HQ := Lib.hid (show VbS w.heap.size v (w.alloc (.cells (voC v) 46)) from heap_alloc_new w (.cells (voC v) 46))
  have HC := Lib.hid hc
  have HV := Lib.hid hv
  have HL0 := Lib.hid (show (varint sVote.size ++ numsOf sVote).length = 5 from by kernel_rfl)
  have HL1 := Lib.hid (show (varint chain.size ++ numsOf chain).length ≤ 140737488351242 from by rw [List.length_append, numsOf_length]; have := glenT (n := chain.size) (by omega); omega)
  have HL2 := Lib.hid (glenT (zig_lt hv.k.1 hv.k.2))
  have HL3 := Lib.hid (glenT (zig_lt hv.h.1 hv.h.2))
  have HL4 := Lib.hid (glenT (zig_lt hv.r.1 hv.r.2))
  have HL5 := Lib.hid (show (rowL 32 v.blk).length = 32 by simp [rowL])
  have HVB := Lib.hid (show vbL chain v = ((((([] ++ (varint sVote.size ++ numsOf sVote)) ++ (varint chain.size ++ numsOf chain)) ++ varint (zig v.kind)) ++ varint (zig v.height)) ++ varint (zig v.round)) ++ rowL 32 v.blk from rfl)
  clear hc hv
  go_enter Tryz.func26, Tryz.ntmps26
  go_upto_region 1 with (fail)
  obtain ⟨q, hq⟩ : ∃ q, q = w.heap.size := ⟨_, rfl⟩
  rw [← hq] at HQ ⊢
  clear hq
  generalize w.alloc (.cells (voC v) 46) = w1 at *
  go_upto_region 2 with (first
    | (go_at_call 83; (with_reducible refine (dText11_any (.slice none 0 0) [] sVote w1 (bytes_nil11 w1) (by rw [show sVote.size = 4 from rfl]; simp)).mono ?_); rintro e w2 ⟨v2, rfl, hx, hb⟩; have HX := Lib.hid hx; replace HQ := Lib.hid (HQ.out.below hb); replace HB := Lib.hid (HB.out.trans (hb.mono HB.out.size)); clear hx hb)
    | (go_at_call 83; (with_reducible refine (dText11_any v2 _ chain w2 HX.out (by rw [List.nil_append, HL0.out]; have := HC.out; omega)).mono ?_); rintro e w3 ⟨v3, rfl, hx, hb⟩; replace HX := Lib.hid hx; replace HQ := Lib.hid (HQ.out.below hb); replace HB := Lib.hid (HB.out.trans (hb.mono HB.out.size)); clear hx hb))
  refine wp_region_T (VbS q v) [0, 1, 2, 3, 4, 5, 6, 7, 8, 9, 10, 11, 12, 13] (by kernel_rfl) ?_
  replace HQ := Lib.hid (HQ.out.below (Below.refl _ _).drew)
  replace HX := Lib.hid (HX.out.below (Below.refl _ _).drew)
  replace HB := Lib.hid (HB.out.drew)
  generalize w3.drew = w4 at *
  obtain ⟨KI, hKI⟩ : ∃ x, x = v.kind := ⟨_, rfl⟩
  obtain ⟨H, hH⟩ : ∃ x, x = v.height := ⟨_, rfl⟩
  obtain ⟨R, hR⟩ : ∃ x, x = v.round := ⟨_, rfl⟩
  have HKH := Lib.hid (show KI = v.kind ∧ H = v.height ∧ R = v.round from ⟨hKI, hH, hR⟩)
  clear hKI hH hR
  refine anyT_take [] (i := 0) (v := v3) rfl (by kernel_rfl) (by kernel_rfl) (by kernel_rfl) (fun _ _ _ h => h) (by kernel_rfl) (Or.inl ⟨by rfl, fun w' _ => by go_simp⟩) HQ.out ?_
  try simp only [List.getElem_toArray, List.getElem_cons_succ, List.getElem_cons_zero, Act.put, List.setIfInBounds_toArray, List.set_cons_zero, List.set_cons_succ]
  refine anyT_take [] (i := 1) (v := .pointer (some ⟨q, 0, none⟩)) rfl (by kernel_rfl) (by kernel_rfl) (by kernel_rfl) (fun _ _ _ h => h) (by kernel_rfl) (Or.inl ⟨by rfl, fun w' _ => by go_simp⟩) HQ.out ?_
  try simp only [List.getElem_toArray, List.getElem_cons_succ, List.getElem_cons_zero, Act.put, List.setIfInBounds_toArray, List.set_cons_zero, List.set_cons_succ]
  refine anyT_take [] (i := 4) (v := .pointer (some ⟨q, 1, none⟩)) rfl (by kernel_rfl) (by kernel_rfl) (by kernel_rfl) (fun _ _ _ h => h) (by kernel_rfl) (Or.inl ⟨by rfl, fun w' _ => by go_simp⟩) HQ.out ?_
  try simp only [List.getElem_toArray, List.getElem_cons_succ, List.getElem_cons_zero, Act.put, List.setIfInBounds_toArray, List.set_cons_zero, List.set_cons_succ]
  refine anyT_take [] (i := 7) (v := .pointer (some ⟨q, 2, none⟩)) rfl (by kernel_rfl) (by kernel_rfl) (by kernel_rfl) (fun _ _ _ h => h) (by kernel_rfl) (Or.inl ⟨by rfl, fun w' _ => by go_simp⟩) HQ.out ?_
  try simp only [List.getElem_toArray, List.getElem_cons_succ, List.getElem_cons_zero, Act.put, List.setIfInBounds_toArray, List.set_cons_zero, List.set_cons_succ]
  refine anyT_take [] (i := 10) (v := .pointer (some ⟨q, 3, none⟩)) rfl (by kernel_rfl) (by kernel_rfl) (by kernel_rfl) (fun _ _ _ h => h) (by kernel_rfl) (Or.inl ⟨by rfl, fun w' _ => by go_simp⟩) HQ.out ?_
  try simp only [List.getElem_toArray, List.getElem_cons_succ, List.getElem_cons_zero, Act.put, List.setIfInBounds_toArray, List.set_cons_zero, List.set_cons_succ]
  refine anyT_take [] (i := 2) (v := .int .i64 KI) rfl (by kernel_rfl) (by kernel_rfl) (by kernel_rfl) (fun _ _ _ h => h) (by kernel_rfl) (Or.inl ⟨by rfl, fun w' hS => by have c := (vo_cells hS).1; rw [← HKH.out.1] at c; go_simp⟩) HQ.out ?_
  try simp only [List.getElem_toArray, List.getElem_cons_succ, List.getElem_cons_zero, Act.put, List.setIfInBounds_toArray, List.set_cons_zero, List.set_cons_succ]
  refine anyT_take [] (i := 5) (v := .int .i64 H) rfl (by kernel_rfl) (by kernel_rfl) (by kernel_rfl) (fun _ _ _ h => h) (by kernel_rfl) (Or.inl ⟨by rfl, fun w' hS => by have c := (vo_cells hS).2.1; rw [← HKH.out.2.1] at c; go_simp⟩) HQ.out ?_
  try simp only [List.getElem_toArray, List.getElem_cons_succ, List.getElem_cons_zero, Act.put, List.setIfInBounds_toArray, List.set_cons_zero, List.set_cons_succ]
  refine anyT_take [] (i := 8) (v := .int .i64 R) rfl (by kernel_rfl) (by kernel_rfl) (by kernel_rfl) (fun _ _ _ h => h) (by kernel_rfl) (Or.inl ⟨by rfl, fun w' hS => by have c := (vo_cells hS).2.2.1; rw [← HKH.out.2.2] at c; go_simp⟩) HQ.out ?_
  try simp only [List.getElem_toArray, List.getElem_cons_succ, List.getElem_cons_zero, Act.put, List.setIfInBounds_toArray, List.set_cons_zero, List.set_cons_succ]
  refine anyT_take [] (i := 11) (v := .agg (rowOf .u8 32 v.blk)) rfl (by kernel_rfl) (by kernel_rfl) (by kernel_rfl) (fun _ _ _ h => h) (by kernel_rfl) (rowT_yields (by rfl) 32 (.tmp 19) rfl q 3 rfl _ _ (fun _ h => (vo_cells h).2.2.2.1) Tryz.underlying32 rfl (by rw [rowOf_size]; kernel_rfl)) HQ.out ?_
  try simp only [List.getElem_toArray, List.getElem_cons_succ, List.getElem_cons_zero, Act.put, List.setIfInBounds_toArray, List.set_cons_zero, List.set_cons_succ]
  refine anyT_one (i := 3) (by kernel_rfl) rfl (fun K hK => ?_)
  rw [if_pos (by rfl)]
  try simp only [List.getElem_toArray, List.getElem_cons_succ, List.getElem_cons_zero]
  (go_simp; (with_reducible refine (dInt_any v3 _ KI w4 HX.out (by rw [HKH.out.1]; exact HV.out.k.1) (by rw [HKH.out.1]; exact HV.out.k.2) (by rw [List.length_append, List.nil_append, HL0.out]; have := HL1.out; omega)).mono ?_); rintro e w5 hp; obtain ⟨v5, rfl, hx, hb⟩ := ref_next hp (by rw [List.length_append, List.length_append, List.nil_append, HL0.out, HKH.out.1]; have := HL1.out; have := HL2.out; unfold maxLen; omega); replace HX := Lib.hid hx; replace HQ := Lib.hid (HQ.out.below hb); replace HB := Lib.hid (HB.out.trans (hb.mono HB.out.size)); clear hp hx hb)
  refine hK _ _ (fun _ => HQ.out) ?_
  clear hK K
  try simp only [List.getElem_toArray, List.getElem_cons_succ, List.getElem_cons_zero, Act.put, List.setIfInBounds_toArray, List.set_cons_zero, List.set_cons_succ]
  refine anyT_one (i := 6) (by kernel_rfl) rfl (fun K hK => ?_)
  rw [if_pos (by rfl)]
  try simp only [List.getElem_toArray, List.getElem_cons_succ, List.getElem_cons_zero]
  (go_simp; (with_reducible refine (dInt_any v5 _ H w5 HX.out (by rw [HKH.out.2.1]; exact HV.out.h.1) (by rw [HKH.out.2.1]; exact HV.out.h.2) (by rw [List.length_append, List.length_append, List.nil_append, HL0.out, HKH.out.1]; have := HL1.out; have := HL2.out; omega)).mono ?_); rintro e w6 hp; obtain ⟨v6, rfl, hx, hb⟩ := ref_next hp (by rw [List.length_append, List.length_append, List.length_append, List.nil_append, HL0.out, HKH.out.1, HKH.out.2.1]; have := HL1.out; have := HL2.out; have := HL3.out; unfold maxLen; omega); replace HX := Lib.hid hx; replace HQ := Lib.hid (HQ.out.below hb); replace HB := Lib.hid (HB.out.trans (hb.mono HB.out.size)); clear hp hx hb)
  refine hK _ _ (fun _ => HQ.out) ?_
  clear hK K
  try simp only [List.getElem_toArray, List.getElem_cons_succ, List.getElem_cons_zero, Act.put, List.setIfInBounds_toArray, List.set_cons_zero, List.set_cons_succ]
  refine anyT_one (i := 9) (by kernel_rfl) rfl (fun K hK => ?_)
  rw [if_pos (by rfl)]
  try simp only [List.getElem_toArray, List.getElem_cons_succ, List.getElem_cons_zero]
  (go_simp; (with_reducible refine (dInt_any v6 _ R w6 HX.out (by rw [HKH.out.2.2]; exact HV.out.r.1) (by rw [HKH.out.2.2]; exact HV.out.r.2) (by rw [List.length_append, List.length_append, List.length_append, List.nil_append, HL0.out, HKH.out.1, HKH.out.2.1]; have := HL1.out; have := HL2.out; have := HL3.out; omega)).mono ?_); rintro e w7 hp; obtain ⟨v7, rfl, hx, hb⟩ := ref_next hp (by rw [List.length_append, List.length_append, List.length_append, List.length_append, List.nil_append, HL0.out, HKH.out.1, HKH.out.2.1, HKH.out.2.2]; have := HL1.out; have := HL2.out; have := HL3.out; have := HL4.out; unfold maxLen; omega); replace HX := Lib.hid hx; replace HQ := Lib.hid (HQ.out.below hb); replace HB := Lib.hid (HB.out.trans (hb.mono HB.out.size)); clear hp hx hb)
  refine hK _ _ (fun _ => HQ.out) ?_
  clear hK K
  try simp only [List.getElem_toArray, List.getElem_cons_succ, List.getElem_cons_zero, Act.put, List.setIfInBounds_toArray, List.set_cons_zero, List.set_cons_succ]
  refine anyT_one (i := 12) (by kernel_rfl) rfl (fun K hK => ?_)
  rw [if_pos (by rfl)]
  try simp only [List.getElem_toArray, List.getElem_cons_succ, List.getElem_cons_zero]
  (go_simp; (with_reducible refine (dHash_any v7 _ v.blk w7 HX.out (by rw [List.length_append, List.length_append, List.length_append, List.length_append, List.nil_append, HL0.out, HKH.out.1, HKH.out.2.1, HKH.out.2.2]; have := HL1.out; have := HL2.out; have := HL3.out; have := HL4.out; omega)).mono ?_); rintro e w8 hp; obtain ⟨v8, rfl, hx, hb⟩ := ref_next hp (by rw [List.length_append, List.length_append, List.length_append, List.length_append, List.length_append, List.nil_append, HL0.out, HL5.out, HKH.out.1, HKH.out.2.1, HKH.out.2.2]; have := HL1.out; have := HL2.out; have := HL3.out; have := HL4.out; unfold maxLen; omega); replace HX := Lib.hid hx; replace HQ := Lib.hid (HQ.out.below hb); replace HB := Lib.hid (HB.out.trans (hb.mono HB.out.size)); clear hp hx hb)
  refine hK _ _ (fun _ => HQ.out) ?_
  clear hK K
  try simp only [List.getElem_toArray, List.getElem_cons_succ, List.getElem_cons_zero, Act.put, List.setIfInBounds_toArray, List.set_cons_zero, List.set_cons_succ]
  refine anyT_take [] (i := 13) (v := v8) rfl (by kernel_rfl) (by kernel_rfl) (by kernel_rfl) (fun _ _ _ h => h) (by kernel_rfl) (Or.inl ⟨by rfl, fun w' _ => by go_simp⟩) HQ.out ?_
  try simp only [List.getElem_toArray, List.getElem_cons_succ, List.getElem_cons_zero, Act.put, List.setIfInBounds_toArray, List.set_cons_zero, List.set_cons_succ]
  refine anyT_done (by kernel_rfl) ?_ _
  go_wp2_with (fail)
  go_ret
  refine ⟨v8, rfl, ?_, HB.out⟩
  rw [HVB.out, ← HKH.out.1, ← HKH.out.2.1, ← HKH.out.2.2]
  exact HX.out
end Go.Proofs.YtjnpcmfpiejmjaaGreatDoor
namespace Go.Proofs.YtjnpcmfpiejmjaaGreatDoor
set_option linter.unusedVariables false
set_option linter.unusedSimpArgs false
open Go.RowKit
set_option maxRecDepth 100000
def dgt (xs : List Int) (i : Nat) : Nat := (xs.getD i 0).toNat % 128
/-- what the first i groups add up to -/
def accN (xs : List Int) : Nat → Nat
  | 0 => 0
  | i + 1 => accN xs i + dgt xs i * 128 ^ i
/-- what m groups from place j on add up to, the first the least -/
def hor (xs : List Int) : Nat → Nat → Nat
  | 0, _ => 0
  | m + 1, j => dgt xs j + 128 * hor xs m (j + 1)
theorem dgt_lt (xs : List Int) (i : Nat) : dgt xs i < 128 := Nat.mod_lt _ (by decide)
theorem accN_hor (xs : List Int) : ∀ m j, accN xs (j + m) = accN xs j + 128 ^ j * hor xs m j
  | 0, j => by simp [hor]
  | m + 1, j => by
    rw [show j + (m + 1) = (j + 1) + m by omega, accN_hor xs m (j + 1)]
    simp only [accN, hor, Nat.pow_succ, Nat.mul_add]
    rw [Nat.mul_comm (dgt xs j), Nat.mul_assoc, Nat.add_assoc]
theorem accN_lt (xs : List Int) : ∀ i, accN xs i < 128 ^ i
  | 0 => by simp [accN]
  | i + 1 => by
    have h1 := accN_lt xs i
    have h2 : dgt xs i * 128 ^ i ≤ 127 * 128 ^ i := Nat.mul_le_mul_right _ (by have := dgt_lt xs i; omega)
    simp only [accN, Nat.pow_succ]
    omega
theorem accF_accN (xs : List Int) : ∀ i, i ≤ 9 → accF xs i = accN xs i
  | 0, _ => rfl
  | i + 1, h => by
    have hp : (128 : Nat) ^ i ≤ 128 ^ 8 := Nat.pow_le_pow_right (by decide) (by omega)
    have h8 : (128 : Nat) ^ 8 = 72057594037927936 := by decide
    have h2 : dgt xs i * 128 ^ i ≤ 127 * 128 ^ i := Nat.mul_le_mul_right _ (by have := dgt_lt xs i; omega)
    show accF xs i + (dgt xs i * 128 ^ i) % 18446744073709551616 = accN xs i + dgt xs i * 128 ^ i
    rw [accF_accN xs i (by omega), Nat.mod_eq_of_lt (by omega)]
/-- a number of at most ten groups, the tenth of which is 0 or 1 -/
theorem acc_ok (xs : List Int) (i : Nat) (hi : i ≤ 9) (h : i = 9 → dgt xs i ≤ 1) : accF xs (i + 1) = accN xs (i + 1) ∧ accN xs (i + 1) < 18446744073709551616 := by
  have hl := accN_lt xs (i + 1)
  rcases Nat.lt_or_ge i 9 with h9 | h9
  · have hp : (128 : Nat) ^ (i + 1) ≤ 128 ^ 9 := Nat.pow_le_pow_right (by decide) (by omega)
    have e9 : (128 : Nat) ^ 9 = 9223372036854775808 := by decide
    exact ⟨accF_accN xs (i + 1) (by omega), by omega⟩
  · obtain rfl : i = 9 := by omega
    have h1 := h rfl
    have hn := accN_lt xs 9
    have e9 : (128 : Nat) ^ 9 = 9223372036854775808 := by decide
    have hd : dgt xs 9 * 128 ^ 9 ≤ 1 * 128 ^ 9 := Nat.mul_le_mul_right _ h1
    have e : accN xs (9 + 1) = accN xs 9 + dgt xs 9 * 128 ^ 9 := rfl
    refine ⟨?_, by omega⟩
    show accF xs 9 + (dgt xs 9 * 128 ^ 9) % 18446744073709551616 = accN xs (9 + 1)
    rw [accF_accN xs 9 (by omega), Nat.mod_eq_of_lt (by omega), e]
theorem hor_le (xs : List Int) (m j : Nat) : hor xs m j ≤ accN xs (j + m) := by
  rw [accN_hor]
  have : 1 ≤ (128 : Nat) ^ j := Nat.one_le_pow _ _ (by decide)
  have := Nat.mul_le_mul_right (hor xs m j) this
  omega
theorem hor_all (xs : List Int) (m : Nat) : hor xs m 0 = accN xs m := by
  have := accN_hor xs m 0
  simp [accN] at this
  exact this.symm
/-- an error's number once more: the first one stays -/
def firstE : Option Nat → Nat → Option Nat
  | none, x => some x
  | some y, _ => some y
end Go.Proofs.YtjnpcmfpiejmjaaGreatDoor
namespace Go.Proofs.YtjnpcmfpiejmjaaGreatDoor
set_option linter.unusedVariables false
set_option linter.unusedSimpArgs false
open Go.RowKit
set_option maxRecDepth 100000
def rdC (v : Value) (e : Int) : Array Value := #[v, .int .i64 e]
theorem rd_cells {w : World} {q : Nat} {v : Value} {e : Int} (h : w.heap[q]? = some (.cells (rdC v e) 99 (0, 0))) : w.cell? ⟨q, 0, none⟩ = some v ∧ w.cell? ⟨q, 1, none⟩ = some (.int .i64 e) ∧ ∀ i, w.frozen? ⟨q, i, none⟩ = false :=
  ⟨by rw [cell_of_row _ _ _ _ _ _ h]; rfl, by rw [cell_of_row _ _ _ _ _ _ h]; rfl, fun i => frozen_of_row _ _ _ _ _ h⟩
theorem rd_one (a : Option Addr) (n c : Nat) (e : Int) : (rdC (.slice a n c) e).all (·.oneCell') = true := by simp [rdC, Value.oneCell']
/-- two Readers: the argument's and the result's -/
structure R2M (w w' : World) (v : Value) (e : Int) : Prop where
  below : Below w.heap.size w w'
  arg : w'.heap[w.heap.size]? = some (.cells (rdC v e) 99 (0, 0))
  res : w'.heap[w.heap.size + 1]? = some (.cells (rdC (.slice none 0 0) 0) 99 (0, 0))
theorem r2M_start (w : World) (v : Value) (e : Int) : R2M w ((w.alloc (.cells (rdC v e) 99)).alloc (.cells (rdC (.slice none 0 0) 0) 99)) v e := by
  have h1 := heap_alloc_new w (.cells (rdC v e) 99)
  have hb := below_alloc (w.alloc (.cells (rdC v e) 99)) (.cells (rdC (.slice none 0 0) 0) 99)
  refine ⟨(below_alloc w _).trans (hb.mono (by simp)), (hb.block _ (by simp)).trans h1, ?_⟩
  have h2 := heap_alloc_new (w.alloc (.cells (rdC v e) 99)) (.cells (rdC (.slice none 0 0) 0) 99)
  rw [show (w.alloc (.cells (rdC v e) 99)).heap.size = w.heap.size + 1 by simp] at h2
  exact h2
theorem R2M.call {w w' w2 : World} {v : Value} {e : Int} (m : R2M w w' v e) (h : Below w'.heap.size w' w2) : R2M w w2 v e :=
  ⟨m.below.trans (h.mono m.below.size), (h.block _ (Array.getElem?_eq_some_iff.1 m.arg).1).trans m.arg, (h.block _ (Array.getElem?_eq_some_iff.1 m.res).1).trans m.res⟩
/-- the argument's error or its slice is written -/
theorem R2M.set {w w' : World} {v v' : Value} {e e' : Int} (m : R2M w w' v e) (i : Nat) (x : Value) (hx : (rdC v e).setIfInBounds i x = rdC v' e') : R2M w (w'.setCell ⟨w.heap.size, i, none⟩ x) v' e' := by
  have hO := Only.setCell w' ⟨w.heap.size, i, none⟩ x
  exact ⟨m.below.trans (hO.below (Nat.le_refl _) m.below.size), by rw [heap_setCell_same w' _ i _ _ _ m.arg, hx], (hO.block _ (Array.getElem?_eq_some_iff.1 m.res).1 (by show _ ≠ w.heap.size; omega)).trans m.res⟩
theorem rfail_any (a : Option Addr) (n c : Nat) (e x : Int) (w : World) : Calls Tryz.prog 166 #[.agg (rdC (.slice a n c) e), .int .i64 x] w fun r w' => r = .returned (.agg (rdC (.slice a n c) (if e = 0 then x else e))) ∧ Below w.heap.size w w' := by
  have M := Lib.hid (r2M_start w (.slice a n c) e)
  by_cases h0 : e = 0
  · rw [if_pos h0]
    have he : (e == 0) = true := by simpa using h0
    clear h0
    go_enter Tryz.func166, Tryz.ntmps166
    go_upto_region 1 with (fail)
    have e0 : (w.alloc (.cells (rdC (.slice a n c) e) 99)).alloc (.cells (rdC (.slice none 0 0) 0) 99) = (w.alloc (.cells (rdC (.slice a n c) e) 99)).alloc (.cells #[.slice none 0 0, .int .i64 0] 99) := rfl
    rw [← e0]; clear e0
    generalize (w.alloc (.cells (rdC (.slice a n c) e) 99)).alloc (.cells (rdC (.slice none 0 0) 0) 99) = w1 at *
    obtain ⟨c0, c1, cf⟩ := rd_cells M.out.arg
    have f1 := cf 1
    go_upto_region 3 with (fail)
    replace M := Lib.hid (M.out.set 1 (.int .i64 x) (v' := .slice a n c) (e' := x) rfl)
    clear c0 c1 cf f1
    generalize w1.setCell ⟨w.heap.size, 1, none⟩ (.int .i64 x) = w2 at *
    go_wp2_with (first
      | (refine wpList_load_row rfl 99 (.tmp 2) rfl w.heap.size rfl 99 _ (0, 0) _ M.out.arg Tryz.underlying99 rfl (by kernel_rfl) ?_)
      | (refine wpList_store_row rfl 99 (.tmp 4) (.tmp 10) rfl (w.heap.size + 1) _ rfl rfl 99 _ M.out.res (by kernel_rfl) (by rfl) (rd_one _ _ _ _) ?_))
    refine bodyPost_ret (results_cell_row rfl _ _ (w.heap.size + 1) 99 (rdC (.slice a n c) x) (0, 0) _ rfl (setRow_heap _ _ _ _ _ _ M.out.res) Tryz.underlying99 rfl (by kernel_rfl)) rfl ?_
    exact ⟨rfl, below_setRow M.out.below (by omega) _⟩
  · rw [if_neg h0]
    have he : (e == 0) = false := by simpa using h0
    clear h0
    go_enter Tryz.func166, Tryz.ntmps166
    go_upto_region 1 with (fail)
    have e0 : (w.alloc (.cells (rdC (.slice a n c) e) 99)).alloc (.cells (rdC (.slice none 0 0) 0) 99) = (w.alloc (.cells (rdC (.slice a n c) e) 99)).alloc (.cells #[.slice none 0 0, .int .i64 0] 99) := rfl
    rw [← e0]; clear e0
    generalize (w.alloc (.cells (rdC (.slice a n c) e) 99)).alloc (.cells (rdC (.slice none 0 0) 0) 99) = w1 at *
    obtain ⟨c0, c1, cf⟩ := rd_cells M.out.arg
    go_wp2_with (first
      | (refine wpList_load_row rfl 99 (.tmp 2) rfl w.heap.size rfl 99 _ (0, 0) _ M.out.arg Tryz.underlying99 rfl (by kernel_rfl) ?_)
      | (refine wpList_store_row rfl 99 (.tmp 4) (.tmp 10) rfl (w.heap.size + 1) _ rfl rfl 99 _ M.out.res (by kernel_rfl) (by rfl) (rd_one _ _ _ _) ?_))
    refine bodyPost_ret (results_cell_row rfl _ _ (w.heap.size + 1) 99 (rdC (.slice a n c) e) (0, 0) _ rfl (setRow_heap _ _ _ _ _ _ M.out.res) Tryz.underlying99 rfl (by kernel_rfl)) rfl ?_
    exact ⟨rfl, below_setRow M.out.below (by omega) _⟩
end Go.Proofs.YtjnpcmfpiejmjaaGreatDoor
